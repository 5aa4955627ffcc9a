/- lives, RsNames and RsNone, by the evaluator. -/
import Derived.Test.YtadpehidefbmhaaRsCon
set_option linter.unusedVariables false
set_option linter.unusedSimpArgs false
namespace Go.Proofs.Ytadpehidefbmhaa
open Go Go.RowKit Ev

theorem lives_ev : (evRs 1000 8 [] []).map (·.1) = some (.tv (.sc (.bool true))) := by kernel_rfl
theorem names_ev : (evRs 1000 7 [] []).map (·.1) = some (.tv (.sc (.bool true))) := by kernel_rfl
theorem ret_evR {ρ : Env} {g n : Nat} {xs : List AV} (h : (evRs n g xs []).map (·.1) = some (.tv (.sc (.bool true)))) {args : Array Value} (w : World) (ha : xs.map (AV.inst ρ []) = args.toList.map some) : Calls Try.prog g args w fun e w' => e = .returned (.bool true) ∧ Below w.heap.size w w' := by
  obtain ⟨H', h1⟩ := map_fst h
  refine (evRs_ok ρ n g xs [] _ H' h1 [] w.heap.size w args ha (holds_nil ρ w)).mono ?_
  rintro e w' ⟨ms', u, rfl, _, h2, _, h4⟩
  simp only [AV.inst, TV.inst, SV.inst, Option.some.injEq] at h2
  exact ⟨by rw [← h2], h4.toBelow⟩
theorem lives_any (w : World) : Calls Try.prog 8 #[] w fun e w' => e = .returned (.bool true) ∧ Below w.heap.size w w' := ret_evR (ρ := env0) lives_ev w rfl
theorem names_walk (w : World) : Calls Try.prog 7 #[] w fun e w' => e = .returned (.bool true) ∧ Below w.heap.size w w' := ret_evR (ρ := env0) names_ev w rfl
theorem none_ev : (evRs 1000 6 [.tv (.sc (.int .i64 (.var 0))), .tv (.sc (.opq 0)), .tv (.sc (.opq 1))] []).map (·.1) = some (.tv (.sc (.bool true))) := by kernel_rfl
theorem none_walk (w : World) (n : Int) (x y : Value) (hx : x.oneCell' = true) (hy : y.oneCell' = true) : Calls Try.prog 6 #[.int .i64 n, x, y] w fun e w' => e = .returned (.bool true) ∧ Below w.heap.size w w' := by
  refine ret_evR (ρ := ⟨fun _ => n, fun i => if i = 0 then x else y, fun _ _ _ => 0⟩) none_ev w ?_
  simp [AV.inst, TV.inst, SV.inst, Ex.den, hx, hy]
end Go.Proofs.Ytadpehidefbmhaa
