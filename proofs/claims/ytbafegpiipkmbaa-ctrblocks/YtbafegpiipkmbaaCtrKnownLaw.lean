/- CtrKnown, by the evaluator. -/
import Derived.Test.YtbafegpiipkmbaaAesLit
import Derived.Test.YtbafegpiipkmbaaEvMarks
set_option linter.unusedVariables false
set_option linter.unusedSimpArgs false
namespace Go.Proofs.Ytbafegpiipkmbaa
open Go Go.RowKit Ev

noncomputable def evKn (n : Nat) : CallF := evCallR Try.prog noLore (callStep Try.prog conLit) 1000 n
theorem evKn_ok (ρ : Env) (n : Nat) : CallOk Try.prog ρ (evKn n) := evCallR_ok (noLore_ok ρ) mixedOrders (fun self hs => callStep_ok (conLit_ok ρ) hs) 1000 n
theorem ret_evK {ρ : Env} {g n : Nat} {xs : List AV} (h : (evKn n g xs []).map (·.1) = some (.tv (.sc (.bool true)))) {args : Array Value} (w : World) (ha : xs.map (AV.inst ρ []) = args.toList.map some) : Calls Try.prog g args w fun e w' => e = .returned (.bool true) ∧ Below w.heap.size w w' := by
  have hx : ∃ H', evKn n g xs [] = some (.tv (.sc (.bool true)), H') := by
    cases hr : evKn n g xs [] with
    | none => rw [hr] at h; cases h
    | some p => rw [hr] at h; simp only [Option.map_some, Option.some.injEq] at h; exact ⟨p.2, by rw [← h]⟩
  obtain ⟨H', h1⟩ := hx
  refine (evKn_ok ρ n g xs [] _ H' h1 [] w.heap.size w args ha (holds_nil ρ w)).mono ?_
  rintro e w' ⟨ms', u, rfl, _, h2, _, h4⟩
  simp only [AV.inst, TV.inst, SV.inst, Option.some.injEq] at h2
  exact ⟨by rw [← h2], h4.toBelow⟩
theorem cawake_ev : (evKn 1000 26 [] []).map (·.1) = some (.tv (.sc (.bool true))) := by kernel_rfl
theorem cawake_any (w : World) : Calls Try.prog 26 #[] w fun e w' => e = .returned (.bool true) ∧ Below w.heap.size w w' := ret_evK (ρ := envB fun _ => 0) cawake_ev w rfl
end Go.Proofs.Ytbafegpiipkmbaa
