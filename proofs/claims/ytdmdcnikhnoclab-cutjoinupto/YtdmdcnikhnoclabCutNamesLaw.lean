/- awake and CutNames, by the evaluator. -/
import Derived.Test.YtdmdcnikhnoclabEvMarks
import Derived.Test.YtdmdcnikhnoclabCutEnv
set_option linter.unusedVariables false
set_option linter.unusedSimpArgs false
namespace Go.Proofs.Ytdmdcnikhnoclab
open Go Go.RowKit Ev

def env00 : Env := ⟨fun _ => 0, fun _ => .tuple #[], fun _ _ _ => 0⟩
noncomputable def evCut (n : Nat) : CallF := evCallR Try.prog noLore (callStep Try.prog noCon) 1000 n
theorem evCut_ok (ρ : Env) (n : Nat) : CallOk Try.prog ρ (evCut n) := evCallR_ok (noLore_ok ρ) mixedOrders (fun self hs => callStep_ok (noCon_ok _ ρ) hs) 1000 n
theorem ret_evCut {g n : Nat} (h : (evCut n g [] []).map (·.1) = some (.tv (.sc (.bool true)))) (w : World) : Calls Try.prog g #[] w fun e w' => e = .returned (.bool true) ∧ Below w.heap.size w w' := by
  have hx : ∃ H', evCut n g [] [] = some (.tv (.sc (.bool true)), H') := by
    cases hr : evCut n g [] [] with
    | none => rw [hr] at h; cases h
    | some p => rw [hr] at h; simp only [Option.map_some, Option.some.injEq] at h; exact ⟨p.2, by rw [← h]⟩
  obtain ⟨H', h1⟩ := hx
  refine (evCut_ok env00 n g [] [] _ H' h1 [] w.heap.size w #[] rfl (holds_nil env00 w)).mono ?_
  rintro e w' ⟨ms', u, rfl, _, h2, _, h4⟩
  simp only [AV.inst, TV.inst, SV.inst, Option.some.injEq] at h2
  exact ⟨by rw [← h2], h4.toBelow⟩
theorem awake_ev : (evCut 1000 15 [] []).map (·.1) = some (.tv (.sc (.bool true))) := by kernel_rfl
theorem awake_any (w : World) : Calls Try.prog 15 #[] w fun e w' => e = .returned (.bool true) ∧ Below w.heap.size w w' := ret_evCut awake_ev w
theorem names_ev : (evCut 1000 4 [] []).map (·.1) = some (.tv (.sc (.bool true))) := by kernel_rfl
theorem names_walk (w : World) : Calls Try.prog 4 #[] w fun e w' => e = .returned (.bool true) ∧ Below w.heap.size w w' := ret_evCut names_ev w
end Go.Proofs.Ytdmdcnikhnoclab
