/- awake and CutNames, by the evaluator. -/
import Derived.Test.YtfaojnnpekpomaaDoorEvMarks
import Derived.Test.YtfaojnnpekpomaaDoorCutEnv
set_option linter.unusedVariables false
set_option linter.unusedSimpArgs false
namespace Go.Proofs.YtfaojnnpekpomaaDoor
open Go Go.RowKit Ev

def env00 : Env := ⟨fun _ => 0, fun _ => .tuple #[], fun _ _ _ => 0⟩
noncomputable def evCut (n : Nat) : CallF := evCallR Tryd.prog noLore (callStep Tryd.prog noCon) 1000 n
theorem evCut_ok (ρ : Env) (n : Nat) : CallOk Tryd.prog ρ (evCut n) := evCallR_ok (noLore_ok ρ) mixedOrders (fun self hs => callStep_ok (noCon_ok _ ρ) hs) 1000 n
theorem ret_evCut {g n : Nat} (h : (evCut n g [] H0).map (·.1) = some (.tv (.sc (.bool true)))) (w : World) : Calls Tryd.prog g #[] w fun e w' => e = .returned (.bool true) ∧ Below w.heap.size w w' := by
  have hx : ∃ H', evCut n g [] H0 = some (.tv (.sc (.bool true)), H') := by
    cases hr : evCut n g [] H0 with
    | none => rw [hr] at h; cases h
    | some p => rw [hr] at h; simp only [Option.map_some, Option.some.injEq] at h; exact ⟨p.2, by rw [← h]⟩
  obtain ⟨H', h1⟩ := hx
  refine (evCut_ok env00 n g [] H0 _ H' h1 ms0 w.heap.size w #[] rfl (holds_nil env00 w)).mono ?_
  rintro e w' ⟨ms', u, rfl, _, h2, _, h4⟩
  simp only [AV.inst, TV.inst, SV.inst, Option.some.injEq] at h2
  exact ⟨by rw [← h2], h4.toBelow⟩
end Go.Proofs.YtfaojnnpekpomaaDoor
