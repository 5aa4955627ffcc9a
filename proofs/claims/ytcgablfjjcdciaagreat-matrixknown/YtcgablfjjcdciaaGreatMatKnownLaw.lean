/- The law MatrixKnown, by the evaluator. -/
import Derived.Test.YtcgablfjjcdciaaGreatMatCon
import Derived.Test.YtcgablfjjcdciaaGreatEvWords2
set_option linter.unusedVariables false
namespace Go.Proofs.YtcgablfjjcdciaaGreat
open Go Go.RowKit Ev

def envM : Env := ⟨fun _ => 0, fun _ => .bool false, fun _ _ _ => 0⟩
theorem map_fstM {α β : Type} {o : Option (α × β)} {a : α} (h : o.map Prod.fst = some a) : ∃ b, o = some (a, b) := by
  cases o with
  | none => cases h
  | some p => simp only [Option.map_some, Option.some.injEq] at h; exact ⟨p.2, by rw [← h]⟩
theorem mixedM : Tryz.prog.follows .mixedOrders = true := by kernel_rfl
set_option maxRecDepth 1000000 in
theorem mawake_ev : (evCallT Tryz.prog noLore (conOr conKept conAlike) tabW 300 13 [] H0).map Prod.fst = some (.tv (.sc (.bool true))) := by kernel_rfl
theorem true_of {w : World} {g : Nat} {call : CallF} (hc : CallOk Tryz.prog envM call) (h : (call g [] H0).map Prod.fst = some (.tv (.sc (.bool true)))) (w : World) : Calls Tryz.prog g #[] w fun e w' => e = .returned (.bool true) ∧ Below w.heap.size w w' := by
  obtain ⟨H', h1⟩ := map_fstM h
  refine (hc g [] H0 _ H' h1 ms0 w.heap.size w #[] rfl (holds_nil envM w)).mono ?_
  rintro e w' ⟨ms', u, rfl, _, h2, _, h4⟩
  simp only [AV.inst, TV.inst, SV.inst, Option.some.injEq] at h2
  exact ⟨by rw [← h2], h4⟩
theorem mawake_any (w : World) : Calls Tryz.prog 13 #[] w fun e w' => e = .returned (.bool true) ∧ Below w.heap.size w w' :=
  true_of (w := w) (evCallT_ok (noLore_ok envM) (conOr_ok (conKept_ok envM) (conAlike_ok envM)) (tabW_ok envM) mixedM 300) mawake_ev w
def conAwake : ConF := fun g xs _ => if g = 13 then (if xs = [] then some (.tv (.sc (.bool true))) else none) else none
theorem conAwake_ok : ConOk Tryz.prog envM conAwake := by
  intro g xs H v h ms B w args ha hH
  unfold conAwake at h
  split at h
  case isFalse => cases h
  rename_i e
  subst e
  split at h <;> cases h
  rename_i e
  subst e
  have : args = #[] := by cases args; simp_all
  subst this
  refine (mawake_any w).mono ?_
  rintro e w' ⟨rfl, hB⟩
  exact ⟨_, rfl, rfl, hB⟩
set_option maxRecDepth 1000000 in
theorem known_ev : (evCallT Tryz.prog noLore (conOr conAwake (conOr conKept conAlike)) tabW 300 5 [] H0).map Prod.fst = some (.tv (.sc (.bool true))) := by kernel_rfl
theorem known_walk (w : World) : Calls Tryz.prog 5 #[] w fun e w' => e = .returned (.bool true) ∧ Below w.heap.size w w' :=
  true_of (w := w) (evCallT_ok (noLore_ok envM) (conOr_ok conAwake_ok (conOr_ok (conKept_ok envM) (conAlike_ok envM))) (tabW_ok envM) mixedM 300) known_ev w
end Go.Proofs.YtcgablfjjcdciaaGreat
