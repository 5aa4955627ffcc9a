/- ClockNil, by the evaluator; awake by its contract. -/
import Derived.Test.YtajdopmhdagehaaCkAw
import Derived.Test.YtajdopmhdagehaaEvMarks
import Derived.Test.YtajdopmhdagehaaEvPart
set_option linter.unusedVariables false
set_option linter.unusedSimpArgs false
namespace Go.Proofs.Ytajdopmhdagehaa.Du
open Go.Proofs.Ytajdopmhdagehaa
open Go Go.RowKit Ev
def conAw : ConF := fun g xs _ => if g = 11 then (match xs with | [] => some (.tv (.sc (.bool true))) | _ => none) else none
theorem conAw_ok (ρ : Env) : ConOk Try.prog ρ conAw := by
  intro g xs H v hv ms B w args ha hH
  unfold conAw at hv
  split at hv
  case isFalse => cases hv
  rename_i hg
  subst hg
  split at hv
  case h_2 => cases hv
  cases hv
  have e : args = #[] := by
    obtain ⟨l⟩ := args
    have hl : l.length = 0 := by have := congrArg List.length ha; simpa using this.symm
    rw [List.length_eq_zero_iff.1 hl]
  subst e
  exact (Ds.awake_any w).mono fun e w' ⟨q1, q2⟩ => ⟨_, q1, rfl, q2⟩
theorem mixedOrders : Try.prog.follows .mixedOrders = true := by kernel_rfl
noncomputable def evCk (n : Nat) : CallF := evCallR Try.prog noLore (callStep Try.prog conAw) 1000 n
theorem evCk_ok (ρ : Env) (n : Nat) : CallOk Try.prog ρ (evCk n) := evCallR_ok (noLore_ok ρ) mixedOrders (fun self hs => callStep_ok (conAw_ok ρ) hs) 1000 n
def envN (x t : Int) : Env := ⟨fun i => if i = 0 then x else t, fun i => .nilFunc, fun _ _ _ => 0⟩
theorem nil_ev : (evCk 200 6 [.tv (.sc (.int .i64 (.var 0))), .tv (.sc (.int .i64 (.var 1)))] []).map (·.1) = some (.tv (.sc (.bool true))) := by kernel_rfl
theorem map_fst' {α β : Type} {o : Option (α × β)} {a : α} (h : o.map (·.1) = some a) : ∃ b, o = some (a, b) := by
  cases o with
  | none => cases h
  | some p => obtain ⟨x, y⟩ := p; simp only [Option.map_some, Option.some.injEq] at h; exact ⟨y, by rw [h]⟩
theorem cnil_walk (w : World) (x t : Int) : Calls Try.prog 6 #[.int .i64 x, .int .i64 t] w fun e w' => e = .returned (.bool true) ∧ Below w.heap.size w w' := by
  obtain ⟨H', h1⟩ := map_fst' nil_ev
  refine (evCk_ok (envN x t) 200 _ _ [] _ H' h1 [] w.heap.size w #[.int .i64 x, .int .i64 t] ?_ (holds_nil _ w)).mono ?_
  · simp [AV.inst, TV.inst, SV.inst, Ex.den, envN]
  · rintro e w' ⟨ms', u, rfl, _, h2, _, h4⟩
    simp only [AV.inst, TV.inst, SV.inst, Option.some.injEq] at h2
    exact ⟨by rw [← h2], h4.toBelow⟩
end Go.Proofs.Ytajdopmhdagehaa.Du
