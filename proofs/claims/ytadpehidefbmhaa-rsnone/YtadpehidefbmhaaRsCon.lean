/- The contracts of gf.Inv and gf.multiples, for the evaluator; the evaluator with them. -/
import Derived.Test.YtadpehidefbmhaaGfCon
import Derived.Test.YtadpehidefbmhaaGfFun
import Derived.Test.YtadpehidefbmhaaEvMarks
set_option linter.unusedVariables false
set_option linter.unusedSimpArgs false
namespace Go.Proofs.Ytadpehidefbmhaa
open Go Go.RowKit Ev

def conInv : ConF := fun g xs _ => if g = 40 then (match xs with | [.tv (.sc (.int .u8 (.lit n)))] => if 0 < n ∧ n < 256 then some (.tup [.sc (.int .u8 (.lit ((inv n.toNat : Nat) : Int))), .sc (.int .i64 (.lit 0))]) else none | _ => none) else none
theorem conInv_ok (ρ : Env) : ConOk Try.prog ρ conInv := by
  intro g xs H v hv ms B w args ha hH
  unfold conInv at hv
  split at hv
  case isFalse => cases hv
  rename_i hg
  subst hg
  split at hv
  case h_2 => cases hv
  rename_i n
  split at hv
  case isFalse => cases hv
  rename_i hn
  cases hv
  obtain ⟨m, rfl⟩ := Int.eq_ofNat_of_zero_le (show 0 ≤ n by omega)
  have e : args = #[.int .u8 (m : Int)] := by
    obtain ⟨l⟩ := args
    have hl : l.length = 1 := by have := congrArg List.length ha; simpa using this.symm
    match l, hl, ha with
    | [u], _, ha =>
      simp only [List.map_cons, List.map_nil, List.cons.injEq, and_true, AV.inst, TV.inst, SV.inst, Ex.den, Option.some.injEq] at ha
      rw [ha]
  subst e
  exact (inv_any w m (by omega) (by omega)).mono fun e w' ⟨q1, q2⟩ => ⟨_, q1, rfl, q2⟩
def conRs : ConF := conOr conInv conMuls
theorem conRs_ok (ρ : Env) : ConOk Try.prog ρ conRs := conOr_ok (conInv_ok ρ) (conMuls_ok ρ)
noncomputable def evRs (n : Nat) : CallF := evCallR Try.prog noLore (callStep Try.prog conRs) 1000 n
theorem evRs_ok (ρ : Env) (n : Nat) : CallOk Try.prog ρ (evRs n) := evCallR_ok (noLore_ok ρ) mixedOrders (fun self hs => callStep_ok (conRs_ok ρ) hs) 1000 n
end Go.Proofs.Ytadpehidefbmhaa
