/- The contracts of gf.powers, gf.exponents and gf.multiples, for the evaluator. -/
import Derived.Test.YtadpehidefbmhaaGfEnv
import Derived.Test.YtadpehidefbmhaaGfMuls
set_option linter.unusedVariables false
set_option linter.unusedSimpArgs false
namespace Go.Proofs.Ytadpehidefbmhaa
open Go Go.RowKit Ev

/-- The contract of gf.multiples, of an element that is told. -/
def conMuls : ConF := fun g xs _ => if g = 64 then (match xs with | [.tv (.sc (.int .u8 (.lit n)))] => if 0 ≤ n ∧ n < 256 then some (.tv (.agg (litB (mulsL n.toNat)))) else none | _ => none) else none
theorem conMuls_ok (ρ : Env) : ConOk Try.prog ρ conMuls := by
  intro g xs H v hv ms B w args ha hH
  unfold conMuls at hv
  split at hv
  case isFalse => cases hv
  rename_i hg
  subst hg
  split at hv
  case h_2 => cases hv
  rename_i n
  split at hv
  case isFalse => cases hv
  rename_i hn
  cases hv
  obtain ⟨m, rfl⟩ := Int.eq_ofNat_of_zero_le hn.1
  have e : args = #[.int .u8 (m : Int)] := by
    obtain ⟨l⟩ := args
    have hl : l.length = 1 := by have := congrArg List.length ha; simpa using this.symm
    match l, hl, ha with
    | [u], _, ha =>
      simp only [List.map_cons, List.map_nil, List.cons.injEq, and_true, AV.inst, TV.inst, SV.inst, Ex.den, Option.some.injEq] at ha
      rw [ha]
  subst e
  refine (multiples_any w m (by omega)).mono fun e w' ⟨q1, q2⟩ => ⟨_, q1, ?_, q2⟩
  simp only [AV.inst, litB_inst]
  rfl
def conGf : ConF := conOr conPowers (conOr conExps conMuls)
theorem conGf_ok (ρ : Env) : ConOk Try.prog ρ conGf := conOr_ok (conPowers_ok ρ) (conOr_ok (conExps_ok ρ) (conMuls_ok ρ))
theorem map_fst {v : AV} {r : Option (AV × List Blk)} (h : r.map (·.1) = some v) : ∃ H, r = some (v, H) := by
  cases r with
  | none => simp at h
  | some p => obtain ⟨a, H⟩ := p; simp at h; subst h; exact ⟨H, rfl⟩
end Go.Proofs.Ytadpehidefbmhaa
