/- AesNil, by the evaluator. -/
import Derived.Test.YtlmidjgjijmiiaaAesLit
namespace Go.Proofs.Ytlmidjgjijmiiaa
open Go Go.RowKit Ev

def awakeCon : ConF := fun g xs _ => if g = 36 then (match xs with | [] => some (.tv (.sc (.bool true))) | _ => none) else none
theorem awakeCon_ok (ρ : Env) : ConOk Try.prog ρ awakeCon := by
  intro g xs H v h ms B w args ha hH
  unfold awakeCon at h
  split at h
  case isFalse => cases h
  rename_i hg
  subst hg
  split at h
  case h_2 => cases h
  simp only [Option.some.injEq] at h
  subst h
  have : args = #[] := by cases args; simp_all
  subst this
  refine (awake_any w).mono ?_
  rintro e w' ⟨rfl, hb⟩
  exact ⟨_, rfl, rfl, hb⟩
end Go.Proofs.Ytlmidjgjijmiiaa
