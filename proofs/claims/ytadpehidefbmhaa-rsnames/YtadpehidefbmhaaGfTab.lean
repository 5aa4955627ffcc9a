/- gf.powers and gf.exponents, as the evaluator finds them. -/
import Derived.Test.YtadpehidefbmhaaGfAlg
import Derived.Test.YtadpehidefbmhaaEvLit
set_option linter.unusedVariables false
namespace Go.Proofs.Ytadpehidefbmhaa
open Go Go.RowKit Ev

theorem mixedOrders : Try.prog.follows .mixedOrders = true := by kernel_rfl
theorem litB_inst (ρ : Env) (ms : List Nat) (l : List Nat) : (TV.agg (litB l)).inst ρ ms = some (.agg (cells8 l)) := by
  simp only [TV.inst]
  rw [(seqO_iff _ (l.map fun x : Nat => Value.int .u8 (x : Int))).2 (by simp [litB, SV.inst, Ex.den])]
  rfl
theorem powers_ev : evCallF Try.prog noLore noCon 1000 66 [] H0 = some (.tv (.agg (litB powLit)), H0) := by kernel_rfl
def conPowers : ConF := con1 66 [] (.tv (.agg (litB powLit)))
theorem conPowers_ok (ρ : Env) : ConOk Try.prog ρ conPowers := con1_ok (noCon_ok _ _) mixedOrders powers_ev rfl (by kernel_rfl)
theorem exponents_ev : evCallF Try.prog noLore conPowers 1000 65 [] H0 = some (.tv (.agg (litB lgLit)), H0) := by kernel_rfl
def conExps : ConF := con1 65 [] (.tv (.agg (litB lgLit)))
theorem conExps_ok (ρ : Env) : ConOk Try.prog ρ conExps := con1_ok (conPowers_ok ρ) mixedOrders exponents_ev rfl (by kernel_rfl)
def env0 : Env := ⟨fun _ => 0, fun _ => .tuple #[], fun _ _ _ => 0⟩
theorem powers_any (w : World) : Calls Try.prog 66 #[] w fun e w' => e = .returned (.agg (cells8 powLit)) ∧ Below w.heap.size w w' := by
  refine (calls_of_evF (noLore_ok env0) (noCon_ok _ env0) mixedOrders 1000 powers_ev (args := #[]) w rfl).mono ?_
  rintro e w' ⟨ms, u, rfl, h1, _, h3⟩
  simp only [AV.inst, litB_inst, Option.some.injEq] at h1
  subst h1
  exact ⟨rfl, h3⟩
theorem exponents_any (w : World) : Calls Try.prog 65 #[] w fun e w' => e = .returned (.agg (cells8 lgLit)) ∧ Below w.heap.size w w' := by
  refine (calls_of_evF (noLore_ok env0) (conPowers_ok env0) mixedOrders 1000 exponents_ev (args := #[]) w rfl).mono ?_
  rintro e w' ⟨ms, u, rfl, h1, _, h3⟩
  simp only [AV.inst, litB_inst, Option.some.injEq] at h1
  subst h1
  exact ⟨rfl, h3⟩
end Go.Proofs.Ytadpehidefbmhaa
