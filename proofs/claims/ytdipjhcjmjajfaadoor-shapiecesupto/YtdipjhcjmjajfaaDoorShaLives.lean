/- The law's own look whether the program lives: the digest of three bytes. -/
import Derived.Test.YtdipjhcjmjajfaaDoorEvSha
import Derived.Test.YtdipjhcjmjajfaaDoorEvFast
import Derived.Test.YtdipjhcjmjajfaaDoorChecked
namespace Go.Proofs.YtdipjhcjmjajfaaDoor
open Go Go.RowKit Ev

theorem mixedOrders : Tryd.prog.follows .mixedOrders = true := by kernel_rfl
def noEnv : Env := ⟨fun _ => 0, fun _ => .tuple #[], fun _ _ _ => 0⟩
theorem lives_ev : evCallF Tryd.prog noLore conMix 100 9 [] HK = some (.tv (.sc (.bool true)), HK) := by kernel_rfl
theorem lives_any (w : World) (hk : KC w) : Calls Tryd.prog 9 #[] w fun e w' => e = .returned (.bool true) ∧ Below w.heap.size w w' := by
  refine (calls_of_evHF (noLore_ok noEnv) (conMix_ok noEnv) mixedOrders 100 lives_ev (args := #[]) w rfl (holdsK noEnv w hk)).mono ?_
  rintro e w' ⟨ms, u, rfl, _, h1, _, h3⟩
  simp only [AV.inst, TV.inst, SV.inst, Option.some.injEq] at h1
  rw [← h1]
  exact ⟨rfl, h3⟩
end Go.Proofs.YtdipjhcjmjajfaaDoor
