/- ShaNames, by the evaluator. -/
import Derived.Test.YtdipjhcjmjajfabDoorEvSha
import Derived.Test.YtdipjhcjmjajfabDoorChecked
namespace Go.Proofs.YtdipjhcjmjajfabDoor
open Go Go.RowKit Ev

theorem mixedOrders : Tryd.prog.follows .mixedOrders = true := by kernel_rfl
def noEnv : Env := ⟨fun _ => 0, fun _ => .tuple #[], fun _ _ _ => 0⟩
theorem shaNames_ev : evCall Tryd.prog noLore conMix 100 3 [] HK = some (.tv (.sc (.bool true)), HK) := by kernel_rfl
theorem shaNames_walk (w : World) (hk : KC w) : Calls Tryd.prog 3 #[] w fun e w' => e = .returned (.bool true) ∧ Below w.heap.size w w' := by
  refine (calls_of_evH (noLore_ok noEnv) (conMix_ok noEnv) mixedOrders 100 shaNames_ev (args := #[]) w rfl (holdsK noEnv w hk)).mono ?_
  rintro e w' ⟨ms, u, rfl, _, h1, _, h3⟩
  simp only [AV.inst, TV.inst, SV.inst, Option.some.injEq] at h1
  rw [← h1]
  exact ⟨rfl, h3⟩
end Go.Proofs.YtdipjhcjmjajfabDoor
