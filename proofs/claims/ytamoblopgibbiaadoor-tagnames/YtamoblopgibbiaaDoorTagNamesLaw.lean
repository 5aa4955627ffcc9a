/- TagNames, by the evaluator. -/
import Derived.Test.YtamoblopgibbiaaDoorTagPadEv
namespace Go.Proofs.YtamoblopgibbiaaDoor
open Go Go.RowKit Ev

def noEnv : Env := ⟨fun _ => 0, fun _ => .tuple #[], fun _ _ _ => 0⟩
theorem tagNames_ev : evCall Tryd.prog noLore conTag 100 6 [] HK = some (.tv (.sc (.bool true)), HK) := by kernel_rfl
theorem tagNames_walk (w : World) (hk : KC w) : Calls Tryd.prog 6 #[] w fun e w' => e = .returned (.bool true) ∧ Below w.heap.size w w' := by
  refine (calls_of_evH (noLore_ok noEnv) (conTag_ok noEnv) mixedOrders 100 tagNames_ev (args := #[]) w rfl (holdsK noEnv w hk)).mono ?_
  rintro e w' ⟨ms, u, rfl, _, h1, _, h3⟩
  simp only [AV.inst, TV.inst, SV.inst, Option.some.injEq] at h1
  rw [← h1]
  exact ⟨rfl, h3⟩
end Go.Proofs.YtamoblopgibbiaaDoor
