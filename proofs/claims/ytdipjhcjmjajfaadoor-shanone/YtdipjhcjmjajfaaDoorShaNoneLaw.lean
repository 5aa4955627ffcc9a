/- ShaNone, by the evaluator. -/
import Derived.Test.YtdipjhcjmjajfaaDoorEvSha
import Derived.Test.YtdipjhcjmjajfaaDoorChecked
namespace Go.Proofs.YtdipjhcjmjajfaaDoor
open Go Go.RowKit Ev

theorem mixedOrders : Tryd.prog.follows .mixedOrders = true := by kernel_rfl
theorem shaNone_ev : evCall Tryd.prog noLore conMix 100 8 [.tv (.sc (.opq 0))] HK = some (.tv (.sc (.bool true)), HK) := by kernel_rfl
theorem shaNone_walk (w : World) (v : Value) (l : List Int) (h : HB w v l) (hk : KC w) : Calls Tryd.prog 8 #[v] w fun e w' => e = .returned (.bool true) ∧ Below w.heap.size w w' := by
  obtain ⟨p, c, rfl, _, _⟩ := h.open
  refine (calls_of_evH (noLore_ok ⟨fun _ => 0, fun _ => .slice p l.length c, fun _ _ _ => 0⟩) (conMix_ok _) mixedOrders 100 shaNone_ev (args := #[.slice p l.length c]) w ?_ (holdsK _ w hk)).mono ?_
  · simp only [List.map_cons, List.map_nil, AV.inst, TV.inst, SV.inst]
    rfl
  · rintro e w' ⟨ms, u, rfl, _, h1, _, h3⟩
    simp only [AV.inst, TV.inst, SV.inst, Option.some.injEq] at h1
    rw [← h1]
    exact ⟨rfl, h3⟩
end Go.Proofs.YtdipjhcjmjajfaaDoor
