/- CtrNone, walked by the evaluator. -/
import Derived.Test.YtofbhemgbpcpoaaEvRun
import Derived.Test.YtofbhemgbpcpoaaBase
import Derived.Test.YtofbhemgbpcpoaaChecked
namespace Go.Proofs.Ytofbhemgbpcpoaa
open Go Go.RowKit Ev

theorem mixedOrders : Try.prog.follows .mixedOrders = true := by kernel_rfl
theorem ctrNone_ev : evCall Try.prog noLore noCon 100 7 [.tv (.sc (.int .i64 (.var 0))), .tv (.sc (.opq 0))] [] = some (.tv (.sc (.bool true)), []) := by kernel_rfl
theorem ctrNone_walk (w : World) (v : Value) (l : List Int) (n : Int) (h : HB w v l) : Calls Try.prog 7 #[.int .i64 n, v] w fun e w' => e = .returned (.bool true) ∧ Below w.heap.size w w' := by
  obtain ⟨p, c, rfl, _, _⟩ := h.open
  refine (calls_of_ev (noLore_ok ⟨fun _ => n, fun _ => .slice p l.length c, fun _ _ _ => 0⟩) (noCon_ok _ _) mixedOrders 100 ctrNone_ev (args := #[.int .i64 n, .slice p l.length c]) w ?_).mono ?_
  · simp only [List.map_cons, List.map_nil, AV.inst, TV.inst, SV.inst, Ex.den]
    rfl
  · rintro e w' ⟨ms, u, rfl, h1, h2, h3⟩
    simp only [AV.inst, TV.inst, SV.inst, Option.some.injEq] at h1
    rw [← h1]
    exact ⟨rfl, h3⟩
end Go.Proofs.Ytofbhemgbpcpoaa
