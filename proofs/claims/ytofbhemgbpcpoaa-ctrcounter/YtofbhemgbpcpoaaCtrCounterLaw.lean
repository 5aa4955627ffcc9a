/- CtrCounter, walked by the evaluator. -/
import Derived.Test.YtofbhemgbpcpoaaEvRun
import Derived.Test.YtofbhemgbpcpoaaBase
import Derived.Test.YtofbhemgbpcpoaaChecked
namespace Go.Proofs.Ytofbhemgbpcpoaa
open Go Go.RowKit Ev

theorem mixedOrders : Try.prog.follows .mixedOrders = true := by kernel_rfl
theorem ctrCounter_ev : evCall Try.prog noLore noCon 100 3 [.tv (.sc (.int .u64 (.var 0)))] [] = some (.tv (.sc (.bool true)), []) := by kernel_rfl
theorem ctrCounter_walk (w : World) (n : Nat) (_ : n < 18446744073709551616) : Calls Try.prog 3 #[.int .u64 (n : Int)] w fun e w' => e = .returned (.bool true) ∧ Below w.heap.size w w' := by
  refine (calls_of_ev (noLore_ok ⟨fun _ => (n : Int), fun _ => .tuple #[], fun _ _ _ => 0⟩) (noCon_ok _ _) mixedOrders 100 ctrCounter_ev (args := #[.int .u64 (n : Int)]) w ?_).mono ?_
  · simp only [List.map_cons, List.map_nil, AV.inst, TV.inst, SV.inst, Ex.den]
  · rintro e w' ⟨ms, u, rfl, h1, h2, h3⟩
    simp only [AV.inst, TV.inst, SV.inst, Option.some.injEq] at h1
    rw [← h1]
    exact ⟨rfl, h3⟩
end Go.Proofs.Ytofbhemgbpcpoaa
