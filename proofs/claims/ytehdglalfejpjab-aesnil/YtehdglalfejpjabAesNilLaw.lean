/- AesNil, walked by the evaluator. -/
import Derived.Test.YtehdglalfejpjabAesNilWalk
namespace Go.Proofs.Ytehdglalfejpjab
open Go Go.RowKit Ev
theorem nil_ev : evCall Try.prog noLore awakeCon 100 3 [.tv (.agg (vars 0 16))] [] = some (.tv (.sc (.bool true)), []) := by kernel_rfl
theorem nil_walk (w : World) (b : List Nat) (hl : b.length = 16) (hb : Byt b) : Calls Try.prog 3 #[.agg (cells8 b)] w fun e w' => e = .returned (.bool true) ∧ Below w.heap.size w w' := by
  refine (calls_of_ev (noLore_ok (envB (at8 b))) (awakeCon_ok _) mixedOrders 100 nil_ev (args := #[.agg (cells8 b)]) w ?_).mono ?_
  · have e1 : (AV.tv (.agg (vars 0 16))).inst (envB (at8 b)) [] = some (.agg (cells8 b)) := by
      simp only [AV.inst]
      exact vars_inst (byt_get hb) [] 0 16 b hl fun i _ => by rw [Nat.zero_add]; rfl
    simp only [List.map_cons, List.map_nil, e1]
  · rintro e w' ⟨ms, u, rfl, h1, h2, h3⟩
    simp only [AV.inst, TV.inst, SV.inst, Option.some.injEq] at h1
    rw [← h1]
    exact ⟨rfl, h3⟩
end Go.Proofs.Ytehdglalfejpjab
