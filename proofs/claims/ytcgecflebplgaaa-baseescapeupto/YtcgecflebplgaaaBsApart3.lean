/- Three rows of one's own, held apart. -/
import Derived.Test.YtcgecflebplgaaaLentKit
set_option linter.unusedSimpArgs false
set_option linter.unusedVariables false
namespace Go.Proofs.Ytcgecflebplgaaa
open Go Go.RowKit

theorem apart3 (w : World) (B : Nat) (va vb vc : Value) (la lb lc : List Int) (ha : w.ownsRow B 5 1 va la.length (la.map (Value.int .u8))) (hb : w.ownsRow B 5 1 vb lb.length (lb.map (Value.int .u8))) (hc : w.ownsRow B 5 1 vc lc.length (lc.map (Value.int .u8)))
    (hab : (va.ownBlock = none ∨ va.ownBlock ≠ vb.ownBlock) ∧ (vb.ownBlock = none ∨ vb.ownBlock ≠ va.ownBlock)) (hac : (va.ownBlock = none ∨ va.ownBlock ≠ vc.ownBlock) ∧ (vc.ownBlock = none ∨ vc.ownBlock ≠ va.ownBlock)) (hbc : (vb.ownBlock = none ∨ vb.ownBlock ≠ vc.ownBlock) ∧ (vc.ownBlock = none ∨ vc.ownBlock ≠ vb.ownBlock))
    (hB : B ≤ w.heap.size) (na : la.length ≤ 140737488351232) (nb : lb.length ≤ 140737488351232) (nc : lc.length ≤ 140737488351232) :
    Calls Try.prog 18 #[.slice (some ⟨w.heap.size, 0, none⟩) 3 3] (w.alloc (.cells #[va, vb, vc] 22)) fun e w' => e = .returned (.bool true) ∧ Below B w w' := by
  have hal := World.grownBy_alloc w (.cells #[va, vb, vc] 22) none
  have hAp : Apt B (w.alloc (.cells #[va, vb, vc] 22)) [va, vb, vc] [la, lb, lc] := by
    refine ⟨rfl, fun k hk => ?_, fun i j hi hj hij => ?_⟩
    · match k, hk with
      | 0, _ => exact ha.kept hal (none_or _)
      | 1, _ => exact hb.kept hal (none_or _)
      | 2, _ => exact hc.kept hal (none_or _)
    · have hi2 : i = 0 ∨ i = 1 ∨ i = 2 := by simp at hi; omega
      have hj2 : j = 0 ∨ j = 1 ∨ j = 2 := by simp at hj; omega
      rcases hi2 with rfl | rfl | rfl <;> rcases hj2 with rfl | rfl | rfl <;> first | exact absurd rfl hij | exact hab.1 | exact hab.2 | exact hac.1 | exact hac.2 | exact hbc.1 | exact hbc.2
  refine (apart_any B _ _ _ _ (HV.three w _ _ _) hAp (by simp; omega) (by simp) (fun k => ?_)).mono ?_
  · match k with
    | 0 => exact na
    | 1 => exact nb
    | 2 => exact nc
    | k + 3 => simp
  rintro e1 w1 ⟨rfl, hB1⟩
  exact ⟨rfl, ((Below.refl B w).alloc hB _).trans hB1⟩
end Go.Proofs.Ytcgecflebplgaaa
