/- ShaPieces, walked. -/
import Derived.Test.YtjmlpkemjafifaaDoorShaSums
namespace Go.Proofs.YtjmlpkemjafifaaDoor
open Go.RowKit

/-- A slice of bools. -/
def HO (w : World) (v : Value) (ls : List Bool) : Prop :=
  ∃ (p : Option Addr) (c : Nat), v = .slice p ls.length c ∧ ls.length ≤ c ∧ c ≤ maxLen ∧ (0 < ls.length → ∃ b off, p = some ⟨b, off, none⟩ ∧ ∀ j, j < ls.length → w.cell? ⟨b, off + j, none⟩ = some (.bool (ls.getD j false)))

theorem HM.block {A C : World} {g : Nat} {m : List Int} (h : HM A g m) (hb : C.heap[g]? = A.heap[g]?) : HM C g m := by
  obtain ⟨rest, h1, h2⟩ := h
  exact ⟨rest, h1.block hb, h2⟩

theorem own_later {A C : World} {B e n : Nat} {v : Value} {xs : List Value} (h : A.ownsRow B e 1 v n xs) (hb : Below A.heap.size A C) : C.ownsRow B e 1 v n xs := by
  cases hx : v.ownBlock with
  | none => exact h.kept (row := some 0) (grown_below hb) (.inl hx)
  | some y => exact h.kept (row := some (y + 1)) (grown_below hb) (.inr (by rw [hx]; simp))

theorem sum_dig (w : World) (g : Nat) (m : List Int) (h : HM w g m) (hk : KC w) (hlen : m.length ≤ 576460752303423488) :
    Calls Tryd.prog 92 #[.pointer (some ⟨g, 0, none⟩)] w fun e w' => e = .returned (.agg (cellsB (digL m))) ∧ Below w.heap.size w w' := sum_any w g m h hk hlen

/-- sha.Sum of one list. -/
theorem sums_one (w : World) (v : Value) (m : List Int) (h : HB w v m) (hk : KC w) (hlen : m.length ≤ 576460752303423488) :
    Calls Tryd.prog 86 #[.slice (some ⟨w.heap.size, 0, none⟩) 1 1] (w.alloc (.cells #[v] 40)) fun e w' => e = .returned (.agg (cellsB (digL m))) ∧ Below w.heap.size w w' := by
  have hB : Below w.heap.size w (w.alloc (.cells #[v] 40)) := (Below.refl _ w).alloc (Nat.le_refl _) _
  have hL : HL (w.alloc (.cells #[v] 40)) (.slice (some ⟨w.heap.size, 0, none⟩) 1 1) [m] := by
    refine ⟨_, 1, rfl, Nat.le_refl _, by decide, (fun e => by cases e), fun _ => ⟨w.heap.size, 0, rfl, fun j hj => ?_⟩⟩
    have hrow : (w.alloc (.cells #[v] 40)).heap[w.heap.size]? = some (.cells #[v] 40 (0, 0)) := heap_alloc_new w _
    match j, hj with
    | 0, _ => exact ⟨_, by rw [cell_of_row _ w.heap.size 0 _ _ _ hrow]; rfl, h.below hB⟩
  have := sums_any _ _ [m] hL (hk.below hB) (by simpa using hlen)
  refine this.mono ?_
  rintro e w' ⟨rfl, hb⟩
  exact ⟨by simp, hB.trans (hb.mono hB.size)⟩

end Go.Proofs.YtjmlpkemjafifaaDoor
