/- (*sha.Hash).Sum, walked. -/
import Derived.Test.YtdipjhcjmjajfaaDoorShaWrite
import Derived.Test.YtdipjhcjmjajfaaDoorShaPad
namespace Go.Proofs.YtdipjhcjmjajfaaDoor
open Go.RowKit

/-- All cells of a hash. -/
def hcells (bw ww : List Nat) (rest : List Int) (n : Nat) : List Value := wcells bw ++ (wcells ww ++ (bcells rest ++ [.int .i64 (n : Int)]))
theorem hcells_length {bw ww : List Nat} {rest : List Int} {n : Nat} (h1 : bw.length = 8) (h2 : ww.length = 8) (h3 : rest.length = 64) : (hcells bw ww rest n).length = 81 := by
  simp [hcells, wcells_length, bcells_length, h1, h2, h3]
theorem HSt.all {w : World} {g n : Nat} {ww : List Nat} {rest : List Int} (h : HSt w g ww rest n) : w.rangeAt g 0 (hcells iv ww rest n) := by
  refine range_app h.bw ?_
  rw [wcells_length]
  refine range_app h.wv ?_
  rw [wcells_length, h.w8.1]
  refine range_app h.rv ?_
  rw [bcells_length, h.rl]
  exact range_cell h.sz
theorem size_hash : (Tryd.prog.info? 67).map (·.size) = some 81 := by kernel_rfl
theorem zero_hash : (Tryd.prog.info? 67).map (·.zero) = some (some (.agg (hcells (zerosW 8) (zerosW 8) (List.replicate 64 0) 0).toArray)) := by kernel_rfl
/-- A block that holds the cells of a hash is one. -/
theorem HSt.of_block {w : World} {g n : Nat} {ww : List Nat} {rest : List Int} (hb : w.heap[g]? = some (.cells (hcells iv ww rest n).toArray 67 (0, 0))) (h8 : W8 ww) (hr : rest.length = 64) (hrb : ∀ x ∈ rest, 0 ≤ x ∧ x < 256) : HSt w g ww rest n := by
  have key : ∀ j v, (hcells iv ww rest n)[j]? = some v → w.cell? ⟨g, j, none⟩ = some v := fun j v hv => by
    rw [cell_of_row w g j _ _ _ hb]
    simpa using hv
  have hl := hcells_length (n := n) iv_W8.1 h8.1 hr
  have l1 : (wcells iv).length = 8 := by rw [wcells_length]; rfl
  have l2 : (wcells ww).length = 8 := by rw [wcells_length, h8.1]
  have l3 : (bcells rest).length = 64 := by rw [bcells_length, hr]
  refine ⟨fun j v hv => ?_, fun j v hv => ?_, fun j v hv => ?_, ?_, fun j hj => ?_, h8, hr, hrb⟩
  · rw [Nat.zero_add]
    have hj := (List.getElem?_eq_some_iff.1 hv).1
    refine key j v ?_
    unfold hcells
    rw [List.getElem?_append_left hj]
    exact hv
  · have hj := (List.getElem?_eq_some_iff.1 hv).1
    refine key (8 + j) v ?_
    unfold hcells
    rw [List.getElem?_append_right (by omega), l1, Nat.add_sub_cancel_left, List.getElem?_append_left hj]
    exact hv
  · have hj := (List.getElem?_eq_some_iff.1 hv).1
    refine key (16 + j) v ?_
    unfold hcells
    rw [List.getElem?_append_right (by omega), l1, List.getElem?_append_right (by omega), l2, show 16 + j - 8 - 8 = j by omega, List.getElem?_append_left hj]
    exact hv
  · refine key 80 _ ?_
    unfold hcells
    rw [List.getElem?_append_right (by omega), l1, List.getElem?_append_right (by omega), l2, List.getElem?_append_right (by omega), l3]
    rfl
  · rw [Nat.zero_add]
    refine ⟨?_, by simp [World.frozen?, hb]⟩
    rw [cell_of_row w g j _ _ _ hb]
    simp [hl]
    exact hj
end Go.Proofs.YtdipjhcjmjajfaaDoor
