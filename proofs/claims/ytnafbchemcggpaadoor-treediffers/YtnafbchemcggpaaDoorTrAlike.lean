/- alike and Differ of tree, walked. -/
import Derived.Test.YtnafbchemcggpaaDoorTrBox
import Derived.Test.YtnafbchemcggpaaDoorTrBuild
set_option linter.unusedVariables false
set_option linter.unusedSimpArgs false
namespace Go.Proofs.YtnafbchemcggpaaDoor
open Go.RowKit

set_option maxRecDepth 100000 in
set_option maxHeartbeats 4000000 in
theorem alike_any (w : World) (va vb : Value) (da db : List (List Int)) (x : Nat) (ha : HDs w va da) (hb : HDs w vb db) (hx : 1 ≤ x) (hxa : 2 * x < da.length) (hxb : 2 * x < db.length) :
    Calls Tryd.prog 54 #[va, vb, .int .i64 (x : Int)] w fun e w' => e = .returned (.bool (decide (da.getD (2 * x - 1) [] = db.getD (2 * x - 1) [] ∧ da.getD (2 * x) [] = db.getD (2 * x) []))) ∧ Below w.heap.size w w' := by
  obtain ⟨zd, HZD⟩ : ∃ zd, Hid (cellsB zeros32 = zd) := ⟨_, rfl⟩
  have hd1 := getD_D ha.2 (2 * x - 1) (by omega)
  have hd2 := getD_D ha.2 (2 * x) (by omega)
  have hd3 := getD_D hb.2 (2 * x - 1) (by omega)
  have hd4 := getD_D hb.2 (2 * x) (by omega)
  have CA := hid (beneath_any w va da x ha hx hxa)
  have CB : Hid (∀ w', Below w.heap.size w w' → _) := fun w' h => beneath_any w' vb db x (hb.below h) hx hxb
  clear ha hb
  generalize da.getD (2 * x - 1) [] = d1 at hd1 CA ⊢
  generalize da.getD (2 * x) [] = d2 at hd2 CA ⊢
  generalize db.getD (2 * x - 1) [] = d3 at hd3 CB ⊢
  generalize db.getD (2 * x) [] = d4 at hd4 CB ⊢
  obtain ⟨c1, HC1⟩ : ∃ c, Hid (cellsB d1 = c) := ⟨_, rfl⟩
  obtain ⟨c2, HC2⟩ : ∃ c, Hid (cellsB d2 = c) := ⟨_, rfl⟩
  obtain ⟨c3, HC3⟩ : ∃ c, Hid (cellsB d3 = c) := ⟨_, rfl⟩
  obtain ⟨c4, HC4⟩ : ∃ c, Hid (cellsB d4 = c) := ⟨_, rfl⟩
  have hz : zd.size = 32 := by rw [← HZD.out]; rfl
  have hq1 := fun w => run_eql_bytes w 32 45 Tryd.underlying45 d1 d3 hd1.1 hd3.1
  have hq2 := fun w => run_eql_bytes w 32 45 Tryd.underlying45 d2 d4 hd2.1 hd4.1
  have hs1 : c1.size = 32 := by rw [← HC1.out, cellsB_size, hd1.1]
  have SD1 : Hid ((Tryd.prog.info? 45).map (·.size) = some c1.size) := by rw [hs1]; exact size_digest
  have O1 : Hid (c1.all (·.oneCell') = true) := by rw [← HC1.out]; exact cellsB_one _
  have Z1 : Hid (zd.size = c1.size) := by rw [hz, hs1]; exact rfl
  clear hs1
  have hs2 : c2.size = 32 := by rw [← HC2.out, cellsB_size, hd2.1]
  have SD2 : Hid ((Tryd.prog.info? 45).map (·.size) = some c2.size) := by rw [hs2]; exact size_digest
  have O2 : Hid (c2.all (·.oneCell') = true) := by rw [← HC2.out]; exact cellsB_one _
  have Z2 : Hid (zd.size = c2.size) := by rw [hz, hs2]; exact rfl
  clear hs2
  have hs3 : c3.size = 32 := by rw [← HC3.out, cellsB_size, hd3.1]
  have SD3 : Hid ((Tryd.prog.info? 45).map (·.size) = some c3.size) := by rw [hs3]; exact size_digest
  have O3 : Hid (c3.all (·.oneCell') = true) := by rw [← HC3.out]; exact cellsB_one _
  have Z3 : Hid (zd.size = c3.size) := by rw [hz, hs3]; exact rfl
  clear hs3
  have hs4 : c4.size = 32 := by rw [← HC4.out, cellsB_size, hd4.1]
  have SD4 : Hid ((Tryd.prog.info? 45).map (·.size) = some c4.size) := by rw [hs4]; exact size_digest
  have O4 : Hid (c4.all (·.oneCell') = true) := by rw [← HC4.out]; exact cellsB_one _
  have Z4 : Hid (zd.size = c4.size) := by rw [hz, hs4]; exact rfl
  clear hs4
  rw [HC1.out, HC3.out] at hq1
  rw [HC2.out, HC4.out] at hq2
  rw [HC1.out, HC2.out] at CA
  rw [HC3.out, HC4.out] at CB
  clear hz
  go_enter Tryd.func54, Tryd.ntmps54
  go_wp2_with fail
  refine CA.out.mono ?_
  rintro e w1 ⟨rfl, hB1⟩
  have X := hid (twoBox w1 zd c1 c2)
  have e1 : (w1.alloc (.cells zd 45)).heap.size = w1.heap.size + 1 := by simp
  have BL1 := hid hB1
  clear hB1 CA
  go_wp2_with (first
    | (refine wpList_alloc_digest rfl rfl ?_; rw [HZD.out]; try rw [e1])
    | (refine wpList_store_row rfl 45 _ _ rfl w1.heap.size c1 rfl rfl 45 _ X.out.1 SD1.out Z1.out O1.out ?_)
    | (refine wpList_store_row rfl 45 _ _ rfl (w1.heap.size + 1) c2 rfl rfl 45 _ X.out.2.1 SD2.out Z2.out O2.out ?_))
  obtain ⟨W2, hW2⟩ : ∃ W2, Hid ((((w1.alloc (.cells zd 45)).alloc (.cells zd 45)).setRow w1.heap.size c1).setRow (w1.heap.size + 1) c2 = W2) := ⟨_, rfl⟩
  have BB : Hid (Below w1.heap.size w1 W2) := by rw [← hW2.out]; exact X.out.2.2.2.2
  have K1 : Hid (W2.heap[w1.heap.size]? = some (.cells c1 45 (0, 0))) := by rw [← hW2.out]; exact X.out.2.2.1
  have K2 : Hid (W2.heap[w1.heap.size + 1]? = some (.cells c2 45 (0, 0))) := by rw [← hW2.out]; exact X.out.2.2.2.1
  rw [hW2.out]
  have BL2 := hid (BL1.out.trans (BB.out.mono BL1.out.size))
  clear X e1 hW2
  refine (CB.out W2 BL2.out).mono ?_
  rintro e w3 ⟨rfl, hB3⟩
  have hs2 : w1.heap.size + 1 < W2.heap.size := (Array.getElem?_eq_some_iff.1 K2.out).1
  have hs3 := hB3.size
  have X := hid (twoBox w3 zd c3 c4)
  have e1 : (w3.alloc (.cells zd 45)).heap.size = w3.heap.size + 1 := by simp
  have K13 : Hid (w3.heap[w1.heap.size]? = some (.cells c1 45 (0, 0))) := (hB3.block _ (by omega)).trans K1.out
  have K23 : Hid (w3.heap[w1.heap.size + 1]? = some (.cells c2 45 (0, 0))) := (hB3.block _ (by omega)).trans K2.out
  have BL3 := hid (BL2.out.trans (hB3.mono BL2.out.size))
  have BB4 : Hid (Below w3.heap.size w3 ((((w3.alloc (.cells zd 45)).alloc (.cells zd 45)).setRow w3.heap.size c3).setRow (w3.heap.size + 1) c4)) := X.out.2.2.2.2
  have L3 : Hid (((((w3.alloc (.cells zd 45)).alloc (.cells zd 45)).setRow w3.heap.size c3).setRow (w3.heap.size + 1) c4).heap[w3.heap.size]? = some (.cells c3 45 (0, 0))) := X.out.2.2.1
  have L4 : Hid (((((w3.alloc (.cells zd 45)).alloc (.cells zd 45)).setRow w3.heap.size c3).setRow (w3.heap.size + 1) c4).heap[w3.heap.size + 1]? = some (.cells c4 45 (0, 0))) := X.out.2.2.2.1
  have L1 : Hid (((((w3.alloc (.cells zd 45)).alloc (.cells zd 45)).setRow w3.heap.size c3).setRow (w3.heap.size + 1) c4).heap[w1.heap.size]? = some (.cells c1 45 (0, 0))) := (BB4.out.block _ (by omega)).trans K13.out
  have L2 : Hid (((((w3.alloc (.cells zd 45)).alloc (.cells zd 45)).setRow w3.heap.size c3).setRow (w3.heap.size + 1) c4).heap[w1.heap.size + 1]? = some (.cells c2 45 (0, 0))) := (BB4.out.block _ (by omega)).trans K23.out
  have BL4 := hid (BL3.out.trans (BB4.out.mono BL3.out.size))
  clear hB3 CB hs2 hs3
  by_cases hd : d1 = d3
  · have hdd : decide (d1 = d3) = true := by simpa using hd
    have HF : Hid (decide (d1 = d3 ∧ d2 = d4) = decide (d2 = d4)) := by refine hid ?_; simp [hd]
    rw [hdd] at hq1
    go_wp2_with (first
      | (refine wpList_alloc_digest rfl rfl ?_; rw [HZD.out]; try rw [e1])
      | (refine wpList_store_row rfl 45 _ _ rfl w3.heap.size c3 rfl rfl 45 _ X.out.1 SD3.out Z3.out O3.out ?_)
      | (refine wpList_store_row rfl 45 _ _ rfl (w3.heap.size + 1) c4 rfl rfl 45 _ X.out.2.1 SD4.out Z4.out O4.out ?_)
      | (refine wpList_load_row rfl 45 _ rfl w1.heap.size rfl 45 c1 (0, 0) _ L1.out Tryd.underlying45 rfl SD1.out ?_)
      | (refine wpList_load_row rfl 45 _ rfl w3.heap.size rfl 45 c3 (0, 0) _ L3.out Tryd.underlying45 rfl SD3.out ?_)
      | (refine wpList_load_row_on rfl 45 _ rfl (w1.heap.size + 1) rfl 45 c2 (0, 0) _ L2.out Tryd.underlying45 rfl SD2.out ?_)
      | (refine wpList_load_row_on rfl 45 _ rfl (w3.heap.size + 1) rfl 45 c4 (0, 0) _ L4.out Tryd.underlying45 rfl SD4.out ?_))
    go_ret
    exact ⟨by rw [HF.out]; rfl, BL4.out⟩
  · have hdd : decide (d1 = d3) = false := by simpa using hd
    have HF : Hid (decide (d1 = d3 ∧ d2 = d4) = false) := by refine hid ?_; simp [hd]
    rw [hdd] at hq1
    go_wp2_with (first
      | (refine wpList_alloc_digest rfl rfl ?_; rw [HZD.out]; try rw [e1])
      | (refine wpList_store_row rfl 45 _ _ rfl w3.heap.size c3 rfl rfl 45 _ X.out.1 SD3.out Z3.out O3.out ?_)
      | (refine wpList_store_row rfl 45 _ _ rfl (w3.heap.size + 1) c4 rfl rfl 45 _ X.out.2.1 SD4.out Z4.out O4.out ?_)
      | (refine wpList_load_row rfl 45 _ rfl w1.heap.size rfl 45 c1 (0, 0) _ L1.out Tryd.underlying45 rfl SD1.out ?_)
      | (refine wpList_load_row rfl 45 _ rfl w3.heap.size rfl 45 c3 (0, 0) _ L3.out Tryd.underlying45 rfl SD3.out ?_))
    go_ret
    exact ⟨by rw [HF.out]; rfl, BL4.out⟩
end Go.Proofs.YtnafbchemcggpaaDoor
