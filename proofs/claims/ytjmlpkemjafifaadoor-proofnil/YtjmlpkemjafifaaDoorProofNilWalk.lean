/- ProofNil, walked. -/
import Derived.Test.YtjmlpkemjafifaaDoorGrPfC
set_option linter.unusedVariables false
set_option linter.unusedSimpArgs false
namespace Go.Proofs.YtjmlpkemjafifaaDoor
open Go.RowKit

set_option maxRecDepth 100000 in
set_option maxHeartbeats 8000000 in
theorem proofNil_walk (w : World) (v : Value) (ns : List NdT) (i : Int) (hv : HNd w v ns) (hk : KC w) :
    Calls Tryd.prog 6 #[.int .i64 i, v] w fun e w' => e = .returned (.bool true) ∧ Below w.heap.size w w' := by
  obtain ⟨p, c, ev, _, _, _⟩ := hv.open
  have HKC := hid hk
  obtain ⟨zd, HZD⟩ : ∃ zd, Hid (cellsB zeros32 = zd) := ⟨_, rfl⟩
  have hzs : zd.size = 32 := by rw [← HZD.out, cellsB_size, zeros32_length]
  have SZ : Hid ((Tryd.prog.info? 28).map (·.size) = some zd.size) := by rw [hzs]; exact size_digest
  have O1 : Hid (zd.all (·.oneCell') = true) := by rw [← HZD.out]; exact cellsB_one _
  subst ev
  clear hv hk hzs
  go_enter Tryd.func6, Tryd.ntmps6
  go_wp2
  obtain ⟨W1, hW1⟩ : ∃ W1, Hid ((w.alloc (.cells #[.int .i64 0, .int .i64 0, .map none] 63)).alloc (.cells #[.pointer none, .pointer (some ⟨w.heap.size, 0, none⟩)] 46) = W1) := ⟨_, rfl⟩
  rw [hW1.out]
  have HB1 : Hid (Below w.heap.size w W1) := by rw [← hW1.out]; exact ((Below.refl _ w).alloc (Nat.le_refl _) _).alloc (by simp) _
  have hbk : W1.heap[w.heap.size + 1]? = some (.cells #[.pointer none, .pointer (some ⟨w.heap.size, 0, none⟩)] 46 (0, 0)) := by
    rw [← hW1.out, show w.heap.size + 1 = (w.alloc (.cells #[.int .i64 0, .int .i64 0, .map none] 63)).heap.size by simp]
    exact heap_alloc_new _ _
  have hc0 : W1.cell? ⟨w.heap.size + 1, 0, none⟩ = some (.pointer none) := by rw [cell_of_row _ _ 0 _ _ _ hbk]; rfl
  have hc1 : W1.cell? ⟨w.heap.size + 1, 1, none⟩ = some (.pointer (some ⟨w.heap.size, 0, none⟩)) := by rw [cell_of_row _ _ 1 _ _ _ hbk]; rfl
  have hc2 : W1.cell? ⟨w.heap.size, 2, none⟩ = some (.map none) := by
    have hb0 : W1.heap[w.heap.size]? = some (.cells #[.int .i64 0, .int .i64 0, .map none] 63 (0, 0)) := by
      rw [← hW1.out, heap_alloc_old _ _ (by simp)]
      exact heap_alloc_new w _
    rw [cell_of_row _ _ 2 _ _ _ hb0]; rfl
  have HUN : Hid (∀ k : Nat, k < 2 → ∃ q, W1.cell? ⟨w.heap.size + 1, k, none⟩ = some (.pointer q) ∧ Unm W1 (.pointer q)) := fun k hk => by
    match k, hk with
    | 0, _ => exact ⟨none, hc0, Or.inl rfl⟩
    | 1, _ => exact ⟨_, hc1, Or.inr ⟨_, rfl, hc2⟩⟩
  clear hbk hc0 hc1 hc2
  go_loopw [19] (fun q wr => ∃ k : Nat, k ≤ 2 ∧ q = .int .i64 k ∧ Hid (Below W1.heap.size W1 wr)) (fun q _ => 2 - (intOf q).toNat)
  case atStart => exact ⟨0, by omega, rfl, Below.refl _ _⟩
  case round =>
    obtain ⟨k, hk, rfl, HB⟩ := hrel
    by_cases hlt : k < 2
    · obtain ⟨q, hcell, hun⟩ := HUN.out k hlt
      have hcr : wr.cell? ⟨w.heap.size + 1, k, none⟩ = some (.pointer q) := (HB.out.cell (World.block_lt_of_cell? W1 _ hcell)).trans hcell
      have HU := hid (hun.below HB.out)
      clear hcell hun HUN
      have C1 := hid (kn_un wr _ HU.out i)
      rw [HZD.out] at C1
      go_wp2_with fail
      refine C1.out.mono ?_
      rintro e w1 ⟨rfl, hB1⟩
      obtain ⟨W2, hW2⟩ : ∃ W2, Hid (w1.alloc (.cells zd 28) = W2) := ⟨_, rfl⟩
      have B2 : Hid (Below wr.heap.size wr W2) := by rw [← hW2.out]; exact hB1.alloc hB1.size _
      have C2 := hid (lf_un W2 _ (HU.out.below B2.out) i)
      rw [HZD.out] at C2
      clear C1 hB1 hcr
      go_wp2_with (first | (refine wpList_alloc_digest rfl rfl ?_; rw [HZD.out]) | (refine wpList_store_row rfl 28 _ _ rfl w1.heap.size zd rfl rfl 28 zd (heap_alloc_new w1 _) SZ.out rfl O1.out ?_; rw [setRow_alloc_new', hW2.out]) | fail)
      refine C2.out.mono ?_
      rintro e w3 ⟨rfl, hB3⟩
      have B3 := hid (B2.out.trans (hB3.mono B2.out.size))
      obtain ⟨W4, hW4⟩ : ∃ W4, Hid (w3.alloc (.cells zd 28) = W4) := ⟨_, rfl⟩
      have B4 : Hid (Below wr.heap.size wr W4) := by rw [← hW4.out]; exact B3.out.alloc B3.out.size _
      have C3 := hid (ne_un W4 _ (HU.out.below B4.out) i)
      clear C2 hB3
      go_wp2_with (first | (refine wpList_alloc_digest rfl rfl ?_; rw [HZD.out]) | (refine wpList_store_row rfl 28 _ _ rfl w3.heap.size zd rfl rfl 28 zd (heap_alloc_new w3 _) SZ.out rfl O1.out ?_; rw [setRow_alloc_new', hW4.out]) | fail)
      refine C3.out.mono ?_
      rintro e w5 ⟨rfl, hB5⟩
      have B5 := hid (B4.out.trans (hB5.mono B4.out.size))
      have C4 := hid (ch_un w5 _ (HU.out.below B5.out) i)
      clear C3 hB5
      go_wp2_with fail
      refine C4.out.mono ?_
      rintro e w6 ⟨rfl, hB6⟩
      have B6 := hid (B5.out.trans (hB6.mono B5.out.size))
      have C5 := hid (pu_un w6 _ (.slice p ns.length c) (HU.out.below B6.out))
      clear C4 hB6
      go_wp2_with fail
      refine C5.out.mono ?_
      rintro e w7 ⟨rfl, hB7⟩
      have B7 := hid (B6.out.trans (hB7.mono B6.out.size))
      have C6 := hid (le_un w7 _ (HU.out.below B7.out))
      clear C5 hB7
      go_wp2_with fail
      refine C6.out.mono ?_
      rintro e w8 ⟨rfl, hB8⟩
      have B8 := hid (B7.out.trans (hB8.mono B7.out.size))
      have C7 := hid (wi_un w8 _ (HU.out.below B8.out))
      clear C6 hB8
      go_wp2_with fail
      refine C7.out.mono ?_
      rintro e w9 ⟨rfl, hB9⟩
      have B9 := hid (B8.out.trans (hB9.mono B8.out.size))
      have C8 := hid (wh_un w9 _ (HU.out.below B9.out))
      clear C7 hB9
      go_wp2_with fail
      refine C8.out.mono ?_
      rintro e w10 ⟨rfl, hB10⟩
      have B10 := hid (B9.out.trans (hB10.mono B9.out.size))
      have C9 := hid (cl_un w10 _ (HU.out.below B10.out))
      clear C8 hB10
      go_wp2_with fail
      refine C9.out.mono ?_
      rintro e w11 ⟨rfl, hB11⟩
      have B11 := hid (B10.out.trans (hB11.mono B10.out.size))
      have BX : Hid (Below W1.heap.size W1 w11) := HB.out.trans (B11.out.mono HB.out.size)
      clear C9 hB11
      go_wp2
      exact ⟨⟨k + 1, by omega, by go_num, BX⟩, by simp [intOf]; omega⟩
    · have BX : Hid (Below w.heap.size w wr) := HB1.out.trans (HB.out.mono HB1.out.size)
      have CA := hid (pawake_any wr (HKC.out.below BX.out))
      go_wp2_with fail
      refine CA.out.mono ?_
      rintro e w2 ⟨rfl, hB2⟩
      have BY := hid (BX.out.trans (hB2.mono BX.out.size))
      clear CA hB2
      go_wp2
      go_ret
      exact ⟨rfl, BY.out⟩
end Go.Proofs.YtjmlpkemjafifaaDoor
