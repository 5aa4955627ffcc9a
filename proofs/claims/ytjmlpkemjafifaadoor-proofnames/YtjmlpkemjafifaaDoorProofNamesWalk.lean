/- ProofNames, walked. -/
import Derived.Test.YtjmlpkemjafifaaDoorGrPfN
import Derived.Test.YtjmlpkemjafifaaDoorGrPfC
import Derived.Test.YtjmlpkemjafifaaDoorTrBox
set_option linter.unusedVariables false
set_option linter.unusedSimpArgs false
namespace Go.Proofs.YtjmlpkemjafifaaDoor
open Go.RowKit

set_option maxRecDepth 100000 in
set_option maxHeartbeats 16000000 in
theorem proofNames_walk (w : World) (hk : KC w) : Calls Tryd.prog 5 #[] w fun e w' => e = .returned (.bool true) ∧ Below w.heap.size w w' := by
  obtain ⟨a, HA⟩ : ∃ a, Hid (lvL 0 = a) := ⟨_, rfl⟩
  obtain ⟨b, HB⟩ : ∃ a, Hid (lvL 1 = a) := ⟨_, rfl⟩
  obtain ⟨c, HC⟩ : ∃ a, Hid (lvL 2 = a) := ⟨_, rfl⟩
  have DA : Hid (D32 a) := by rw [← HA.out]; exact lvL_D 0 (by decide)
  have DB : Hid (D32 b) := by rw [← HB.out]; exact lvL_D 1 (by decide)
  have DC : Hid (D32 c) := by rw [← HC.out]; exact lvL_D 2 (by decide)
  have L0 := hid (fun w => leaf_0 w)
  have L1 := hid (fun w => leaf_1 w)
  have L2 := hid (fun w => leaf_2 w)
  rw [HA.out] at L0
  rw [HB.out] at L1
  rw [HC.out] at L2
  have HNAB : Hid (a ≠ b) := by rw [← HA.out, ← HB.out]; exact leaf_01
  clear HA HB HC
  obtain ⟨l9, HL9⟩ : ∃ a, Hid (lvL 9 = a) := ⟨_, rfl⟩
  obtain ⟨l5, HL5⟩ : ∃ a, Hid (lvL 5 = a) := ⟨_, rfl⟩
  have D9 : Hid (D32 l9) := by rw [← HL9.out]; exact lvL_D 9 (by decide)
  have D5 : Hid (D32 l5) := by rw [← HL5.out]; exact lvL_D 5 (by decide)
  have L9 := hid (fun w => leaf_9 w)
  have L5 := hid (fun w => leaf_5 w)
  have HNP9 : Hid (pdL 3 ≠ l9) := by rw [← HL9.out]; exact pad3_leaf9
  rw [HL9.out] at L9
  rw [HL5.out] at L5
  clear HL9 HL5
  obtain ⟨c9, HC9⟩ : ∃ x, Hid (cellsB l9 = x) := ⟨_, rfl⟩
  obtain ⟨c5, HC5⟩ : ∃ x, Hid (cellsB l5 = x) := ⟨_, rfl⟩
  rw [HC9.out] at L9
  rw [HC5.out] at L5
  have CPAD := hid (fun w => rpad5_any w 3 (by decide))
  rw [show ((3 : Nat) : Int) = (3 : Int) from rfl] at CPAD
  obtain ⟨ca, HCA⟩ : ∃ x, Hid (cellsB a = x) := ⟨_, rfl⟩
  obtain ⟨cb, HCB⟩ : ∃ x, Hid (cellsB b = x) := ⟨_, rfl⟩
  obtain ⟨cc, HCC⟩ : ∃ x, Hid (cellsB c = x) := ⟨_, rfl⟩
  rw [HCA.out] at L0
  rw [HCB.out] at L1
  rw [HCC.out] at L2
  have HKC := hid hk
  clear hk
  go_enter Tryd.func5, Tryd.ntmps5
  go_wp2_with fail
  refine (L0.out w).mono ?_
  rintro e w1 ⟨rfl, hB1⟩
  have BL1 := hid hB1
  clear hB1
  go_wp2_with fail
  refine (L1.out w1).mono ?_
  rintro e w2 ⟨rfl, hB2⟩
  have BL2 := hid (BL1.out.trans (hB2.mono BL1.out.size))
  clear hB2
  go_wp2_with fail
  refine (L2.out w2).mono ?_
  rintro e w3 ⟨rfl, hB3⟩
  have BL3 := hid (BL2.out.trans (hB3.mono BL2.out.size))
  clear hB3
  have hD3 : ∀ d ∈ [a, b, c], D32 d := fun d hd => by
    simp at hd
    rcases hd with rfl | rfl | rfl
    · exact DA.out
    · exact DB.out
    · exact DC.out
  have hlit := run_lit_digs w3 [a, b, c] hD3 (by simp) (by simp)
  simp only [List.length_cons, List.length_nil, Nat.zero_add, Nat.reduceAdd, List.map_cons, List.map_nil, List.zipIdx_cons, List.zipIdx_nil] at hlit
  rw [HCA.out, HCB.out, HCC.out] at hlit
  obtain ⟨W4, hW4⟩ : ∃ W4, Hid (w3.alloc (.cells ([a, b, c].flatMap dc).toArray 28) = W4) := ⟨_, rfl⟩
  rw [hW4.out] at hlit
  have BL4 : Hid (Below w.heap.size w W4) := by rw [← hW4.out]; exact BL3.out.alloc BL3.out.size _
  have HDs4 : Hid (HDs W4 (.slice (some ⟨w3.heap.size, 0, none⟩) 3 3) [a, b, c]) := by
    refine OD.HDs (N := [a, b, c]) (OD.of_block ?_ hD3) (by simp)
    rw [← hW4.out]
    exact heap_alloc_new w3 _
  have CB := hid (rbuild_ok W4 _ [a, b, c] HDs4.out (by simp) (by simp))
  rw [show wdN [a, b, c].length = 4 from rfl] at CB
  clear hD3
  have HLIT := hid hlit
  clear hlit
  go_wp2_with (first | (refine wpList_lit_run rfl 22 3 _ rfl #[(0, .agg ca), (1, .agg cb), (2, .agg cc)] (by go_simp) _ _ HLIT.out ?_) | fail)
  refine CB.out.mono ?_
  rintro e w5 ⟨gN, N, rfl, hgN, hO5, hT, hB5⟩
  have BL5 := hid (BL4.out.trans (hB5.mono BL4.out.size))
  obtain ⟨hn7, hr0, hr1, hr2⟩ := build34 hT
  have HO5 := hid hO5
  have hgN' : w.heap.size ≤ gN := Nat.le_trans BL4.out.size hgN
  have hgl := hO5.lt
  have R0 := hid (hO5.2.1 0 (by omega))
  have R2 := hid (hO5.2.1 2 (by omega))
  obtain ⟨n45, HN45⟩ : ∃ x, Hid (ndL a b = x) := ⟨_, rfl⟩
  obtain ⟨n67, HN67⟩ : ∃ x, Hid (ndL c (pdL 3) = x) := ⟨_, rfl⟩
  rw [HN45.out, HN67.out] at hr0
  rw [HN45.out] at hr1
  obtain ⟨r, HR⟩ : ∃ x, Hid (ndL n45 n67 = x) := ⟨_, rfl⟩
  rw [HR.out] at hr0
  rw [hr0, Nat.zero_mul] at R0
  rw [hr2, HN67.out] at R2
  have Dr : Hid (D32 r) := by rw [← HR.out]; exact ndL_D _ _
  have Dn : Hid (D32 n67) := by rw [← HN67.out]; exact ndL_D _ _
  obtain ⟨cr, HCR⟩ : ∃ x, Hid (cellsB r = x) := ⟨_, rfl⟩
  obtain ⟨cn, HCN⟩ : ∃ x, Hid (cellsB n67 = x) := ⟨_, rfl⟩
  have HSr := hid (size_dig Dr.out)
  have HSn := hid (size_dig Dn.out)
  rw [hn7]
  clear hO5 hT hB5 CB hr0 hr1 hr2 HDs4
  have CNW := hid (pnew_ok w5 3 r Dr.out (by decide) (by decide) (HKC.out.below BL5.out))
  rw [show ((3 : Nat) : Int) = (3 : Int) from rfl, HCR.out] at CNW
  go_wp2_with (first | (refine wpList_load_mid rfl 28 _ rfl gN 0 rfl (dc r) _ R0.out Tryd.underlying28 rfl HSr.out ?_; rw [dc_arr, HCR.out]) | fail)
  refine CNW.out.mono ?_
  rintro e w6 (⟨hbad, _⟩ | ⟨L, g, bm, hL, hL1, hL2, rfl, hg, hbm, hP6, hB6⟩)
  · exact absurd ⟨by decide, by decide⟩ hbad
  obtain rfl : L = 3 := by omega
  rw [show wdN 3 = 4 from rfl, newF34] at hP6
  obtain ⟨pd, HPD⟩ : ∃ x, Hid (pdL 3 = x) := ⟨_, rfl⟩
  have Dp : Hid (D32 pd) := by rw [← HPD.out]; exact pdL_D 3
  rw [HPD.out] at hP6 HN67 HNP9 CPAD
  clear HPD
  obtain ⟨cp, HCP⟩ : ∃ x, Hid (cellsB pd = x) := ⟨_, rfl⟩
  rw [HCP.out] at CPAD
  obtain ⟨zd, HZD⟩ : ∃ zd, Hid (cellsB zeros32 = zd) := ⟨_, rfl⟩
  have hzs : zd.size = 32 := by rw [← HZD.out, cellsB_size, zeros32_length]
  have hps : cp.size = 32 := by rw [← HCP.out, cellsB_size, Dp.out.1]
  have h5s : c5.size = 32 := by rw [← HC5.out, cellsB_size, D5.out.1]
  have SZ : Hid ((Tryd.prog.info? 28).map (·.size) = some zd.size) := by rw [hzs]; exact size_digest
  have SP : Hid ((Tryd.prog.info? 28).map (·.size) = some cp.size) := by rw [hps]; exact size_digest
  have S5 : Hid ((Tryd.prog.info? 28).map (·.size) = some c5.size) := by rw [h5s]; exact size_digest
  have OZ : Hid (zd.all (·.oneCell') = true) := by rw [← HZD.out]; exact cellsB_one _
  have OP : Hid (cp.all (·.oneCell') = true) := by rw [← HCP.out]; exact cellsB_one _
  have O5 : Hid (c5.all (·.oneCell') = true) := by rw [← HC5.out]; exact cellsB_one _
  have ZP : Hid (zd.size = cp.size) := by refine hid ?_; rw [hzs, hps]
  have Z5 : Hid (zd.size = c5.size) := by refine hid ?_; rw [hzs, h5s]
  clear hzs hps h5s
  have HP6 := hid hP6
  have BL6 := hid (BL5.out.trans (hB6.mono BL5.out.size))
  have B6 := hid hB6
  clear hP6 hB6 CNW hL hL1 hL2 BL6
  have CC := hid (le_any w6 g bm 3 4 (K34 r pd) HP6.out)
  go_wp2_with fail
  refine CC.out.mono ?_
  rintro e w7 ⟨rfl, hB⟩
  have HP7 := hid (HP6.out.below hB)
  have B7 := hid (B6.out.trans (hB.mono B6.out.size))
  clear hB CC
  have CC := hid (wi_any w7 g bm 3 4 (K34 r pd) HP7.out)
  go_wp2_with fail
  refine CC.out.mono ?_
  rintro e w8 ⟨rfl, hB⟩
  have HP8 := hid (HP7.out.below hB)
  have B8 := hid (B7.out.trans (hB.mono B7.out.size))
  clear hB CC
  have CC := hid (wh_any w8 g bm 3 4 (K34 r pd) HP8.out (by decide) (nm_dom r pd))
  rw [show decide ((cntK (K34 r pd) (2 * 4) : Int) = 2 * ((4 : Nat) : Int) - 1) = false from by rw [show 2 * 4 = 8 from rfl, nm_cnt]; rfl] at CC
  go_wp2_with fail
  refine CC.out.mono ?_
  rintro e w9 ⟨rfl, hB⟩
  have HP9 := hid (HP8.out.below hB)
  have B9 := hid (B8.out.trans (hB.mono B8.out.size))
  clear hB CC
  have CC := hid (pawake_any w9 (HKC.out.below (BL5.out.trans (B9.out.mono BL5.out.size))))
  go_wp2_with fail
  refine CC.out.mono ?_
  rintro e w10 ⟨rfl, hB⟩
  have HP10 := hid (HP9.out.below hB)
  have B10 := hid (B9.out.trans (hB.mono B9.out.size))
  clear hB CC
  have CC := hid (kn_any w10 g bm 3 4 (K34 r pd) HP10.out 7)
  rw [show kAt (K34 r pd) 7 = pd from rfl, show kIs (K34 r pd) 7 = true from rfl, HCP.out] at CC
  go_wp2_with fail
  refine CC.out.mono ?_
  rintro e w11 ⟨rfl, hB⟩
  have HP11 := hid (HP10.out.below hB)
  have B11 := hid (B10.out.trans (hB.mono B10.out.size))
  clear hB CC
  obtain ⟨V12, hV12⟩ : ∃ V, Hid (w11.alloc (.cells cp 28) = V) := ⟨_, rfl⟩
  have hB : Below w11.heap.size w11 V12 := by rw [← hV12.out]; exact (Below.refl _ w11).alloc (Nat.le_refl _) _
  have HP12 := hid (HP11.out.below hB)
  have B12 := hid (B11.out.trans (hB.mono B11.out.size))
  clear hB
  have HRP_12 : Hid (V12.heap[w11.heap.size]? = some (.cells cp 28 (0, 0))) := by rw [← hV12.out]; exact heap_alloc_new w11 _
  have CC := hid (kn_any V12 g bm 3 4 (K34 r pd) HP12.out 3)
  rw [show kAt (K34 r pd) 3 = zeros32 from rfl, show kIs (K34 r pd) 3 = false from rfl, HZD.out] at CC
  go_wp2_with (first | (refine wpList_alloc_digest rfl rfl ?_; rw [HZD.out]) | (refine wpList_store_row rfl 28 _ _ rfl w11.heap.size cp rfl rfl 28 zd (heap_alloc_new w11 _) SP.out ZP.out OP.out ?_; rw [setRow_alloc_new', hV12.out]) | fail)
  refine CC.out.mono ?_
  rintro e w13 ⟨rfl, hB⟩
  have HP13 := hid (HP12.out.below hB)
  have B13 := hid (B12.out.trans (hB.mono B12.out.size))
  have HRP_13 : Hid (w13.heap[w11.heap.size]? = some (.cells cp 28 (0, 0))) := (hB.block _ (Array.getElem?_eq_some_iff.1 HRP_12.out).1).trans HRP_12.out
  clear hB CC
  obtain ⟨V14, hV14⟩ : ∃ V, Hid (w13.alloc (.cells zd 28) = V) := ⟨_, rfl⟩
  have hB : Below w13.heap.size w13 V14 := by rw [← hV14.out]; exact (Below.refl _ w13).alloc (Nat.le_refl _) _
  have HP14 := hid (HP13.out.below hB)
  have B14 := hid (B13.out.trans (hB.mono B13.out.size))
  have HRP_14 : Hid (V14.heap[w11.heap.size]? = some (.cells cp 28 (0, 0))) := (hB.block _ (Array.getElem?_eq_some_iff.1 HRP_13.out).1).trans HRP_13.out
  clear hB
  have CC := hid (ne_ok V14 g bm 3 2 (K34 r pd) HP14.out (by decide) (by decide) rfl (by decide) 2 (by decide))
  rw [show chL 2 (wdN 3 + 2) = chL 2 (4 + 2) from rfl, nm_need, show ((2 : Nat) : Int) = (2 : Int) from rfl] at CC
  go_wp2_with (first | (refine wpList_alloc_digest rfl rfl ?_; rw [HZD.out]) | (refine wpList_store_row rfl 28 _ _ rfl w13.heap.size zd rfl rfl 28 zd (heap_alloc_new w13 _) SZ.out rfl OZ.out ?_; rw [setRow_alloc_new', hV14.out]) | fail)
  refine CC.out.mono ?_
  rintro e w15 ⟨v8, rfl, hv8, hB⟩
  have HP15 := hid (HP14.out.below hB)
  have B15 := hid (B14.out.trans (hB.mono B14.out.size))
  have HRP_15 : Hid (w15.heap[w11.heap.size]? = some (.cells cp 28 (0, 0))) := (hB.block _ (Array.getElem?_eq_some_iff.1 HRP_14.out).1).trans HRP_14.out
  clear hB CC
  obtain ⟨p8, cc8, rfl, hc8⟩ := hv8
  obtain ⟨b8, o8, rfl, hcell⟩ := hc8 (by decide)
  have hx0 : w15.cell? ⟨b8, o8, none⟩ = some (.int .i64 2) := hcell 0 (by decide)
  have HX0 := hid hx0
  clear hcell hc8 hx0
  simp only [List.length_cons, List.length_nil, Nat.zero_add]
  have CC := hid (ne_bad w15 g bm 3 4 (K34 r pd) HP15.out (by decide) (by decide) 3 (by decide))
  go_wp2_with fail
  refine CC.out.mono ?_
  rintro e w16 ⟨rfl, hB⟩
  have HP16 := hid (HP15.out.below hB)
  have B16 := hid (B15.out.trans (hB.mono B15.out.size))
  have HRP_16 : Hid (w16.heap[w11.heap.size]? = some (.cells cp 28 (0, 0))) := (hB.block _ (Array.getElem?_eq_some_iff.1 HRP_15.out).1).trans HRP_15.out
  have HX0b := hid ((hB.cell (World.block_lt_of_cell? _ _ HX0.out)).trans HX0.out)
  clear hB CC
  have CC := hid (pch_ok w16 g bm 3 2 (K34 r pd) HP16.out (by decide) (by decide) rfl (by decide) 0 (by decide))
  rw [show ((0 : Nat) : Int) = (0 : Int) from rfl] at CC
  go_wp2_with fail
  refine CC.out.mono ?_
  rintro e w17 (⟨_, rfl, hB⟩ | ⟨hy, _⟩)
  case inr => cases hy
  have HP17 := hid (HP16.out.below hB)
  have B17 := hid (B16.out.trans (hB.mono B16.out.size))
  have HRP_17 : Hid (w17.heap[w11.heap.size]? = some (.cells cp 28 (0, 0))) := (hB.block _ (Array.getElem?_eq_some_iff.1 HRP_16.out).1).trans HRP_16.out
  have HX0c := hid ((hB.cell (World.block_lt_of_cell? _ _ HX0b.out)).trans HX0b.out)
  clear hB CC
  have HXp : Hid (w17.rangeAt w11.heap.size 0 (dc pd)) := fun j v hj => by rw [Nat.zero_add, cell_of_row w17 _ j _ _ _ HRP_17.out, ← HCP.out, ← dc_arr, List.getElem?_toArray]; exact hj
  have HLp := hid (Array.getElem?_eq_some_iff.1 HRP_17.out).1
  have hq := fun w => run_neq_bytes w 32 28 Tryd.underlying28 pd pd Dp.out.1 Dp.out.1
  rw [HCP.out, decide_eq_true rfl] at hq
  go_wp2
  refine wp_region_held_drew (S := Below w17.heap.size w17) (by kernel_rfl) (Below.refl _ _).drew (fun hHeld => ?_)
  have HS := hid hHeld
  clear hHeld
  change wpAnyH _ _ _ _ _ _ _ _ (World.drew _)
  refine wpAnyH_take (i := 0) (v := ?_) rfl (by kernel_rfl) (by kernel_rfl) (by kernel_rfl) (fun _ _ _ h => h) (Or.inl ⟨by rfl, ?q0⟩) HS.out ?_
  case q0 => intro w hSw; have s1 := (hSw.cell (World.block_lt_of_cell? _ _ HX0c.out)).trans HX0c.out; go_simp; rfl
  simp only [Act.put, List.getElem_toArray, List.getElem_cons_zero, List.getElem_cons_succ, List.setIfInBounds_toArray, List.set_cons_zero, List.set_cons_succ]
  refine wpAnyH_take (i := 1) (v := .bool false) rfl (by kernel_rfl) (by kernel_rfl) (by kernel_rfl) (fun _ _ _ h => h) (Or.inl ⟨by rfl, ?q1⟩) HS.out ?_
  case q1 => intro w hSw; have s1 := (hSw.cell (World.block_lt_of_cell? _ _ HX0c.out)).trans HX0c.out; go_simp
  simp only [Act.put, List.getElem_toArray, List.getElem_cons_zero, List.getElem_cons_succ, List.setIfInBounds_toArray, List.set_cons_zero, List.set_cons_succ]
  refine wpAnyH_take (i := 2) (v := ?_) rfl (by kernel_rfl) (by kernel_rfl) (by kernel_rfl) (fun _ _ _ h => h) (Or.inl ⟨by rfl, ?q2⟩) HS.out ?_
  case q2 => intro w hSw; have s1 := (hSw.cell (World.block_lt_of_cell? _ _ HX0c.out)).trans HX0c.out; go_simp; rfl
  simp only [Act.put, List.getElem_toArray, List.getElem_cons_zero, List.getElem_cons_succ, List.setIfInBounds_toArray, List.set_cons_zero, List.set_cons_succ]
  refine wpAnyH_take (i := 3) rfl (by kernel_rfl) (by kernel_rfl) (by kernel_rfl) (fun _ _ _ h => h) (yieldsIf_load_mid (by rfl) 28 _ rfl w11.heap.size 0 rfl (dc pd) _ (fun W hW => range_below HXp.out hW HLp.out) Tryd.underlying28 rfl (size_dig Dp.out)) HS.out ?_
  simp only [Act.put, List.getElem_toArray, List.getElem_cons_zero, List.getElem_cons_succ, List.setIfInBounds_toArray, List.set_cons_zero, List.set_cons_succ]
  rw [dc_arr, HCP.out]
  refine wpAnyH_ready (rs := [4]) (by kernel_rfl) (by simp) ?_
  refine AllReadyH.cons rfl (fun K hK => ?_) AllReadyH.nil
  go_simp
  refine (CPAD.out _).mono ?_
  rintro e v9 ⟨rfl, hB9⟩
  have HS9 := hid (HS.out.trans (hB9.mono HS.out.size))
  clear hB9
  refine hK.out _ _ HS9.out (fun _ => ?_)
  clear hK K
  have HS := hid HS9.out
  clear HS9
  refine wpAnyH_take (i := 5) (v := .bool false) rfl (by kernel_rfl) (by kernel_rfl) (by kernel_rfl) (fun _ _ _ h => h) (Or.inl ⟨by rfl, ?q5⟩) HS.out ?_
  case q5 => intro w hSw; have s1 := (hSw.cell (World.block_lt_of_cell? _ _ HX0c.out)).trans HX0c.out; go_simp
  simp only [Act.put, List.getElem_toArray, List.getElem_cons_zero, List.getElem_cons_succ, List.setIfInBounds_toArray, List.set_cons_zero, List.set_cons_succ]
  refine wpAnyH_take (i := 6) (v := ?_) rfl (by kernel_rfl) (by kernel_rfl) (by kernel_rfl) (fun _ _ _ h => h) (Or.inl ⟨by rfl, ?q6⟩) HS.out ?_
  case q6 => intro w hSw; have s1 := (hSw.cell (World.block_lt_of_cell? _ _ HX0c.out)).trans HX0c.out; go_simp; rfl
  simp only [Act.put, List.getElem_toArray, List.getElem_cons_zero, List.getElem_cons_succ, List.setIfInBounds_toArray, List.set_cons_zero, List.set_cons_succ]
  refine wpAnyH_take (i := 7) (v := ?_) rfl (by kernel_rfl) (by kernel_rfl) (by kernel_rfl) (fun _ _ _ h => h) (Or.inl ⟨by rfl, ?q7⟩) HS.out ?_
  case q7 => intro w hSw; have s1 := (hSw.cell (World.block_lt_of_cell? _ _ HX0c.out)).trans HX0c.out; go_simp; rfl
  simp only [Act.put, List.getElem_toArray, List.getElem_cons_zero, List.getElem_cons_succ, List.setIfInBounds_toArray, List.set_cons_zero, List.set_cons_succ]
  refine wpAnyH_take (i := 8) (v := ?_) rfl (by kernel_rfl) (by kernel_rfl) (by kernel_rfl) (fun _ _ _ h => h) (Or.inl ⟨by rfl, ?q8⟩) HS.out ?_
  case q8 => intro w hSw; have s1 := (hSw.cell (World.block_lt_of_cell? _ _ HX0c.out)).trans HX0c.out; go_simp; rfl
  simp only [Act.put, List.getElem_toArray, List.getElem_cons_zero, List.getElem_cons_succ, List.setIfInBounds_toArray, List.set_cons_zero, List.set_cons_succ]
  refine wpAnyH_take (i := 9) (v := ?_) rfl (by kernel_rfl) (by kernel_rfl) (by kernel_rfl) (fun _ _ _ h => h) (Or.inl ⟨by rfl, ?q9⟩) HS.out ?_
  case q9 => intro w hSw; have s1 := (hSw.cell (World.block_lt_of_cell? _ _ HX0c.out)).trans HX0c.out; go_simp; rfl
  simp only [Act.put, List.getElem_toArray, List.getElem_cons_zero, List.getElem_cons_succ, List.setIfInBounds_toArray, List.set_cons_zero, List.set_cons_succ]
  refine wpAnyH_take (i := 10) (v := ?_) rfl (by kernel_rfl) (by kernel_rfl) (by kernel_rfl) (fun _ _ _ h => h) (Or.inl ⟨by rfl, ?q10⟩) HS.out ?_
  case q10 => intro w hSw; have s1 := (hSw.cell (World.block_lt_of_cell? _ _ HX0c.out)).trans HX0c.out; go_simp; rfl
  simp only [Act.put, List.getElem_toArray, List.getElem_cons_zero, List.getElem_cons_succ, List.setIfInBounds_toArray, List.set_cons_zero, List.set_cons_succ]
  refine wpAnyH_take (i := 11) (v := ?_) rfl (by kernel_rfl) (by kernel_rfl) (by kernel_rfl) (fun _ _ _ h => h) (Or.inl ⟨by rfl, ?q11⟩) HS.out ?_
  case q11 => intro w hSw; have s1 := (hSw.cell (World.block_lt_of_cell? _ _ HX0c.out)).trans HX0c.out; go_simp; rfl
  simp only [Act.put, List.getElem_toArray, List.getElem_cons_zero, List.getElem_cons_succ, List.setIfInBounds_toArray, List.set_cons_zero, List.set_cons_succ]
  refine wpAnyH_take (i := 12) (v := .bool false) rfl (by kernel_rfl) (by kernel_rfl) (by kernel_rfl) (fun _ _ _ h => h) (Or.inl ⟨by rfl, ?q12⟩) HS.out ?_
  case q12 => intro w hSw; have s1 := (hSw.cell (World.block_lt_of_cell? _ _ HX0c.out)).trans HX0c.out; go_simp
  simp only [Act.put, List.getElem_toArray, List.getElem_cons_zero, List.getElem_cons_succ, List.setIfInBounds_toArray, List.set_cons_zero, List.set_cons_succ]
  refine wpAnyH_take (i := 13) (v := ?_) rfl (by kernel_rfl) (by kernel_rfl) (by kernel_rfl) (fun _ _ _ h => h) (Or.inl ⟨by rfl, ?q13⟩) HS.out ?_
  case q13 => intro w hSw; have s1 := (hSw.cell (World.block_lt_of_cell? _ _ HX0c.out)).trans HX0c.out; go_simp; rfl
  simp only [Act.put, List.getElem_toArray, List.getElem_cons_zero, List.getElem_cons_succ, List.setIfInBounds_toArray, List.set_cons_zero, List.set_cons_succ]
  refine wpAnyH_take (i := 14) (v := ?_) rfl (by kernel_rfl) (by kernel_rfl) (by kernel_rfl) (fun _ _ _ h => h) (Or.inl ⟨by rfl, ?q14⟩) HS.out ?_
  case q14 => intro w hSw; have s1 := (hSw.cell (World.block_lt_of_cell? _ _ HX0c.out)).trans HX0c.out; go_simp; rfl
  simp only [Act.put, List.getElem_toArray, List.getElem_cons_zero, List.getElem_cons_succ, List.setIfInBounds_toArray, List.set_cons_zero, List.set_cons_succ]
  refine wpAnyH_take (i := 15) (v := ?_) rfl (by kernel_rfl) (by kernel_rfl) (by kernel_rfl) (fun _ _ _ h => h) (Or.inl ⟨by rfl, ?q15⟩) HS.out ?_
  case q15 => intro w hSw; have s1 := (hSw.cell (World.block_lt_of_cell? _ _ HX0c.out)).trans HX0c.out; go_simp; rfl
  simp only [Act.put, List.getElem_toArray, List.getElem_cons_zero, List.getElem_cons_succ, List.setIfInBounds_toArray, List.set_cons_zero, List.set_cons_succ]
  refine wpAnyH_take (i := 16) (v := .int .i64 1) rfl (by kernel_rfl) (by kernel_rfl) (by kernel_rfl) (fun _ _ _ h => h) (Or.inl ⟨by rfl, ?q16⟩) HS.out ?_
  case q16 => intro w hSw; have s1 := (hSw.cell (World.block_lt_of_cell? _ _ HX0c.out)).trans HX0c.out; go_simp
  simp only [Act.put, List.getElem_toArray, List.getElem_cons_zero, List.getElem_cons_succ, List.setIfInBounds_toArray, List.set_cons_zero, List.set_cons_succ]
  refine wpAnyH_take (i := 17) (v := .bool false) rfl (by kernel_rfl) (by kernel_rfl) (by kernel_rfl) (fun _ _ _ h => h) (Or.inl ⟨by rfl, ?q17⟩) HS.out ?_
  case q17 => intro w hSw; have s1 := (hSw.cell (World.block_lt_of_cell? _ _ HX0c.out)).trans HX0c.out; go_simp
  simp only [Act.put, List.getElem_toArray, List.getElem_cons_zero, List.getElem_cons_succ, List.setIfInBounds_toArray, List.set_cons_zero, List.set_cons_succ]
  refine wpAnyH_take (i := 18) (v := ?_) rfl (by kernel_rfl) (by kernel_rfl) (by kernel_rfl) (fun _ _ _ h => h) (Or.inl ⟨by rfl, ?q18⟩) HS.out ?_
  case q18 => intro w hSw; have s1 := (hSw.cell (World.block_lt_of_cell? _ _ HX0c.out)).trans HX0c.out; go_simp; rfl
  simp only [Act.put, List.getElem_toArray, List.getElem_cons_zero, List.getElem_cons_succ, List.setIfInBounds_toArray, List.set_cons_zero, List.set_cons_succ]
  refine wpAnyH_take (i := 19) (v := ?_) rfl (by kernel_rfl) (by kernel_rfl) (by kernel_rfl) (fun _ _ _ h => h) (Or.inl ⟨by rfl, ?q19⟩) HS.out ?_
  case q19 => intro w hSw; have s1 := (hSw.cell (World.block_lt_of_cell? _ _ HX0c.out)).trans HX0c.out; go_simp; rfl
  simp only [Act.put, List.getElem_toArray, List.getElem_cons_zero, List.getElem_cons_succ, List.setIfInBounds_toArray, List.set_cons_zero, List.set_cons_succ]
  refine wpAnyH_take (i := 20) (v := ?_) rfl (by kernel_rfl) (by kernel_rfl) (by kernel_rfl) (fun _ _ _ h => h) (Or.inl ⟨by rfl, ?q20⟩) HS.out ?_
  case q20 => intro w hSw; have s1 := (hSw.cell (World.block_lt_of_cell? _ _ HX0c.out)).trans HX0c.out; go_simp; rfl
  simp only [Act.put, List.getElem_toArray, List.getElem_cons_zero, List.getElem_cons_succ, List.setIfInBounds_toArray, List.set_cons_zero, List.set_cons_succ]
  refine wpAnyH_take (i := 21) (v := .pointer (some ⟨b8, o8, none⟩)) rfl (by kernel_rfl) (by kernel_rfl) (by kernel_rfl) (fun _ _ _ h => h) (Or.inl ⟨by rfl, ?q21⟩) HS.out ?_
  case q21 => intro w hSw; have s1 := (hSw.cell (World.block_lt_of_cell? _ _ HX0c.out)).trans HX0c.out; go_simp
  simp only [Act.put, List.getElem_toArray, List.getElem_cons_zero, List.getElem_cons_succ, List.setIfInBounds_toArray, List.set_cons_zero, List.set_cons_succ]
  refine wpAnyH_take (i := 22) (v := .int .i64 2) rfl (by kernel_rfl) (by kernel_rfl) (by kernel_rfl) (fun _ _ _ h => h) (Or.inl ⟨by rfl, ?q22⟩) HS.out ?_
  case q22 => intro w hSw; have s1 := (hSw.cell (World.block_lt_of_cell? _ _ HX0c.out)).trans HX0c.out; go_simp
  simp only [Act.put, List.getElem_toArray, List.getElem_cons_zero, List.getElem_cons_succ, List.setIfInBounds_toArray, List.set_cons_zero, List.set_cons_succ]
  refine wpAnyH_take (i := 23) (v := .bool false) rfl (by kernel_rfl) (by kernel_rfl) (by kernel_rfl) (fun _ _ _ h => h) (Or.inl ⟨by rfl, ?q23⟩) HS.out ?_
  case q23 => intro w hSw; have s1 := (hSw.cell (World.block_lt_of_cell? _ _ HX0c.out)).trans HX0c.out; go_simp
  simp only [Act.put, List.getElem_toArray, List.getElem_cons_zero, List.getElem_cons_succ, List.setIfInBounds_toArray, List.set_cons_zero, List.set_cons_succ]
  refine wpAnyH_take (i := 24) (v := ?_) rfl (by kernel_rfl) (by kernel_rfl) (by kernel_rfl) (fun _ _ _ h => h) (Or.inl ⟨by rfl, ?q24⟩) HS.out ?_
  case q24 => intro w hSw; have s1 := (hSw.cell (World.block_lt_of_cell? _ _ HX0c.out)).trans HX0c.out; go_simp; rfl
  simp only [Act.put, List.getElem_toArray, List.getElem_cons_zero, List.getElem_cons_succ, List.setIfInBounds_toArray, List.set_cons_zero, List.set_cons_succ]
  refine wpAnyH_take (i := 25) (v := ?_) rfl (by kernel_rfl) (by kernel_rfl) (by kernel_rfl) (fun _ _ _ h => h) (Or.inl ⟨by rfl, ?q25⟩) HS.out ?_
  case q25 => intro w hSw; have s1 := (hSw.cell (World.block_lt_of_cell? _ _ HX0c.out)).trans HX0c.out; go_simp; rfl
  simp only [Act.put, List.getElem_toArray, List.getElem_cons_zero, List.getElem_cons_succ, List.setIfInBounds_toArray, List.set_cons_zero, List.set_cons_succ]
  refine wpAnyH_take (i := 26) (v := ?_) rfl (by kernel_rfl) (by kernel_rfl) (by kernel_rfl) (fun _ _ _ h => h) (Or.inl ⟨by rfl, ?q26⟩) HS.out ?_
  case q26 => intro w hSw; have s1 := (hSw.cell (World.block_lt_of_cell? _ _ HX0c.out)).trans HX0c.out; go_simp; rfl
  simp only [Act.put, List.getElem_toArray, List.getElem_cons_zero, List.getElem_cons_succ, List.setIfInBounds_toArray, List.set_cons_zero, List.set_cons_succ]
  refine wpAnyH_take (i := 27) (v := .bool false) rfl (by kernel_rfl) (by kernel_rfl) (by kernel_rfl) (fun _ _ _ h => h) (Or.inl ⟨by rfl, ?q27⟩) HS.out ?_
  case q27 => intro w hSw; have s1 := (hSw.cell (World.block_lt_of_cell? _ _ HX0c.out)).trans HX0c.out; go_simp
  simp only [Act.put, List.getElem_toArray, List.getElem_cons_zero, List.getElem_cons_succ, List.setIfInBounds_toArray, List.set_cons_zero, List.set_cons_succ]
  refine wpAnyH_take (i := 28) (v := ?_) rfl (by kernel_rfl) (by kernel_rfl) (by kernel_rfl) (fun _ _ _ h => h) (Or.inl ⟨by rfl, ?q28⟩) HS.out ?_
  case q28 => intro w hSw; have s1 := (hSw.cell (World.block_lt_of_cell? _ _ HX0c.out)).trans HX0c.out; go_simp; rfl
  simp only [Act.put, List.getElem_toArray, List.getElem_cons_zero, List.getElem_cons_succ, List.setIfInBounds_toArray, List.set_cons_zero, List.set_cons_succ]
  refine wpAnyH_take (i := 29) (v := ?_) rfl (by kernel_rfl) (by kernel_rfl) (by kernel_rfl) (fun _ _ _ h => h) (Or.inl ⟨by rfl, ?q29⟩) HS.out ?_
  case q29 => intro w hSw; have s1 := (hSw.cell (World.block_lt_of_cell? _ _ HX0c.out)).trans HX0c.out; go_simp; rfl
  simp only [Act.put, List.getElem_toArray, List.getElem_cons_zero, List.getElem_cons_succ, List.setIfInBounds_toArray, List.set_cons_zero, List.set_cons_succ]
  refine wpAnyH_take (i := 30) (v := ?_) rfl (by kernel_rfl) (by kernel_rfl) (by kernel_rfl) (fun _ _ _ h => h) (Or.inl ⟨by rfl, ?q30⟩) HS.out ?_
  case q30 => intro w hSw; have s1 := (hSw.cell (World.block_lt_of_cell? _ _ HX0c.out)).trans HX0c.out; go_simp; rfl
  simp only [Act.put, List.getElem_toArray, List.getElem_cons_zero, List.getElem_cons_succ, List.setIfInBounds_toArray, List.set_cons_zero, List.set_cons_succ]
  refine wpAnyH_take (i := 31) (v := .bool false) rfl (by kernel_rfl) (by kernel_rfl) (by kernel_rfl) (fun _ _ _ h => h) (Or.inl ⟨by rfl, ?q31⟩) HS.out ?_
  case q31 => intro w hSw; have s1 := (hSw.cell (World.block_lt_of_cell? _ _ HX0c.out)).trans HX0c.out; go_simp
  simp only [Act.put, List.getElem_toArray, List.getElem_cons_zero, List.getElem_cons_succ, List.setIfInBounds_toArray, List.set_cons_zero, List.set_cons_succ]
  refine wpAnyH_take (i := 32) (v := ?_) rfl (by kernel_rfl) (by kernel_rfl) (by kernel_rfl) (fun _ _ _ h => h) (Or.inl ⟨by rfl, ?q32⟩) HS.out ?_
  case q32 => intro w hSw; have s1 := (hSw.cell (World.block_lt_of_cell? _ _ HX0c.out)).trans HX0c.out; go_simp; rfl
  simp only [Act.put, List.getElem_toArray, List.getElem_cons_zero, List.getElem_cons_succ, List.setIfInBounds_toArray, List.set_cons_zero, List.set_cons_succ]
  refine wpAnyH_done (by kernel_rfl) ?_ _
  have HP18 := hid (HP17.out.below HS.out)
  have B18 := hid (B17.out.trans (HS.out.mono B17.out.size))
  clear hq HXp HX0 HX0b HX0c HS HLp
  have CC := hid (L9.out v9)
  go_wp2_with fail
  refine CC.out.mono ?_
  rintro e w19 ⟨rfl, hB⟩
  have HP19 := hid (HP18.out.below hB)
  have B19 := hid (B18.out.trans (hB.mono B18.out.size))
  clear hB CC
  obtain ⟨nn1, HNN1⟩ : ∃ x, Hid ((nc (7, l9)).toArray = x) := ⟨_, rfl⟩
  have hbn := fun w => run_build_node w 7 l9 D9.out
  rw [HC9.out, HNN1.out] at hbn
  have HBN1 := hid hbn
  clear hbn
  have hND : ∀ n ∈ [((7 : Int), l9)], Nd n := fun n hn => by
    simp only [List.mem_cons, List.not_mem_nil, or_false] at hn
    rcases hn with rfl
    · exact ⟨D9.out, by simp, by simp⟩
  have hlit := run_lit_nodes w19 [((7 : Int), l9)] hND (by simp) (by simp)
  simp only [List.length_cons, List.length_nil, Nat.zero_add, Nat.reduceAdd, List.map_cons, List.map_nil, List.zipIdx_cons, List.zipIdx_nil] at hlit
  rw [HNN1.out] at hlit
  obtain ⟨V20, hV20⟩ : ∃ W4, Hid (w19.alloc (.cells ([((7 : Int), l9)].flatMap nc).toArray 60) = W4) := ⟨_, rfl⟩
  rw [hV20.out] at hlit
  have HLIT20 := hid hlit
  have hB : Below w19.heap.size w19 V20 := by rw [← hV20.out]; exact (Below.refl _ w19).alloc (Nat.le_refl _) _
  have HV20 : Hid (HNd V20 (.slice (some ⟨w19.heap.size, 0, none⟩) 1 1) [((7 : Int), l9)]) := by
    refine HNd.of_block (ns := [((7 : Int), l9)]) ?_ hND (by simp)
    rw [← hV20.out]
    exact heap_alloc_new w19 _
  have HP20 := hid (HP19.out.below hB)
  have B20 := hid (B19.out.trans (hB.mono B19.out.size))
  clear hB hlit hND
  have CC := hid (put_any V20 g bm 3 4 (K34 r pd) _ [((7 : Int), l9)] HP20.out (by decide) (by decide) HV20.out (HKC.out.below (BL5.out.trans (B20.out.mono BL5.out.size))))
  unfold PutQ at CC
  rw [nm_other r pd l9 HNP9.out] at CC
  go_wp2_with (first | (refine wpList_build_run rfl 60 _ rfl #[(0, .int .i64 7), (1, .agg c9)] (by go_simp) _ (HBN1.out _) ?_) | (refine wpList_lit_run rfl 53 1 _ rfl #[(0, .agg nn1)] (by go_simp) _ _ HLIT20.out ?_) | fail)
  refine CC.out.mono ?_
  rintro e w21 ⟨rfl, hP, hG⟩
  have HP21 := hid hP
  have B21 := hid (B20.out.trans (pgrown_below hG hbm B20.out.size))
  clear hP hG CC
  have DZ : Hid (D32 zeros32) := ⟨zeros32_length, fun x hx => by have := (List.mem_replicate.1 hx).2; omega⟩
  obtain ⟨nn2, HNN2⟩ : ∃ x, Hid ((nc (8, zeros32)).toArray = x) := ⟨_, rfl⟩
  have hbn := fun w => run_build_at w 8
  rw [HNN2.out] at hbn
  have HBN2 := hid hbn
  clear hbn
  have hND : ∀ n ∈ [((8 : Int), zeros32)], Nd n := fun n hn => by
    simp only [List.mem_cons, List.not_mem_nil, or_false] at hn
    rcases hn with rfl
    · exact ⟨DZ.out, by simp, by simp⟩
  have hlit := run_lit_nodes w21 [((8 : Int), zeros32)] hND (by simp) (by simp)
  simp only [List.length_cons, List.length_nil, Nat.zero_add, Nat.reduceAdd, List.map_cons, List.map_nil, List.zipIdx_cons, List.zipIdx_nil] at hlit
  rw [HNN2.out] at hlit
  obtain ⟨V22, hV22⟩ : ∃ W4, Hid (w21.alloc (.cells ([((8 : Int), zeros32)].flatMap nc).toArray 60) = W4) := ⟨_, rfl⟩
  rw [hV22.out] at hlit
  have HLIT22 := hid hlit
  have hB : Below w21.heap.size w21 V22 := by rw [← hV22.out]; exact (Below.refl _ w21).alloc (Nat.le_refl _) _
  have HV22 : Hid (HNd V22 (.slice (some ⟨w21.heap.size, 0, none⟩) 1 1) [((8 : Int), zeros32)]) := by
    refine HNd.of_block (ns := [((8 : Int), zeros32)]) ?_ hND (by simp)
    rw [← hV22.out]
    exact heap_alloc_new w21 _
  have HP22 := hid (HP21.out.below hB)
  have B22 := hid (B21.out.trans (hB.mono B21.out.size))
  clear hB hlit hND
  have CC := hid (put_any V22 g bm 3 4 (K34 r pd) _ [((8 : Int), zeros32)] HP22.out (by decide) (by decide) HV22.out (HKC.out.below (BL5.out.trans (B22.out.mono BL5.out.size))))
  unfold PutQ at CC
  rw [nm_high] at CC
  go_wp2_with (first | (refine wpList_build_run_on rfl 60 _ rfl #[(0, .int .i64 8)] (by go_simp) _ (HBN2.out _) ?_) | (refine wpList_lit_run_on rfl 53 1 _ rfl #[(0, .agg nn2)] (by go_simp) _ _ HLIT22.out ?_) | fail)
  refine CC.out.mono ?_
  rintro e w23 ⟨rfl, hP, hG⟩
  have HP23 := hid hP
  have B23 := hid (B22.out.trans (pgrown_below hG hbm B22.out.size))
  clear hP hG CC
  obtain ⟨nn3, HNN3⟩ : ∃ x, Hid ((nc (0, zeros32)).toArray = x) := ⟨_, rfl⟩
  have hbn := fun w => run_build_at w 0
  rw [HNN3.out] at hbn
  have HBN3 := hid hbn
  clear hbn
  have hND : ∀ n ∈ [((0 : Int), zeros32)], Nd n := fun n hn => by
    simp only [List.mem_cons, List.not_mem_nil, or_false] at hn
    rcases hn with rfl
    · exact ⟨DZ.out, by simp, by simp⟩
  have hlit := run_lit_nodes w23 [((0 : Int), zeros32)] hND (by simp) (by simp)
  simp only [List.length_cons, List.length_nil, Nat.zero_add, Nat.reduceAdd, List.map_cons, List.map_nil, List.zipIdx_cons, List.zipIdx_nil] at hlit
  rw [HNN3.out] at hlit
  obtain ⟨V24, hV24⟩ : ∃ W4, Hid (w23.alloc (.cells ([((0 : Int), zeros32)].flatMap nc).toArray 60) = W4) := ⟨_, rfl⟩
  rw [hV24.out] at hlit
  have HLIT24 := hid hlit
  have hB : Below w23.heap.size w23 V24 := by rw [← hV24.out]; exact (Below.refl _ w23).alloc (Nat.le_refl _) _
  have HV24 : Hid (HNd V24 (.slice (some ⟨w23.heap.size, 0, none⟩) 1 1) [((0 : Int), zeros32)]) := by
    refine HNd.of_block (ns := [((0 : Int), zeros32)]) ?_ hND (by simp)
    rw [← hV24.out]
    exact heap_alloc_new w23 _
  have HP24 := hid (HP23.out.below hB)
  have B24 := hid (B23.out.trans (hB.mono B23.out.size))
  clear hB hlit hND
  have CC := hid (put_any V24 g bm 3 4 (K34 r pd) _ [((0 : Int), zeros32)] HP24.out (by decide) (by decide) HV24.out (HKC.out.below (BL5.out.trans (B24.out.mono BL5.out.size))))
  unfold PutQ at CC
  rw [nm_low] at CC
  go_wp2_with (first | (refine wpList_build_run_on rfl 60 _ rfl #[(0, .int .i64 0)] (by go_simp) _ (HBN3.out _) ?_) | (refine wpList_lit_run_on rfl 53 1 _ rfl #[(0, .agg nn3)] (by go_simp) _ _ HLIT24.out ?_) | fail)
  refine CC.out.mono ?_
  rintro e w25 ⟨rfl, hP, hG⟩
  have HP25 := hid hP
  have B25 := hid (B24.out.trans (pgrown_below hG hbm B24.out.size))
  clear hP hG CC
  have CC := hid (L0.out w25)
  go_wp2_with fail
  refine CC.out.mono ?_
  rintro e w26 ⟨rfl, hB⟩
  have HP26 := hid (HP25.out.below hB)
  have B26 := hid (B25.out.trans (hB.mono B25.out.size))
  clear hB CC
  obtain ⟨nn4, HNN4⟩ : ∃ x, Hid ((nc (4, a)).toArray = x) := ⟨_, rfl⟩
  have hbn := fun w => run_build_node w 4 a DA.out
  rw [HCA.out, HNN4.out] at hbn
  have HBN4 := hid hbn
  clear hbn
  have CC := hid (L1.out w26)
  go_wp2_with (first | (refine wpList_build_run rfl 60 _ rfl #[(0, .int .i64 4), (1, .agg ca)] (by go_simp) _ (HBN4.out _) ?_) | fail)
  refine CC.out.mono ?_
  rintro e w27 ⟨rfl, hB⟩
  have HP27 := hid (HP26.out.below hB)
  have B27 := hid (B26.out.trans (hB.mono B26.out.size))
  clear hB CC
  obtain ⟨nn5, HNN5⟩ : ∃ x, Hid ((nc (4, b)).toArray = x) := ⟨_, rfl⟩
  have hbn := fun w => run_build_node w 4 b DB.out
  rw [HCB.out, HNN5.out] at hbn
  have HBN5 := hid hbn
  clear hbn
  have hND : ∀ n ∈ [((4 : Int), a), ((4 : Int), b)], Nd n := fun n hn => by
    simp only [List.mem_cons, List.not_mem_nil, or_false] at hn
    rcases hn with rfl | rfl
    · exact ⟨DA.out, by simp, by simp⟩
    · exact ⟨DB.out, by simp, by simp⟩
  have hlit := run_lit_nodes w27 [((4 : Int), a), ((4 : Int), b)] hND (by simp) (by simp)
  simp only [List.length_cons, List.length_nil, Nat.zero_add, Nat.reduceAdd, List.map_cons, List.map_nil, List.zipIdx_cons, List.zipIdx_nil] at hlit
  rw [HNN4.out, HNN5.out] at hlit
  obtain ⟨V28, hV28⟩ : ∃ W4, Hid (w27.alloc (.cells ([((4 : Int), a), ((4 : Int), b)].flatMap nc).toArray 60) = W4) := ⟨_, rfl⟩
  rw [hV28.out] at hlit
  have HLIT28 := hid hlit
  have hB : Below w27.heap.size w27 V28 := by rw [← hV28.out]; exact (Below.refl _ w27).alloc (Nat.le_refl _) _
  have HV28 : Hid (HNd V28 (.slice (some ⟨w27.heap.size, 0, none⟩) 2 2) [((4 : Int), a), ((4 : Int), b)]) := by
    refine HNd.of_block (ns := [((4 : Int), a), ((4 : Int), b)]) ?_ hND (by simp)
    rw [← hV28.out]
    exact heap_alloc_new w27 _
  have HP28 := hid (HP27.out.below hB)
  have B28 := hid (B27.out.trans (hB.mono B27.out.size))
  clear hB hlit hND
  have CC := hid (put_any V28 g bm 3 4 (K34 r pd) _ [((4 : Int), a), ((4 : Int), b)] HP28.out (by decide) (by decide) HV28.out (HKC.out.below (BL5.out.trans (B28.out.mono BL5.out.size))))
  unfold PutQ at CC
  rw [nm_twice r pd a b HNAB.out] at CC
  go_wp2_with (first | (refine wpList_build_run rfl 60 _ rfl #[(0, .int .i64 4), (1, .agg cb)] (by go_simp) _ (HBN5.out _) ?_) | (refine wpList_lit_run rfl 53 2 _ rfl #[(0, .agg nn4), (1, .agg nn5)] (by go_simp) _ _ HLIT28.out ?_) | fail)
  refine CC.out.mono ?_
  rintro e w29 ⟨rfl, hP, hG⟩
  have HP29 := hid hP
  have B29 := hid (B28.out.trans (pgrown_below hG hbm B28.out.size))
  clear hP hG CC
  have CC := hid (put_any w29 g bm 3 4 (K34 r pd) _ [] HP29.out (by decide) (by decide) (show HNd w29 (.slice none 0 0) [] from ⟨⟨none, 0, rfl, Nat.le_refl _, Nat.zero_le _, fun h => absurd rfl h⟩, fun n hn => by cases hn⟩) (HKC.out.below (BL5.out.trans (B29.out.mono BL5.out.size))))
  unfold PutQ at CC
  rw [nm_nil r pd] at CC
  go_wp2_with fail
  refine CC.out.mono ?_
  rintro e w30 ⟨rfl, hP, hG⟩
  have HP30 := hid hP
  have B30 := hid (B29.out.trans (pgrown_below hG hbm B29.out.size))
  clear hP hG CC
  rw [show 2 * 32 = 64 from rfl] at R2
  obtain ⟨nn6, HNN6⟩ : ∃ x, Hid ((nc (4, a)).toArray = x) := ⟨_, rfl⟩
  have hbn := fun w => run_build_node w 4 a DA.out
  rw [HCA.out, HNN6.out] at hbn
  have HBN6 := hid hbn
  clear hbn
  obtain ⟨nn7, HNN7⟩ : ∃ x, Hid ((nc (5, b)).toArray = x) := ⟨_, rfl⟩
  have hbn := fun w => run_build_node w 5 b DB.out
  rw [HCB.out, HNN7.out] at hbn
  have HBN7 := hid hbn
  clear hbn
  obtain ⟨nn8, HNN8⟩ : ∃ x, Hid ((nc (3, n67)).toArray = x) := ⟨_, rfl⟩
  have hbn := fun w => run_build_node w 3 n67 Dn.out
  rw [HCN.out, HNN8.out] at hbn
  have HBN8 := hid hbn
  clear hbn
  have HND3 : Hid (∀ n ∈ [((4 : Int), a), ((5 : Int), b), ((3 : Int), n67)], Nd n) := fun n hn => by
    simp only [List.mem_cons, List.not_mem_nil, or_false] at hn
    rcases hn with rfl | rfl | rfl
    · exact ⟨DA.out, by simp, by simp⟩
    · exact ⟨DB.out, by simp, by simp⟩
    · exact ⟨Dn.out, by simp, by simp⟩
  have HLT : Hid (∀ w, (Instr.buildSlice 53 3 #[(0, .agg nn6), (1, .agg nn7), (2, .agg nn8)]).run Tryd.prog w = .ok (.slice (some ⟨w.heap.size, 0, none⟩) 3 3) (w.alloc (.cells ([((4 : Int), a), ((5 : Int), b), ((3 : Int), n67)].flatMap nc).toArray 60))) := fun w => by
    have hlit := run_lit_nodes w [((4 : Int), a), ((5 : Int), b), ((3 : Int), n67)] HND3.out (by simp) (by simp)
    simp only [List.length_cons, List.length_nil, Nat.zero_add, Nat.reduceAdd, List.map_cons, List.map_nil, List.zipIdx_cons, List.zipIdx_nil] at hlit
    rw [HNN6.out, HNN7.out, HNN8.out] at hlit
    exact hlit
  go_wp2
  refine wp_region_held_drew (S := Below w5.heap.size w5) (by kernel_rfl) B30.out.drew (fun hHeld => ?_)
  have HS := hid hHeld
  clear hHeld
  change wpAnyH _ _ _ _ _ _ _ _ (World.drew _)
  refine wpAnyH_take (i := 0) (v := ?_) rfl (by kernel_rfl) (by kernel_rfl) (by kernel_rfl) (fun _ _ _ h => h) (Or.inl ⟨by rfl, ?q0⟩) HS.out ?_
  case q0 => intro w hSw; go_simp; rfl
  simp only [Act.put, List.getElem_toArray, List.getElem_cons_zero, List.getElem_cons_succ, List.setIfInBounds_toArray, List.set_cons_zero, List.set_cons_succ]
  refine wpAnyH_take (i := 5) (v := ?_) rfl (by kernel_rfl) (by kernel_rfl) (by kernel_rfl) (fun _ _ _ h => h) (Or.inl ⟨by rfl, ?q5⟩) HS.out ?_
  case q5 => intro w hSw; go_simp; rfl
  simp only [Act.put, List.getElem_toArray, List.getElem_cons_zero, List.getElem_cons_succ, List.setIfInBounds_toArray, List.set_cons_zero, List.set_cons_succ]
  refine wpAnyH_take (i := 6) (v := .pointer (some ⟨gN, 64, none⟩)) rfl (by kernel_rfl) (by kernel_rfl) (by kernel_rfl) (fun _ _ _ h => h) (Or.inl ⟨by rfl, ?q6⟩) HS.out ?_
  case q6 => intro w hSw; go_simp
  simp only [Act.put, List.getElem_toArray, List.getElem_cons_zero, List.getElem_cons_succ, List.setIfInBounds_toArray, List.set_cons_zero, List.set_cons_succ]
  refine wpAnyH_take (i := 7) rfl (by kernel_rfl) (by kernel_rfl) (by kernel_rfl) (fun _ _ _ h => h) (yieldsIf_load_mid (by rfl) 28 _ rfl gN 64 rfl (dc n67) _ (fun W hW => range_below R2.out hW hgl) Tryd.underlying28 rfl HSn.out) HS.out ?_
  simp only [Act.put, List.getElem_toArray, List.getElem_cons_zero, List.getElem_cons_succ, List.setIfInBounds_toArray, List.set_cons_zero, List.set_cons_succ]
  rw [dc_arr, HCN.out]
  refine wpAnyH_take (i := 8) rfl (by kernel_rfl) (by kernel_rfl) (by kernel_rfl) (fun _ _ _ h => h) (yieldsIf_build (by rfl) 60 _ rfl #[(0, .int .i64 3), (1, .agg cn)] (by go_simp) (.agg nn8) HBN8.out) HS.out ?_
  simp only [Act.put, List.getElem_toArray, List.getElem_cons_zero, List.getElem_cons_succ, List.setIfInBounds_toArray, List.set_cons_zero, List.set_cons_succ]
  refine wpAnyH_ready (rs := [1]) (by kernel_rfl) (by simp) ?_
  refine AllReadyH.cons rfl (fun K hK => ?_) AllReadyH.nil
  go_simp
  refine (L0.out _).mono ?_
  rintro e u1 ⟨rfl, hB⟩
  have HPu1 := hid ((show HPf w30.drew g bm 3 4 (K34 r pd) from HP30.out.of rfl rfl).below hB)
  have HS1 := hid (HS.out.trans (hB.mono HS.out.size))
  clear hB
  refine hK.out _ _ HS1.out (fun _ => ?_)
  clear hK K
  have HS := hid HS1.out
  refine wpAnyH_take (i := 2) rfl (by kernel_rfl) (by kernel_rfl) (by kernel_rfl) (fun _ _ _ h => h) (yieldsIf_build (by rfl) 60 _ rfl #[(0, .int .i64 4), (1, .agg ca)] (by go_simp) (.agg nn6) HBN6.out) HS.out ?_
  simp only [Act.put, List.getElem_toArray, List.getElem_cons_zero, List.getElem_cons_succ, List.setIfInBounds_toArray, List.set_cons_zero, List.set_cons_succ]
  refine wpAnyH_ready (rs := [3]) (by kernel_rfl) (by simp) ?_
  refine AllReadyH.cons rfl (fun K hK => ?_) AllReadyH.nil
  go_simp
  refine (L1.out _).mono ?_
  rintro e u2 ⟨rfl, hB⟩
  have HPu2 := hid (HPu1.out.below hB)
  have HS2 := hid (HS.out.trans (hB.mono HS.out.size))
  clear hB
  refine hK.out _ _ HS2.out (fun _ => ?_)
  clear hK K
  have HS := hid HS2.out
  refine wpAnyH_take (i := 4) rfl (by kernel_rfl) (by kernel_rfl) (by kernel_rfl) (fun _ _ _ h => h) (yieldsIf_build (by rfl) 60 _ rfl #[(0, .int .i64 5), (1, .agg cb)] (by go_simp) (.agg nn7) HBN7.out) HS.out ?_
  simp only [Act.put, List.getElem_toArray, List.getElem_cons_zero, List.getElem_cons_succ, List.setIfInBounds_toArray, List.set_cons_zero, List.set_cons_succ]
  refine wpAnyH_ready (rs := [9]) (by kernel_rfl) (by simp) ?_
  refine AllReadyH.cons rfl (fun K hK => ?_) AllReadyH.nil
  have hlit := HLT.out u2
  obtain ⟨U3, hU3⟩ : ∃ W4, Hid (u2.alloc (.cells ([((4 : Int), a), ((5 : Int), b), ((3 : Int), n67)].flatMap nc).toArray 60) = W4) := ⟨_, rfl⟩
  rw [hU3.out] at hlit
  refine wp_lit_run 53 3 _ rfl #[(0, .agg nn6), (1, .agg nn7), (2, .agg nn8)] (by go_simp) _ _ hlit ?_
  have hB : Below u2.heap.size u2 U3 := by rw [← hU3.out]; exact (Below.refl _ u2).alloc (Nat.le_refl _) _
  have HPu3 := hid (HPu2.out.below hB)
  have HS3 := hid (HS.out.trans (hB.mono HS.out.size))
  clear hB
  refine hK.out _ _ HS3.out (fun _ => ?_)
  clear hK K
  clear hlit
  have HS := hid HS3.out
  have HVu3 : Hid (HNd U3 (.slice (some ⟨u2.heap.size, 0, none⟩) 3 3) [((4 : Int), a), ((5 : Int), b), ((3 : Int), n67)]) := by
    refine HNd.of_block (ns := [((4 : Int), a), ((5 : Int), b), ((3 : Int), n67)]) ?_ HND3.out (by simp)
    rw [← hU3.out]
    exact heap_alloc_new u2 _
  have CP := hid (put_any U3 g bm 3 4 (K34 r pd) _ [((4 : Int), a), ((5 : Int), b), ((3 : Int), n67)] HPu3.out (by decide) (by decide) HVu3.out (HKC.out.below (BL5.out.trans (HS3.out.mono BL5.out.size))))
  unfold PutQ at CP
  rw [nm_ok r pd a b n67 n45 HN45.out.symm HR.out.symm] at CP
  refine wpAnyH_ready (rs := [10]) (by kernel_rfl) (by simp) ?_
  refine AllReadyH.cons rfl (fun K hK => ?_) AllReadyH.nil
  go_simp
  refine CP.out.mono ?_
  rintro e u4 ⟨rfl, hP, hG⟩
  have HPu4 := hid hP
  have HS4 := hid (HS.out.trans (pgrown_below hG hbm HS.out.size))
  clear hP hG CP
  refine hK.out _ _ HS4.out (fun _ => ?_)
  clear hK K
  have HS := hid HS4.out
  refine wpAnyH_take (i := 11) (v := .bool false) rfl (by kernel_rfl) (by kernel_rfl) (by kernel_rfl) (fun _ _ _ h => h) (Or.inl ⟨by rfl, ?q11⟩) HS.out ?_
  case q11 => intro w hSw; go_simp
  simp only [Act.put, List.getElem_toArray, List.getElem_cons_zero, List.getElem_cons_succ, List.setIfInBounds_toArray, List.set_cons_zero, List.set_cons_succ]
  refine wpAnyH_done (by kernel_rfl) ?_ _
  have CC := hid (kn_any u4 g bm 3 4 (K34c r pd a b n67 n45) HPu4.out 6)
  rw [show kAt (K34c r pd a b n67 n45) 6 = zeros32 from rfl, show kIs (K34c r pd a b n67 n45) 6 = false from rfl, HZD.out] at CC
  go_wp2_with fail
  refine CC.out.mono ?_
  rintro e w31 ⟨rfl, hB⟩
  have HP31 := hid (HPu4.out.below hB)
  have B31 := hid (HS4.out.trans (hB.mono HS4.out.size))
  clear hB CC
  obtain ⟨V32, hV32⟩ : ∃ V, Hid (w31.alloc (.cells zd 28) = V) := ⟨_, rfl⟩
  have hB : Below w31.heap.size w31 V32 := by rw [← hV32.out]; exact (Below.refl _ w31).alloc (Nat.le_refl _) _
  have HP32 := hid (HP31.out.below hB)
  have B32 := hid (B31.out.trans (hB.mono B31.out.size))
  clear hB
  have CC := hid (pch_ok V32 g bm 3 2 (K34c r pd a b n67 n45) HP32.out (by decide) (by decide) rfl (by decide) 0 (by decide))
  rw [show ((0 : Nat) : Int) = (0 : Int) from rfl] at CC
  go_wp2_with (first | (refine wpList_alloc_digest rfl rfl ?_; rw [HZD.out]) | (refine wpList_store_row rfl 28 _ _ rfl w31.heap.size zd rfl rfl 28 zd (heap_alloc_new w31 _) SZ.out rfl OZ.out ?_; rw [setRow_alloc_new', hV32.out]) | fail)
  refine CC.out.mono ?_
  rintro e w33 (⟨hn, _⟩ | ⟨_, vc, rfl, hvc, hB⟩)
  case inl => cases hn
  rw [show chL 2 (wdN 3 + 0) = chL 2 (4 + 0) from rfl, nm_chain] at hvc
  have HP33 := hid (HP32.out.below hB)
  have B33 := hid (B32.out.trans (hB.mono B32.out.size))
  clear hB CC
  obtain ⟨pc, kc, rfl, _, _, h4⟩ := hvc.open
  obtain ⟨bc, oc, rfl, hbc, hrg⟩ := h4 (by simp)
  have Rc0 : Hid (w33.rangeAt bc oc (nc (5, b))) := by have := hrg 0 (by simp); rw [Nat.zero_mul, Nat.add_zero] at this; exact this
  have Rc1 : Hid (w33.rangeAt bc (oc + 33) (nc (3, n67))) := by have := hrg 1 (by simp); rw [Nat.one_mul] at this; exact this
  have HBC := hid hbc
  simp only [List.length_cons, List.length_nil, Nat.zero_add, Nat.reduceAdd]
  clear hrg h4 hvc hbc
  obtain ⟨nn9, HNN9⟩ : ∃ x, Hid ((nc (5, b)).toArray = x) := ⟨_, rfl⟩
  have hbn := fun w => run_build_node w 5 b DB.out
  rw [HCB.out, HNN9.out] at hbn
  have HBN9 := hid hbn
  clear hbn
  obtain ⟨nn10, HNN10⟩ : ∃ x, Hid ((nc (3, n67)).toArray = x) := ⟨_, rfl⟩
  have hbn := fun w => run_build_node w 3 n67 Dn.out
  rw [HCN.out, HNN10.out] at hbn
  have HBN10 := hid hbn
  clear hbn
  have N5 : Hid (Nd (5, b)) := ⟨DB.out, by simp, by simp⟩
  have N3 : Hid (Nd (3, n67)) := ⟨Dn.out, by simp, by simp⟩
  have hq1 := fun w => run_neq_node w (5, b) (5, b) N5.out N5.out
  have hq2 := fun w => run_neq_node w (3, n67) (3, n67) N3.out N3.out
  rw [HNN9.out, decide_eq_true rfl] at hq1
  rw [HNN10.out, decide_eq_true rfl] at hq2
  have R2C := hid (range_below R2.out B33.out hgl)
  have HGC : Hid (gN < w33.heap.size) := Nat.lt_of_lt_of_le hgl B33.out.size
  go_wp2
  refine wp_region_held_drew (S := Below w33.heap.size w33) (by kernel_rfl) (Below.refl _ _).drew (fun hHeld => ?_)
  have HS := hid hHeld
  clear hHeld
  change wpAnyH _ _ _ _ _ _ _ _ (World.drew _)
  refine wpAnyH_take (i := 0) (v := ?_) rfl (by kernel_rfl) (by kernel_rfl) (by kernel_rfl) (fun _ _ _ h => h) (Or.inl ⟨by rfl, ?q0⟩) HS.out ?_
  case q0 => intro w hSw; go_simp; rfl
  simp only [Act.put, List.getElem_toArray, List.getElem_cons_zero, List.getElem_cons_succ, List.setIfInBounds_toArray, List.set_cons_zero, List.set_cons_succ]
  refine wpAnyH_take (i := 1) (v := ?_) rfl (by kernel_rfl) (by kernel_rfl) (by kernel_rfl) (fun _ _ _ h => h) (Or.inl ⟨by rfl, ?q1⟩) HS.out ?_
  case q1 => intro w hSw; go_simp; rfl
  simp only [Act.put, List.getElem_toArray, List.getElem_cons_zero, List.getElem_cons_succ, List.setIfInBounds_toArray, List.set_cons_zero, List.set_cons_succ]
  refine wpAnyH_take (i := 2) (v := ?_) rfl (by kernel_rfl) (by kernel_rfl) (by kernel_rfl) (fun _ _ _ h => h) (Or.inl ⟨by rfl, ?q2⟩) HS.out ?_
  case q2 => intro w hSw; go_simp; rfl
  simp only [Act.put, List.getElem_toArray, List.getElem_cons_zero, List.getElem_cons_succ, List.setIfInBounds_toArray, List.set_cons_zero, List.set_cons_succ]
  refine wpAnyH_take (i := 3) (v := .bool false) rfl (by kernel_rfl) (by kernel_rfl) (by kernel_rfl) (fun _ _ _ h => h) (Or.inl ⟨by rfl, ?q3⟩) HS.out ?_
  case q3 => intro w hSw; go_simp
  simp only [Act.put, List.getElem_toArray, List.getElem_cons_zero, List.getElem_cons_succ, List.setIfInBounds_toArray, List.set_cons_zero, List.set_cons_succ]
  refine wpAnyH_take (i := 4) (v := ?_) rfl (by kernel_rfl) (by kernel_rfl) (by kernel_rfl) (fun _ _ _ h => h) (Or.inl ⟨by rfl, ?q4⟩) HS.out ?_
  case q4 => intro w hSw; go_simp; rfl
  simp only [Act.put, List.getElem_toArray, List.getElem_cons_zero, List.getElem_cons_succ, List.setIfInBounds_toArray, List.set_cons_zero, List.set_cons_succ]
  refine wpAnyH_take (i := 5) (v := ?_) rfl (by kernel_rfl) (by kernel_rfl) (by kernel_rfl) (fun _ _ _ h => h) (Or.inl ⟨by rfl, ?q5⟩) HS.out ?_
  case q5 => intro w hSw; go_simp; rfl
  simp only [Act.put, List.getElem_toArray, List.getElem_cons_zero, List.getElem_cons_succ, List.setIfInBounds_toArray, List.set_cons_zero, List.set_cons_succ]
  refine wpAnyH_take (i := 6) (v := ?_) rfl (by kernel_rfl) (by kernel_rfl) (by kernel_rfl) (fun _ _ _ h => h) (Or.inl ⟨by rfl, ?q6⟩) HS.out ?_
  case q6 => intro w hSw; go_simp; rfl
  simp only [Act.put, List.getElem_toArray, List.getElem_cons_zero, List.getElem_cons_succ, List.setIfInBounds_toArray, List.set_cons_zero, List.set_cons_succ]
  refine wpAnyH_take (i := 7) (v := .int .i64 2) rfl (by kernel_rfl) (by kernel_rfl) (by kernel_rfl) (fun _ _ _ h => h) (Or.inl ⟨by rfl, ?q7⟩) HS.out ?_
  case q7 => intro w hSw; go_simp
  simp only [Act.put, List.getElem_toArray, List.getElem_cons_zero, List.getElem_cons_succ, List.setIfInBounds_toArray, List.set_cons_zero, List.set_cons_succ]
  refine wpAnyH_take (i := 8) (v := .bool false) rfl (by kernel_rfl) (by kernel_rfl) (by kernel_rfl) (fun _ _ _ h => h) (Or.inl ⟨by rfl, ?q8⟩) HS.out ?_
  case q8 => intro w hSw; go_simp
  simp only [Act.put, List.getElem_toArray, List.getElem_cons_zero, List.getElem_cons_succ, List.setIfInBounds_toArray, List.set_cons_zero, List.set_cons_succ]
  refine wpAnyH_take (i := 9) (v := ?_) rfl (by kernel_rfl) (by kernel_rfl) (by kernel_rfl) (fun _ _ _ h => h) (Or.inl ⟨by rfl, ?q9⟩) HS.out ?_
  case q9 => intro w hSw; go_simp; rfl
  simp only [Act.put, List.getElem_toArray, List.getElem_cons_zero, List.getElem_cons_succ, List.setIfInBounds_toArray, List.set_cons_zero, List.set_cons_succ]
  refine wpAnyH_take (i := 10) (v := ?_) rfl (by kernel_rfl) (by kernel_rfl) (by kernel_rfl) (fun _ _ _ h => h) (Or.inl ⟨by rfl, ?q10⟩) HS.out ?_
  case q10 => intro w hSw; go_simp; rfl
  simp only [Act.put, List.getElem_toArray, List.getElem_cons_zero, List.getElem_cons_succ, List.setIfInBounds_toArray, List.set_cons_zero, List.set_cons_succ]
  refine wpAnyH_take (i := 11) (v := ?_) rfl (by kernel_rfl) (by kernel_rfl) (by kernel_rfl) (fun _ _ _ h => h) (Or.inl ⟨by rfl, ?q11⟩) HS.out ?_
  case q11 => intro w hSw; go_simp; rfl
  simp only [Act.put, List.getElem_toArray, List.getElem_cons_zero, List.getElem_cons_succ, List.setIfInBounds_toArray, List.set_cons_zero, List.set_cons_succ]
  refine wpAnyH_take (i := 12) (v := .pointer (some ⟨bc, oc, none⟩)) rfl (by kernel_rfl) (by kernel_rfl) (by kernel_rfl) (fun _ _ _ h => h) (Or.inl ⟨by rfl, ?q12⟩) HS.out ?_
  case q12 => intro w hSw; go_simp
  simp only [Act.put, List.getElem_toArray, List.getElem_cons_zero, List.getElem_cons_succ, List.setIfInBounds_toArray, List.set_cons_zero, List.set_cons_succ]
  refine wpAnyH_take (i := 13) rfl (by kernel_rfl) (by kernel_rfl) (by kernel_rfl) (fun _ _ _ h => h) (yieldsIf_load_mid (by rfl) 60 _ rfl bc oc rfl (nc (5, b)) _ (fun W hW => range_below Rc0.out hW HBC.out) Tryd.underlying60 rfl (size_nd N5.out)) HS.out ?_
  simp only [Act.put, List.getElem_toArray, List.getElem_cons_zero, List.getElem_cons_succ, List.setIfInBounds_toArray, List.set_cons_zero, List.set_cons_succ]
  rw [HNN9.out]
  refine wpAnyH_ready (rs := [14]) (by kernel_rfl) (by simp) ?_
  refine AllReadyH.cons rfl (fun K hK => ?_) AllReadyH.nil
  go_simp
  refine (L1.out _).mono ?_
  rintro e y1 ⟨rfl, hB9⟩
  have HS9 := hid (HS.out.trans (hB9.mono HS.out.size))
  clear hB9
  refine hK.out _ _ HS9.out (fun _ => ?_)
  clear hK K
  have HS := hid HS9.out
  clear HS9
  refine wpAnyH_take (i := 15) rfl (by kernel_rfl) (by kernel_rfl) (by kernel_rfl) (fun _ _ _ h => h) (yieldsIf_build (by rfl) 60 _ rfl #[(0, .int .i64 5), (1, .agg cb)] (by go_simp) (.agg nn9) HBN9.out) HS.out ?_
  simp only [Act.put, List.getElem_toArray, List.getElem_cons_zero, List.getElem_cons_succ, List.setIfInBounds_toArray, List.set_cons_zero, List.set_cons_succ]
  refine wpAnyH_take (i := 16) (v := .bool false) rfl (by kernel_rfl) (by kernel_rfl) (by kernel_rfl) (fun _ _ _ h => h) (Or.inl ⟨by rfl, ?q16⟩) HS.out ?_
  case q16 => intro w hSw; go_simp
  simp only [Act.put, List.getElem_toArray, List.getElem_cons_zero, List.getElem_cons_succ, List.setIfInBounds_toArray, List.set_cons_zero, List.set_cons_succ]
  refine wpAnyH_take (i := 17) (v := ?_) rfl (by kernel_rfl) (by kernel_rfl) (by kernel_rfl) (fun _ _ _ h => h) (Or.inl ⟨by rfl, ?q17⟩) HS.out ?_
  case q17 => intro w hSw; go_simp; rfl
  simp only [Act.put, List.getElem_toArray, List.getElem_cons_zero, List.getElem_cons_succ, List.setIfInBounds_toArray, List.set_cons_zero, List.set_cons_succ]
  refine wpAnyH_take (i := 18) (v := ?_) rfl (by kernel_rfl) (by kernel_rfl) (by kernel_rfl) (fun _ _ _ h => h) (Or.inl ⟨by rfl, ?q18⟩) HS.out ?_
  case q18 => intro w hSw; go_simp; rfl
  simp only [Act.put, List.getElem_toArray, List.getElem_cons_zero, List.getElem_cons_succ, List.setIfInBounds_toArray, List.set_cons_zero, List.set_cons_succ]
  refine wpAnyH_take (i := 19) (v := ?_) rfl (by kernel_rfl) (by kernel_rfl) (by kernel_rfl) (fun _ _ _ h => h) (Or.inl ⟨by rfl, ?q19⟩) HS.out ?_
  case q19 => intro w hSw; go_simp; rfl
  simp only [Act.put, List.getElem_toArray, List.getElem_cons_zero, List.getElem_cons_succ, List.setIfInBounds_toArray, List.set_cons_zero, List.set_cons_succ]
  refine wpAnyH_take (i := 20) (v := .pointer (some ⟨bc, oc + 33, none⟩)) rfl (by kernel_rfl) (by kernel_rfl) (by kernel_rfl) (fun _ _ _ h => h) (Or.inl ⟨by rfl, ?q20⟩) HS.out ?_
  case q20 => intro w hSw; go_simp
  simp only [Act.put, List.getElem_toArray, List.getElem_cons_zero, List.getElem_cons_succ, List.setIfInBounds_toArray, List.set_cons_zero, List.set_cons_succ]
  refine wpAnyH_take (i := 21) rfl (by kernel_rfl) (by kernel_rfl) (by kernel_rfl) (fun _ _ _ h => h) (yieldsIf_load_mid (by rfl) 60 _ rfl bc (oc + 33) rfl (nc (3, n67)) _ (fun W hW => range_below Rc1.out hW HBC.out) Tryd.underlying60 rfl (size_nd N3.out)) HS.out ?_
  simp only [Act.put, List.getElem_toArray, List.getElem_cons_zero, List.getElem_cons_succ, List.setIfInBounds_toArray, List.set_cons_zero, List.set_cons_succ]
  rw [HNN10.out]
  refine wpAnyH_take (i := 22) (v := ?_) rfl (by kernel_rfl) (by kernel_rfl) (by kernel_rfl) (fun _ _ _ h => h) (Or.inl ⟨by rfl, ?q22⟩) HS.out ?_
  case q22 => intro w hSw; go_simp; rfl
  simp only [Act.put, List.getElem_toArray, List.getElem_cons_zero, List.getElem_cons_succ, List.setIfInBounds_toArray, List.set_cons_zero, List.set_cons_succ]
  refine wpAnyH_take (i := 23) (v := .pointer (some ⟨gN, 64, none⟩)) rfl (by kernel_rfl) (by kernel_rfl) (by kernel_rfl) (fun _ _ _ h => h) (Or.inl ⟨by rfl, ?q23⟩) HS.out ?_
  case q23 => intro w hSw; go_simp
  simp only [Act.put, List.getElem_toArray, List.getElem_cons_zero, List.getElem_cons_succ, List.setIfInBounds_toArray, List.set_cons_zero, List.set_cons_succ]
  refine wpAnyH_take (i := 24) rfl (by kernel_rfl) (by kernel_rfl) (by kernel_rfl) (fun _ _ _ h => h) (yieldsIf_load_mid (by rfl) 28 _ rfl gN 64 rfl (dc n67) _ (fun W hW => range_below R2C.out hW HGC.out) Tryd.underlying28 rfl HSn.out) HS.out ?_
  simp only [Act.put, List.getElem_toArray, List.getElem_cons_zero, List.getElem_cons_succ, List.setIfInBounds_toArray, List.set_cons_zero, List.set_cons_succ]
  rw [dc_arr, HCN.out]
  refine wpAnyH_take (i := 25) rfl (by kernel_rfl) (by kernel_rfl) (by kernel_rfl) (fun _ _ _ h => h) (yieldsIf_build (by rfl) 60 _ rfl #[(0, .int .i64 3), (1, .agg cn)] (by go_simp) (.agg nn10) HBN10.out) HS.out ?_
  simp only [Act.put, List.getElem_toArray, List.getElem_cons_zero, List.getElem_cons_succ, List.setIfInBounds_toArray, List.set_cons_zero, List.set_cons_succ]
  refine wpAnyH_take (i := 26) (v := .bool false) rfl (by kernel_rfl) (by kernel_rfl) (by kernel_rfl) (fun _ _ _ h => h) (Or.inl ⟨by rfl, ?q26⟩) HS.out ?_
  case q26 => intro w hSw; go_simp
  simp only [Act.put, List.getElem_toArray, List.getElem_cons_zero, List.getElem_cons_succ, List.setIfInBounds_toArray, List.set_cons_zero, List.set_cons_succ]
  refine wpAnyH_take (i := 27) (v := ?_) rfl (by kernel_rfl) (by kernel_rfl) (by kernel_rfl) (fun _ _ _ h => h) (Or.inl ⟨by rfl, ?q27⟩) HS.out ?_
  case q27 => intro w hSw; go_simp; rfl
  simp only [Act.put, List.getElem_toArray, List.getElem_cons_zero, List.getElem_cons_succ, List.setIfInBounds_toArray, List.set_cons_zero, List.set_cons_succ]
  refine wpAnyH_done (by kernel_rfl) ?_ _
  have HP34 := hid (HP33.out.below HS.out)
  have B34 := hid (B33.out.trans (HS.out.mono B33.out.size))
  clear hq1 hq2 HS Rc0 Rc1 HBC R2C HGC
  have CC := hid (L5.out y1)
  go_wp2_with fail
  refine CC.out.mono ?_
  rintro e w35 ⟨rfl, hB⟩
  have HP35 := hid (HP34.out.below hB)
  have B35 := hid (B34.out.trans (hB.mono B34.out.size))
  clear hB CC
  have CC := hid (pnew_ok w35 1 l5 D5.out (by decide) (by decide) (HKC.out.below (BL5.out.trans (B35.out.mono BL5.out.size))))
  rw [show ((1 : Nat) : Int) = (1 : Int) from rfl, HC5.out] at CC
  go_wp2_with fail
  refine CC.out.mono ?_
  rintro e w36 (⟨hbad, _⟩ | ⟨L, g2, bm2, hL, hL1, hL2, rfl, hg2, hbm2, hPq, hB⟩)
  case inl => exact absurd ⟨by decide, by decide⟩ hbad
  obtain rfl : L = 1 := by omega
  rw [show wdN 1 = 1 from rfl, newF11] at hPq
  have HPQ := hid hPq
  have hbmq : w5.heap.size ≤ bm2 := Nat.le_trans B35.out.size hbm2
  have HP36 := hid (HP35.out.below hB)
  have B36 := hid (B35.out.trans (hB.mono B35.out.size))
  clear hPq hL hL1 hL2 hg2 hbm2
  clear hB CC
  have CC := hid (wh_any w36 g2 bm2 1 1 (K11 l5) HPQ.out (by decide) (fun k hk => if_neg (by omega)))
  rw [show decide ((cntK (K11 l5) (2 * 1) : Int) = 2 * ((1 : Nat) : Int) - 1) = true from by rw [show 2 * 1 = 2 from rfl, nm_cnt1]; rfl] at CC
  go_wp2_with fail
  refine CC.out.mono ?_
  rintro e w37 ⟨rfl, hB⟩
  have HP37 := hid (HPQ.out.below hB)
  have B37 := hid (B36.out.trans (hB.mono B36.out.size))
  clear hB CC
  have CC := hid (L5.out w37)
  go_wp2_with fail
  refine CC.out.mono ?_
  rintro e w38 ⟨rfl, hB⟩
  have HP38 := hid (HP37.out.below hB)
  have B38 := hid (B37.out.trans (hB.mono B37.out.size))
  clear hB CC
  obtain ⟨nn11, HNN11⟩ : ∃ x, Hid ((nc (1, l5)).toArray = x) := ⟨_, rfl⟩
  have hbn := fun w => run_build_node w 1 l5 D5.out
  rw [HC5.out, HNN11.out] at hbn
  have HBN11 := hid hbn
  clear hbn
  have hND : ∀ n ∈ [((1 : Int), l5)], Nd n := fun n hn => by
    simp only [List.mem_cons, List.not_mem_nil, or_false] at hn
    rcases hn with rfl
    · exact ⟨D5.out, by simp, by simp⟩
  have hlit := run_lit_nodes w38 [((1 : Int), l5)] hND (by simp) (by simp)
  simp only [List.length_cons, List.length_nil, Nat.zero_add, Nat.reduceAdd, List.map_cons, List.map_nil, List.zipIdx_cons, List.zipIdx_nil] at hlit
  rw [HNN11.out] at hlit
  obtain ⟨V39, hV39⟩ : ∃ W4, Hid (w38.alloc (.cells ([((1 : Int), l5)].flatMap nc).toArray 60) = W4) := ⟨_, rfl⟩
  rw [hV39.out] at hlit
  have HLIT39 := hid hlit
  have hB : Below w38.heap.size w38 V39 := by rw [← hV39.out]; exact (Below.refl _ w38).alloc (Nat.le_refl _) _
  have HV39 : Hid (HNd V39 (.slice (some ⟨w38.heap.size, 0, none⟩) 1 1) [((1 : Int), l5)]) := by
    refine HNd.of_block (ns := [((1 : Int), l5)]) ?_ hND (by simp)
    rw [← hV39.out]
    exact heap_alloc_new w38 _
  have HP39 := hid (HP38.out.below hB)
  have B39 := hid (B38.out.trans (hB.mono B38.out.size))
  clear hB hlit hND
  have CC := hid (put_any V39 g2 bm2 1 1 (K11 l5) _ [((1 : Int), l5)] HP39.out (by decide) (by decide) HV39.out (HKC.out.below (BL5.out.trans (B39.out.mono BL5.out.size))))
  unfold PutQ at CC
  rw [nm_one l5] at CC
  go_wp2_with (first | (refine wpList_build_run_on rfl 60 _ rfl #[(0, .int .i64 1), (1, .agg c5)] (by go_simp) _ (HBN11.out _) ?_) | (refine wpList_lit_run_on rfl 53 1 _ rfl #[(0, .agg nn11)] (by go_simp) _ _ HLIT39.out ?_) | fail)
  refine CC.out.mono ?_
  rintro e w40 ⟨rfl, hP, hG⟩
  have HP40 := hid hP
  have B40 := hid (B39.out.trans (pgrown_below hG hbmq B39.out.size))
  clear hP hG CC
  have CC := hid (lf_any w40 g2 bm2 1 1 (K11 l5) HP40.out (by decide) (by decide) 0)
  rw [show lfAt (K11 l5) 1 1 0 = l5 from rfl, show lfIs (K11 l5) 1 1 0 = true from rfl, HC5.out] at CC
  go_wp2_with fail
  refine CC.out.mono ?_
  rintro e w41 ⟨rfl, hB⟩
  have HP41 := hid (HP40.out.below hB)
  have B41 := hid (B40.out.trans (hB.mono B40.out.size))
  clear hB CC
  obtain ⟨V42, hV42⟩ : ∃ V, Hid (w41.alloc (.cells c5 28) = V) := ⟨_, rfl⟩
  have hB : Below w41.heap.size w41 V42 := by rw [← hV42.out]; exact (Below.refl _ w41).alloc (Nat.le_refl _) _
  have HP42 := hid (HP41.out.below hB)
  have B42 := hid (B41.out.trans (hB.mono B41.out.size))
  clear hB
  have HRQ_42 : Hid (V42.heap[w41.heap.size]? = some (.cells c5 28 (0, 0))) := by rw [← hV42.out]; exact heap_alloc_new w41 _
  have CC := hid (L5.out V42)
  go_wp2_with (first | (refine wpList_alloc_digest rfl rfl ?_; rw [HZD.out]) | (refine wpList_store_row rfl 28 _ _ rfl w41.heap.size c5 rfl rfl 28 zd (heap_alloc_new w41 _) S5.out Z5.out O5.out ?_; rw [setRow_alloc_new', hV42.out]) | fail)
  refine CC.out.mono ?_
  rintro e w43 ⟨rfl, hB⟩
  have HP43 := hid (HP42.out.below hB)
  have B43 := hid (B42.out.trans (hB.mono B42.out.size))
  have HRQ_43 : Hid (w43.heap[w41.heap.size]? = some (.cells c5 28 (0, 0))) := (hB.block _ (Array.getElem?_eq_some_iff.1 HRQ_42.out).1).trans HRQ_42.out
  clear hB CC
  have CC := hid (pnew_bad w43 0 l5 D5.out (by decide))
  rw [HC5.out] at CC
  go_wp2_with fail
  refine CC.out.mono ?_
  rintro e w44 (⟨_, rfl, hB⟩ | ⟨L, g3, bm3, hL, hL1, _⟩)
  case inr => omega
  have HP44 := hid (HP43.out.below hB)
  have B44 := hid (B43.out.trans (hB.mono B43.out.size))
  have HRQ_44 : Hid (w44.heap[w41.heap.size]? = some (.cells c5 28 (0, 0))) := (hB.block _ (Array.getElem?_eq_some_iff.1 HRQ_43.out).1).trans HRQ_43.out
  clear hB CC
  have CC := hid (L5.out w44)
  go_wp2_with fail
  refine CC.out.mono ?_
  rintro e w45 ⟨rfl, hB⟩
  have HP45 := hid (HP44.out.below hB)
  have B45 := hid (B44.out.trans (hB.mono B44.out.size))
  have HRQ_45 : Hid (w45.heap[w41.heap.size]? = some (.cells c5 28 (0, 0))) := (hB.block _ (Array.getElem?_eq_some_iff.1 HRQ_44.out).1).trans HRQ_44.out
  clear hB CC
  have CC := hid (pnew_bad w45 513 l5 D5.out (by decide))
  rw [HC5.out] at CC
  go_wp2_with fail
  refine CC.out.mono ?_
  rintro e w46 (⟨_, rfl, hB⟩ | ⟨L, g3, bm3, hL, hL1, hL2, _⟩)
  case inr => omega
  have HP46 := hid (HP45.out.below hB)
  have B46 := hid (B45.out.trans (hB.mono B45.out.size))
  have HRQ_46 : Hid (w46.heap[w41.heap.size]? = some (.cells c5 28 (0, 0))) := (hB.block _ (Array.getElem?_eq_some_iff.1 HRQ_45.out).1).trans HRQ_45.out
  clear hB CC
  have HXq : Hid (w46.rangeAt w41.heap.size 0 (dc l5)) := fun j v hj => by rw [Nat.zero_add, cell_of_row w46 _ j _ _ _ HRQ_46.out, ← HC5.out, ← dc_arr, List.getElem?_toArray]; exact hj
  have HLq := hid (Array.getElem?_eq_some_iff.1 HRQ_46.out).1
  have hq := fun w => run_eql_bytes w 32 28 Tryd.underlying28 l5 l5 D5.out.1 D5.out.1
  rw [HC5.out, decide_eq_true rfl] at hq
  go_wp2
  refine wp_region_held_drew (S := Below w46.heap.size w46) (by kernel_rfl) (Below.refl _ _).drew (fun hHeld => ?_)
  have HS := hid hHeld
  clear hHeld
  change wpAnyH _ _ _ _ _ _ _ _ (World.drew _)
  refine wpAnyH_take (i := 0) (v := ?_) rfl (by kernel_rfl) (by kernel_rfl) (by kernel_rfl) (fun _ _ _ h => h) (Or.inl ⟨by rfl, ?q0⟩) HS.out ?_
  case q0 => intro w hSw; go_simp; rfl
  simp only [Act.put, List.getElem_toArray, List.getElem_cons_zero, List.getElem_cons_succ, List.setIfInBounds_toArray, List.set_cons_zero, List.set_cons_succ]
  refine wpAnyH_take (i := 1) (v := ?_) rfl (by kernel_rfl) (by kernel_rfl) (by kernel_rfl) (fun _ _ _ h => h) (Or.inl ⟨by rfl, ?q1⟩) HS.out ?_
  case q1 => intro w hSw; go_simp; rfl
  simp only [Act.put, List.getElem_toArray, List.getElem_cons_zero, List.getElem_cons_succ, List.setIfInBounds_toArray, List.set_cons_zero, List.set_cons_succ]
  refine wpAnyH_take (i := 2) rfl (by kernel_rfl) (by kernel_rfl) (by kernel_rfl) (fun _ _ _ h => h) (yieldsIf_load_mid (by rfl) 28 _ rfl w41.heap.size 0 rfl (dc l5) _ (fun W hW => range_below HXq.out hW HLq.out) Tryd.underlying28 rfl (size_dig D5.out)) HS.out ?_
  simp only [Act.put, List.getElem_toArray, List.getElem_cons_zero, List.getElem_cons_succ, List.setIfInBounds_toArray, List.set_cons_zero, List.set_cons_succ]
  rw [dc_arr, HC5.out]
  refine wpAnyH_ready (rs := [3]) (by kernel_rfl) (by simp) ?_
  refine AllReadyH.cons rfl (fun K hK => ?_) AllReadyH.nil
  go_simp
  refine (L5.out _).mono ?_
  rintro e z9 ⟨rfl, hB9⟩
  have HS9 := hid (HS.out.trans (hB9.mono HS.out.size))
  clear hB9
  refine hK.out _ _ HS9.out (fun _ => ?_)
  clear hK K
  have HS := hid HS9.out
  clear HS9
  refine wpAnyH_take (i := 4) (v := .bool true) rfl (by kernel_rfl) (by kernel_rfl) (by kernel_rfl) (fun _ _ _ h => h) (Or.inl ⟨by rfl, ?q4⟩) HS.out ?_
  case q4 => intro w hSw; go_simp
  simp only [Act.put, List.getElem_toArray, List.getElem_cons_zero, List.getElem_cons_succ, List.setIfInBounds_toArray, List.set_cons_zero, List.set_cons_succ]
  refine wpAnyH_take (i := 5) (v := ?_) rfl (by kernel_rfl) (by kernel_rfl) (by kernel_rfl) (fun _ _ _ h => h) (Or.inl ⟨by rfl, ?q5⟩) HS.out ?_
  case q5 => intro w hSw; go_simp; rfl
  simp only [Act.put, List.getElem_toArray, List.getElem_cons_zero, List.getElem_cons_succ, List.setIfInBounds_toArray, List.set_cons_zero, List.set_cons_succ]
  refine wpAnyH_take (i := 6) (v := ?_) rfl (by kernel_rfl) (by kernel_rfl) (by kernel_rfl) (fun _ _ _ h => h) (Or.inl ⟨by rfl, ?q6⟩) HS.out ?_
  case q6 => intro w hSw; go_simp; rfl
  simp only [Act.put, List.getElem_toArray, List.getElem_cons_zero, List.getElem_cons_succ, List.setIfInBounds_toArray, List.set_cons_zero, List.set_cons_succ]
  refine wpAnyH_take (i := 7) (v := ?_) rfl (by kernel_rfl) (by kernel_rfl) (by kernel_rfl) (fun _ _ _ h => h) (Or.inl ⟨by rfl, ?q7⟩) HS.out ?_
  case q7 => intro w hSw; go_simp; rfl
  simp only [Act.put, List.getElem_toArray, List.getElem_cons_zero, List.getElem_cons_succ, List.setIfInBounds_toArray, List.set_cons_zero, List.set_cons_succ]
  refine wpAnyH_take (i := 8) (v := .bool true) rfl (by kernel_rfl) (by kernel_rfl) (by kernel_rfl) (fun _ _ _ h => h) (Or.inl ⟨by rfl, ?q8⟩) HS.out ?_
  case q8 => intro w hSw; go_simp
  simp only [Act.put, List.getElem_toArray, List.getElem_cons_zero, List.getElem_cons_succ, List.setIfInBounds_toArray, List.set_cons_zero, List.set_cons_succ]
  refine wpAnyH_take (i := 9) (v := ?_) rfl (by kernel_rfl) (by kernel_rfl) (by kernel_rfl) (fun _ _ _ h => h) (Or.inl ⟨by rfl, ?q9⟩) HS.out ?_
  case q9 => intro w hSw; go_simp; rfl
  simp only [Act.put, List.getElem_toArray, List.getElem_cons_zero, List.getElem_cons_succ, List.setIfInBounds_toArray, List.set_cons_zero, List.set_cons_succ]
  refine wpAnyH_take (i := 10) (v := ?_) rfl (by kernel_rfl) (by kernel_rfl) (by kernel_rfl) (fun _ _ _ h => h) (Or.inl ⟨by rfl, ?q10⟩) HS.out ?_
  case q10 => intro w hSw; go_simp; rfl
  simp only [Act.put, List.getElem_toArray, List.getElem_cons_zero, List.getElem_cons_succ, List.setIfInBounds_toArray, List.set_cons_zero, List.set_cons_succ]
  refine wpAnyH_take (i := 11) (v := ?_) rfl (by kernel_rfl) (by kernel_rfl) (by kernel_rfl) (fun _ _ _ h => h) (Or.inl ⟨by rfl, ?q11⟩) HS.out ?_
  case q11 => intro w hSw; go_simp; rfl
  simp only [Act.put, List.getElem_toArray, List.getElem_cons_zero, List.getElem_cons_succ, List.setIfInBounds_toArray, List.set_cons_zero, List.set_cons_succ]
  refine wpAnyH_take (i := 12) (v := .bool true) rfl (by kernel_rfl) (by kernel_rfl) (by kernel_rfl) (fun _ _ _ h => h) (Or.inl ⟨by rfl, ?q12⟩) HS.out ?_
  case q12 => intro w hSw; go_simp
  simp only [Act.put, List.getElem_toArray, List.getElem_cons_zero, List.getElem_cons_succ, List.setIfInBounds_toArray, List.set_cons_zero, List.set_cons_succ]
  refine wpAnyH_take (i := 13) (v := ?_) rfl (by kernel_rfl) (by kernel_rfl) (by kernel_rfl) (fun _ _ _ h => h) (Or.inl ⟨by rfl, ?q13⟩) HS.out ?_
  case q13 => intro w hSw; go_simp; rfl
  simp only [Act.put, List.getElem_toArray, List.getElem_cons_zero, List.getElem_cons_succ, List.setIfInBounds_toArray, List.set_cons_zero, List.set_cons_succ]
  refine wpAnyH_take (i := 14) (v := ?_) rfl (by kernel_rfl) (by kernel_rfl) (by kernel_rfl) (fun _ _ _ h => h) (Or.inl ⟨by rfl, ?q14⟩) HS.out ?_
  case q14 => intro w hSw; go_simp; rfl
  simp only [Act.put, List.getElem_toArray, List.getElem_cons_zero, List.getElem_cons_succ, List.setIfInBounds_toArray, List.set_cons_zero, List.set_cons_succ]
  refine wpAnyH_done (by kernel_rfl) ?_ _
  go_wp2
  go_ret
  have BF := hid (B46.out.trans (HS.out.mono B46.out.size))
  exact ⟨rfl, BL5.out.trans (BF.out.mono BL5.out.size)⟩
end Go.Proofs.YtjmlpkemjafifaaDoor
