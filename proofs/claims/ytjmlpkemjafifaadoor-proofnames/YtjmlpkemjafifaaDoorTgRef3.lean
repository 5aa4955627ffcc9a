/- The document's Digest, Node and Pad, and the law's two, walked. -/
import Derived.Test.YtjmlpkemjafifaaDoorTgRef2
import Derived.Test.YtjmlpkemjafifaaDoorSameBytes
set_option linter.unusedVariables false
set_option linter.unusedSimpArgs false
namespace Go.Proofs.YtjmlpkemjafifaaDoor
open Go.RowKit

theorem framed_node (l r : List Int) (hl : l.length = 32) (hr : r.length = 32) : framed (strI snode :: [l, r]) = ndB l r := by
  rw [snode_strI]
  simp [framed, pcs, ndB, hl, hr, bigL, num8, wNode]
theorem framed_pad (x : Nat) : framed (strI spad :: [bigL 4 x]) = pdB x := by
  rw [spad_strI]
  simp [framed, pcs, pdB, bigL_length, num8, wPad]
  simp [bigL]
set_option maxRecDepth 100000 in
set_option maxHeartbeats 2000000 in
theorem rdigest_node (w : World) (v : Value) (ps : List (List Int)) (h : HL w v ps) (hF : ∀ w', Below w.heap.size w w' → Calls Tryd.prog 71 #[.int .u8 6, v] w' fun e w'' => e = .returned (.bool true) ∧ w'' = w') (hbig : ps.flatten.length + 8 * ps.length ≤ 1000) (hby : ∀ l ∈ ps, ∀ x ∈ l, 0 ≤ x ∧ x < 256) :
    Calls Tryd.prog 57 #[.int .u8 6, v] w fun e w' => e = .returned (.agg (cellsB (digL (framed (strI snode :: ps))))) ∧ Below w.heap.size w w' := by
  have hsz : snode.size ≤ 1000 := by decide
  obtain ⟨zd, HZD⟩ : ∃ zd, Hid (cellsB zeros32 = zd) := ⟨_, rfl⟩
  obtain ⟨W0, hW0⟩ : ∃ W0, Hid (w.alloc (.cells zd 28) = W0) := ⟨_, rfl⟩
  have HB0 : Hid (Below w.heap.size w W0) := by rw [← hW0.out]; exact (Below.refl _ w).alloc (Nat.le_refl _) _
  have HR0 : Hid (W0.heap[w.heap.size]? = some (.cells zd 28 (0, 0))) := by rw [← hW0.out]; exact heap_alloc_new w _
  have hS0 : W0.heap.size = w.heap.size + 1 := by rw [← hW0.out]; simp
  have HF := hid hF
  have HL0 := hid (h.below HB0.out)
  obtain ⟨m, HM⟩ : ∃ m, Hid (framed (strI snode :: ps) = m) := ⟨_, rfl⟩
  have hmb : ∀ x ∈ m, 0 ≤ x ∧ x < 256 := by
    rw [← HM.out]
    refine framed_byt _ fun l hl => ?_
    rcases List.mem_cons.1 hl with rfl | hl
    · intro x hx
      unfold strI at hx
      obtain ⟨b, _, rfl⟩ := List.mem_map.1 hx
      have := b.toNat_lt
      omega
    · exact hby l hl
  have hml : m.length ≤ 3000 := by
    rw [← HM.out, framed_length]
    simp only [List.flatten_cons, List.length_append, List.length_cons, strI_length]
    omega
  clear h hF
  go_enter Tryd.func57, Tryd.ntmps57
  go_wp2_with (refine wpList_alloc_digest rfl rfl ?_; rw [HZD.out, hW0.out])
  refine (rbytes_node W0 v ps HL0.out (fun w' hb => HF.out w' (HB0.out.trans (hb.mono HB0.out.size))) (by omega)).mono ?_
  rintro e w1 ⟨v1, rfl, ho1, hB1⟩
  rw [HM.out] at ho1
  have HB1 := hid (HB.of_own ho1 hmb)
  have BL1 := hid hB1
  clear ho1 hB1
  go_wp2_with fail
  refine (rsum_any w1 v1 m HB1.out (by omega)).mono ?_
  rintro e w2 ⟨rfl, hB2⟩
  obtain ⟨dm, HD⟩ : ∃ dm, Hid (cellsB (digL m) = dm) := ⟨_, rfl⟩
  have hds : dm.size = 32 := by rw [← HD.out]; simp [cellsB, digL_length]
  have SD : Hid ((Tryd.prog.info? 28).map (·.size) = some dm.size) := by rw [hds]; exact size_digest
  have OD : Hid (dm.all (·.oneCell') = true) := by rw [← HD.out]; exact cellsB_one _
  have ZD : Hid (zd.size = dm.size) := by rw [hds, ← HZD.out]; rfl
  have HR2 : Hid (w2.heap[w.heap.size]? = some (.cells zd 28 (0, 0))) := by
    show _ = _
    rw [hB2.block _ (by have := BL1.out.size; omega), BL1.out.block _ (by omega)]
    exact HR0.out
  have HBF := hid (below_setRow ((HB0.out.trans (BL1.out.mono (by omega))).trans (hB2.mono (by have := BL1.out.size; omega))) (g := w.heap.size) (Nat.le_refl _) dm)
  rw [HD.out]
  clear hB2 hds
  go_wp2_with (refine wpList_store_row rfl 28 _ _ rfl w.heap.size dm rfl rfl 28 _ HR2.out SD.out ZD.out OD.out ?_)
  refine bodyPost_ret (v := .agg dm) (results_cell_row (p := 4) (ty := 28) rfl _ _ w.heap.size 28 dm (0, 0) _ rfl (setRow_heap _ _ _ _ _ _ HR2.out) Tryd.underlying28 rfl SD.out) rfl ?_
  exact ⟨by rw [HM.out, HD.out], HBF.out⟩
set_option maxRecDepth 100000 in
set_option maxHeartbeats 2000000 in
theorem rdigest_pad (w : World) (v : Value) (ps : List (List Int)) (h : HL w v ps) (hF : ∀ w', Below w.heap.size w w' → Calls Tryd.prog 71 #[.int .u8 7, v] w' fun e w'' => e = .returned (.bool true) ∧ w'' = w') (hbig : ps.flatten.length + 8 * ps.length ≤ 1000) (hby : ∀ l ∈ ps, ∀ x ∈ l, 0 ≤ x ∧ x < 256) :
    Calls Tryd.prog 57 #[.int .u8 7, v] w fun e w' => e = .returned (.agg (cellsB (digL (framed (strI spad :: ps))))) ∧ Below w.heap.size w w' := by
  have hsz : spad.size ≤ 1000 := by decide
  obtain ⟨zd, HZD⟩ : ∃ zd, Hid (cellsB zeros32 = zd) := ⟨_, rfl⟩
  obtain ⟨W0, hW0⟩ : ∃ W0, Hid (w.alloc (.cells zd 28) = W0) := ⟨_, rfl⟩
  have HB0 : Hid (Below w.heap.size w W0) := by rw [← hW0.out]; exact (Below.refl _ w).alloc (Nat.le_refl _) _
  have HR0 : Hid (W0.heap[w.heap.size]? = some (.cells zd 28 (0, 0))) := by rw [← hW0.out]; exact heap_alloc_new w _
  have hS0 : W0.heap.size = w.heap.size + 1 := by rw [← hW0.out]; simp
  have HF := hid hF
  have HL0 := hid (h.below HB0.out)
  obtain ⟨m, HM⟩ : ∃ m, Hid (framed (strI spad :: ps) = m) := ⟨_, rfl⟩
  have hmb : ∀ x ∈ m, 0 ≤ x ∧ x < 256 := by
    rw [← HM.out]
    refine framed_byt _ fun l hl => ?_
    rcases List.mem_cons.1 hl with rfl | hl
    · intro x hx
      unfold strI at hx
      obtain ⟨b, _, rfl⟩ := List.mem_map.1 hx
      have := b.toNat_lt
      omega
    · exact hby l hl
  have hml : m.length ≤ 3000 := by
    rw [← HM.out, framed_length]
    simp only [List.flatten_cons, List.length_append, List.length_cons, strI_length]
    omega
  clear h hF
  go_enter Tryd.func57, Tryd.ntmps57
  go_wp2_with (refine wpList_alloc_digest rfl rfl ?_; rw [HZD.out, hW0.out])
  refine (rbytes_pad W0 v ps HL0.out (fun w' hb => HF.out w' (HB0.out.trans (hb.mono HB0.out.size))) (by omega)).mono ?_
  rintro e w1 ⟨v1, rfl, ho1, hB1⟩
  rw [HM.out] at ho1
  have HB1 := hid (HB.of_own ho1 hmb)
  have BL1 := hid hB1
  clear ho1 hB1
  go_wp2_with fail
  refine (rsum_any w1 v1 m HB1.out (by omega)).mono ?_
  rintro e w2 ⟨rfl, hB2⟩
  obtain ⟨dm, HD⟩ : ∃ dm, Hid (cellsB (digL m) = dm) := ⟨_, rfl⟩
  have hds : dm.size = 32 := by rw [← HD.out]; simp [cellsB, digL_length]
  have SD : Hid ((Tryd.prog.info? 28).map (·.size) = some dm.size) := by rw [hds]; exact size_digest
  have OD : Hid (dm.all (·.oneCell') = true) := by rw [← HD.out]; exact cellsB_one _
  have ZD : Hid (zd.size = dm.size) := by rw [hds, ← HZD.out]; rfl
  have HR2 : Hid (w2.heap[w.heap.size]? = some (.cells zd 28 (0, 0))) := by
    show _ = _
    rw [hB2.block _ (by have := BL1.out.size; omega), BL1.out.block _ (by omega)]
    exact HR0.out
  have HBF := hid (below_setRow ((HB0.out.trans (BL1.out.mono (by omega))).trans (hB2.mono (by have := BL1.out.size; omega))) (g := w.heap.size) (Nat.le_refl _) dm)
  rw [HD.out]
  clear hB2 hds
  go_wp2_with (refine wpList_store_row rfl 28 _ _ rfl w.heap.size dm rfl rfl 28 _ HR2.out SD.out ZD.out OD.out ?_)
  refine bodyPost_ret (v := .agg dm) (results_cell_row (p := 4) (ty := 28) rfl _ _ w.heap.size 28 dm (0, 0) _ rfl (setRow_heap _ _ _ _ _ _ HR2.out) Tryd.underlying28 rfl SD.out) rfl ?_
  exact ⟨by rw [HM.out, HD.out], HBF.out⟩
/-- Two blocks of digests of a call's own, and a row of slices of them. -/
theorem HL_two {w : World} {g1 g2 g3 : Nat} {l r : List Int} (h1 : w.heap[g1]? = some (.cells (cellsB l) 28 (0, 0))) (h2 : w.heap[g2]? = some (.cells (cellsB r) 28 (0, 0))) (h3 : w.heap[g3]? = some (.cells #[.slice (some ⟨g1, 0, none⟩) 32 32, .slice (some ⟨g2, 0, none⟩) 32 32] 40 (0, 0))) (hl : D32 l) (hr : D32 r) : HL w (.slice (some ⟨g3, 0, none⟩) 2 2) [l, r] := by
  have hb : ∀ (g : Nat) (l : List Int), w.heap[g]? = some (.cells (cellsB l) 28 (0, 0)) → D32 l → HB w (.slice (some ⟨g, 0, none⟩) 32 32) l := fun g l h hd => by
    refine ⟨⟨_, 32, by rw [hd.1], by rw [hd.1]; omega, by unfold maxLen; omega, (fun e => by cases e), fun _ => ⟨g, 0, rfl, fun j hj => ?_⟩⟩, hd.2⟩
    rw [cell_of_row w g (0 + j) _ _ _ h]
    simp [cellsB, List.getD, List.getElem?_eq_getElem hj]
  refine ⟨_, 2, rfl, by simp, by unfold maxLen; omega, (fun e => by cases e), fun _ => ⟨g3, 0, rfl, fun j hj => ?_⟩⟩
  have hj2 : j = 0 ∨ j = 1 := by simp at hj; omega
  rcases hj2 with rfl | rfl
  · exact ⟨_, by rw [cell_of_row w g3 (0 + 0) _ _ _ h3]; rfl, hb g1 l h1 hl⟩
  · exact ⟨_, by rw [cell_of_row w g3 (0 + 1) _ _ _ h3]; rfl, hb g2 r h2 hr⟩
set_option maxRecDepth 100000 in
set_option maxHeartbeats 2000000 in
theorem rnode_any (w : World) (l r : List Int) (hl : D32 l) (hr : D32 r) : Calls Tryd.prog 36 #[.agg (cellsB l), .agg (cellsB r)] w fun e w' => e = .returned (.agg (cellsB (ndL l r))) ∧ Below w.heap.size w w' := by
  obtain ⟨zd, HZD⟩ : ∃ zd, Hid (cellsB zeros32 = zd) := ⟨_, rfl⟩
  obtain ⟨cl, HCL⟩ : ∃ c, Hid (cellsB l = c) := ⟨_, rfl⟩
  obtain ⟨cr, HCR⟩ : ∃ c, Hid (cellsB r = c) := ⟨_, rfl⟩
  rw [HCL.out, HCR.out]
  go_enter Tryd.func36, Tryd.ntmps36
  go_wp2_with (refine wpList_alloc_digest rfl rfl ?_; rw [HZD.out])
  have e3 : ((w.alloc (.cells cl 28)).alloc (.cells cr 28)).heap.size = w.heap.size + 2 := by simp
  rw [e3]
  obtain ⟨W0, hW0⟩ : ∃ W0, Hid (((w.alloc (.cells cl 28)).alloc (.cells cr 28)).alloc (.cells zd 28) = W0) := ⟨_, rfl⟩
  have HB0 : Hid (Below w.heap.size w W0) := by
    rw [← hW0.out]
    exact (((Below.refl _ w).alloc (Nat.le_refl _) _).alloc (by simp) _).alloc (by simp; omega) _
  have HS0 : Hid (W0.heap.size = w.heap.size + 3) := by rw [← hW0.out]; refine hid ?_; simp
  have H1 : Hid (W0.heap[w.heap.size]? = some (.cells cl 28 (0, 0))) := by
    rw [← hW0.out]
    refine hid ?_
    rw [heap_alloc_old _ _ (by simp; omega), heap_alloc_old _ _ (by simp)]
    exact heap_alloc_new w _
  have H2 : Hid (W0.heap[w.heap.size + 1]? = some (.cells cr 28 (0, 0))) := by
    rw [← hW0.out]
    refine hid ?_
    rw [heap_alloc_old _ _ (by simp), show w.heap.size + 1 = (w.alloc (.cells cl 28)).heap.size by simp]
    exact heap_alloc_new _ _
  have H3 : Hid (W0.heap[w.heap.size + 2]? = some (.cells zd 28 (0, 0))) := by
    rw [← hW0.out, ← e3]
    exact heap_alloc_new _ _
  rw [hW0.out]
  simp only [Act.put, List.setIfInBounds_toArray, List.set_cons_zero, List.set_cons_succ]
  refine wp_region_any (by kernel_rfl) ?_
  change wpAny _ _ _ _ _ _ _ (World.drew _)
  refine wpAny_take (i := 0) (v := ?_) rfl (by kernel_rfl) (by kernel_rfl) (by kernel_rfl) (fun _ _ _ h => h) (Or.inl ⟨by rfl, ?q0⟩) ?_
  case q0 => intro w; go_simp; rfl
  refine wpAny_take (i := 1) (v := ?_) rfl (by kernel_rfl) (by kernel_rfl) (by kernel_rfl) (fun _ _ _ h => h) (Or.inl ⟨by rfl, ?q1⟩) ?_
  case q1 => intro w; go_simp; rfl
  refine wpAny_ready (rs := [2]) (by kernel_rfl) (by simp) ?_
  refine AllReady.cons rfl (fun K hK => ?_) AllReady.nil
  go_simp
  obtain ⟨W4, hW4⟩ : ∃ W4, Hid ((W0.alloc (.cells #[.slice (some ⟨w.heap.size, 0, none⟩) 32 32, .slice (some ⟨w.heap.size + 1, 0, none⟩) 32 32] 40)).drew = W4) := ⟨_, rfl⟩
  have HB4 : Hid (Below W0.heap.size W0 W4) := by rw [← hW4.out]; exact ((Below.refl _ W0).alloc (Nat.le_refl _) _).drew
  have HLv : Hid (HL W4 (.slice (some ⟨W0.heap.size, 0, none⟩) 2 2) [l, r]) := by
    refine HL_two (g1 := w.heap.size) (g2 := w.heap.size + 1) ?_ ?_ ?_ hl hr
    · rw [HB4.out.block _ (by rw [HS0.out]; omega), H1.out, HCL.out]
    · rw [HB4.out.block _ (by rw [HS0.out]; omega), H2.out, HCR.out]
    · rw [← hW4.out]; exact heap_alloc_new W0 _
  have CD := hid (rdigest_node W4 _ [l, r] HLv.out (fun w' hb => rfits_node w' _ l r (HLv.out.below hb) hl.1 hr.1) (by simp [hl.1, hr.1]) (fun q hq => by
    rcases List.mem_cons.1 hq with rfl | hq
    · exact hl.2
    · have : q = r := by simpa using hq
      rw [this]; exact hr.2))
  rw [framed_node l r hl.1 hr.1] at CD
  refine hK _ _ ?_
  rw [hW4.out]
  clear hK
  refine wpAny_ready (rs := [3]) (by kernel_rfl) (by simp) ?_
  refine AllReady.cons rfl (fun K hK => ?_) AllReady.nil
  go_simp
  refine CD.out.mono ?_
  rintro e w5 ⟨rfl, hB5⟩
  obtain ⟨dm, HD⟩ : ∃ dm, Hid (cellsB (digL (ndB l r)) = dm) := ⟨_, rfl⟩
  have hds : dm.size = 32 := by rw [← HD.out]; simp [cellsB, digL_length]
  have SD : Hid ((Tryd.prog.info? 28).map (·.size) = some dm.size) := by rw [hds]; exact size_digest
  have OD : Hid (dm.all (·.oneCell') = true) := by rw [← HD.out]; exact cellsB_one _
  have ZD : Hid (zd.size = dm.size) := by rw [hds, ← HZD.out]; rfl
  have HR5 : Hid (w5.heap[w.heap.size + 2]? = some (.cells zd 28 (0, 0))) := by
    refine hid ?_
    show w5.heap[w.heap.size + 2]? = _
    rw [hB5.block _ (by have := HB4.out.size; have := HS0.out; omega), HB4.out.block _ (by rw [HS0.out]; omega)]
    exact H3.out
  have BL5 : Hid (Below w.heap.size w w5) := ((HB0.out.trans (HB4.out.mono (by rw [HS0.out]; omega))).trans (hB5.mono (by have := HB4.out.size; have := HS0.out; omega)))
  have HBF := hid (below_setRow BL5.out (g := w.heap.size + 2) (by omega) dm)
  rw [HD.out]
  clear hB5 hds CD
  refine hK _ _ ?_
  clear hK
  refine wpAny_ready (rs := [4]) (by kernel_rfl) (by simp) ?_
  refine AllReady.cons rfl (fun K hK => ?_) AllReady.nil
  rw [if_pos (by rfl)]
  refine wp_store_row 28 _ _ rfl (w.heap.size + 2) dm rfl rfl 28 _ HR5.out SD.out ZD.out OD.out ?_
  refine hK _ _ ?_
  clear hK
  refine wpAny_done (by kernel_rfl) ?_ _
  go_wp2
  refine bodyPost_ret (v := .agg dm) (results_cell_row (p := 4) (ty := 28) rfl _ _ (w.heap.size + 2) 28 dm (0, 0) _ rfl (setRow_heap _ _ _ _ _ _ HR5.out) Tryd.underlying28 rfl SD.out) rfl ?_
  exact ⟨by rw [← HD.out]; rfl, HBF.out⟩
end Go.Proofs.YtjmlpkemjafifaaDoor
