/- The law's two and clash, and the document's Pad, walked. -/
import Derived.Test.YtjmlpkemjafifaaDoorTgRef3
set_option linter.unusedVariables false
set_option linter.unusedSimpArgs false
namespace Go.Proofs.YtjmlpkemjafifaaDoor
open Go.RowKit

set_option maxRecDepth 100000 in
set_option maxHeartbeats 2000000 in
theorem two_any (w : World) (l r : List Int) (hl : D32 l) (hr : D32 r) : Calls Tryd.prog 17 #[.agg (cellsB l), .agg (cellsB r)] w fun e w' => ∃ v, e = .returned v ∧ HB w' v (ndB l r) ∧ Below w.heap.size w w' := by
  obtain ⟨cl, HCL⟩ : ∃ c, Hid (cellsB l = c) := ⟨_, rfl⟩
  obtain ⟨cr, HCR⟩ : ∃ c, Hid (cellsB r = c) := ⟨_, rfl⟩
  rw [HCL.out, HCR.out]
  go_enter Tryd.func17, Tryd.ntmps17
  go_wp2
  obtain ⟨W0, hW0⟩ : ∃ W0, Hid ((w.alloc (.cells cl 28)).alloc (.cells cr 28) = W0) := ⟨_, rfl⟩
  have HB0 : Hid (Below w.heap.size w W0) := by
    rw [← hW0.out]
    exact ((Below.refl _ w).alloc (Nat.le_refl _) _).alloc (by simp) _
  have HS0 : Hid (W0.heap.size = w.heap.size + 2) := by rw [← hW0.out]; refine hid ?_; simp
  have H1 : Hid (W0.heap[w.heap.size]? = some (.cells cl 28 (0, 0))) := by
    rw [← hW0.out]
    refine hid ?_
    rw [heap_alloc_old _ _ (by simp)]
    exact heap_alloc_new w _
  have H2 : Hid (W0.heap[w.heap.size + 1]? = some (.cells cr 28 (0, 0))) := by
    rw [← hW0.out]
    refine hid ?_
    rw [show w.heap.size + 1 = (w.alloc (.cells cl 28)).heap.size by simp]
    exact heap_alloc_new _ _
  rw [hW0.out]
  refine wp_region_any (by kernel_rfl) ?_
  change wpAny _ _ _ _ _ _ _ (World.drew _)
  refine wpAny_take (i := 0) (v := ?_) rfl (by kernel_rfl) (by kernel_rfl) (by kernel_rfl) (fun _ _ _ h => h) (Or.inl ⟨by rfl, ?q0⟩) ?_
  case q0 => intro w; go_simp; rfl
  refine wpAny_take (i := 1) (v := ?_) rfl (by kernel_rfl) (by kernel_rfl) (by kernel_rfl) (fun _ _ _ h => h) (Or.inl ⟨by rfl, ?q1⟩) ?_
  case q1 => intro w; go_simp; rfl
  refine wpAny_ready (rs := [2]) (by kernel_rfl) (by simp) ?_
  refine AllReady.cons rfl (fun K hK => ?_) AllReady.nil
  go_simp
  obtain ⟨W4, hW4⟩ : ∃ W4, Hid ((W0.alloc (.cells #[.slice (some ⟨w.heap.size, 0, none⟩) 32 32, .slice (some ⟨w.heap.size + 1, 0, none⟩) 32 32] 40)).drew = W4) := ⟨_, rfl⟩
  have HB4 : Hid (Below W0.heap.size W0 W4) := by rw [← hW4.out]; exact ((Below.refl _ W0).alloc (Nat.le_refl _) _).drew
  have HLv : Hid (HL W4 (.slice (some ⟨W0.heap.size, 0, none⟩) 2 2) [l, r]) := by
    refine HL_two (g1 := w.heap.size) (g2 := w.heap.size + 1) ?_ ?_ ?_ hl hr
    · rw [HB4.out.block _ (by rw [HS0.out]; omega), H1.out, HCL.out]
    · rw [HB4.out.block _ (by rw [HS0.out]; omega), H2.out, HCR.out]
    · rw [← hW4.out]; exact heap_alloc_new W0 _
  have CD := hid (rbytes_node W4 _ [l, r] HLv.out (fun w' hb => rfits_node w' _ l r (HLv.out.below hb) hl.1 hr.1) (by simp [hl.1, hr.1]))
  rw [framed_node l r hl.1 hr.1] at CD
  refine hK _ _ ?_
  rw [hW4.out]
  clear hK
  refine wpAny_ready (rs := [3]) (by kernel_rfl) (by simp) ?_
  refine AllReady.cons rfl (fun K hK => ?_) AllReady.nil
  go_simp
  refine CD.out.mono ?_
  rintro e w5 ⟨v5, rfl, ho5, hB5⟩
  have HB5 := hid (HB.of_own ho5 (ndB_byt hl hr))
  have BL5 : Hid (Below w.heap.size w w5) := ((HB0.out.trans (HB4.out.mono (by rw [HS0.out]; omega))).trans (hB5.mono (by have := HB4.out.size; have := HS0.out; omega)))
  clear hB5 ho5 CD
  refine hK _ _ ?_
  clear hK
  refine wpAny_take (i := 4) (v := ?_) rfl (by kernel_rfl) (by kernel_rfl) (by kernel_rfl) (fun _ _ _ h => h) (Or.inl ⟨by rfl, ?q4⟩) ?_
  case q4 => intro w; go_simp; rfl
  refine wpAny_take (i := 5) (v := ?_) rfl (by kernel_rfl) (by kernel_rfl) (by kernel_rfl) (fun _ _ _ h => h) (Or.inl ⟨by rfl, ?q5⟩) ?_
  case q5 => intro w; go_simp; rfl
  refine wpAny_take (i := 6) (v := ?_) rfl (by kernel_rfl) (by kernel_rfl) (by kernel_rfl) (fun _ _ _ h => h) (Or.inl ⟨by rfl, ?q6⟩) ?_
  case q6 => intro w; go_simp; rfl
  refine wpAny_take (i := 7) (v := ?_) rfl (by kernel_rfl) (by kernel_rfl) (by kernel_rfl) (fun _ _ _ h => h) (Or.inl ⟨by rfl, ?q7⟩) ?_
  case q7 => intro w; go_simp; rfl
  refine wpAny_take (i := 8) (v := ?_) rfl (by kernel_rfl) (by kernel_rfl) (by kernel_rfl) (fun _ _ _ h => h) (Or.inl ⟨by rfl, ?q8⟩) ?_
  case q8 => intro w; go_simp; rfl
  refine wpAny_done (by kernel_rfl) ?_ _
  go_wp2
  go_ret
  exact ⟨_, rfl, HB5.out, BL5.out⟩
/-- Have two byte strings one digest, and are they unlike? -/
theorem clash_any (w : World) (u v : Value) (x y : List Int) (hx : HB w u x) (hy : HB w v y) (lx : x.length ≤ 10000) (ly : y.length ≤ 10000) :
    Calls Tryd.prog 18 #[u, v] w fun e w' => e = .returned (.bool (decide (x ≠ y ∧ digL x = digL y))) ∧ Below w.heap.size w w' := by
  have HX := hid hx
  have HY := hid hy
  have CS := hid (sameBytes_any w u v x y hx hy)
  clear hx hy
  go_enter Tryd.func18, Tryd.ntmps18
  go_wp2_with fail
  refine CS.out.mono ?_
  rintro e w1 ⟨rfl, hd1⟩
  have BL1 := hid (hd1.below w.heap.size)
  have HX1 := hid (HX.out.dr hd1)
  have HY1 := hid (HY.out.dr hd1)
  clear hd1 CS
  by_cases hxy : x = y
  · have hdx : decide (x = y) = true := by simpa using hxy
    have hF : decide (x ≠ y ∧ digL x = digL y) = false := by simp [hxy]
    have HF := hid hF
    clear hF
    rw [hdx]
    go_wp2
    go_ret
    exact ⟨by rw [HF.out]; rfl, BL1.out⟩
  · have hdx : decide (x = y) = false := by simpa using hxy
    have hF : decide (x ≠ y ∧ digL x = digL y) = decide (digL x = digL y) := by simp [hxy]
    have HF := hid hF
    rw [hdx]
    clear hF hdx
    go_wp2_with fail
    refine (rsum_any w1 u x HX1.out (by omega)).mono ?_
    rintro e w2 ⟨rfl, hB2⟩
    have HY2 := hid (HY1.out.below hB2)
    have BL2 := hid (BL1.out.trans (hB2.mono BL1.out.size))
    clear hB2
    obtain ⟨dx, HDX⟩ : ∃ d, Hid (digL x = d) := ⟨_, rfl⟩
    have hlx : dx.length = 32 := by rw [← HDX.out]; exact digL_length x
    rw [HDX.out]
    go_wp2_with fail
    refine (rsum_any w2 v y HY2.out (by omega)).mono ?_
    rintro e w3 ⟨rfl, hB3⟩
    have BL3 := hid (BL2.out.trans (hB3.mono BL2.out.size))
    clear hB3
    obtain ⟨dy, HDY⟩ : ∃ d, Hid (digL y = d) := ⟨_, rfl⟩
    have hly : dy.length = 32 := by rw [← HDY.out]; exact digL_length y
    rw [HDY.out]
    have hq := fun w => run_eql_bytes w 32 28 Tryd.underlying28 dx dy hlx hly
    go_wp2
    go_ret
    exact ⟨by rw [HF.out, HDX.out, HDY.out]; rfl, BL3.out⟩
set_option maxRecDepth 100000 in
set_option maxHeartbeats 2000000 in
theorem rpad5_any (w : World) (x : Nat) (hx : x < 4294967296) : Calls Tryd.prog 30 #[.int .u32 (x : Int)] w fun e w' => e = .returned (.agg (cellsB (pdL x))) ∧ Below w.heap.size w w' := by
  obtain ⟨zd, HZD⟩ : ∃ zd, Hid (cellsB zeros32 = zd) := ⟨_, rfl⟩
  obtain ⟨W0, hW0⟩ : ∃ W0, Hid (w.alloc (.cells zd 28) = W0) := ⟨_, rfl⟩
  have HB0 : Hid (Below w.heap.size w W0) := by rw [← hW0.out]; exact (Below.refl _ w).alloc (Nat.le_refl _) _
  have HR0 : Hid (W0.heap[w.heap.size]? = some (.cells zd 28 (0, 0))) := by rw [← hW0.out]; exact heap_alloc_new w _
  have hS0 : W0.heap.size = w.heap.size + 1 := by rw [← hW0.out]; simp
  have hxi : (x : Int) < 4294967296 := by omega
  go_enter Tryd.func30, Tryd.ntmps30
  go_wp2_with (refine wpList_alloc_digest rfl rfl ?_; rw [HZD.out, hW0.out])
  refine (rbig5_any W0 x 4 (by omega) (by omega)).mono ?_
  rintro e w1 ⟨v1, rfl, ho1, hB1⟩
  obtain ⟨p1, c1, rfl⟩ := own_slc ho1
  have HB1 := hid (HB.of_own (l := bigL 4 x) (by rw [bigL_length]; exact ho1) (bigL_byt 4 x))
  have BL1 := hid hB1
  clear ho1 hB1
  go_wp2_with fail
  have hlr : Hid (HL (w1.alloc (.cells #[.slice p1 4 c1] 40)) (.slice (some ⟨w1.heap.size, 0, none⟩) 1 1) [bigL 4 x]) := by
    refine hid ⟨_, 1, rfl, by simp, by unfold maxLen; omega, (fun e => by cases e), fun _ => ⟨w1.heap.size, 0, rfl, fun j hj => ?_⟩⟩
    have hj0 : j = 0 := by simp at hj; omega
    subst hj0
    exact ⟨_, by rw [cell_of_row _ w1.heap.size (0 + 0) _ _ _ (heap_alloc_new w1 _)]; rfl, HB1.out.below ((Below.refl _ w1).alloc (Nat.le_refl _) _)⟩
  have BA : Hid (Below w1.heap.size w1 (w1.alloc (.cells #[.slice p1 4 c1] 40))) := (Below.refl _ w1).alloc (Nat.le_refl _) _
  refine (rdigest_pad _ _ [bigL 4 x] hlr.out (fun w' hb => rfits_pad w' _ _ (hlr.out.below hb) (bigL_length 4 x)) (by simp [bigL_length]) (fun q hq => by
    have : q = bigL 4 x := by simpa using hq
    rw [this]; exact bigL_byt 4 x)).mono ?_
  rintro e w2 ⟨rfl, hB2⟩
  rw [framed_pad]
  obtain ⟨dm, HD⟩ : ∃ dm, Hid (cellsB (digL (pdB x)) = dm) := ⟨_, rfl⟩
  have hds : dm.size = 32 := by rw [← HD.out]; simp [cellsB, digL_length]
  have SD : Hid ((Tryd.prog.info? 28).map (·.size) = some dm.size) := by rw [hds]; exact size_digest
  have OD : Hid (dm.all (·.oneCell') = true) := by rw [← HD.out]; exact cellsB_one _
  have ZD : Hid (zd.size = dm.size) := by rw [hds, ← HZD.out]; rfl
  have HR2 : Hid (w2.heap[w.heap.size]? = some (.cells zd 28 (0, 0))) := by
    show _ = _
    rw [hB2.block _ (by have := BL1.out.size; have := BA.out.size; omega), BA.out.block _ (by have := BL1.out.size; omega), BL1.out.block _ (by omega)]
    exact HR0.out
  have HBF := hid (below_setRow (((HB0.out.trans (BL1.out.mono (by omega))).trans (BA.out.mono (by have := BL1.out.size; omega))).trans (hB2.mono (by have := BL1.out.size; have := BA.out.size; omega))) (g := w.heap.size) (Nat.le_refl _) dm)
  rw [HD.out]
  clear hB2 hds
  go_wp2_with (refine wpList_store_row rfl 28 _ _ rfl w.heap.size dm rfl rfl 28 _ HR2.out SD.out ZD.out OD.out ?_)
  refine bodyPost_ret (v := .agg dm) (results_cell_row (p := 2) (ty := 28) rfl _ _ w.heap.size 28 dm (0, 0) _ rfl (setRow_heap _ _ _ _ _ _ HR2.out) Tryd.underlying28 rfl SD.out) rfl ?_
  exact ⟨by rw [← HD.out]; rfl, HBF.out⟩
end Go.Proofs.YtjmlpkemjafifaaDoor
