/- ShaMixes, walked. -/
import Derived.Test.YtdipjhcjmjajfaaDoorShaSums
namespace Go.Proofs.YtdipjhcjmjajfaaDoor
open Go.RowKit

theorem zero_b64 : (Tryd.prog.info? 28).map (·.zero) = some (some (.agg (cellsB (List.replicate 64 0)))) := by kernel_rfl
theorem cellsB_set2 (l : List Int) (i : Nat) (x : Int) : (cellsB l).setIfInBounds i (.int .u8 x) = cellsB (l.set i x) := by
  unfold cellsB
  rw [List.map_set]
  simp
theorem dig_get {W : List Nat} (hW : W8 W) (a r : Nat) (ha : a < 8) (hr : r < 4) : (W.flatMap (bigL 4)).getD (4 * a + r) 0 = ((W.getD a 0 / 256 ^ (3 - r) % 256 : Nat) : Int) := by
  obtain ⟨x0, x1, x2, x3, x4, x5, x6, x7, rfl, _⟩ := hW.open
  have h1 : a = 0 ∨ a = 1 ∨ a = 2 ∨ a = 3 ∨ a = 4 ∨ a = 5 ∨ a = 6 ∨ a = 7 := by omega
  have h2 : r = 0 ∨ r = 1 ∨ r = 2 ∨ r = 3 := by omega
  rcases h1 with rfl | rfl | rfl | rfl | rfl | rfl | rfl | rfl <;> rcases h2 with rfl | rfl | rfl | rfl <;> rfl
/-- The block behind i rounds. -/
def curB (t : List Int) (i : Nat) : List Int := t.take i ++ (List.replicate 64 (0 : Int)).drop i
theorem curB_length (t : List Int) (i : Nat) (hi : i ≤ 64) (ht : t.length = 64) : (curB t i).length = 64 := by
  unfold curB
  rw [List.length_append, List.length_take, List.length_drop, List.length_replicate]
  omega
theorem curB_step (t : List Int) (i : Nat) (hi : i < 64) (ht : t.length = 64) : (curB t i).set i (t.getD i 0) = curB t (i + 1) := by
  unfold curB
  have hl : (t.take i).length = i := by rw [List.length_take]; omega
  have hz : i < (List.replicate 64 (0 : Int)).length := by rw [List.length_replicate]; omega
  have hi2 : i < t.length := by omega
  rw [List.set_append_right _ _ (by omega), hl, Nat.sub_self, List.drop_eq_getElem_cons hz, List.set_cons_zero, List.take_succ_eq_append_getElem hi2, getD_of_lt hi2, List.append_assoc]
  rfl
theorem blkOf_get (M : List Int) (k j : Nat) (hj : j < 64) : (blkOf M k).getD j 0 = M.getD (64 * k + j) 0 := by
  unfold blkOf
  simp only [List.getD, List.getElem?_take, List.getElem?_drop, if_pos hj]

set_option maxRecDepth 100000 in
set_option maxHeartbeats 4000000 in
theorem shaMixes_walk (w : World) (v : Value) (m : List Int) (h : HB w v m) (hbig : m.length ≤ 140737488351232) (hk : KC w) : Calls Tryd.prog 7 #[v] w fun e w' => e = .returned (.bool true) ∧ Below w.heap.size w w' := by
  obtain ⟨p, c, ev, hlc, hcm⟩ := h.open
  unfold maxLen at hcm
  obtain ⟨n, HN⟩ : ∃ n, Hid (m.length = n) := ⟨_, rfl⟩
  rw [HN.out] at ev hlc hbig
  have HH := hid h
  have HK := hid hk
  have hmb := hid h.2
  subst ev
  clear h hk
  go_enter Tryd.func7, Tryd.ntmps7
  go_wp2_with fail
  refine (lives_any _ HK.out).mono ?_
  rintro e w1 ⟨rfl, hB1⟩
  have HB1 := hid hB1
  clear hB1
  go_wp2_with fail
  refine (pad_ok _ n (by omega)).mono ?_
  rintro e w2 ⟨v2, rfl, ho2, hB2⟩
  obtain ⟨P, HP⟩ : ∃ P, Hid (padL n = P) := ⟨_, rfl⟩
  obtain ⟨q, HQ⟩ : ∃ q, Hid (P.length = q) := ⟨_, rfl⟩
  have hq72 : q ≤ 72 := by rw [← HQ.out, ← HP.out, padL_length]; unfold padZ; omega
  have HBP : Hid (HB w2 v2 P) := by rw [← HP.out]; exact HB.of_own ho2 (padL_byt n)
  have HB2 : Hid (Below w.heap.size w w2) := HB1.out.trans (hB2.mono HB1.out.size)
  have HHm := hid (HH.out.below HB2.out)
  obtain ⟨p2, c2, e2, hl2, hm2⟩ := HBP.out.open
  rw [HQ.out] at e2
  subst e2
  clear ho2 hB2
  go_wp2_with (at_builtin; refine wpList_append_HB rfl _ _ rfl w2.heap.size _ _ _ rfl (World.ownsRow_nil _ _ _ _) _ _ rfl HHm.out ?q1 ?q2 ?_)
  case q1 => rw [HN.out]; omega
  case q2 => exact Nat.le_refl _
  intro v3 w3 ho3 hg3
  have HB23 : Hid (Below w2.heap.size w2 w3) := (Below.refl _ w2).grown hg3 (Nat.le_refl _) (fun k e => by cases e)
  have HBP3 := hid (HBP.out.below HB23.out)
  have HO3 := hid ho3
  clear ho3 hg3
  go_wp2_with (at_builtin; refine wpList_append_HB rfl _ _ rfl w2.heap.size _ _ _ rfl HO3.out _ _ rfl HBP3.out ?q1 ?q2 ?_)
  case q1 => rw [HN.out, HQ.out]; omega
  case q2 => exact HB23.out.size
  intro v4 w4 ho4 hg4
  obtain ⟨M, HM0⟩ : ∃ M, Hid (m ++ P = M) := ⟨_, rfl⟩
  have HPM : Hid (padded m = M) := by rw [← HM0.out, ← HP.out, ← HN.out]; rfl
  have HML : Hid (M.length = n + q) := by show _ = _; rw [← HM0.out, List.length_append, HN.out, HQ.out]
  have hmod : (n + q) % 64 = 0 := by have := padL_whole n; rwa [HP.out, HQ.out] at this
  have HMB : Hid (∀ x ∈ M, 0 ≤ x ∧ x < 256) := by
    intro x hx
    rw [← HM0.out] at hx
    rcases List.mem_append.1 hx with h1 | h1
    · exact hmb.out x h1
    · exact HBP.out.2 x h1
  have hbm : HB w4 v4 M := by
    refine HB.of_own (B := w2.heap.size) (e := 5) ?_ HMB.out
    have h4 := ho4
    rw [← List.map_append, HM0.out] at h4
    rw [HML.out, ← HN.out, ← HQ.out]
    exact h4
  have B3 : Below w.heap.size w w3 := HB2.out.trans (HB23.out.mono HB2.out.size)
  have HB4 : Hid (Below w.heap.size w w4) := B3.grown hg4 B3.size (fun k e => by
    rcases HO3.out.2 with h | ⟨g, cap, cur, h1, h2, h3⟩
    · rw [h.1] at e; simp [Value.ownBlock] at e
    · rw [h1] at e
      have := HB2.out.size
      simp [Value.ownBlock] at e
      omega)
  have hq9 : 9 ≤ q := by rw [← HQ.out, ← HP.out, padL_length]; omega
  obtain ⟨b4, o4, c4, e4, hc4, hm4, hcell4⟩ := hbm.ne (by rw [HML.out]; omega)
  rw [HML.out] at e4 hc4 hcell4
  have hb4 : b4 < w4.heap.size := World.block_lt_of_cell? w4 _ (hcell4 0 (by omega))
  have HC4 := hid hcell4
  unfold maxLen at hm4
  subst e4
  clear ho4 hg4 B3 hbm hcell4 HBP3 HO3 HB23 HBP
  obtain ⟨ivc, HIV⟩ : ∃ ivc, Hid (cellsW iv = ivc) := ⟨_, rfl⟩
  obtain ⟨z8, HZ8⟩ : ∃ z8, Hid (cellsW (zerosW 8) = z8) := ⟨_, rfl⟩
  have hz8 := zero_w8
  rw [HZ8.out] at hz8
  have HZ1 := hid hz8
  have HIm : Hid ((Tryd.prog.info? 25).map (·.size) = some ivc.size) := by rw [← HIV.out]; exact size_w8
  have H1m : Hid (ivc.all (·.oneCell') = true) := by rw [← HIV.out]; exact cellsW_one _
  have HZM : Hid (z8.size = ivc.size) := by rw [← HZ8.out, ← HIV.out, cellsW_size, zerosW_length]; exact rfl
  have CI := hid (initial_any w4)
  clear hz8
  rw [HIV.out] at CI
  go_wp2_with fail
  refine CI.out.mono ?_
  rintro e w5 ⟨rfl, hB5⟩
  have HB5 := hid hB5
  clear hB5
  have HR : Hid ((w5.alloc (.cells z8 25)).heap[w5.heap.size]? = some (.cells z8 25 (0, 0))) := heap_alloc_new w5 _
  have HB6 := hid (below_setRow ((Below.refl _ w5).alloc (Nat.le_refl _) (.cells z8 25)) (g := w5.heap.size) (Nat.le_refl _) ivc)
  have HF0 : Hid (((w5.alloc (.cells z8 25)).setRow w5.heap.size ivc).heap[w5.heap.size]? = some (.cells (cellsW (wAt M 0)) 25 (0, 0))) := by rw [show cellsW (wAt M 0) = ivc from HIV.out]; exact setRow_heap _ _ _ _ _ _ HR.out
  go_wp2_with (first | (refine wpList_alloc_agg HZ1.out rfl rfl ?_) | (refine wpList_store_row rfl 25 _ _ rfl w5.heap.size ivc rfl rfl 25 _ HR.out HIm.out HZM.out H1m.out ?_))
  go_loopw [7] (fun i wr => ∃ k I : Nat, I = 64 * k ∧ I ≤ n + q ∧ i = .int .i64 I ∧ Hid (wr.heap[w5.heap.size]? = some (.cells (cellsW (wAt M k)) 25 (0, 0))) ∧ Hid (Below w5.heap.size w5 wr)) (fun i _ => n + q - (intOf i).toNat)
  case atStart => exact ⟨0, 0, rfl, Nat.zero_le _, rfl, HF0, HB6⟩
  case round =>
    obtain ⟨k, I, hIk, hI, rfl, HF, HBk⟩ := hrel
    obtain ⟨wo, rfl⟩ : ∃ wo, wo = wr := ⟨_, rfl⟩
    have HIK := hid hIk
    clear hIk
    have hbr : b4 < w5.heap.size := by have := HB5.out.size; omega
    have hsr := HBk.out.size
    have HCr : Hid (∀ j, j < n + q → wo.cell? ⟨b4, o4 + j, none⟩ = some (.int .u8 (M.getD j 0))) := fun j hj => ((HBk.out.cell hbr).trans (HB5.out.cell hb4)).trans (HC4.out j hj)
    have h8 := wAt_W8 M k
    by_cases hlt : I + 64 ≤ n + q
    · have hbl := blkOf_length (m := M) (k := k) (by rw [HML.out]; have := HIK.out; omega)
      have hbb := blkOf_byt HMB.out k
      have HBG : Hid (∀ j, j < 64 → M.getD (I + j) 0 = (blkOf M k).getD j 0) := fun j hj => by rw [blkOf_get M k j hj, HIK.out]
      have HW1 : Hid (wAt M (k + 1) = mixL (wAt M k) (blkOf M k)) := rfl
      obtain ⟨B, HBL⟩ : ∃ B, Hid (blkOf M k = B) := ⟨_, rfl⟩
      obtain ⟨W, HW⟩ : ∃ W, Hid (wAt M k = W) := ⟨_, rfl⟩
      rw [HBL.out] at hbl hbb HBG HW1
      rw [HW.out] at h8 HF HW1
      have H8 := hid h8
      have HBB := hid hbb
      obtain ⟨zb, HZB⟩ : ∃ zb, Hid (cellsB (List.replicate 64 0) = zb) := ⟨_, rfl⟩
      have hzb := zero_b64
      rw [HZB.out] at hzb
      have HZ2 := hid hzb
      obtain ⟨W7, hW7⟩ : ∃ W7, Hid (wo.alloc (.cells zb 28) = W7) := ⟨_, rfl⟩
      have HB7 : Hid (Below wo.heap.size wo W7) := by rw [← hW7.out]; exact (Below.refl _ wo).alloc (Nat.le_refl _) _
      have hs7 : W7.heap.size = wo.heap.size + 1 := by rw [← hW7.out]; simp
      have HR7 : Hid (W7.heap[wo.heap.size]? = some (.cells (cellsB (curB B 0)) 28 (0, 0))) := by
        rw [← hW7.out, show cellsB (curB B 0) = zb from HZB.out]
        exact heap_alloc_new wo _
      clear h8 hbb hzb
      go_wp2_with (refine wpList_alloc_agg HZ2.out rfl rfl ?_; rw [hW7.out])
      clear hW7
      go_loopw [9] (fun i wq => ∃ J : Nat, J ≤ 64 ∧ i = .int .i64 J ∧ Hid (wq.heap[wo.heap.size]? = some (.cells (cellsB (curB B J)) 28 (0, 0))) ∧ Hid (W7.grownBy wq (some wo.heap.size))) (fun i _ => 64 - (intOf i).toNat)
      case atStart => exact ⟨0, Nat.zero_le _, rfl, HR7, ⟨rfl, rfl, rfl, Nat.le_refl _, fun _ _ _ => rfl⟩⟩
      case round =>
        obtain ⟨J, hJ, rfl, HFB, HG⟩ := hrel
        have hbw : b4 < wo.heap.size := by omega
        have HB8 : Hid (Below wo.heap.size wo wr) := HB7.out.grown HG.out (by omega) (fun k e => by cases e; exact Nat.le_refl _)
        by_cases hlj : J < 64
        · have hcx : wr.cell? ⟨b4, o4 + (I + J), none⟩ = some (.int .u8 (B.getD J 0)) := by
            rw [← HBG.out J hlj]
            exact (HB8.out.cell hbw).trans (HCr.out (I + J) (by omega))
          have hcb : wr.cell? ⟨wo.heap.size, J, none⟩ = some (.int .u8 ((curB B J).getD J 0)) := by
            rw [cell_of_row wr wo.heap.size J _ _ _ HFB.out]
            have hj2 : J < (curB B J).length := by rw [curB_length B J (by omega) hbl]; omega
            simp [cellsB, List.getD, List.getElem?_eq_getElem hj2]
          obtain ⟨old, HOLD⟩ : ∃ old, Hid ((curB B J).getD J 0 = old) := ⟨_, rfl⟩
          rw [HOLD.out] at hcb
          obtain ⟨x, HX⟩ : ∃ x, Hid (B.getD J 0 = x) := ⟨_, rfl⟩
          rw [HX.out] at hcx
          have hfz : wr.frozen? ⟨wo.heap.size, J, none⟩ = false := by simp [World.frozen?, HFB.out]
          go_wp2
          refine ⟨⟨J + 1, by omega, by go_num, ?_, grown_tr HG.out (grown_sets _ _ _ _)⟩, by simp [intOf]; omega⟩
          show _ = _
          rw [← curB_step B J hlj hbl, HX.out, ← cellsB_set2]
          exact heap_setCell_same wr wo.heap.size J _ _ _ HFB.out
        · have hJ64 : J = 64 := by omega
          subst hJ64
          have HCB : Hid (curB B 64 = B) := by
            show _ = _
            unfold curB
            rw [List.take_of_length_le (by omega), List.drop_eq_nil_of_le (by rw [List.length_replicate]; omega), List.append_nil]
          rw [HCB.out] at HFB
          obtain ⟨mb, HMB2⟩ : ∃ mb, Hid (cellsB B = mb) := ⟨_, rfl⟩
          obtain ⟨mw, HMW⟩ : ∃ mw, Hid (cellsW W = mw) := ⟨_, rfl⟩
          obtain ⟨mx, HMX⟩ : ∃ mx, Hid (cellsW (mixL W B) = mx) := ⟨_, rfl⟩
          have CM := hid (mix_any wr W B H8.out hbl HBB.out ((HK.out.below (HB4.out.trans ((HB5.out.trans (HBk.out.mono HB5.out.size)).mono HB4.out.size))).below HB8.out))
          rw [HMB2.out, HMW.out, HMX.out] at CM
          rw [HMB2.out] at HFB
          have HFW : Hid (wr.heap[w5.heap.size]? = some (.cells mw 25 (0, 0))) := by
            show _ = _
            rw [HB8.out.block _ (by have := World.block_lt_of_cell? wo ⟨w5.heap.size, 0, none⟩ (u := .int .u32 ((W.getD 0 0 : Nat) : Int)) (by rw [cell_of_row wo w5.heap.size 0 _ _ _ HF.out]; exact cellsW_get (by rw [H8.out.1]; decide)); exact this), ← HMW.out]
            exact HF.out
          have hmws : mw.size = 8 := by rw [← HMW.out, cellsW_size, H8.out.1]
          have hmxs : mx.size = 8 := by rw [← HMX.out, cellsW_size, H8.out.mix.1]
          have hmbs : mb.size = 64 := by rw [← HMB2.out]; simp [cellsB, hbl]
          have HIb : Hid ((Tryd.prog.info? 28).map (·.size) = some mb.size) := by rw [hmbs]; exact size_b64
          have HIw : Hid ((Tryd.prog.info? 25).map (·.size) = some mw.size) := by rw [hmws]; exact size_w8
          have HIx : Hid ((Tryd.prog.info? 25).map (·.size) = some mx.size) := by rw [hmxs]; exact size_w8
          have HWX : Hid (mw.size = mx.size) := by rw [hmws, hmxs]; exact rfl
          have H1x : Hid (mx.all (·.oneCell') = true) := by rw [← HMX.out]; exact cellsW_one _
          clear hmws hmxs hmbs
          go_wp2_with (first | (refine wpList_load_row rfl 25 _ rfl w5.heap.size rfl 25 mw (0, 0) _ HFW.out Tryd.underlying25 rfl HIw.out ?_) | (refine wpList_load_row rfl 28 _ rfl wo.heap.size rfl 28 mb (0, 0) _ HFB.out Tryd.underlying28 rfl HIb.out ?_))
          refine CM.out.mono ?_
          rintro e w8 ⟨rfl, hB8⟩
          have hw5r : w5.heap.size < wr.heap.size := by have h1 := HB8.out.size; have h2 := HG.out.size; omega
          have HF8 : Hid (w8.heap[w5.heap.size]? = some (.cells mw 25 (0, 0))) := (hB8.block _ hw5r).trans HFW.out
          have HF9 : Hid ((w8.setRow w5.heap.size mx).heap[w5.heap.size]? = some (.cells mx 25 (0, 0))) := setRow_heap _ _ _ _ _ _ HF8.out
          have HB9 := hid (below_setRow ((HBk.out.trans (HB8.out.mono HBk.out.size)).trans (hB8.mono (Nat.le_trans HBk.out.size HB8.out.size))) (g := w5.heap.size) (Nat.le_refl _) mx)
          clear hB8
          go_wp2_with (refine wpList_store_row rfl 25 _ _ rfl w5.heap.size mx rfl rfl 25 _ HF8.out HIx.out HWX.out H1x.out ?_)
          refine ⟨⟨k + 1, I + 64, by have := HIK.out; omega, by omega, by go_num, ?_, HB9⟩, by simp [intOf]; omega⟩
          show _ = _
          rw [HW1.out, HMX.out]
          exact HF9.out
    · have hIe : I = n + q := by have := HIK.out; omega
      have HWE : Hid (wAt M k = wAt (padded m) ((padded m).length / 64)) := by
        show _ = _
        have h1 : (padded m).length / 64 = k := by rw [HPM.out, HML.out]; have := HIK.out; omega
        rw [h1, HPM.out]
      obtain ⟨W, HW⟩ : ∃ W, Hid (wAt M k = W) := ⟨_, rfl⟩
      rw [HW.out] at HF h8 HWE
      have H8 := hid h8
      have HDG : Hid (digL [m].flatten = W.flatMap (bigL 4)) := by show _ = _; rw [HWE.out]; simp [digL]
      obtain ⟨W9, hW9⟩ : ∃ W9, Hid (wo.alloc (.cells #[.slice p n c] 32) = W9) := ⟨_, rfl⟩
      have HBo : Hid (Below w.heap.size w wo) := HB4.out.trans ((HB5.out.trans (HBk.out.mono HB5.out.size)).mono HB4.out.size)
      have HB9 : Hid (Below wo.heap.size wo W9) := by rw [← hW9.out]; exact (Below.refl _ wo).alloc (Nat.le_refl _) _
      have HL9 : Hid (HL W9 (.slice (some ⟨wo.heap.size, 0, none⟩) 1 1) [m]) := by
        refine ⟨_, 1, rfl, Nat.le_refl _, by decide, (fun e => by cases e), fun _ => ⟨wo.heap.size, 0, rfl, fun j hj => ?_⟩⟩
        have hrow : W9.heap[wo.heap.size]? = some (.cells #[.slice p n c] 32 (0, 0)) := by rw [← hW9.out]; exact heap_alloc_new wo _
        match j, hj with
        | 0, _ => exact ⟨_, by rw [cell_of_row W9 wo.heap.size 0 _ _ _ hrow]; rfl, (HH.out.below HBo.out).below HB9.out⟩
      have CS := hid (sums_any W9 _ [m] HL9.out ((HK.out.below HBo.out).below HB9.out) (by simp; rw [HN.out]; omega))
      rw [HDG.out] at CS
      obtain ⟨D, HD⟩ : ∃ D, Hid (W.flatMap (bigL 4) = D) := ⟨_, rfl⟩
      rw [HD.out] at CS
      obtain ⟨dm, HDM⟩ : ∃ dm, Hid (cellsB D = dm) := ⟨_, rfl⟩
      rw [HDM.out] at CS
      have hDl : D.length = 32 := by rw [← HD.out, ← HDG.out, digL_length]
      have hwol : w5.heap.size < wo.heap.size := World.block_lt_of_cell? wo ⟨w5.heap.size, 0, none⟩ (u := .int .u32 ((W.getD 0 0 : Nat) : Int)) (by rw [cell_of_row wo w5.heap.size 0 _ _ _ HF.out]; exact cellsW_get (by rw [H8.out.1]; decide))
      obtain ⟨zd, HZD⟩ : ∃ zd, Hid (cellsB zeros32 = zd) := ⟨_, rfl⟩
      have hds : dm.size = 32 := by rw [← HDM.out]; simp [cellsB, hDl]
      have SD : Hid ((Tryd.prog.info? 52).map (·.size) = some dm.size) := by rw [hds]; exact size_digest
      have OD : Hid (dm.all (·.oneCell') = true) := by
        rw [← HDM.out]
        exact all_oneCell_toArray (fun v hv => by obtain ⟨x, _, rfl⟩ := List.mem_map.1 hv; rfl)
      have ZD : Hid (zd.size = dm.size) := by rw [hds, ← HZD.out]; rfl
      clear h8 hds
      go_wp2_with fail
      rw [hW9.out]
      refine CS.out.mono ?_
      rintro e w10 ⟨rfl, hB10⟩
      have HB10 := hid hB10
      have hs9 := HB9.out.size
      have hs10 := hB10.size
      clear hB10
      obtain ⟨W11, hW11⟩ : ∃ W11, Hid (w10.alloc (.cells zd 52) = W11) := ⟨_, rfl⟩
      have HR11 : Hid (W11.heap[w10.heap.size]? = some (.cells zd 52 (0, 0))) := by rw [← hW11.out]; exact heap_alloc_new w10 _
      have HB11 : Hid (Below wo.heap.size wo W11) := (HB9.out.trans (HB10.out.mono hs9)).trans (by rw [← hW11.out]; exact (Below.refl _ w10).alloc (by omega) _)
      go_wp2_with (first | (refine wpList_alloc_digest rfl rfl ?_; rw [HZD.out, hW11.out]) | (refine wpList_store_row rfl 52 _ _ rfl w10.heap.size dm rfl rfl 52 _ HR11.out SD.out ZD.out OD.out ?_))
      obtain ⟨W12, hW12⟩ : ∃ W12, Hid (W11.setRow w10.heap.size dm = W12) := ⟨_, rfl⟩
      have HR12 : Hid (W12.heap[w10.heap.size]? = some (.cells dm 52 (0, 0))) := by rw [← hW12.out]; exact setRow_heap _ _ _ _ _ _ HR11.out
      have HB12 : Hid (Below wo.heap.size wo W12) := by rw [← hW12.out]; exact below_setRow HB11.out (by omega) dm
      have HF12 : Hid (W12.heap[w5.heap.size]? = some (.cells (cellsW W) 25 (0, 0))) := (HB12.out.block _ hwol).trans HF.out
      rw [hW12.out]
      clear hW12 hW11
      go_loopw [11] (fun i wr => ∃ J : Nat, J ≤ 32 ∧ i = .int .i64 J ∧ Dr W12 wr) (fun i _ => 32 - (intOf i).toNat)
      case atStart => exact ⟨0, Nat.zero_le _, rfl, Dr.refl _⟩
      case round =>
        obtain ⟨J, hJ, rfl, qd, rfl⟩ := hrel
        by_cases hlj : J < 32
        · obtain ⟨a, r, HJ⟩ : ∃ a r, Hid (J = 4 * a + r ∧ r < 4) := ⟨J / 4, J % 4, by show _ ∧ _; omega⟩
          have ha8 : a < 8 := by have := HJ.out; omega
          have HG := hid (dig_get H8.out a r ha8 HJ.out.2)
          rw [HD.out, ← HJ.out.1] at HG
          obtain ⟨x, HX⟩ : ∃ x, Hid (W.getD a 0 = x) := ⟨_, rfl⟩
          rw [HX.out] at HG
          have hxl : x < 4294967296 := by rw [← HX.out]; exact getW_lt H8.out.2 a
          have cd : W12.cell? ⟨w10.heap.size, J, none⟩ = some (.int .u8 (((x / 256 ^ (3 - r) % 256 : Nat)) : Int)) := by
            rw [cell_of_row W12 w10.heap.size J _ _ _ HR12.out, ← HG.out, ← HDM.out]
            have hj2 : J < D.length := by omega
            simp [cellsB, List.getD, List.getElem?_eq_getElem hj2]
          have cw : W12.cell? ⟨w5.heap.size, a, none⟩ = some (.int .u32 (x : Int)) := by
            rw [cell_of_row W12 w5.heap.size a _ _ _ HF12.out, cellsW_get (by rw [H8.out.1]; exact ha8), HX.out]
          have e1 : Int.tdiv (J : Int) 4 = (a : Int) := by have := HJ.out; rw [Int.tdiv_eq_ediv_of_nonneg (by omega)]; omega
          have hr4 : r = 0 ∨ r = 1 ∨ r = 2 ∨ r = 3 := by have := HJ.out.2; omega
          rcases hr4 with rfl | rfl | rfl | rfl
          · have e2 : Int.tmod (J : Int) 4 = 0 := by have := HJ.out; rw [Int.tmod_eq_emod_of_nonneg (by omega)]; omega
            obtain ⟨y, HY⟩ : ∃ y : Nat, Hid (x / 256 ^ 3 % 256 = y) := ⟨_, hid rfl⟩
            rw [show 3 - 0 = 3 from rfl, HY.out] at cd
            have hy : ((y : Int) != (x : Int) / 16777216) = false := by
              have h1 := HY.out
              rw [show (256 : Nat) ^ 3 = 16777216 by decide] at h1
              have h2 : (y : Int) = (x : Int) / 16777216 := by omega
              rw [h2]
              simp
            clear HR12 HF12
            go_wp2
            go_quiet (fail)
            go_wp2
            exact ⟨⟨J + 1, by omega, by go_num, Dr.one _ _⟩, by simp [intOf]; omega⟩
          · have e2 : Int.tmod (J : Int) 4 = 1 := by have := HJ.out; rw [Int.tmod_eq_emod_of_nonneg (by omega)]; omega
            obtain ⟨y, HY⟩ : ∃ y : Nat, Hid (x / 256 ^ 2 % 256 = y) := ⟨_, hid rfl⟩
            rw [show 3 - 1 = 2 from rfl, HY.out] at cd
            have hy : ((y : Int) != (x : Int) / 65536 % 256) = false := by
              have h1 := HY.out
              rw [show (256 : Nat) ^ 2 = 65536 by decide] at h1
              have h2 : (y : Int) = (x : Int) / 65536 % 256 := by omega
              rw [h2]
              simp
            clear HR12 HF12
            go_wp2
            go_quiet (fail)
            go_wp2
            exact ⟨⟨J + 1, by omega, by go_num, Dr.one _ _⟩, by simp [intOf]; omega⟩
          · have e2 : Int.tmod (J : Int) 4 = 2 := by have := HJ.out; rw [Int.tmod_eq_emod_of_nonneg (by omega)]; omega
            obtain ⟨y, HY⟩ : ∃ y : Nat, Hid (x / 256 ^ 1 % 256 = y) := ⟨_, hid rfl⟩
            rw [show 3 - 2 = 1 from rfl, HY.out] at cd
            have hy : ((y : Int) != (x : Int) / 256 % 256) = false := by
              have h1 := HY.out
              rw [show (256 : Nat) ^ 1 = 256 by decide] at h1
              have h2 : (y : Int) = (x : Int) / 256 % 256 := by omega
              rw [h2]
              simp
            clear HR12 HF12
            go_wp2
            go_quiet (fail)
            go_wp2
            exact ⟨⟨J + 1, by omega, by go_num, Dr.one _ _⟩, by simp [intOf]; omega⟩
          · have e2 : Int.tmod (J : Int) 4 = 3 := by have := HJ.out; rw [Int.tmod_eq_emod_of_nonneg (by omega)]; omega
            obtain ⟨y, HY⟩ : ∃ y : Nat, Hid (x / 256 ^ 0 % 256 = y) := ⟨_, hid rfl⟩
            rw [show 3 - 3 = 0 from rfl, HY.out] at cd
            have hy : ((y : Int) != (x : Int) % 256) = false := by
              have h1 := HY.out
              rw [show (256 : Nat) ^ 0 = 1 by decide] at h1
              have h2 : (y : Int) = (x : Int) % 256 := by omega
              rw [h2]
              simp
            clear HR12 HF12
            go_wp2
            go_quiet (fail)
            go_wp2
            exact ⟨⟨J + 1, by omega, by go_num, Dr.one _ _⟩, by simp [intOf]; omega⟩
        · have e5 : Int.tmod ((n : Int) + (q : Int)) 64 = 0 := by rw [Int.tmod_eq_emod_of_nonneg (by omega)]; omega
          have HBF : Hid (Below w.heap.size w W12) := HBo.out.trans (HB12.out.mono HBo.out.size)
          go_wp2
          go_ret
          exact ⟨rfl, HBF.out.trans ((Dr.one _ _).below _)⟩
end Go.Proofs.YtdipjhcjmjajfaaDoor
