/- The document's Sum (sha), walked. -/
import Derived.Test.YtjmlpkemjafifaaDoorGrShB
import Derived.Test.YtjmlpkemjafifaaDoorRefShaPad
import Derived.Test.YtjmlpkemjafifaaDoorShaPiecesLaw
import Derived.Test.YtjmlpkemjafifaaDoorShaMixesLaw
namespace Go.Proofs.YtjmlpkemjafifaaDoor
open Go.RowKit

/-- The digest behind i rounds. -/
def curE (t : List Int) (i : Nat) : List Int := t.take i ++ zeros32.drop i
theorem curE_length (t : List Int) (i : Nat) (hi : i ≤ 32) (ht : t.length = 32) : (curE t i).length = 32 := by
  unfold curE
  rw [List.length_append, List.length_take, List.length_drop, zeros32_length]
  omega
theorem curE_step (t : List Int) (i : Nat) (hi : i < 32) (ht : t.length = 32) : (curE t i).set i (t.getD i 0) = curE t (i + 1) := by
  unfold curE
  have hl : (t.take i).length = i := by rw [List.length_take]; omega
  have hz : i < zeros32.length := by rw [zeros32_length]; omega
  have hi2 : i < t.length := by omega
  rw [List.set_append_right _ _ (by omega), hl, Nat.sub_self, List.drop_eq_getElem_cons hz, List.set_cons_zero, List.take_succ_eq_append_getElem hi2, getD_of_lt hi2, List.append_assoc]
  rfl

set_option maxRecDepth 100000 in
set_option maxHeartbeats 4000000 in
theorem rsum_any (w : World) (v : Value) (m : List Int) (h : HB w v m) (hbig : m.length ≤ 140737488351232) : Calls Tryd.prog 19 #[v] w fun e w' => e = .returned (.agg (cellsB (digL m))) ∧ Below w.heap.size w w' := by
  obtain ⟨zd, HZD⟩ : ∃ zd, Hid (cellsB zeros32 = zd) := ⟨_, rfl⟩
  obtain ⟨W0, hW0⟩ : ∃ W0, Hid (w.alloc (.cells zd 28) = W0) := ⟨_, rfl⟩
  have HB0 : Hid (Below w.heap.size w W0) := by rw [← hW0.out]; exact (Below.refl _ w).alloc (Nat.le_refl _) _
  have HR0 : Hid (W0.heap[w.heap.size]? = some (.cells zd 28 (0, 0))) := by rw [← hW0.out]; exact heap_alloc_new w _
  have HS0 : Hid (W0.heap.size = w.heap.size + 1) := by rw [← hW0.out]; refine hid ?_; simp
  obtain ⟨p, c, ev, hlc, hcm⟩ := h.open
  unfold maxLen at hcm
  obtain ⟨n, HN⟩ : ∃ n, Hid (m.length = n) := ⟨_, rfl⟩
  rw [HN.out] at ev hlc hbig
  have HH := hid (h.below HB0.out)
  have hmb := hid h.2
  subst ev
  clear h
  go_enter Tryd.func19, Tryd.ntmps19
  have HV0 : Hid (World.ownsRow W0 W0.heap.size 5 1 (.slice none 0 0) 0 []) := World.ownsRow_nil _ _ _ _
  go_wp2_with (first | (refine wpList_alloc_digest rfl rfl ?_; rw [HZD.out, hW0.out]) | (at_builtin; refine wpList_append_HB rfl _ _ rfl W0.heap.size (.slice none 0 0) 0 [] rfl HV0.out (.slice p n c) m rfl HH.out (by rw [HN.out]; omega) (Nat.le_refl _) ?_))
  intro v3 w2 ho3 hg3
  have HB02 : Hid (Below W0.heap.size W0 w2) := (Below.refl _ W0).grown hg3 (Nat.le_refl _) (fun k e => by cases e)
  have HO2 := hid ho3
  clear ho3 hg3
  go_wp2_with fail
  refine (rpad_ok _ n (by omega)).mono ?_
  rintro e w3 ⟨v2, rfl, ho2, hB2⟩
  obtain ⟨P, HP⟩ : ∃ P, Hid (padL n = P) := ⟨_, rfl⟩
  obtain ⟨q, HQ⟩ : ∃ q, Hid (P.length = q) := ⟨_, rfl⟩
  have hq72 : q ≤ 72 := by rw [← HQ.out, ← HP.out, padL_length]; unfold padZ; omega
  have HBP : Hid (HB w3 v2 P) := by rw [← HP.out]; exact HB.of_own ho2 (padL_byt n)
  have HO3 := hid (own_later HO2.out hB2)
  have HB03 : Hid (Below W0.heap.size W0 w3) := HB02.out.trans (hB2.mono HB02.out.size)
  obtain ⟨p2, c2, e2, hl2, hm2⟩ := HBP.out.open
  rw [HQ.out] at e2
  subst e2
  clear ho2 hB2 HO2
  go_wp2_with (at_builtin; refine wpList_append_HB rfl _ _ rfl W0.heap.size _ _ _ rfl HO3.out _ _ rfl HBP.out ?q1 ?q2 ?_)
  case q1 => rw [HN.out, HQ.out]; omega
  case q2 => exact HB03.out.size
  intro v4 w4 ho4 hg4
  obtain ⟨M, HM0⟩ : ∃ M, Hid (m ++ P = M) := ⟨_, rfl⟩
  have HPM : Hid (padded m = M) := by rw [← HM0.out, ← HP.out, ← HN.out]; rfl
  have HML : Hid (M.length = n + q) := by show _ = _; rw [← HM0.out, List.length_append, HN.out, HQ.out]
  have hmod : (n + q) % 64 = 0 := by have := padL_whole n; rwa [HP.out, HQ.out] at this
  have HMB : Hid (∀ x ∈ M, 0 ≤ x ∧ x < 256) := by
    intro x hx
    rw [← HM0.out] at hx
    rcases List.mem_append.1 hx with h1 | h1
    · exact hmb.out x h1
    · exact HBP.out.2 x h1
  have hbm : HB w4 v4 M := by
    refine HB.of_own (B := W0.heap.size) (e := 5) ?_ HMB.out
    have h4 := ho4
    rw [← List.map_append, HM0.out] at h4
    rw [HML.out, ← HN.out, ← HQ.out]
    exact h4
  have HB04 : Hid (Below W0.heap.size W0 w4) := HB03.out.grown hg4 HB03.out.size (fun k e => (HO3.out.lt k e).1)
  have HB4 : Hid (Below w.heap.size w w4) := HB0.out.trans (HB04.out.mono (by have := HS0.out; omega))
  have HRR4 : Hid (w4.heap[w.heap.size]? = some (.cells zd 28 (0, 0))) := (HB04.out.block _ (by have := HS0.out; omega)).trans HR0.out
  have hq9 : 9 ≤ q := by rw [← HQ.out, ← HP.out, padL_length]; omega
  obtain ⟨b4, o4, c4, e4, hc4, hm4, hcell4⟩ := hbm.ne (by rw [HML.out]; omega)
  rw [HML.out] at e4 hc4 hcell4
  have hb4 : b4 < w4.heap.size := World.block_lt_of_cell? w4 _ (hcell4 0 (by omega))
  have HC4 := hid hcell4
  unfold maxLen at hm4
  subst e4
  clear ho4 hg4 hbm hcell4 HO3 HBP
  obtain ⟨ivc, HIV⟩ : ∃ ivc, Hid (cellsW iv = ivc) := ⟨_, rfl⟩
  obtain ⟨z8, HZ8⟩ : ∃ z8, Hid (cellsW (zerosW 8) = z8) := ⟨_, rfl⟩
  have hz8 := zero_w8
  rw [HZ8.out] at hz8
  have HZ1 := hid hz8
  have HIm : Hid ((Tryd.prog.info? 88).map (·.size) = some ivc.size) := by rw [← HIV.out]; exact size_w8
  have H1m : Hid (ivc.all (·.oneCell') = true) := by rw [← HIV.out]; exact cellsW_one _
  have HZM : Hid (z8.size = ivc.size) := by rw [← HZ8.out, ← HIV.out, cellsW_size, zerosW_length]; exact rfl
  have CI := hid (rinitial_any w4)
  clear hz8
  rw [HIV.out] at CI
  go_wp2_with fail
  refine CI.out.mono ?_
  rintro e w5 ⟨rfl, hB5⟩
  have HB5 := hid hB5
  clear hB5
  have HR : Hid ((w5.alloc (.cells z8 88)).heap[w5.heap.size]? = some (.cells z8 88 (0, 0))) := heap_alloc_new w5 _
  have HB6 := hid (below_setRow ((Below.refl _ w5).alloc (Nat.le_refl _) (.cells z8 88)) (g := w5.heap.size) (Nat.le_refl _) ivc)
  have HF0 : Hid (((w5.alloc (.cells z8 88)).setRow w5.heap.size ivc).heap[w5.heap.size]? = some (.cells (cellsW (wAt M 0)) 88 (0, 0))) := by rw [show cellsW (wAt M 0) = ivc from HIV.out]; exact setRow_heap _ _ _ _ _ _ HR.out
  go_wp2_with (first | (refine wpList_alloc_agg HZ1.out rfl rfl ?_) | (refine wpList_store_row rfl 88 _ _ rfl w5.heap.size ivc rfl rfl 88 _ HR.out HIm.out HZM.out H1m.out ?_))
  go_loopw [7] (fun i wr => ∃ k I : Nat, I = 64 * k ∧ I ≤ n + q ∧ i = .int .i64 I ∧ Hid (wr.heap[w5.heap.size]? = some (.cells (cellsW (wAt M k)) 88 (0, 0))) ∧ Hid (Below w5.heap.size w5 wr)) (fun i _ => n + q - (intOf i).toNat)
  case atStart => exact ⟨0, 0, rfl, Nat.zero_le _, rfl, HF0, HB6⟩
  case round =>
    obtain ⟨k, I, hIk, hI, rfl, HF, HBk⟩ := hrel
    obtain ⟨wo, rfl⟩ : ∃ wo, wo = wr := ⟨_, rfl⟩
    have HIK := hid hIk
    clear hIk
    have hbr : b4 < w5.heap.size := by have := HB5.out.size; omega
    have hsr := HBk.out.size
    have HCr : Hid (∀ j, j < n + q → wo.cell? ⟨b4, o4 + j, none⟩ = some (.int .u8 (M.getD j 0))) := fun j hj => ((HBk.out.cell hbr).trans (HB5.out.cell hb4)).trans (HC4.out j hj)
    have h8 := wAt_W8 M k
    by_cases hlt : I + 64 ≤ n + q
    · have hbl := blkOf_length (m := M) (k := k) (by rw [HML.out]; have := HIK.out; omega)
      have hbb := blkOf_byt HMB.out k
      have HBG : Hid (∀ j, j < 64 → M.getD (I + j) 0 = (blkOf M k).getD j 0) := fun j hj => by rw [blkOf_get M k j hj, HIK.out]
      have HW1 : Hid (wAt M (k + 1) = mixL (wAt M k) (blkOf M k)) := rfl
      obtain ⟨B, HBL⟩ : ∃ B, Hid (blkOf M k = B) := ⟨_, rfl⟩
      obtain ⟨W, HW⟩ : ∃ W, Hid (wAt M k = W) := ⟨_, rfl⟩
      rw [HBL.out] at hbl hbb HBG HW1
      rw [HW.out] at h8 HF HW1
      have H8 := hid h8
      have HBB := hid hbb
      obtain ⟨zb, HZB⟩ : ∃ zb, Hid (cellsB (List.replicate 64 0) = zb) := ⟨_, rfl⟩
      have hzb := zero_b64
      rw [HZB.out] at hzb
      have HZ2 := hid hzb
      obtain ⟨W7, hW7⟩ : ∃ W7, Hid (wo.alloc (.cells zb 90) = W7) := ⟨_, rfl⟩
      have HB7 : Hid (Below wo.heap.size wo W7) := by rw [← hW7.out]; exact (Below.refl _ wo).alloc (Nat.le_refl _) _
      have hs7 : W7.heap.size = wo.heap.size + 1 := by rw [← hW7.out]; simp
      have HR7 : Hid (W7.heap[wo.heap.size]? = some (.cells (cellsB (curB B 0)) 90 (0, 0))) := by
        rw [← hW7.out, show cellsB (curB B 0) = zb from HZB.out]
        exact heap_alloc_new wo _
      clear h8 hbb hzb
      go_wp2_with (refine wpList_alloc_agg HZ2.out rfl rfl ?_; rw [hW7.out])
      clear hW7
      go_loopw [9] (fun i wq => ∃ J : Nat, J ≤ 64 ∧ i = .int .i64 J ∧ Hid (wq.heap[wo.heap.size]? = some (.cells (cellsB (curB B J)) 90 (0, 0))) ∧ Hid (W7.grownBy wq (some wo.heap.size))) (fun i _ => 64 - (intOf i).toNat)
      case atStart => exact ⟨0, Nat.zero_le _, rfl, HR7, ⟨rfl, rfl, rfl, Nat.le_refl _, fun _ _ _ => rfl⟩⟩
      case round =>
        obtain ⟨J, hJ, rfl, HFB, HG⟩ := hrel
        have hbw : b4 < wo.heap.size := by omega
        have HB8 : Hid (Below wo.heap.size wo wr) := HB7.out.grown HG.out (by omega) (fun k e => by cases e; exact Nat.le_refl _)
        by_cases hlj : J < 64
        · have hcx : wr.cell? ⟨b4, o4 + (I + J), none⟩ = some (.int .u8 (B.getD J 0)) := by
            rw [← HBG.out J hlj]
            exact (HB8.out.cell hbw).trans (HCr.out (I + J) (by omega))
          have hcb : wr.cell? ⟨wo.heap.size, J, none⟩ = some (.int .u8 ((curB B J).getD J 0)) := by
            rw [cell_of_row wr wo.heap.size J _ _ _ HFB.out]
            have hj2 : J < (curB B J).length := by rw [curB_length B J (by omega) hbl]; omega
            simp [cellsB, List.getD, List.getElem?_eq_getElem hj2]
          obtain ⟨old, HOLD⟩ : ∃ old, Hid ((curB B J).getD J 0 = old) := ⟨_, rfl⟩
          rw [HOLD.out] at hcb
          obtain ⟨x, HX⟩ : ∃ x, Hid (B.getD J 0 = x) := ⟨_, rfl⟩
          rw [HX.out] at hcx
          have hfz : wr.frozen? ⟨wo.heap.size, J, none⟩ = false := by simp [World.frozen?, HFB.out]
          go_wp2
          refine ⟨⟨J + 1, by omega, by go_num, ?_, grown_tr HG.out (grown_sets _ _ _ _)⟩, by simp [intOf]; omega⟩
          show _ = _
          rw [← curB_step B J hlj hbl, HX.out, ← cellsB_set2]
          exact heap_setCell_same wr wo.heap.size J _ _ _ HFB.out
        · have hJ64 : J = 64 := by omega
          subst hJ64
          have HCB : Hid (curB B 64 = B) := by
            show _ = _
            unfold curB
            rw [List.take_of_length_le (by omega), List.drop_eq_nil_of_le (by rw [List.length_replicate]; omega), List.append_nil]
          rw [HCB.out] at HFB
          obtain ⟨mb, HMB2⟩ : ∃ mb, Hid (cellsB B = mb) := ⟨_, rfl⟩
          obtain ⟨mw, HMW⟩ : ∃ mw, Hid (cellsW W = mw) := ⟨_, rfl⟩
          obtain ⟨mx, HMX⟩ : ∃ mx, Hid (cellsW (mixL W B) = mx) := ⟨_, rfl⟩
          have CM := hid (rmix_any wr W B H8.out hbl HBB.out)
          rw [HMB2.out, HMW.out, HMX.out] at CM
          rw [HMB2.out] at HFB
          have HFW : Hid (wr.heap[w5.heap.size]? = some (.cells mw 88 (0, 0))) := by
            show _ = _
            rw [HB8.out.block _ (by have := World.block_lt_of_cell? wo ⟨w5.heap.size, 0, none⟩ (u := .int .u32 ((W.getD 0 0 : Nat) : Int)) (by rw [cell_of_row wo w5.heap.size 0 _ _ _ HF.out]; exact cellsW_get (by rw [H8.out.1]; decide)); exact this), ← HMW.out]
            exact HF.out
          have hmws : mw.size = 8 := by rw [← HMW.out, cellsW_size, H8.out.1]
          have hmxs : mx.size = 8 := by rw [← HMX.out, cellsW_size, H8.out.mix.1]
          have hmbs : mb.size = 64 := by rw [← HMB2.out]; simp [cellsB, hbl]
          have HIb : Hid ((Tryd.prog.info? 90).map (·.size) = some mb.size) := by rw [hmbs]; exact size_b64
          have HIw : Hid ((Tryd.prog.info? 88).map (·.size) = some mw.size) := by rw [hmws]; exact size_w8
          have HIx : Hid ((Tryd.prog.info? 88).map (·.size) = some mx.size) := by rw [hmxs]; exact size_w8
          have HWX : Hid (mw.size = mx.size) := by rw [hmws, hmxs]; exact rfl
          have H1x : Hid (mx.all (·.oneCell') = true) := by rw [← HMX.out]; exact cellsW_one _
          clear hmws hmxs hmbs
          go_wp2_with (first | (refine wpList_load_row rfl 88 _ rfl w5.heap.size rfl 88 mw (0, 0) _ HFW.out Tryd.underlying88 rfl HIw.out ?_) | (refine wpList_load_row rfl 90 _ rfl wo.heap.size rfl 90 mb (0, 0) _ HFB.out Tryd.underlying90 rfl HIb.out ?_))
          refine CM.out.mono ?_
          rintro e w8 ⟨rfl, hB8⟩
          have hw5r : w5.heap.size < wr.heap.size := by have h1 := HB8.out.size; have h2 := HG.out.size; omega
          have HF8 : Hid (w8.heap[w5.heap.size]? = some (.cells mw 88 (0, 0))) := (hB8.block _ hw5r).trans HFW.out
          have HF9 : Hid ((w8.setRow w5.heap.size mx).heap[w5.heap.size]? = some (.cells mx 88 (0, 0))) := setRow_heap _ _ _ _ _ _ HF8.out
          have HB9 := hid (below_setRow ((HBk.out.trans (HB8.out.mono HBk.out.size)).trans (hB8.mono (Nat.le_trans HBk.out.size HB8.out.size))) (g := w5.heap.size) (Nat.le_refl _) mx)
          clear hB8
          go_wp2_with (refine wpList_store_row rfl 88 _ _ rfl w5.heap.size mx rfl rfl 88 _ HF8.out HIx.out HWX.out H1x.out ?_)
          refine ⟨⟨k + 1, I + 64, by have := HIK.out; omega, by omega, by go_num, ?_, HB9⟩, by simp [intOf]; omega⟩
          show _ = _
          rw [HW1.out, HMX.out]
          exact HF9.out
    · have hIe : I = n + q := by have := HIK.out; omega
      have HWE : Hid (wAt M k = wAt (padded m) ((padded m).length / 64)) := by
        show _ = _
        have h1 : (padded m).length / 64 = k := by rw [HPM.out, HML.out]; have := HIK.out; omega
        rw [h1, HPM.out]
      obtain ⟨W, HW⟩ : ∃ W, Hid (wAt M k = W) := ⟨_, rfl⟩
      rw [HW.out] at HF h8 HWE
      have H8 := hid h8
      obtain ⟨D, HD⟩ : ∃ D, Hid (W.flatMap (bigL 4) = D) := ⟨_, rfl⟩
      have HDG : Hid (digL m = D) := by show _ = _; rw [← HD.out, HWE.out]; rfl
      have hDl : D.length = 32 := by rw [← HDG.out, digL_length]
      have hwol : w5.heap.size < wo.heap.size := World.block_lt_of_cell? wo ⟨w5.heap.size, 0, none⟩ (u := .int .u32 ((W.getD 0 0 : Nat) : Int)) (by rw [cell_of_row wo w5.heap.size 0 _ _ _ HF.out]; exact cellsW_get (by rw [H8.out.1]; decide))
      have HBo5 : Hid (Below w4.heap.size w4 wo) := HB5.out.trans (HBk.out.mono HB5.out.size)
      have HBo : Hid (Below w.heap.size w wo) := HB4.out.trans (HBo5.out.mono HB4.out.size)
      have hw4 : w.heap.size < w4.heap.size := by have := HB04.out.size; have := HS0.out; omega
      have hwwo : w.heap.size < wo.heap.size := by have := HBo5.out.size; omega
      have HRo : Hid (wo.heap[w.heap.size]? = some (.cells zd 28 (0, 0))) := (HBo5.out.block _ hw4).trans HRR4.out
      obtain ⟨W7, hW7⟩ : ∃ W7, Hid (wo.alloc (.cells zd 28) = W7) := ⟨_, rfl⟩
      have HB7 : Hid (Below wo.heap.size wo W7) := by rw [← hW7.out]; exact (Below.refl _ wo).alloc (Nat.le_refl _) _
      have HS7 : Hid (W7.heap.size = wo.heap.size + 1) := by rw [← hW7.out]; refine hid ?_; simp
      have HR7 : Hid (W7.heap[wo.heap.size]? = some (.cells (cellsB (curE D 0)) 28 (0, 0))) := by
        rw [← hW7.out, show cellsB (curE D 0) = zd from HZD.out]
        exact heap_alloc_new wo _
      have HRr7 : Hid (W7.heap[w.heap.size]? = some (.cells zd 28 (0, 0))) := (HB7.out.block _ (by omega)).trans HRo.out
      have HF7 : Hid (W7.heap[w5.heap.size]? = some (.cells (cellsW W) 88 (0, 0))) := (HB7.out.block _ hwol).trans HF.out
      clear h8 hlt
      go_wp2_with (refine wpList_alloc_digest rfl rfl ?_; rw [HZD.out, hW7.out])
      clear hW7
      go_loopw [11] (fun i wq => ∃ J : Nat, J ≤ 32 ∧ i = .int .i64 J ∧ Hid (wq.heap[wo.heap.size]? = some (.cells (cellsB (curE D J)) 28 (0, 0))) ∧ Hid (W7.grownBy wq (some wo.heap.size))) (fun i _ => 32 - (intOf i).toNat)
      case atStart => exact ⟨0, Nat.zero_le _, rfl, HR7, ⟨rfl, rfl, rfl, Nat.le_refl _, fun _ _ _ => rfl⟩⟩
      case round =>
        obtain ⟨J, hJ, rfl, HFB, HG⟩ := hrel
        by_cases hlj : J < 32
        · obtain ⟨a, r, HJ⟩ : ∃ a r, Hid (J = 4 * a + r ∧ r < 4) := ⟨J / 4, J % 4, by show _ ∧ _; omega⟩
          have ha8 : a < 8 := by have := HJ.out; omega
          have HGD := hid (dig_get H8.out a r ha8 HJ.out.2)
          rw [HD.out, ← HJ.out.1] at HGD
          obtain ⟨x, HX⟩ : ∃ x, Hid (W.getD a 0 = x) := ⟨_, rfl⟩
          rw [HX.out] at HGD
          have hxl : x < 4294967296 := by rw [← HX.out]; exact getW_lt H8.out.2 a
          have cw : wr.cell? ⟨w5.heap.size, a, none⟩ = some (.int .u32 (x : Int)) := by
            rw [cell_of_row wr w5.heap.size a _ _ _ ((HG.out.block w5.heap.size (by have := HS7.out; omega) (by simp; omega)).trans HF7.out), cellsW_get (by rw [H8.out.1]; exact ha8), HX.out]
          have hcb : wr.cell? ⟨wo.heap.size, J, none⟩ = some (.int .u8 ((curE D J).getD J 0)) := by
            rw [cell_of_row wr wo.heap.size J _ _ _ HFB.out]
            have hj2 : J < (curE D J).length := by rw [curE_length D J (by omega) hDl]; omega
            simp [cellsB, List.getD, List.getElem?_eq_getElem hj2]
          obtain ⟨old, HOLD⟩ : ∃ old, Hid ((curE D J).getD J 0 = old) := ⟨_, rfl⟩
          rw [HOLD.out] at hcb
          have hfz : wr.frozen? ⟨wo.heap.size, J, none⟩ = false := by simp [World.frozen?, HFB.out]
          have e1 : Int.tdiv (J : Int) 4 = (a : Int) := by have := HJ.out; rw [Int.tdiv_eq_ediv_of_nonneg (by omega)]; omega
          have FIN : Hid (∀ y : Int, y = D.getD J 0 → Hid ((wr.setCell ⟨wo.heap.size, J, none⟩ (.int .u8 y)).heap[wo.heap.size]? = some (.cells (cellsB (curE D (J + 1))) 28 (0, 0)))) := fun y hy => by
            rw [← curE_step D J hlj hDl, ← hy, ← cellsB_set2]
            exact heap_setCell_same wr wo.heap.size J _ _ _ HFB.out
          have hr4 : r = 0 ∨ r = 1 ∨ r = 2 ∨ r = 3 := by have := HJ.out.2; omega
          rcases hr4 with rfl | rfl | rfl | rfl
          · have e2 : Int.tmod (J : Int) 4 = 0 := by have := HJ.out; rw [Int.tmod_eq_emod_of_nonneg (by omega)]; omega
            go_wp2
            exact ⟨⟨J + 1, by omega, by go_num, FIN.out _ (by rw [HGD.out]; simp; try omega), grown_tr HG.out (grown_sets _ _ _ _)⟩, by simp [intOf]; omega⟩
          · have e2 : Int.tmod (J : Int) 4 = 1 := by have := HJ.out; rw [Int.tmod_eq_emod_of_nonneg (by omega)]; omega
            go_wp2
            exact ⟨⟨J + 1, by omega, by go_num, FIN.out _ (by rw [HGD.out]; simp; try omega), grown_tr HG.out (grown_sets _ _ _ _)⟩, by simp [intOf]; omega⟩
          · have e2 : Int.tmod (J : Int) 4 = 2 := by have := HJ.out; rw [Int.tmod_eq_emod_of_nonneg (by omega)]; omega
            go_wp2
            exact ⟨⟨J + 1, by omega, by go_num, FIN.out _ (by rw [HGD.out]; simp; try omega), grown_tr HG.out (grown_sets _ _ _ _)⟩, by simp [intOf]; omega⟩
          · have e2 : Int.tmod (J : Int) 4 = 3 := by have := HJ.out; rw [Int.tmod_eq_emod_of_nonneg (by omega)]; omega
            go_wp2
            exact ⟨⟨J + 1, by omega, by go_num, FIN.out _ (by rw [HGD.out]; simp; try omega), grown_tr HG.out (grown_sets _ _ _ _)⟩, by simp [intOf]; omega⟩
        · have hJ32 : J = 32 := by omega
          subst hJ32
          have HCE : Hid (curE D 32 = D) := by
            show _ = _
            unfold curE
            rw [List.take_of_length_le (by omega), List.drop_eq_nil_of_le (by rw [zeros32_length]; omega), List.append_nil]
          rw [HCE.out] at HFB
          obtain ⟨dm, HDM⟩ : ∃ dm, Hid (cellsB D = dm) := ⟨_, rfl⟩
          rw [HDM.out] at HFB
          have hds : dm.size = 32 := by rw [← HDM.out]; simp [cellsB, hDl]
          have SD : Hid ((Tryd.prog.info? 28).map (·.size) = some dm.size) := by rw [hds]; exact size_digest
          have OD : Hid (dm.all (·.oneCell') = true) := by
            rw [← HDM.out]
            exact all_oneCell_toArray (fun v hv => by obtain ⟨x, _, rfl⟩ := List.mem_map.1 hv; rfl)
          have ZD : Hid (zd.size = dm.size) := by rw [hds, ← HZD.out]; rfl
          have HRf : Hid (wr.heap[w.heap.size]? = some (.cells zd 28 (0, 0))) := (HG.out.block w.heap.size (by have := HS7.out; omega) (by simp; omega)).trans HRr7.out
          have HBF := hid (below_setRow (HBo.out.trans ((HB7.out.grown HG.out HB7.out.size (fun k e => by cases e; exact Nat.le_refl _)).mono HBo.out.size)) (g := w.heap.size) (Nat.le_refl _) dm)
          clear hds hlj
          go_wp2_with (first | (refine wpList_load_row rfl 28 _ rfl wo.heap.size rfl 28 dm (0, 0) _ HFB.out Tryd.underlying28 rfl SD.out ?_) | (refine wpList_store_row rfl 28 _ _ rfl w.heap.size dm rfl rfl 28 _ HRf.out SD.out ZD.out OD.out ?_))
          refine bodyPost_ret (v := .agg dm) (results_cell_row (p := 2) (ty := 28) rfl _ _ w.heap.size 28 dm (0, 0) _ rfl (setRow_heap _ _ _ _ _ _ HRf.out) Tryd.underlying28 rfl SD.out) rfl ?_
          exact ⟨by rw [HDG.out, HDM.out], HBF.out⟩
end Go.Proofs.YtjmlpkemjafifaaDoor
