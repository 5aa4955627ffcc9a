/- Of the road to shaStreamsUptoCard_holds: RefShaSum, AppW, RegLast, StWalk. -/
import Derived.Test.YtinahldjpobigaaDoorG07
import Derived.Test.YtinahldjpobigaaDoorG06
import Derived.Test.YtinahldjpobigaaDoorG01
import Derived.Laws.AppendOwnNone
import Derived.Test.YtinahldjpobigaaDoorG00
import Derived.OrdersHeld
import Derived.Deep.RegionHeld
set_option linter.unusedVariables false
set_option linter.unusedSimpArgs false
namespace Go.Proofs.YtinahldjpobigaaDoor
open Go.RowKit
def curE (t : List Int) (i : Nat) : List Int := t.take i ++ zeros32.drop i
theorem curE_length (t : List Int) (i : Nat) (hi : i ≤ 32) (ht : t.length = 32) : (curE t i).length = 32 := by
  unfold curE
  rw [List.length_append, List.length_take, List.length_drop, zeros32_length]
  omega
theorem curE_step (t : List Int) (i : Nat) (hi : i < 32) (ht : t.length = 32) : (curE t i).set i (t.getD i 0) = curE t (i + 1) := by
  unfold curE
  have hl : (t.take i).length = i := by rw [List.length_take]; omega
  have hz : i < zeros32.length := by rw [zeros32_length]; omega
  have hi2 : i < t.length := by omega
  rw [List.set_append_right _ _ (by omega), hl, Nat.sub_self, List.drop_eq_getElem_cons hz, List.set_cons_zero, List.take_succ_eq_append_getElem hi2, getD_of_lt hi2, List.append_assoc]
  rfl
set_option maxRecDepth 100000 in
set_option maxHeartbeats 4000000 in
theorem rsum_any (w : World) (v : Value) (m : List Int) (h : HB w v m) (hbig : m.length ≤ 140737488355000) : Calls Tryd.prog 22 #[v] w fun e w' => e = .returned (.agg (cellsB (digL m))) ∧ Below w.heap.size w w' := by
  obtain ⟨zd, HZD⟩ : ∃ zd, Hid (cellsB zeros32 = zd) := ⟨_, rfl⟩
  obtain ⟨W0, hW0⟩ : ∃ W0, Hid (w.alloc (.cells zd 52) = W0) := ⟨_, rfl⟩
  have HB0 : Hid (Below w.heap.size w W0) := by rw [← hW0.out]; exact (Below.refl _ w).alloc (Nat.le_refl _) _
  have HR0 : Hid (W0.heap[w.heap.size]? = some (.cells zd 52 (0, 0))) := by rw [← hW0.out]; exact heap_alloc_new w _
  have HS0 : Hid (W0.heap.size = w.heap.size + 1) := by rw [← hW0.out]; refine hid ?_; simp
  obtain ⟨p, c, ev, hlc, hcm⟩ := h.open
  unfold maxLen at hcm
  obtain ⟨n, HN⟩ : ∃ n, Hid (m.length = n) := ⟨_, rfl⟩
  rw [HN.out] at ev hlc hbig
  have HH := hid (h.below HB0.out)
  have hmb := hid h.2
  subst ev
  clear h
  go_enter Tryd.func22, Tryd.ntmps22
  have HV0 : Hid (World.ownsRow W0 W0.heap.size 5 1 (.slice none 0 0) 0 []) := World.ownsRow_nil _ _ _ _
  go_wp2_with (first | (refine wpList_alloc_digest rfl rfl ?_; rw [HZD.out, hW0.out]) | (at_builtin; refine wpList_append_HB rfl _ _ rfl W0.heap.size (.slice none 0 0) 0 [] rfl HV0.out (.slice p n c) m rfl HH.out (by rw [HN.out]; omega) (Nat.le_refl _) ?_))
  intro v3 w2 ho3 hg3
  have HB02 : Hid (Below W0.heap.size W0 w2) := (Below.refl _ W0).grown hg3 (Nat.le_refl _) (fun k e => by cases e)
  have HO2 := hid ho3
  clear ho3 hg3
  go_wp2_with fail
  refine (rpad_ok _ n (by omega)).mono ?_
  rintro e w3 ⟨v2, rfl, ho2, hB2⟩
  obtain ⟨P, HP⟩ : ∃ P, Hid (padL n = P) := ⟨_, rfl⟩
  obtain ⟨q, HQ⟩ : ∃ q, Hid (P.length = q) := ⟨_, rfl⟩
  have hq72 : q ≤ 72 := by rw [← HQ.out, ← HP.out, padL_length]; unfold padZ; omega
  have HBP : Hid (HB w3 v2 P) := by rw [← HP.out]; exact HB.of_own ho2 (padL_byt n)
  have HO3 := hid (own_later HO2.out hB2)
  have HB03 : Hid (Below W0.heap.size W0 w3) := HB02.out.trans (hB2.mono HB02.out.size)
  obtain ⟨p2, c2, e2, hl2, hm2⟩ := HBP.out.open
  rw [HQ.out] at e2
  subst e2
  clear ho2 hB2 HO2
  go_wp2_with (at_builtin; refine wpList_append_HB rfl _ _ rfl W0.heap.size _ _ _ rfl HO3.out _ _ rfl HBP.out ?q1 ?q2 ?_)
  case q1 => rw [HN.out, HQ.out]; omega
  case q2 => exact HB03.out.size
  intro v4 w4 ho4 hg4
  obtain ⟨M, HM0⟩ : ∃ M, Hid (m ++ P = M) := ⟨_, rfl⟩
  have HPM : Hid (padded m = M) := by rw [← HM0.out, ← HP.out, ← HN.out]; rfl
  have HML : Hid (M.length = n + q) := by show _ = _; rw [← HM0.out, List.length_append, HN.out, HQ.out]
  have hmod : (n + q) % 64 = 0 := by have := padL_whole n; rwa [HP.out, HQ.out] at this
  have HMB : Hid (∀ x ∈ M, 0 ≤ x ∧ x < 256) := by
    intro x hx
    rw [← HM0.out] at hx
    rcases List.mem_append.1 hx with h1 | h1
    · exact hmb.out x h1
    · exact HBP.out.2 x h1
  have hbm : HB w4 v4 M := by
    refine HB.of_own (B := W0.heap.size) (e := 5) ?_ HMB.out
    have h4 := ho4
    rw [← List.map_append, HM0.out] at h4
    rw [HML.out, ← HN.out, ← HQ.out]
    exact h4
  have HB04 : Hid (Below W0.heap.size W0 w4) := HB03.out.grown hg4 HB03.out.size (fun k e => (HO3.out.lt k e).1)
  have HB4 : Hid (Below w.heap.size w w4) := HB0.out.trans (HB04.out.mono (by have := HS0.out; omega))
  have HRR4 : Hid (w4.heap[w.heap.size]? = some (.cells zd 52 (0, 0))) := (HB04.out.block _ (by have := HS0.out; omega)).trans HR0.out
  have hq9 : 9 ≤ q := by rw [← HQ.out, ← HP.out, padL_length]; omega
  obtain ⟨b4, o4, c4, e4, hc4, hm4, hcell4⟩ := hbm.ne (by rw [HML.out]; omega)
  rw [HML.out] at e4 hc4 hcell4
  have hb4 : b4 < w4.heap.size := World.block_lt_of_cell? w4 _ (hcell4 0 (by omega))
  have HC4 := hid hcell4
  unfold maxLen at hm4
  subst e4
  clear ho4 hg4 hbm hcell4 HO3 HBP
  obtain ⟨ivc, HIV⟩ : ∃ ivc, Hid (cellsW iv = ivc) := ⟨_, rfl⟩
  obtain ⟨z8, HZ8⟩ : ∃ z8, Hid (cellsW (zerosW 8) = z8) := ⟨_, rfl⟩
  have hz8 := zero_w8
  rw [HZ8.out] at hz8
  have HZ1 := hid hz8
  have HIm : Hid ((Tryd.prog.info? 25).map (·.size) = some ivc.size) := by rw [← HIV.out]; exact size_w8
  have H1m : Hid (ivc.all (·.oneCell') = true) := by rw [← HIV.out]; exact cellsW_one _
  have HZM : Hid (z8.size = ivc.size) := by rw [← HZ8.out, ← HIV.out, cellsW_size, zerosW_length]; exact rfl
  have CI := hid (rinitial_any w4)
  clear hz8
  rw [HIV.out] at CI
  go_wp2_with fail
  refine CI.out.mono ?_
  rintro e w5 ⟨rfl, hB5⟩
  have HB5 := hid hB5
  clear hB5
  have HR : Hid ((w5.alloc (.cells z8 25)).heap[w5.heap.size]? = some (.cells z8 25 (0, 0))) := heap_alloc_new w5 _
  have HB6 := hid (below_setRow ((Below.refl _ w5).alloc (Nat.le_refl _) (.cells z8 25)) (g := w5.heap.size) (Nat.le_refl _) ivc)
  have HF0 : Hid (((w5.alloc (.cells z8 25)).setRow w5.heap.size ivc).heap[w5.heap.size]? = some (.cells (cellsW (wAt M 0)) 25 (0, 0))) := by rw [show cellsW (wAt M 0) = ivc from HIV.out]; exact setRow_heap _ _ _ _ _ _ HR.out
  go_wp2_with (first | (refine wpList_alloc_agg HZ1.out rfl rfl ?_) | (refine wpList_store_row rfl 25 _ _ rfl w5.heap.size ivc rfl rfl 25 _ HR.out HIm.out HZM.out H1m.out ?_))
  go_loopw [7] (fun i wr => ∃ k I : Nat, I = 64 * k ∧ I ≤ n + q ∧ i = .int .i64 I ∧ Hid (wr.heap[w5.heap.size]? = some (.cells (cellsW (wAt M k)) 25 (0, 0))) ∧ Hid (Below w5.heap.size w5 wr)) (fun i _ => n + q - (intOf i).toNat)
  case atStart => exact ⟨0, 0, rfl, Nat.zero_le _, rfl, HF0, HB6⟩
  case round =>
    obtain ⟨k, I, hIk, hI, rfl, HF, HBk⟩ := hrel
    obtain ⟨wo, rfl⟩ : ∃ wo, wo = wr := ⟨_, rfl⟩
    have HIK := hid hIk
    clear hIk
    have hbr : b4 < w5.heap.size := by have := HB5.out.size; omega
    have hsr := HBk.out.size
    have HCr : Hid (∀ j, j < n + q → wo.cell? ⟨b4, o4 + j, none⟩ = some (.int .u8 (M.getD j 0))) := fun j hj => ((HBk.out.cell hbr).trans (HB5.out.cell hb4)).trans (HC4.out j hj)
    have h8 := wAt_W8 M k
    by_cases hlt : I + 64 ≤ n + q
    · have hbl := blkOf_length (m := M) (k := k) (by rw [HML.out]; have := HIK.out; omega)
      have hbb := blkOf_byt HMB.out k
      have HBG : Hid (∀ j, j < 64 → M.getD (I + j) 0 = (blkOf M k).getD j 0) := fun j hj => by rw [blkOf_get M k j hj, HIK.out]
      have HW1 : Hid (wAt M (k + 1) = mixL (wAt M k) (blkOf M k)) := rfl
      obtain ⟨B, HBL⟩ : ∃ B, Hid (blkOf M k = B) := ⟨_, rfl⟩
      obtain ⟨W, HW⟩ : ∃ W, Hid (wAt M k = W) := ⟨_, rfl⟩
      rw [HBL.out] at hbl hbb HBG HW1
      rw [HW.out] at h8 HF HW1
      have H8 := hid h8
      have HBB := hid hbb
      obtain ⟨zb, HZB⟩ : ∃ zb, Hid (cellsB (List.replicate 64 0) = zb) := ⟨_, rfl⟩
      have hzb := zero_b64
      rw [HZB.out] at hzb
      have HZ2 := hid hzb
      obtain ⟨W7, hW7⟩ : ∃ W7, Hid (wo.alloc (.cells zb 28) = W7) := ⟨_, rfl⟩
      have HB7 : Hid (Below wo.heap.size wo W7) := by rw [← hW7.out]; exact (Below.refl _ wo).alloc (Nat.le_refl _) _
      have hs7 : W7.heap.size = wo.heap.size + 1 := by rw [← hW7.out]; simp
      have HR7 : Hid (W7.heap[wo.heap.size]? = some (.cells (cellsB (curB B 0)) 28 (0, 0))) := by
        rw [← hW7.out, show cellsB (curB B 0) = zb from HZB.out]
        exact heap_alloc_new wo _
      clear h8 hbb hzb
      go_wp2_with (refine wpList_alloc_agg HZ2.out rfl rfl ?_; rw [hW7.out])
      clear hW7
      go_loopw [9] (fun i wq => ∃ J : Nat, J ≤ 64 ∧ i = .int .i64 J ∧ Hid (wq.heap[wo.heap.size]? = some (.cells (cellsB (curB B J)) 28 (0, 0))) ∧ Hid (W7.grownBy wq (some wo.heap.size))) (fun i _ => 64 - (intOf i).toNat)
      case atStart => exact ⟨0, Nat.zero_le _, rfl, HR7, ⟨rfl, rfl, rfl, Nat.le_refl _, fun _ _ _ => rfl⟩⟩
      case round =>
        obtain ⟨J, hJ, rfl, HFB, HG⟩ := hrel
        have hbw : b4 < wo.heap.size := by omega
        have HB8 : Hid (Below wo.heap.size wo wr) := HB7.out.grown HG.out (by omega) (fun k e => by cases e; exact Nat.le_refl _)
        by_cases hlj : J < 64
        · have hcx : wr.cell? ⟨b4, o4 + (I + J), none⟩ = some (.int .u8 (B.getD J 0)) := by
            rw [← HBG.out J hlj]
            exact (HB8.out.cell hbw).trans (HCr.out (I + J) (by omega))
          have hcb : wr.cell? ⟨wo.heap.size, J, none⟩ = some (.int .u8 ((curB B J).getD J 0)) := by
            rw [cell_of_row wr wo.heap.size J _ _ _ HFB.out]
            have hj2 : J < (curB B J).length := by rw [curB_length B J (by omega) hbl]; omega
            simp [cellsB, List.getD, List.getElem?_eq_getElem hj2]
          obtain ⟨old, HOLD⟩ : ∃ old, Hid ((curB B J).getD J 0 = old) := ⟨_, rfl⟩
          rw [HOLD.out] at hcb
          obtain ⟨x, HX⟩ : ∃ x, Hid (B.getD J 0 = x) := ⟨_, rfl⟩
          rw [HX.out] at hcx
          have hfz : wr.frozen? ⟨wo.heap.size, J, none⟩ = false := by simp [World.frozen?, HFB.out]
          go_wp2
          refine ⟨⟨J + 1, by omega, by go_num, ?_, grown_tr HG.out (grown_sets _ _ _ _)⟩, by simp [intOf]; omega⟩
          show _ = _
          rw [← curB_step B J hlj hbl, HX.out, ← cellsB_set2]
          exact heap_setCell_same wr wo.heap.size J _ _ _ HFB.out
        · have hJ64 : J = 64 := by omega
          subst hJ64
          have HCB : Hid (curB B 64 = B) := by
            show _ = _
            unfold curB
            rw [List.take_of_length_le (by omega), List.drop_eq_nil_of_le (by rw [List.length_replicate]; omega), List.append_nil]
          rw [HCB.out] at HFB
          obtain ⟨mb, HMB2⟩ : ∃ mb, Hid (cellsB B = mb) := ⟨_, rfl⟩
          obtain ⟨mw, HMW⟩ : ∃ mw, Hid (cellsW W = mw) := ⟨_, rfl⟩
          obtain ⟨mx, HMX⟩ : ∃ mx, Hid (cellsW (mixL W B) = mx) := ⟨_, rfl⟩
          have CM := hid (rmix_any wr W B H8.out hbl HBB.out)
          rw [HMB2.out, HMW.out, HMX.out] at CM
          rw [HMB2.out] at HFB
          have HFW : Hid (wr.heap[w5.heap.size]? = some (.cells mw 25 (0, 0))) := by
            show _ = _
            rw [HB8.out.block _ (by have := World.block_lt_of_cell? wo ⟨w5.heap.size, 0, none⟩ (u := .int .u32 ((W.getD 0 0 : Nat) : Int)) (by rw [cell_of_row wo w5.heap.size 0 _ _ _ HF.out]; exact cellsW_get (by rw [H8.out.1]; decide)); exact this), ← HMW.out]
            exact HF.out
          have hmws : mw.size = 8 := by rw [← HMW.out, cellsW_size, H8.out.1]
          have hmxs : mx.size = 8 := by rw [← HMX.out, cellsW_size, H8.out.mix.1]
          have hmbs : mb.size = 64 := by rw [← HMB2.out]; simp [cellsB, hbl]
          have HIb : Hid ((Tryd.prog.info? 28).map (·.size) = some mb.size) := by rw [hmbs]; exact size_b64
          have HIw : Hid ((Tryd.prog.info? 25).map (·.size) = some mw.size) := by rw [hmws]; exact size_w8
          have HIx : Hid ((Tryd.prog.info? 25).map (·.size) = some mx.size) := by rw [hmxs]; exact size_w8
          have HWX : Hid (mw.size = mx.size) := by rw [hmws, hmxs]; exact rfl
          have H1x : Hid (mx.all (·.oneCell') = true) := by rw [← HMX.out]; exact cellsW_one _
          clear hmws hmxs hmbs
          go_wp2_with (first | (refine wpList_load_row rfl 25 _ rfl w5.heap.size rfl 25 mw (0, 0) _ HFW.out Tryd.underlying25 rfl HIw.out ?_) | (refine wpList_load_row rfl 28 _ rfl wo.heap.size rfl 28 mb (0, 0) _ HFB.out Tryd.underlying28 rfl HIb.out ?_))
          refine CM.out.mono ?_
          rintro e w8 ⟨rfl, hB8⟩
          have hw5r : w5.heap.size < wr.heap.size := by have h1 := HB8.out.size; have h2 := HG.out.size; omega
          have HF8 : Hid (w8.heap[w5.heap.size]? = some (.cells mw 25 (0, 0))) := (hB8.block _ hw5r).trans HFW.out
          have HF9 : Hid ((w8.setRow w5.heap.size mx).heap[w5.heap.size]? = some (.cells mx 25 (0, 0))) := setRow_heap _ _ _ _ _ _ HF8.out
          have HB9 := hid (below_setRow ((HBk.out.trans (HB8.out.mono HBk.out.size)).trans (hB8.mono (Nat.le_trans HBk.out.size HB8.out.size))) (g := w5.heap.size) (Nat.le_refl _) mx)
          clear hB8
          go_wp2_with (refine wpList_store_row rfl 25 _ _ rfl w5.heap.size mx rfl rfl 25 _ HF8.out HIx.out HWX.out H1x.out ?_)
          refine ⟨⟨k + 1, I + 64, by have := HIK.out; omega, by omega, by go_num, ?_, HB9⟩, by simp [intOf]; omega⟩
          show _ = _
          rw [HW1.out, HMX.out]
          exact HF9.out
    · have hIe : I = n + q := by have := HIK.out; omega
      have HWE : Hid (wAt M k = wAt (padded m) ((padded m).length / 64)) := by
        show _ = _
        have h1 : (padded m).length / 64 = k := by rw [HPM.out, HML.out]; have := HIK.out; omega
        rw [h1, HPM.out]
      obtain ⟨W, HW⟩ : ∃ W, Hid (wAt M k = W) := ⟨_, rfl⟩
      rw [HW.out] at HF h8 HWE
      have H8 := hid h8
      obtain ⟨D, HD⟩ : ∃ D, Hid (W.flatMap (bigL 4) = D) := ⟨_, rfl⟩
      have HDG : Hid (digL m = D) := by show _ = _; rw [← HD.out, HWE.out]; rfl
      have hDl : D.length = 32 := by rw [← HDG.out, digL_length]
      have hwol : w5.heap.size < wo.heap.size := World.block_lt_of_cell? wo ⟨w5.heap.size, 0, none⟩ (u := .int .u32 ((W.getD 0 0 : Nat) : Int)) (by rw [cell_of_row wo w5.heap.size 0 _ _ _ HF.out]; exact cellsW_get (by rw [H8.out.1]; decide))
      have HBo5 : Hid (Below w4.heap.size w4 wo) := HB5.out.trans (HBk.out.mono HB5.out.size)
      have HBo : Hid (Below w.heap.size w wo) := HB4.out.trans (HBo5.out.mono HB4.out.size)
      have hw4 : w.heap.size < w4.heap.size := by have := HB04.out.size; have := HS0.out; omega
      have hwwo : w.heap.size < wo.heap.size := by have := HBo5.out.size; omega
      have HRo : Hid (wo.heap[w.heap.size]? = some (.cells zd 52 (0, 0))) := (HBo5.out.block _ hw4).trans HRR4.out
      obtain ⟨W7, hW7⟩ : ∃ W7, Hid (wo.alloc (.cells zd 52) = W7) := ⟨_, rfl⟩
      have HB7 : Hid (Below wo.heap.size wo W7) := by rw [← hW7.out]; exact (Below.refl _ wo).alloc (Nat.le_refl _) _
      have HS7 : Hid (W7.heap.size = wo.heap.size + 1) := by rw [← hW7.out]; refine hid ?_; simp
      have HR7 : Hid (W7.heap[wo.heap.size]? = some (.cells (cellsB (curE D 0)) 52 (0, 0))) := by
        rw [← hW7.out, show cellsB (curE D 0) = zd from HZD.out]
        exact heap_alloc_new wo _
      have HRr7 : Hid (W7.heap[w.heap.size]? = some (.cells zd 52 (0, 0))) := (HB7.out.block _ (by omega)).trans HRo.out
      have HF7 : Hid (W7.heap[w5.heap.size]? = some (.cells (cellsW W) 25 (0, 0))) := (HB7.out.block _ hwol).trans HF.out
      clear h8 hlt
      go_wp2_with (refine wpList_alloc_digest rfl rfl ?_; rw [HZD.out, hW7.out])
      clear hW7
      go_loopw [11] (fun i wq => ∃ J : Nat, J ≤ 32 ∧ i = .int .i64 J ∧ Hid (wq.heap[wo.heap.size]? = some (.cells (cellsB (curE D J)) 52 (0, 0))) ∧ Hid (W7.grownBy wq (some wo.heap.size))) (fun i _ => 32 - (intOf i).toNat)
      case atStart => exact ⟨0, Nat.zero_le _, rfl, HR7, ⟨rfl, rfl, rfl, Nat.le_refl _, fun _ _ _ => rfl⟩⟩
      case round =>
        obtain ⟨J, hJ, rfl, HFB, HG⟩ := hrel
        by_cases hlj : J < 32
        · obtain ⟨a, r, HJ⟩ : ∃ a r, Hid (J = 4 * a + r ∧ r < 4) := ⟨J / 4, J % 4, by show _ ∧ _; omega⟩
          have ha8 : a < 8 := by have := HJ.out; omega
          have HGD := hid (dig_get H8.out a r ha8 HJ.out.2)
          rw [HD.out, ← HJ.out.1] at HGD
          obtain ⟨x, HX⟩ : ∃ x, Hid (W.getD a 0 = x) := ⟨_, rfl⟩
          rw [HX.out] at HGD
          have hxl : x < 4294967296 := by rw [← HX.out]; exact getW_lt H8.out.2 a
          have cw : wr.cell? ⟨w5.heap.size, a, none⟩ = some (.int .u32 (x : Int)) := by
            rw [cell_of_row wr w5.heap.size a _ _ _ ((HG.out.block w5.heap.size (by have := HS7.out; omega) (by simp; omega)).trans HF7.out), cellsW_get (by rw [H8.out.1]; exact ha8), HX.out]
          have hcb : wr.cell? ⟨wo.heap.size, J, none⟩ = some (.int .u8 ((curE D J).getD J 0)) := by
            rw [cell_of_row wr wo.heap.size J _ _ _ HFB.out]
            have hj2 : J < (curE D J).length := by rw [curE_length D J (by omega) hDl]; omega
            simp [cellsB, List.getD, List.getElem?_eq_getElem hj2]
          obtain ⟨old, HOLD⟩ : ∃ old, Hid ((curE D J).getD J 0 = old) := ⟨_, rfl⟩
          rw [HOLD.out] at hcb
          have hfz : wr.frozen? ⟨wo.heap.size, J, none⟩ = false := by simp [World.frozen?, HFB.out]
          have e1 : Int.tdiv (J : Int) 4 = (a : Int) := by have := HJ.out; rw [Int.tdiv_eq_ediv_of_nonneg (by omega)]; omega
          have FIN : Hid (∀ y : Int, y = D.getD J 0 → Hid ((wr.setCell ⟨wo.heap.size, J, none⟩ (.int .u8 y)).heap[wo.heap.size]? = some (.cells (cellsB (curE D (J + 1))) 52 (0, 0)))) := fun y hy => by
            rw [← curE_step D J hlj hDl, ← hy, ← cellsB_set2]
            exact heap_setCell_same wr wo.heap.size J _ _ _ HFB.out
          have hr4 : r = 0 ∨ r = 1 ∨ r = 2 ∨ r = 3 := by have := HJ.out.2; omega
          rcases hr4 with rfl | rfl | rfl | rfl
          · have e2 : Int.tmod (J : Int) 4 = 0 := by have := HJ.out; rw [Int.tmod_eq_emod_of_nonneg (by omega)]; omega
            go_wp2
            exact ⟨⟨J + 1, by omega, by go_num, FIN.out _ (by rw [HGD.out]; simp; try omega), grown_tr HG.out (grown_sets _ _ _ _)⟩, by simp [intOf]; omega⟩
          · have e2 : Int.tmod (J : Int) 4 = 1 := by have := HJ.out; rw [Int.tmod_eq_emod_of_nonneg (by omega)]; omega
            go_wp2
            exact ⟨⟨J + 1, by omega, by go_num, FIN.out _ (by rw [HGD.out]; simp; try omega), grown_tr HG.out (grown_sets _ _ _ _)⟩, by simp [intOf]; omega⟩
          · have e2 : Int.tmod (J : Int) 4 = 2 := by have := HJ.out; rw [Int.tmod_eq_emod_of_nonneg (by omega)]; omega
            go_wp2
            exact ⟨⟨J + 1, by omega, by go_num, FIN.out _ (by rw [HGD.out]; simp; try omega), grown_tr HG.out (grown_sets _ _ _ _)⟩, by simp [intOf]; omega⟩
          · have e2 : Int.tmod (J : Int) 4 = 3 := by have := HJ.out; rw [Int.tmod_eq_emod_of_nonneg (by omega)]; omega
            go_wp2
            exact ⟨⟨J + 1, by omega, by go_num, FIN.out _ (by rw [HGD.out]; simp; try omega), grown_tr HG.out (grown_sets _ _ _ _)⟩, by simp [intOf]; omega⟩
        · have hJ32 : J = 32 := by omega
          subst hJ32
          have HCE : Hid (curE D 32 = D) := by
            show _ = _
            unfold curE
            rw [List.take_of_length_le (by omega), List.drop_eq_nil_of_le (by rw [zeros32_length]; omega), List.append_nil]
          rw [HCE.out] at HFB
          obtain ⟨dm, HDM⟩ : ∃ dm, Hid (cellsB D = dm) := ⟨_, rfl⟩
          rw [HDM.out] at HFB
          have hds : dm.size = 32 := by rw [← HDM.out]; simp [cellsB, hDl]
          have SD : Hid ((Tryd.prog.info? 52).map (·.size) = some dm.size) := by rw [hds]; exact size_digest
          have OD : Hid (dm.all (·.oneCell') = true) := by
            rw [← HDM.out]
            exact all_oneCell_toArray (fun v hv => by obtain ⟨x, _, rfl⟩ := List.mem_map.1 hv; rfl)
          have ZD : Hid (zd.size = dm.size) := by rw [hds, ← HZD.out]; rfl
          have HRf : Hid (wr.heap[w.heap.size]? = some (.cells zd 52 (0, 0))) := (HG.out.block w.heap.size (by have := HS7.out; omega) (by simp; omega)).trans HRr7.out
          have HBF := hid (below_setRow (HBo.out.trans ((HB7.out.grown HG.out HB7.out.size (fun k e => by cases e; exact Nat.le_refl _)).mono HBo.out.size)) (g := w.heap.size) (Nat.le_refl _) dm)
          clear hds hlj
          go_wp2_with (first | (refine wpList_load_row rfl 52 _ rfl wo.heap.size rfl 52 dm (0, 0) _ HFB.out Tryd.underlying52 rfl SD.out ?_) | (refine wpList_store_row rfl 52 _ _ rfl w.heap.size dm rfl rfl 52 _ HRf.out SD.out ZD.out OD.out ?_))
          refine bodyPost_ret (v := .agg dm) (results_cell_row (p := 2) (ty := 52) rfl _ _ w.heap.size 52 dm (0, 0) _ rfl (setRow_heap _ _ _ _ _ _ HRf.out) Tryd.underlying52 rfl SD.out) rfl ?_
          exact ⟨by rw [HDG.out, HDM.out], HBF.out⟩
end Go.Proofs.YtinahldjpobigaaDoor
namespace Go.Proofs.YtinahldjpobigaaDoor
open Go Go.RowKit
theorem run_append_bytesW (w : World) (base : Nat) (ty : TypeId) (v : Value) (n : Nat) (xs : List Value) (hown : w.ownsRow base 5 1 v n xs) (ad : Addr) (c : Nat) (l : List Int) (hnews : ∀ j u, (l.map (Value.int .u8))[j]? = some u → w.cell? (ad.add j) = some u) (hn : n + l.length ≤ 140737488355328) (hbase : base ≤ w.heap.size) :
    ∃ v' w', (Builtin.append_ #[32, 32] ty #[v, .slice (some ad) l.length c]).run Tryd.prog w = .ok v' w' ∧ w'.ownsRow base 5 1 v' (n + l.length) (xs ++ l.map (Value.int .u8)) ∧ w.grownBy w' v.ownBlock ∧
      (v'.ownBlock = v.ownBlock ∨ v'.ownBlock = some w.heap.size) := by
  obtain ⟨i0, hi, hz0, hz1, hz2⟩ := info_parts info_u8
  have h1 : ∀ u ∈ l.map (Value.int .u8), u.oneCell' = true := by intro u hu; obtain ⟨x, _, rfl⟩ := List.mem_map.1 hu; rfl
  have hl : (l.map (Value.int .u8)).length = l.length * 1 := by simp
  obtain ⟨v', w', hr, h2, h3, h4⟩ := run_append_own (P := Tryd.prog) w base 32 ty 5 i0 (.int .u8 0) 1 1 Tryd.underlying32 hi hz0 hz1 hz2 rfl (by decide) v n xs hown ad l.length c (l.map (Value.int .u8)) hl hnews h1 (by unfold maxLen; omega) (by omega) hbase
  refine ⟨v', w', hr, h2, h3, ?_⟩
  rcases hown.2 with ⟨rfl, rfl⟩ | ⟨g, cap, cur, rfl, hbg, hg, hnc, hcm, hcs, htake⟩
  · by_cases h0 : 0 < l.length
    · have hr2 := run_append_nil (P := Tryd.prog) w 32 ty 5 i0 (.int .u8 0) Tryd.underlying32 hi hz0 ad l.length c (l.map (Value.int .u8)) (by rw [hz1]; exact hl) hnews (by omega) (by omega) (by rw [hz2]; omega)
      rw [hr] at hr2
      simp only [Result.ok.injEq] at hr2
      obtain ⟨rfl, rfl⟩ := hr2
      exact .inr rfl
    · have := h4.2 ⟨rfl, by omega⟩
      rw [this]
      exact .inl rfl
  · by_cases hroom : n + l.length ≤ cap
    · obtain ⟨w2, hr2, _⟩ := run_append_fits (P := Tryd.prog) w base 32 ty 5 i0 1 Tryd.underlying32 hi hz1 g n cap xs hown ad l.length c (l.map (Value.int .u8)) hl hnews h1 hroom
      rw [hr] at hr2
      simp only [Result.ok.injEq] at hr2
      obtain ⟨rfl, rfl⟩ := hr2
      exact .inl rfl
    · have hr2 := run_append_grow (P := Tryd.prog) w 32 ty 5 i0 (.int .u8 0) Tryd.underlying32 hi hz0 ⟨g, 0, none⟩ n cap xs (by rw [hz1]; exact hown.1) (hown.cells (g := g) rfl) ad l.length c (l.map (Value.int .u8)) (by rw [hz1]; exact hl) hnews (by omega) (by omega) (growslice_fits (by omega) (by rw [hz2]; omega))
      rw [hr] at hr2
      simp only [Result.ok.injEq] at hr2
      obtain ⟨rfl, rfl⟩ := hr2
      exact .inr rfl
theorem wp_append_bytesW {w : World} {o : Oper} {a : Act} {K : Act → World → Prop} {Q : Exit → Act → World → Prop} (s x : Operand)
    (ho : o.op = .call { callee := .builtin .append, args := #[s, x], argTypes := #[32, 32] })
    (base : Nat) (v : Value) (n : Nat) (xs : List Value) (hs : a.eval s = v) (hown : w.ownsRow base 5 1 v n xs)
    (u : Value) (l : List Int) (hx : a.eval x = u) (hu : HB w u l) (hn : n + l.length ≤ 140737488355328) (hbase : base ≤ w.heap.size)
    (h : ∀ v' w', w'.ownsRow base 5 1 v' (n + l.length) (xs ++ l.map (Value.int .u8)) → w.grownBy w' v.ownBlock → (v'.ownBlock = v.ownBlock ∨ v'.ownBlock = some w.heap.size) → K (a.put o.dst v') w') : o.wp Tryd.prog a w K Q := by
  obtain ⟨i0, hi, hz0, hz1, hz2⟩ := info_parts info_u8
  obtain ⟨⟨p, c, rfl, hlc, hm, hpn, hcell⟩, hby⟩ := hu
  cases p with
  | none =>
    have e : l = [] := by
      apply Classical.byContradiction
      intro hne
      obtain ⟨b, off, e, _⟩ := hcell hne
      cases e
    subst e
    have hc0 := hpn rfl
    subst hc0
    have hrun := run_append_owned_none (P := Tryd.prog) (w := w) base 32 o.type 5 i0 1 Tryd.underlying32 hi v n xs hown
    have hx' : a.eval x = .slice none 0 0 := hx
    unfold Oper.wp
    simp [execOp, ho, resolve, invoke, builtin, hs, hx', hrun, Result.andThen]
    exact h v w (by simpa using hown) ⟨rfl, rfl, rfl, Nat.le_refl _, fun _ _ _ => rfl⟩ (.inl rfl)
  | some ad =>
    have hnews : ∀ j u, (l.map (Value.int .u8))[j]? = some u → w.cell? (ad.add j) = some u := by
      intro j q hj
      have hjn : j < l.length := by
        have := (List.getElem?_eq_some_iff.1 hj).1
        simpa using this
      obtain ⟨b, off, e, hc⟩ := hcell (fun e => by rw [e] at hjn; simp at hjn)
      have e := Option.some.inj e
      have e2 : (l.map (Value.int .u8))[j]? = some (Value.int .u8 (l.getD j 0)) := by simp [List.getD, List.getElem?_eq_getElem hjn]
      rw [e2] at hj
      rw [e, Go.WideShapes.add_plain, hc j hjn]
      exact hj
    obtain ⟨v', w', hr, h2, h3, h4⟩ := run_append_bytesW w base o.type v n xs hown ad c l hnews hn hbase
    unfold Oper.wp execOp
    simp only [ho, resolve, invoke, builtin, Sem.run_bind, Sem.run_pure, Result.andThen_ok, List.map_toArray, List.map_cons, List.map_nil, hs, hx, hr]
    exact h v' w' h2 h3 h4
section
variable {P : Program} {ops : Array Oper} {Q : Exit → Act → World → Prop} {md : Region.Mode} {S : World → Prop} {L : Nat}
def wpAnyL (P : Program) (md : Region.Mode) (ops : Array Oper) (Q : Exit → Act → World → Prop) (S : World → Prop) (L : Nat) : Nat → Array Bool → Act → World → Prop
  | 0, listed, a, w => Region.ready md ops listed = [] ∧ Q .normal a w
  | fuel + 1, listed, a, w =>
    (Region.ready md ops listed = [] → Q .normal a w) ∧
    ∀ i ∈ Region.ready md ops listed, wpOp P ops Q i (fun a' w' => (i ≠ L → S w') ∧ wpAnyL P md ops Q S L fuel (listed.setIfInBounds i true) a' w') a w
theorem wpAny_of_last : ∀ (fuel : Nat) (listed : Array Bool) (a : Act) (w : World), wpAnyL P md ops Q S L fuel listed a w → wpAny P md ops Q fuel listed a w
  | 0, _, _, _, h => h
  | fuel + 1, _, _, _, h => ⟨h.1, fun i hi => wpOp_mono (fun a' w' h' => wpAny_of_last fuel _ a' w' h'.2) (h.2 i hi)⟩
theorem wpAnyL_first {i : Nat} {oi : Oper} {v : Value} (hi : ops[i]? = some oi) (hiL : i ≠ L) (hwait : ∀ o, ops[L]? = some o → ∃ e ∈ o.after, Region.binds md e = true ∧ e.on = i) (hsel : ∀ (j : Nat) (o : Oper) cs b, ops[j]? = some o → o.op ≠ .select cs b)
    (hQ : ∀ c a w, Q (.panic c) (a.put oi.dst v) w → Q (.panic c) a w) :
    ∀ (fuel : Nat) (listed : Array Bool) (a : Act) (w : World),
      (∀ j oj, ops[j]? = some oj → j ≠ i → listed.getD j true = false → (∀ e ∈ oj.after, Region.binds md e = true → e.on ≠ i) → oi.apart ops oj = true) →
      i ∈ Region.ready md ops listed → YieldsIf P ops S oi v a → S w →
      wpAnyL P md ops Q S L fuel (listed.setIfInBounds i true) (a.put oi.dst v) w → wpAnyL P md ops Q S L (fuel + 1) listed a w := by
  intro fuel
  induction fuel with
  | zero =>
    intro listed a w _ hr hy hS H
    refine ⟨fun h => (by rw [h] at hr; cases hr), fun j hj => ?_⟩
    by_cases hji : j = i
    · subst hji; exact hy.wpOp hi hS ⟨fun _ => hS, H⟩
    · have := ready_mono hj hji
      rw [H.1] at this
      cases this
  | succ fuel ih =>
    intro listed a w hfree hr hy hS H
    refine ⟨fun h => (by rw [h] at hr; cases hr), fun j hj => ?_⟩
    by_cases hji : j = i
    · subst hji; exact hy.wpOp hi hS ⟨fun _ => hS, H⟩
    · have h1 := H.2 j (ready_mono hj hji)
      obtain ⟨hjun, oj, hoj, hall⟩ := mem_ready.1 hj
      have hnot : ∀ e ∈ oj.after, Region.binds md e = true → e.on ≠ i := fun e he hb heq => by
        have h1 := hall e he hb
        have h0 := (mem_ready.1 hr).1
        rw [heq] at h1
        rcases Nat.lt_or_ge i listed.size with h' | h'
        · simp [h'] at h0 h1; rw [h0] at h1; cases h1
        · simp [Array.getElem?_eq_none h'] at h1
      have hjL : j ≠ L := fun e => by
        rw [e] at hoj
        obtain ⟨x, hx, hb, he⟩ := hwait oj hoj
        exact hnot x hx hb he
      have h1' : wpOp P ops Q j (fun a' w' => S w' ∧ wpAnyL P md ops Q S L fuel ((listed.setIfInBounds i true).setIfInBounds j true) a' w') (a.put oi.dst v) w := wpOp_mono (fun a' w' q => ⟨q.1 hjL, q.2⟩) h1
      have h2 := wpOp_putIf hoj (hfree j oj hoj hji hjun hnot) (fun cs b => hsel i oi cs b hi) (fun cs b => hsel j oj cs b hoj) hQ hy h1'
      have hfree' : ∀ k ok, ops[k]? = some ok → k ≠ i → (listed.setIfInBounds j true).getD k true = false →
          (∀ e ∈ ok.after, Region.binds md e = true → e.on ≠ i) → oi.apart ops ok = true := fun k ok hk hki hun hno => by
        refine hfree k ok hk hki ?_ hno
        by_cases hjk : j = k
        · subst hjk; exact hjun
        · rw [getD_set_ne true hjk] at hun; exact hun
      refine wpOp_mono (fun a' w' h3 => ⟨fun _ => h3.2.1, ih (listed.setIfInBounds j true) a' w' hfree' (ready_mono hr (Ne.symm hji)) h3.1 h3.2.1 ?_⟩) h2
      rw [Array.setIfInBounds_comm _ _ hji]
      exact h3.2.2
def waitsL (md : Region.Mode) (ops : Array Oper) (L i : Nat) : Bool :=
  match ops[L]? with
  | some o => o.after.any fun e => Region.binds md e && e.on == i
  | none => true
theorem waitsL_spec {i : Nat} (h : waitsL md ops L i = true) : ∀ o, ops[L]? = some o → ∃ e ∈ o.after, Region.binds md e = true ∧ e.on = i := fun o ho => by
  unfold waitsL at h
  rw [ho] at h
  obtain ⟨k, hk, he⟩ := Array.any_eq_true.1 h
  simp only [Bool.and_eq_true, beq_iff_eq] at he
  exact ⟨_, Array.getElem_mem hk, he⟩
theorem wpAnyL_take {i : Nat} {oi : Oper} {v : Value} {fuel : Nat} {listed : Array Bool} {a : Act} {w : World} (hi : ops[i]? = some oi) (hiL : (i == L) = false) (hwt : waitsL md ops L i = true)
    (hs : Region.noSelect ops = true) (hf : Region.free md ops listed i = true) (hr : (Region.ready md ops listed).contains i = true)
    (hQ : ∀ c a w, Q (.panic c) (a.put oi.dst v) w → Q (.panic c) a w) (hy : YieldsIf P ops S oi v a) (hS : S w)
    (h : wpAnyL P md ops Q S L fuel (listed.setIfInBounds i true) (a.put oi.dst v) w) : wpAnyL P md ops Q S L (fuel + 1) listed a w :=
  wpAnyL_first hi (by simpa using hiL) (waitsL_spec hwt) (Region.noSelect_spec hs) hQ fuel listed a w (Region.free_spec hi hf) (by simpa using hr) hy hS h
theorem wpAnyL_done {listed : Array Bool} {a : Act} {w : World} (hr : Region.ready md ops listed = []) (h : Q .normal a w) :
    ∀ fuel, wpAnyL P md ops Q S L fuel listed a w
  | 0 => ⟨hr, h⟩
  | _ + 1 => ⟨fun _ => h, by rw [hr]; simp⟩
theorem wpAnyL_one {i : Nat} {o : Oper} {fuel : Nat} {listed : Array Bool} {a : Act} {w : World} (hr : Region.ready md ops listed = [i]) (ho : ops[i]? = some o)
    (h : ∀ K' : Act → World → Prop, Shut (∀ a w, (i ≠ L → S w) → wpAnyL P md ops Q S L fuel (listed.setIfInBounds i true) a w → K' a w) → if Region.wanted o (yielded ops a.tmps) = true then Oper.wp P o a w K' Q else K' (a.put o.dst undef) w) :
    wpAnyL P md ops Q S L (fuel + 1) listed a w := by
  refine ⟨fun h0 => (by rw [hr] at h0; cases h0), fun j hj => ?_⟩
  rw [hr] at hj
  rcases List.mem_singleton.1 hj with rfl
  exact wpOp_step ho (fun K' hK => h K' (fun a w hS hW => hK a w ⟨hS, hW⟩))
theorem wp_region_last {id : Nat} {a : Act} {w : World} (L : Nat) (hm : P.follows .mixedOrders = true) (hS : S w.drew)
    (h : S w.drew → wpAnyL P .any ops Q S L ops.size (Array.replicate ops.size false) a w.drew) : (Code.region id ops true).wp P Q a w :=
  wp_region_any hm (wpAny_of_last _ _ _ _ (h hS))
end
end Go.Proofs.YtinahldjpobigaaDoor
namespace Go.Proofs.YtinahldjpobigaaDoor
open Go Go.RowKit
set_option maxRecDepth 100000 in
set_option maxHeartbeats 16000000 in
theorem streams_walk (w : World) (v : Value) (os : List Sa) (h : HSa w v os) (hn : os.length ≤ 300000) (hk : KC w) :
    Calls Tryd.prog 4 #[v] w fun e w' => e = .returned (.bool true) ∧ Below w.heap.size w w' := by
  have C0 := hid (lives_any w hk)
  have CN := hid fun W => new_any W
  obtain ⟨⟨p, c, rfl, hlc, hcm, hcell⟩, hels⟩ := h
  unfold maxLen at hcm
  have HC := hid hcell
  have HE := hid hels
  obtain ⟨n, HN⟩ : ∃ n, Hid (os.length = n) := ⟨_, rfl⟩
  rw [HN.out] at hlc hn ⊢
  have HK := hid hk
  have KZ := hid (World.block_lt_of_cell? w _ (hk 0 (by decide)))
  clear hcell hels hk
  go_enter Tryd.func4, Tryd.ntmps4
  go_wp2_with fail
  refine C0.out.mono ?_
  rintro e w1 ⟨rfl, hb1⟩
  have B1 := hid hb1
  clear hb1 C0
  go_wp2_with fail
  refine (CN.out w1).mono ?_
  rintro e w2 ⟨g0, rfl, hg0, hblk0, hb2⟩
  go_wp2_with fail
  refine (CN.out w2).mono ?_
  rintro e w3 ⟨g1, rfl, hg1, hblk1, hb3⟩
  go_wp2_with fail
  refine (CN.out w3).mono ?_
  rintro e w4 ⟨g2, rfl, hg2, hblk2, hb4⟩
  have M0 := hid (((HM.nil hblk0).below hb3).below hb4)
  have M1 := hid ((HM.nil hblk1).below hb4)
  have M2 := hid (HM.nil hblk2)
  have l0 := hid (HM.nil hblk0).lt
  have l1 := hid (HM.nil hblk1).lt
  have l2 := hid (HM.nil hblk2).lt
  have B4 := hid (((B1.out.trans (hb2.mono B1.out.size)).trans (hb3.mono (Nat.le_trans B1.out.size hb2.size))).trans (hb4.mono (Nat.le_trans (Nat.le_trans B1.out.size hb2.size) hb3.size)))
  clear hblk0 hblk1 hblk2 hb2 hb3 hb4
  go_wp2
  obtain ⟨G, hG⟩ : ∃ G : Nat → Nat, G = fun i => if i = 0 then g0 else if i = 1 then g1 else g2 := ⟨_, rfl⟩
  obtain ⟨W0, HW0⟩ : ∃ x, Hid (((w4.alloc (.cells #[.pointer (some ⟨g0, 0, none⟩), .pointer (some ⟨g1, 0, none⟩), .pointer (some ⟨g2, 0, none⟩)] 42)).alloc (.cells #[.slice none 0 0, .slice none 0 0, .slice none 0 0] 43)) = x) := ⟨_, rfl⟩
  have b40 : Below w4.heap.size w4 W0 := by rw [← HW0.out]; exact ((Below.refl _ _).alloc (Nat.le_refl _) _).alloc (by simp) _
  have S0 : Hid (SS w.heap.size w4.heap.size (w4.heap.size + 1) G (fun _ => .slice none 0 0) (fun _ => []) (fun _ => []) W0) := by
    have hz1 := B1.out.size
    have e1 : W0.heap[w4.heap.size]? = some (.cells #[.pointer (some ⟨g0, 0, none⟩), .pointer (some ⟨g1, 0, none⟩), .pointer (some ⟨g2, 0, none⟩)] 42 (0, 0)) := by
      rw [← HW0.out, Below.heap_alloc _ _ _ (by simp)]; exact heap_alloc_new w4 _
    have e2 : W0.heap[w4.heap.size + 1]? = some (.cells #[.slice none 0 0, .slice none 0 0, .slice none 0 0] 43 (0, 0)) := by
      rw [← HW0.out]
      have := heap_alloc_new (w4.alloc (.cells #[.pointer (some ⟨g0, 0, none⟩), .pointer (some ⟨g1, 0, none⟩), .pointer (some ⟨g2, 0, none⟩)] 42)) (.cells #[.slice none 0 0, .slice none 0 0, .slice none 0 0] 43)
      simpa using this
    have a0 := l0.out; have a1 := l1.out; have a2 := l2.out
    have e3 : ∀ i, i < 3 → i = 0 ∨ i = 1 ∨ i = 2 := fun i hi => by omega
    refine ⟨fun i hi => ?_, fun i hi => ?_, ⟨by omega, by omega, by omega⟩, fun i hi => ?_, fun i j hi hj hij => ?_, fun i hi => ⟨World.ownsRow_nil _ _ _ _, fun x hx => by cases hx⟩, fun i hi k e => (by cases e), fun i j _ _ _ => .inl rfl⟩
    · subst hG
      rcases e3 i hi with rfl | rfl | rfl <;> (simp [World.cell?, World.frozen?, e1])
    · rcases e3 i hi with rfl | rfl | rfl <;> (simp [World.cell?, World.frozen?, e2])
    · subst hG
      rcases e3 i hi with rfl | rfl | rfl
      · exact ⟨M0.out.below b40, by show _ ≤ g0; omega, by show g0 ≠ _; omega, by show g0 ≠ _; omega⟩
      · exact ⟨M1.out.below b40, by show _ ≤ g1; omega, by show g1 ≠ _; omega, by show g1 ≠ _; omega⟩
      · exact ⟨M2.out.below b40, by show _ ≤ g2; omega, by show g2 ≠ _; omega, by show g2 ≠ _; omega⟩
    · subst hG
      rcases e3 i hi with rfl | rfl | rfl <;> rcases e3 j hj with rfl | rfl | rfl <;> simp <;> omega
  have BW : Hid (Below w.heap.size w W0) := B4.out.trans (b40.mono B4.out.size)
  rw [HW0.out]
  obtain ⟨bh, Hbh⟩ : ∃ x, Hid (w4.heap.size = x) := ⟨_, rfl⟩
  rw [Hbh.out] at S0
  rw [Hbh.out]
  clear b40 M0 M1 M2 l0 l1 l2 B4 hg0 hg1 hg2 HW0 hG
  go_loopw [5] (fun i wr => ∃ k : Nat, k ≤ n ∧ i = .int .i64 (k : Int) ∧ ∃ G V M, Hid (SS w.heap.size bh (bh + 1) G V M M wr) ∧ Hid (∀ i, i < 3 → (M i).length ≤ k * 1048576) ∧ Hid (Below w.heap.size w wr)) (fun i _ => n - (intOf i).toNat)
  case atStart => exact ⟨0, Nat.zero_le _, rfl, _, _, _, S0, fun i _ => Nat.zero_le _, BW⟩
  case round =>
    clear S0 BW
    obtain ⟨k, hkn, rfl, G, V, M, SR, ML, BR⟩ := hrel
    by_cases hlt : k < n
    · obtain ⟨b, off, rfl, hh⟩ := HC.out (by rw [HN.out]; omega)
      have RG : Hid (wr.rangeAt b (off + k * 3) (os.getD k Sa.zz).cs) := fun j u hj => by
        have := hh k (by rw [HN.out]; exact hlt) j u hj
        exact (BR.out.cell (World.block_lt_of_cell? w _ this)).trans this
      obtain ⟨hov, hol, hon⟩ := HE.out k (by rw [HN.out]; exact hlt)
      generalize os.getD k Sa.zz = o at *
      obtain ⟨on, cl, ov, ol⟩ := o
      replace hov : HB w ov ol := hov
      replace hol : ol.length ≤ 1048576 := hol
      obtain ⟨pv, cv, rfl, hlv, hmv⟩ := hov.open
      have HOV := hid (hov.below BR.out)
      have hov0 := hid hov
      obtain ⟨L, HL⟩ : ∃ x, Hid (ol.length = x) := ⟨_, rfl⟩
      rw [HL.out] at hlv hol
      rw [HL.out] at HOV RG hov0
      have CPK := hid fun W => kpick_any W on 3 (by decide) (by decide)
      rw [show ((3 : Nat) : Int) = 3 from rfl] at CPK
      clear hh hov
      go_wp2_with (first | (refine wpList_load_mid rfl 45 _ rfl b (off + k * 3) rfl _ _ RG.out Tryd.underlying45 rfl (by kernel_rfl) ?_; rw [show (Sa.cs ⟨on, cl, .slice pv L cv, ol⟩).toArray = #[.int .i64 on, .int .i64 cl, .slice pv L cv] from rfl]) | fail)
      refine (CPK.out _).mono ?_
      rintro e wq ⟨⟨P, hP, rfl⟩, hwq⟩
      rw [hwq]
      clear hwq wq
      obtain ⟨wA, HWA⟩ : ∃ x, Hid (wr.alloc (.cells #[.int .i64 on, .int .i64 cl, .slice pv L cv] 45) = x) := ⟨_, rfl⟩
      rw [HWA.out]
      have bA : Below wr.heap.size wr wA := by rw [← HWA.out]; exact (Below.refl _ _).alloc (Nat.le_refl _) _
      have SA := hid (SR.out.below bA)
      have BA := hid (BR.out.trans (bA.mono BR.out.size))
      have HOA := hid (HOV.out.below bA)
      have X6 : Hid (wA.heap[wr.heap.size]? = some (.cells #[.int .i64 on, .int .i64 cl, .slice pv L cv] 45 (0, 0))) := by rw [← HWA.out]; exact heap_alloc_new wr _
      have SZ6 := hid (And.intro BR.out.size (And.intro (show wr.heap.size < wA.heap.size by rw [← HWA.out]; simp) (And.intro SR.out.bh_lt SR.out.bm_lt)))
      obtain ⟨t6, H6⟩ : ∃ x, Hid (wr.heap.size = x) := ⟨_, rfl⟩
      rw [H6.out] at X6 SZ6
      rw [H6.out]
      have T6 : Hid (∀ i, i < 3 → ∀ q, (V i).ownBlock = some q → t6 ≠ q) := hid fun i hi q e => by have := SR.out.v_lt hi e; have := H6.out; omega
      have T6G : Hid (∀ i, i < 3 → t6 ≠ G i) := hid fun i hi e => by have := SR.out.g_lt hi; have := H6.out; omega
      have hPi : (P : Int) < 3 := by omega
      have ch := (SA.out.hc P hP).1
      have c1 : wA.cell? ⟨t6, 1, none⟩ = some (.int .i64 cl) := (cell_of_row _ _ _ _ _ _ X6.out).trans rfl
      clear bA HWA HOV SR
      have c2 : wA.cell? ⟨t6, 2, none⟩ = some (.slice pv L cv) := (cell_of_row _ _ _ _ _ _ X6.out).trans rfl
      -- CASES
      by_cases z0 : cl = 0
      · subst z0
        have CL := hid (lent_any wA _ ol HOA.out (by rw [HL.out]; omega))
        go_wp2_with fail
        refine CL.out.mono ?_
        rintro e w5 ⟨v5, rfl, ho5, hb5⟩
        obtain ⟨gl, c5, e5, hg1, hg2, hc5, hm5, hp5, hf5⟩ := lent_part ho5 HOA.out.2
        have HO5 := hid ho5
        rw [HL.out] at e5 hc5 hp5 hf5
        subst e5
        have HP5 := hid hp5
        have HF5 := hid hf5
        have HG := hid (And.intro hg1 hg2)
        have S5 := hid (SA.out.below hb5)
        have B5 := hid (BA.out.trans (hb5.mono BA.out.size))
        have ch5 : Hid (w5.cell? ⟨bh, P, none⟩ = some (.pointer (some ⟨G P, 0, none⟩))) := (S5.out.hc P hP).1
        have c25 : Hid (w5.cell? ⟨t6, 2, none⟩ = some (.slice pv L cv)) := (hb5.cell (p := ⟨t6, 2, none⟩) SZ6.out.2.1).trans c2
        have d5 : Below w5.heap.size w5 w5.drew := (Dr.one w5 1).below _
        have hgP := (SA.out.g P hP)
        have hgA := SA.out.g_lt hP
        have CW := hid (write_any w5.drew (G P) (M P) (.slice (some ⟨gl, 0, none⟩) L c5) ol ((S5.out.below d5).g P hP).1 (HP5.out.below d5) (fun _ _ _ _ _ e => by simp [Value.ownBlock] at e; omega) ((HK.out.below B5.out).below d5) (by have := hgP.2.1; have := KZ.out; omega) (by have := ML.out P hP; rw [HL.out]; omega))
        clear ho5 hb5 hp5 hf5 CL ch c1 c2 d5
        go_wp2_with fail
        have d6 : Hid (w5.grownBy w5.drew none) := hid (drew_grownS w5)
        refine wp_region_held_drew (S := (fun W : World => W.cell? ⟨bh, P, none⟩ = some (.pointer (some ⟨G P, 0, none⟩)) ∧ W.cell? ⟨t6, 2, none⟩ = some (.slice pv L cv))) (by kernel_rfl) ⟨ch5.out, c25.out⟩ (fun hHeld => ?_)
        have HS := hid hHeld
        clear hHeld
        change wpAnyH _ _ _ _ _ _ _ _ (World.drew _)
        refine wpAnyH_take (i := 0) (v := ?_) rfl (by kernel_rfl) (by kernel_rfl) (by kernel_rfl) (fun _ _ _ h => h) (Or.inl ⟨by rfl, ?q0⟩) HS.out ?_
        case q0 => intro w hSw; obtain ⟨hc0, hc1⟩ := hSw; go_simp; rfl
        simp only [Act.put, List.getElem_toArray, List.getElem_cons_zero, List.getElem_cons_succ, List.setIfInBounds_toArray, List.set_cons_zero, List.set_cons_succ]
        refine wpAnyH_take (i := 1) (v := ?_) rfl (by kernel_rfl) (by kernel_rfl) (by kernel_rfl) (fun _ _ _ h => h) (Or.inl ⟨by rfl, ?q1⟩) HS.out ?_
        case q1 => intro w hSw; obtain ⟨hc0, hc1⟩ := hSw; go_simp; rfl
        simp only [Act.put, List.getElem_toArray, List.getElem_cons_zero, List.getElem_cons_succ, List.setIfInBounds_toArray, List.set_cons_zero, List.set_cons_succ]
        refine wpAnyH_take (i := 2) (v := ?_) rfl (by kernel_rfl) (by kernel_rfl) (by kernel_rfl) (fun _ _ _ h => h) (Or.inl ⟨by rfl, ?q2⟩) HS.out ?_
        case q2 => intro w hSw; obtain ⟨hc0, hc1⟩ := hSw; go_simp; rfl
        simp only [Act.put, List.getElem_toArray, List.getElem_cons_zero, List.getElem_cons_succ, List.setIfInBounds_toArray, List.set_cons_zero, List.set_cons_succ]
        refine wpAnyH_take (i := 3) (v := ?_) rfl (by kernel_rfl) (by kernel_rfl) (by kernel_rfl) (fun _ _ _ h => h) (Or.inl ⟨by rfl, ?q3⟩) HS.out ?_
        case q3 => intro w hSw; obtain ⟨hc0, hc1⟩ := hSw; go_simp; rfl
        simp only [Act.put, List.getElem_toArray, List.getElem_cons_zero, List.getElem_cons_succ, List.setIfInBounds_toArray, List.set_cons_zero, List.set_cons_succ]
        refine wpAnyH_take (i := 4) (v := ?_) rfl (by kernel_rfl) (by kernel_rfl) (by kernel_rfl) (fun _ _ _ h => h) (Or.inl ⟨by rfl, ?q4⟩) HS.out ?_
        case q4 => intro w hSw; obtain ⟨hc0, hc1⟩ := hSw; go_simp; rfl
        simp only [Act.put, List.getElem_toArray, List.getElem_cons_zero, List.getElem_cons_succ, List.setIfInBounds_toArray, List.set_cons_zero, List.set_cons_succ]
        refine wpAnyH_take (i := 5) (v := ?_) rfl (by kernel_rfl) (by kernel_rfl) (by kernel_rfl) (fun _ _ _ h => h) (Or.inl ⟨by rfl, ?q5⟩) HS.out ?_
        case q5 => intro w hSw; obtain ⟨hc0, hc1⟩ := hSw; go_simp; rfl
        simp only [Act.put, List.getElem_toArray, List.getElem_cons_zero, List.getElem_cons_succ, List.setIfInBounds_toArray, List.set_cons_zero, List.set_cons_succ]
        refine wpAnyH_take (i := 6) (v := ?_) rfl (by kernel_rfl) (by kernel_rfl) (by kernel_rfl) (fun _ _ _ h => h) (Or.inl ⟨by rfl, ?q6⟩) HS.out ?_
        case q6 => intro w hSw; obtain ⟨hc0, hc1⟩ := hSw; go_simp; rfl
        simp only [Act.put, List.getElem_toArray, List.getElem_cons_zero, List.getElem_cons_succ, List.setIfInBounds_toArray, List.set_cons_zero, List.set_cons_succ]
        refine wpAnyH_take (i := 7) rfl (by kernel_rfl) (by kernel_rfl) (by kernel_rfl) (fun _ _ _ h => h) (yieldsIf_slS (by rfl) 32 _ _ _ (by rw [elmS2]; exact Tryd.underlying32) rfl (.slice (some ⟨gl, 0, none⟩) (L + 70) c5) none (some (.int .i64 (L : Int))) rfl rfl rfl _ (fun W _ => slice_hS W gl (L + 70) c5 L (by omega))) HS.out ?_
        simp only [Act.put, List.getElem_toArray, List.getElem_cons_zero, List.getElem_cons_succ, List.setIfInBounds_toArray, List.set_cons_zero, List.set_cons_succ]
        refine wpAnyH_ready (rs := [8]) (by kernel_rfl) (by simp) ?_
        refine AllReadyH.cons rfl (fun K hK => ?_) AllReadyH.nil
        replace hK := hid hK
        go_simp
        refine CW.out.mono ?_
        rintro e w6 ⟨rfl, hm6, hgr6⟩
        have S6 := hid (S5.out.setM hP (grown_trS d6.out hgr6) hm6)
        have c26 : Hid (w6.cell? ⟨t6, 2, none⟩ = some (.slice pv L cv)) := hgr6.cell (a := ⟨t6, 2, none⟩) c25.out (fun e => (T6G.out P hP) (Option.some.inj e))
        have B6 : Hid (Below w.heap.size w w6) := hid (B5.out.grown (grown_trS d6.out hgr6) B5.out.size (fun q e => by cases e; exact hgP.2.1))
        have HG6 := hid (grown_trS d6.out hgr6)
        clear hm6 hgr6 CW
        refine hK.out _ _ ⟨(S6.out.hc P hP).1, c26.out⟩ (fun _ => ?_)
        clear hK K
        clear HS
        have HS : Hid (w6.cell? ⟨bh, P, none⟩ = some (.pointer (some ⟨G P, 0, none⟩)) ∧ w6.cell? ⟨t6, 2, none⟩ = some (.slice pv L cv)) := ⟨(S6.out.hc P hP).1, c26.out⟩
        try (simp only [Act.put, List.getElem_toArray, List.getElem_cons_zero, List.getElem_cons_succ, List.setIfInBounds_toArray, List.set_cons_zero, List.set_cons_succ])
        refine wpAnyH_take (i := 9) (v := ?_) rfl (by kernel_rfl) (by kernel_rfl) (by kernel_rfl) (fun _ _ _ h => h) (Or.inl ⟨by rfl, ?q9⟩) HS.out ?_
        case q9 => intro w hSw; obtain ⟨hc0, hc1⟩ := hSw; go_simp; rfl
        simp only [Act.put, List.getElem_toArray, List.getElem_cons_zero, List.getElem_cons_succ, List.setIfInBounds_toArray, List.set_cons_zero, List.set_cons_succ]
        refine wpAnyH_done (by kernel_rfl) ?_ _
        have HV6 := hid (hov0.out.below B6.out)
        have CK := hid (kept_any w6 (.slice (some ⟨gl, 0, none⟩) (L + 70) c5) (.slice pv L cv) (lent ol) ol (HF5.out.other HG6.out (.inr (by simp [Value.ownBlock]; omega))) HV6.out (by rw [HL.out]; omega))
        rw [decide_eq_true rfl] at CK
        have c26' := c26.out
        go_wp2_with fail
        refine CK.out.mono ?_
        rintro e w7 ⟨rfl, hb7⟩
        have S7 := hid (S6.out.below hb7)
        have B7 := hid (B6.out.trans (hb7.mono B6.out.size))
        have c27 : Hid (w7.cell? ⟨t6, 2, none⟩ = some (.slice pv L cv)) := (hb7.cell (p := ⟨t6, 2, none⟩) (World.block_lt_of_cell? w6 _ c26.out)).trans c26.out
        have HO7 : Hid (w7.ownsRow wA.heap.size 5 1 (.slice (some ⟨gl, 0, none⟩) (L + 70) c5) (lent ol).length ((lent ol).map (Value.int .u8))) := own_later (HO5.out.kept HG6.out (.inr (by simp [Value.ownBlock]; omega))) hb7
        have CO := hid (over_byt w7 _ _ (lent ol) HO7.out (lent_byt HOA.out.2) (by rw [lent_length, HL.out]; omega))
        clear hb7 CK c26'
        go_wp2_with fail
        refine CO.out.mono ?_
        rintro e w8 ⟨rfl, _, hgr8⟩
        have hgr8' : w7.grownBy w8 (some gl) := hgr8
        have S8 := hid (S7.out.away hgr8' (fun k e => by
          cases e
          have q1 := SA.out.bh_lt
          have q2 := SA.out.bm_lt
          have q3 := HG.out.1
          exact ⟨by omega, by omega, fun i hi => by have := SA.out.g_lt hi; omega, fun i hi e2 => by have := SA.out.v_lt hi e2; omega⟩))
        have B8 : Hid (Below w.heap.size w w8) := hid (B7.out.grown hgr8' B7.out.size (fun q e => by cases e; have := HG.out.1; have := BA.out.size; omega))
        have c28 : Hid (w8.cell? ⟨t6, 2, none⟩ = some (.slice pv L cv)) := hgr8'.cell (a := ⟨t6, 2, none⟩) c27.out (fun e => absurd (Option.some.inj e) (by have := SZ6.out.2.1; have := HG.out.1; show t6 ≠ gl; omega))
        clear hgr8 hgr8' CO
        have HV8 := hid (hov0.out.below B8.out)
        have mc8 := hid (S8.out.mc P hP)
        go_wp2_with fail
        refine wp_region_last (S := (fun W : World => W.cell? ⟨bh + 1, P, none⟩ = some (V P) ∧ W.cell? ⟨t6, 2, none⟩ = some (.slice pv L cv))) 8 (by kernel_rfl) ⟨mc8.out.1, c28.out⟩ (fun hHeld => ?_)
        have HS := hid hHeld
        clear hHeld
        change wpAnyL _ _ _ _ _ _ _ _ _ (World.drew _)
        refine wpAnyL_take (i := 0) (v := ?_) rfl (by kernel_rfl) (by kernel_rfl) (by kernel_rfl) (by kernel_rfl) (by kernel_rfl) (fun _ _ _ h => h) (Or.inl ⟨by rfl, ?q0⟩) HS.out ?_
        case q0 => intro w hSw; obtain ⟨hc0, hc1⟩ := hSw; go_simp; rfl
        simp only [Act.put, List.getElem_toArray, List.getElem_cons_zero, List.getElem_cons_succ, List.setIfInBounds_toArray, List.set_cons_zero, List.set_cons_succ]
        refine wpAnyL_take (i := 1) (v := ?_) rfl (by kernel_rfl) (by kernel_rfl) (by kernel_rfl) (by kernel_rfl) (by kernel_rfl) (fun _ _ _ h => h) (Or.inl ⟨by rfl, ?q1⟩) HS.out ?_
        case q1 => intro w hSw; obtain ⟨hc0, hc1⟩ := hSw; go_simp; rfl
        simp only [Act.put, List.getElem_toArray, List.getElem_cons_zero, List.getElem_cons_succ, List.setIfInBounds_toArray, List.set_cons_zero, List.set_cons_succ]
        refine wpAnyL_take (i := 2) (v := ?_) rfl (by kernel_rfl) (by kernel_rfl) (by kernel_rfl) (by kernel_rfl) (by kernel_rfl) (fun _ _ _ h => h) (Or.inl ⟨by rfl, ?q2⟩) HS.out ?_
        case q2 => intro w hSw; obtain ⟨hc0, hc1⟩ := hSw; go_simp; rfl
        simp only [Act.put, List.getElem_toArray, List.getElem_cons_zero, List.getElem_cons_succ, List.setIfInBounds_toArray, List.set_cons_zero, List.set_cons_succ]
        refine wpAnyL_take (i := 3) (v := ?_) rfl (by kernel_rfl) (by kernel_rfl) (by kernel_rfl) (by kernel_rfl) (by kernel_rfl) (fun _ _ _ h => h) (Or.inl ⟨by rfl, ?q3⟩) HS.out ?_
        case q3 => intro w hSw; obtain ⟨hc0, hc1⟩ := hSw; go_simp; rfl
        simp only [Act.put, List.getElem_toArray, List.getElem_cons_zero, List.getElem_cons_succ, List.setIfInBounds_toArray, List.set_cons_zero, List.set_cons_succ]
        refine wpAnyL_take (i := 4) (v := ?_) rfl (by kernel_rfl) (by kernel_rfl) (by kernel_rfl) (by kernel_rfl) (by kernel_rfl) (fun _ _ _ h => h) (Or.inl ⟨by rfl, ?q4⟩) HS.out ?_
        case q4 => intro w hSw; obtain ⟨hc0, hc1⟩ := hSw; go_simp; rfl
        simp only [Act.put, List.getElem_toArray, List.getElem_cons_zero, List.getElem_cons_succ, List.setIfInBounds_toArray, List.set_cons_zero, List.set_cons_succ]
        refine wpAnyL_take (i := 5) (v := ?_) rfl (by kernel_rfl) (by kernel_rfl) (by kernel_rfl) (by kernel_rfl) (by kernel_rfl) (fun _ _ _ h => h) (Or.inl ⟨by rfl, ?q5⟩) HS.out ?_
        case q5 => intro w hSw; obtain ⟨hc0, hc1⟩ := hSw; go_simp; rfl
        simp only [Act.put, List.getElem_toArray, List.getElem_cons_zero, List.getElem_cons_succ, List.setIfInBounds_toArray, List.set_cons_zero, List.set_cons_succ]
        refine wpAnyL_one (i := 6) (by kernel_rfl) rfl (fun K hK => ?_)
        rw [if_pos (by rfl)]
        refine wp_append_bytesW _ _ rfl w.heap.size (V P) (M P).length ((M P).map (Value.int .u8)) rfl (own_later (S8.out.v P hP).1 ((Dr.one w8 1).below _)) _ ol rfl (HV8.out.below ((Dr.one w8 1).below _)) (by have := ML.out P hP; rw [HL.out]; omega) (by have := B8.out.size; exact this) (fun v1 U hu hgu hwu => ?_)
        rw [← List.map_append, ← List.length_append] at hu
        have hgu' : w8.grownBy U (V P).ownBlock := grown_trS (drew_grownS w8) hgu
        have BY : ∀ x ∈ M P ++ ol, 0 ≤ x ∧ x < 256 := fun x hx => by rcases List.mem_append.1 hx with q | q; exact (S8.out.v P hP).2 x q; exact HOA.out.2 x q
        have SU := hid (S8.out.setV hP hgu' hu BY (fun k e => by rcases hwu with q | q; exact .inl (q ▸ e); rw [q] at e; cases e; exact .inr (Nat.le_refl _)))
        have BU : Hid (Below w.heap.size w (U.setCell ⟨bh + 1, P, none⟩ v1)) := hid ((B8.out.grown hgu' B8.out.size (fun q e => ((S8.out.v P hP).1.lt q e).1)).setCell (p := ⟨bh + 1, P, none⟩) (by have := S8.out.ne.2.1; exact this) _)
        have CU : Hid (U.cell? ⟨bh + 1, P, none⟩ = some (V P) ∧ U.frozen? ⟨bh + 1, P, none⟩ = false) := cell_blk mc8.out (hgu'.block _ S8.out.bm_lt (fun e => (S8.out.vg P hP _ e.symm).2.1 rfl))
        have C2U : Hid (U.cell? ⟨t6, 2, none⟩ = some (.slice pv L cv)) := hgu'.cell (a := ⟨t6, 2, none⟩) c28.out (fun e => T6.out P hP _ e.symm rfl)
        obtain ⟨pq, cq, eq⟩ := own_sliceS hu
        obtain ⟨LL, HLL⟩ : ∃ x, Hid ((M P ++ ol).length = x) := ⟨_, rfl⟩
        rw [HLL.out] at eq
        subst eq
        clear hu hgu hgu' hwu
        try simp only [Act.put, List.getElem_toArray, List.getElem_cons_zero, List.getElem_cons_succ, List.setIfInBounds_toArray, List.set_cons_zero, List.set_cons_succ]
        clear HS
        have HS : Hid (U.cell? ⟨bh + 1, P, none⟩ = some (V P) ∧ U.cell? ⟨t6, 2, none⟩ = some (.slice pv L cv)) := ⟨CU.out.1, C2U.out⟩
        refine hK.out _ _ (fun _ => HS.out) ?_
        clear hK K
        refine wpAnyL_take (i := 7) (v := ?_) rfl (by kernel_rfl) (by kernel_rfl) (by kernel_rfl) (by kernel_rfl) (by kernel_rfl) (fun _ _ _ h => h) (Or.inl ⟨by rfl, ?q7⟩) HS.out ?_
        case q7 => intro w hSw; obtain ⟨hc0, hc1⟩ := hSw; go_simp; rfl
        simp only [Act.put, List.getElem_toArray, List.getElem_cons_zero, List.getElem_cons_succ, List.setIfInBounds_toArray, List.set_cons_zero, List.set_cons_succ]
        refine wpAnyL_one (i := 8) (by kernel_rfl) rfl (fun K hK => ?_)
        have cu := CU.out.1
        have fu := CU.out.2
        obtain ⟨U2, HU2⟩ : ∃ W : World, Hid (U.setCell ⟨bh + 1, P, none⟩ (.slice pq LL cq) = W) := ⟨_, hid rfl⟩
        rw [HU2.out] at SU BU
        go_simp
        rw [HU2.out]
        refine hK.out _ _ (fun e => absurd rfl e) ?_
        clear hK K
        try simp only [Act.put, List.getElem_toArray, List.getElem_cons_zero, List.getElem_cons_succ, List.setIfInBounds_toArray, List.set_cons_zero, List.set_cons_succ]
        refine wpAnyL_done (by kernel_rfl) ?_ _
        go_wp2
        exact ⟨⟨k + 1, by omega, by go_num, _, _, _, SU, hid (upd_len ML.out (by have := ML.out P hP; rw [List.length_append, HL.out]; omega)), BU⟩, by simp [intOf]; omega⟩
      by_cases z1 : cl = 1
      · subst z1
        have mcA := hid (SA.out.mc P hP)
        have dA : Hid (Below wA.heap.size wA wA.drew) := (Dr.one wA 1).below _
        have MLP := ML.out P hP
        have HBM := hid (HB.of_own (SA.out.v P hP).1 (SA.out.v P hP).2)
        obtain ⟨D, HD⟩ : ∃ D, Hid (digL (M P) = D) := ⟨_, rfl⟩
        obtain ⟨dm, HDM⟩ : ∃ dm, Hid (cellsB D = dm) := ⟨_, rfl⟩
        have hne : ∀ W, (binOp .neq 52 (.agg dm) (.agg dm)).run Tryd.prog W = .ok (.bool false) W := fun W => by
          have := run_neq_bytes W 32 52 Tryd.underlying52 D D (by rw [← HD.out, digL_length]) (by rw [← HD.out, digL_length])
          rw [decide_eq_true rfl, HDM.out] at this
          exact this
        have CS := hid (sum_dig wA.drew (G P) (M P) (SA.out.below dA.out |>.g P hP).1 ((HK.out.below BA.out).below dA.out) (by omega))
        rw [HD.out, HDM.out] at CS
        clear c2
        go_wp2_with fail
        refine wp_region_held_drew (S := (fun W : World => W.cell? ⟨bh, P, none⟩ = some (.pointer (some ⟨G P, 0, none⟩)) ∧ W.cell? ⟨bh + 1, P, none⟩ = some (V P))) (by kernel_rfl) ⟨ch, mcA.out.1⟩ (fun hHeld => ?_)
        have HS := hid hHeld
        clear hHeld
        change wpAnyH _ _ _ _ _ _ _ _ (World.drew _)
        refine wpAnyH_take (i := 0) (v := ?_) rfl (by kernel_rfl) (by kernel_rfl) (by kernel_rfl) (fun _ _ _ h => h) (Or.inl ⟨by rfl, ?q0⟩) HS.out ?_
        case q0 => intro w hSw; obtain ⟨hc0, hc1⟩ := hSw; go_simp; rfl
        simp only [Act.put, List.getElem_toArray, List.getElem_cons_zero, List.getElem_cons_succ, List.setIfInBounds_toArray, List.set_cons_zero, List.set_cons_succ]
        refine wpAnyH_take (i := 1) (v := ?_) rfl (by kernel_rfl) (by kernel_rfl) (by kernel_rfl) (fun _ _ _ h => h) (Or.inl ⟨by rfl, ?q1⟩) HS.out ?_
        case q1 => intro w hSw; obtain ⟨hc0, hc1⟩ := hSw; go_simp; rfl
        simp only [Act.put, List.getElem_toArray, List.getElem_cons_zero, List.getElem_cons_succ, List.setIfInBounds_toArray, List.set_cons_zero, List.set_cons_succ]
        refine wpAnyH_take (i := 2) (v := ?_) rfl (by kernel_rfl) (by kernel_rfl) (by kernel_rfl) (fun _ _ _ h => h) (Or.inl ⟨by rfl, ?q2⟩) HS.out ?_
        case q2 => intro w hSw; obtain ⟨hc0, hc1⟩ := hSw; go_simp; rfl
        simp only [Act.put, List.getElem_toArray, List.getElem_cons_zero, List.getElem_cons_succ, List.setIfInBounds_toArray, List.set_cons_zero, List.set_cons_succ]
        refine wpAnyH_take (i := 4) (v := ?_) rfl (by kernel_rfl) (by kernel_rfl) (by kernel_rfl) (fun _ _ _ h => h) (Or.inl ⟨by rfl, ?q4⟩) HS.out ?_
        case q4 => intro w hSw; obtain ⟨hc0, hc1⟩ := hSw; go_simp; rfl
        simp only [Act.put, List.getElem_toArray, List.getElem_cons_zero, List.getElem_cons_succ, List.setIfInBounds_toArray, List.set_cons_zero, List.set_cons_succ]
        refine wpAnyH_take (i := 5) (v := ?_) rfl (by kernel_rfl) (by kernel_rfl) (by kernel_rfl) (fun _ _ _ h => h) (Or.inl ⟨by rfl, ?q5⟩) HS.out ?_
        case q5 => intro w hSw; obtain ⟨hc0, hc1⟩ := hSw; go_simp; rfl
        simp only [Act.put, List.getElem_toArray, List.getElem_cons_zero, List.getElem_cons_succ, List.setIfInBounds_toArray, List.set_cons_zero, List.set_cons_succ]
        refine wpAnyH_take (i := 6) (v := ?_) rfl (by kernel_rfl) (by kernel_rfl) (by kernel_rfl) (fun _ _ _ h => h) (Or.inl ⟨by rfl, ?q6⟩) HS.out ?_
        case q6 => intro w hSw; obtain ⟨hc0, hc1⟩ := hSw; go_simp; rfl
        simp only [Act.put, List.getElem_toArray, List.getElem_cons_zero, List.getElem_cons_succ, List.setIfInBounds_toArray, List.set_cons_zero, List.set_cons_succ]
        refine wpAnyH_ready (rs := [3]) (by kernel_rfl) (by simp) ?_
        refine AllReadyH.cons rfl (fun K hK => ?_) AllReadyH.nil
        replace hK := hid hK
        go_simp
        refine CS.out.mono ?_
        rintro e w5 ⟨rfl, hb5⟩
        have b5 := hid (dA.out.trans (show Below wA.heap.size wA.drew w5 from hb5))
        have S5 := hid (SA.out.below b5.out)
        have CT := hid (rsum_any w5 (V P) (M P) (HBM.out.below b5.out) (by omega))
        rw [HD.out, HDM.out] at CT
        clear hb5 CS HS
        have HS : Hid (w5.cell? ⟨bh, P, none⟩ = some (.pointer (some ⟨G P, 0, none⟩)) ∧ w5.cell? ⟨bh + 1, P, none⟩ = some (V P)) := ⟨(S5.out.hc P hP).1, (S5.out.mc P hP).1⟩
        refine hK.out _ _ HS.out (fun _ => ?_)
        clear hK K
        try (simp only [Act.put, List.getElem_toArray, List.getElem_cons_zero, List.getElem_cons_succ, List.setIfInBounds_toArray, List.set_cons_zero, List.set_cons_succ])
        refine wpAnyH_ready (rs := [7]) (by kernel_rfl) (by simp) ?_
        refine AllReadyH.cons rfl (fun K hK => ?_) AllReadyH.nil
        replace hK := hid hK
        go_simp
        refine CT.out.mono ?_
        rintro e w6 ⟨rfl, hb6⟩
        have b6 := hid (below_thenS b5.out hb6)
        have S6 := hid (SA.out.below b6.out)
        clear hb6 CT HS S5
        have HS : Hid (w6.cell? ⟨bh, P, none⟩ = some (.pointer (some ⟨G P, 0, none⟩)) ∧ w6.cell? ⟨bh + 1, P, none⟩ = some (V P)) := ⟨(S6.out.hc P hP).1, (S6.out.mc P hP).1⟩
        refine hK.out _ _ HS.out (fun _ => ?_)
        clear hK K
        try (simp only [Act.put, List.getElem_toArray, List.getElem_cons_zero, List.getElem_cons_succ, List.setIfInBounds_toArray, List.set_cons_zero, List.set_cons_succ])
        refine wpAnyH_take (i := 8) (v := ?_) rfl (by kernel_rfl) (by kernel_rfl) (by kernel_rfl) (fun _ _ _ h => h) (Or.inl ⟨by rfl, ?q8⟩) HS.out ?_
        case q8 => intro w hSw; obtain ⟨hc0, hc1⟩ := hSw; have := hne w; go_simp; rfl
        simp only [Act.put, List.getElem_toArray, List.getElem_cons_zero, List.getElem_cons_succ, List.setIfInBounds_toArray, List.set_cons_zero, List.set_cons_succ]
        refine wpAnyH_done (by kernel_rfl) ?_ _
        have B6 := hid (BA.out.trans (b6.out.mono BA.out.size))
        go_wp2
        exact ⟨⟨k + 1, by omega, by go_num, _, _, _, S6, hid (more_len ML.out), B6⟩, by simp [intOf]; omega⟩
      by_cases z2 : cl = 2
      · subst z2
        have mcA := hid (SA.out.mc P hP)
        have dA : Hid (Below wA.heap.size wA wA.drew) := (Dr.one wA 1).below _
        obtain ⟨pm, cm, em⟩ := own_sliceS (SA.out.v P hP).1
        have CS := hid (size_any wA.drew (G P) (M P) (SA.out.below dA.out |>.g P hP).1)
        have hmc : wA.cell? ⟨bh + 1, P, none⟩ = some (.slice pm (M P).length cm) := by rw [← em]; exact mcA.out.1
        obtain ⟨LM, HLM⟩ : ∃ x, Hid ((M P).length = x) := ⟨_, rfl⟩
        rw [HLM.out] at CS hmc
        have HMC := hid hmc
        have hne2 : ((LM : Int) != (LM : Int)) = false := by simp
        clear c2 hmc em
        go_wp2_with fail
        refine wp_region_held_drew (S := (fun W : World => W.cell? ⟨bh, P, none⟩ = some (.pointer (some ⟨G P, 0, none⟩)) ∧ W.cell? ⟨bh + 1, P, none⟩ = some (.slice pm LM cm))) (by kernel_rfl) ⟨ch, HMC.out⟩ (fun hHeld => ?_)
        have HS := hid hHeld
        clear hHeld
        change wpAnyH _ _ _ _ _ _ _ _ (World.drew _)
        refine wpAnyH_take (i := 0) (v := ?_) rfl (by kernel_rfl) (by kernel_rfl) (by kernel_rfl) (fun _ _ _ h => h) (Or.inl ⟨by rfl, ?q0⟩) HS.out ?_
        case q0 => intro w hSw; obtain ⟨hc0, hc1⟩ := hSw; go_simp; rfl
        simp only [Act.put, List.getElem_toArray, List.getElem_cons_zero, List.getElem_cons_succ, List.setIfInBounds_toArray, List.set_cons_zero, List.set_cons_succ]
        refine wpAnyH_take (i := 1) (v := ?_) rfl (by kernel_rfl) (by kernel_rfl) (by kernel_rfl) (fun _ _ _ h => h) (Or.inl ⟨by rfl, ?q1⟩) HS.out ?_
        case q1 => intro w hSw; obtain ⟨hc0, hc1⟩ := hSw; go_simp; rfl
        simp only [Act.put, List.getElem_toArray, List.getElem_cons_zero, List.getElem_cons_succ, List.setIfInBounds_toArray, List.set_cons_zero, List.set_cons_succ]
        refine wpAnyH_take (i := 2) (v := ?_) rfl (by kernel_rfl) (by kernel_rfl) (by kernel_rfl) (fun _ _ _ h => h) (Or.inl ⟨by rfl, ?q2⟩) HS.out ?_
        case q2 => intro w hSw; obtain ⟨hc0, hc1⟩ := hSw; go_simp; rfl
        simp only [Act.put, List.getElem_toArray, List.getElem_cons_zero, List.getElem_cons_succ, List.setIfInBounds_toArray, List.set_cons_zero, List.set_cons_succ]
        refine wpAnyH_take (i := 4) (v := ?_) rfl (by kernel_rfl) (by kernel_rfl) (by kernel_rfl) (fun _ _ _ h => h) (Or.inl ⟨by rfl, ?q4⟩) HS.out ?_
        case q4 => intro w hSw; obtain ⟨hc0, hc1⟩ := hSw; go_simp; rfl
        simp only [Act.put, List.getElem_toArray, List.getElem_cons_zero, List.getElem_cons_succ, List.setIfInBounds_toArray, List.set_cons_zero, List.set_cons_succ]
        refine wpAnyH_take (i := 5) (v := ?_) rfl (by kernel_rfl) (by kernel_rfl) (by kernel_rfl) (fun _ _ _ h => h) (Or.inl ⟨by rfl, ?q5⟩) HS.out ?_
        case q5 => intro w hSw; obtain ⟨hc0, hc1⟩ := hSw; go_simp; rfl
        simp only [Act.put, List.getElem_toArray, List.getElem_cons_zero, List.getElem_cons_succ, List.setIfInBounds_toArray, List.set_cons_zero, List.set_cons_succ]
        refine wpAnyH_take (i := 6) (v := ?_) rfl (by kernel_rfl) (by kernel_rfl) (by kernel_rfl) (fun _ _ _ h => h) (Or.inl ⟨by rfl, ?q6⟩) HS.out ?_
        case q6 => intro w hSw; obtain ⟨hc0, hc1⟩ := hSw; go_simp; rfl
        simp only [Act.put, List.getElem_toArray, List.getElem_cons_zero, List.getElem_cons_succ, List.setIfInBounds_toArray, List.set_cons_zero, List.set_cons_succ]
        refine wpAnyH_take (i := 7) (v := ?_) rfl (by kernel_rfl) (by kernel_rfl) (by kernel_rfl) (fun _ _ _ h => h) (Or.inl ⟨by rfl, ?q7⟩) HS.out ?_
        case q7 => intro w hSw; obtain ⟨hc0, hc1⟩ := hSw; go_simp; rfl
        simp only [Act.put, List.getElem_toArray, List.getElem_cons_zero, List.getElem_cons_succ, List.setIfInBounds_toArray, List.set_cons_zero, List.set_cons_succ]
        refine wpAnyH_ready (rs := [3]) (by kernel_rfl) (by simp) ?_
        refine AllReadyH.cons rfl (fun K hK => ?_) AllReadyH.nil
        replace hK := hid hK
        go_simp
        refine CS.out.mono ?_
        rintro e w6 ⟨rfl, hb5⟩
        have b6 := hid (dA.out.trans (show Below wA.heap.size wA.drew w6 from hb5))
        have S6 := hid (SA.out.below b6.out)
        clear hb5 CS HS
        have HS : Hid (w6.cell? ⟨bh, P, none⟩ = some (.pointer (some ⟨G P, 0, none⟩)) ∧ w6.cell? ⟨bh + 1, P, none⟩ = some (.slice pm LM cm)) := ⟨(S6.out.hc P hP).1, (b6.out.cell (p := ⟨bh + 1, P, none⟩) SA.out.bm_lt).trans HMC.out⟩
        refine hK.out _ _ HS.out (fun _ => ?_)
        clear hK K
        try (simp only [Act.put, List.getElem_toArray, List.getElem_cons_zero, List.getElem_cons_succ, List.setIfInBounds_toArray, List.set_cons_zero, List.set_cons_succ])
        refine wpAnyH_take (i := 8) (v := ?_) rfl (by kernel_rfl) (by kernel_rfl) (by kernel_rfl) (fun _ _ _ h => h) (Or.inl ⟨by rfl, ?q8⟩) HS.out ?_
        case q8 => intro w hSw; obtain ⟨hc0, hc1⟩ := hSw; go_simp; rfl
        simp only [Act.put, List.getElem_toArray, List.getElem_cons_zero, List.getElem_cons_succ, List.setIfInBounds_toArray, List.set_cons_zero, List.set_cons_succ]
        refine wpAnyH_done (by kernel_rfl) ?_ _
        have B6 := hid (BA.out.trans (b6.out.mono BA.out.size))
        go_wp2
        exact ⟨⟨k + 1, by omega, by go_num, _, _, _, S6, hid (more_len ML.out), B6⟩, by simp [intOf]; omega⟩
      by_cases z3 : cl = 3
      · subst z3
        have CR := hid (reset_any wA (G P) (M P) (SA.out.g P hP).1)
        have hgP := (SA.out.g P hP)
        go_wp2_with fail
        refine CR.out.mono ?_
        rintro e w5 ⟨rfl, hm5, hg5⟩
        have S5 := hid (SA.out.setM hP hg5 hm5)
        have B5 : Hid (Below w.heap.size w w5) := hid (BA.out.grown hg5 BA.out.size (fun q e => by cases e; exact hgP.2.1))
        obtain ⟨cu, fu⟩ := S5.out.mc P hP
        have S6 := hid (S5.out.setV hP (World.grownBy_refl w5 _) (v := .slice none 0 0) (l := []) (World.ownsRow_nil _ _ _ _) (fun x hx => by cases hx) (fun k e => by cases e))
        have B6 : Hid (Below w.heap.size w (w5.setCell ⟨bh + 1, P, none⟩ (.slice none 0 0))) := hid (B5.out.setCell (p := ⟨bh + 1, P, none⟩) (by have := S5.out.ne.2.1; exact this) _)
        clear hm5 hg5 CR c1 c2 ch
        go_wp2
        exact ⟨⟨k + 1, by omega, by go_num, _, _, _, S6, hid (upd_len ML.out (by simp)), B6⟩, by simp [intOf]; omega⟩
      by_cases z4 : cl = 4
      · subst z4
        obtain ⟨Q, hQ⟩ : ∃ Q : Nat, (P + 1) % 3 = Q := ⟨_, rfl⟩
        have hQ3 : Q < 3 := by omega
        have hQi : (Q : Int) < 3 := by omega
        have w1 : IntKind.i64.wrap ((P : Int) + 1) = (P : Int) + 1 := by rw [IntKind.wrap_i64]; omega
        have w2 : IntKind.i64.wrap (Int.tmod ((P : Int) + 1) 3) = (Q : Int) := by rw [Int.tmod_eq_emod_of_nonneg (by omega), IntKind.wrap_i64]; omega
        have w3 : Int.tmod ((P : Int) + 1) 3 = (Q : Int) := by rw [Int.tmod_eq_emod_of_nonneg (by omega)]; omega
        have w4 : ((P : Int) + 1) % 3 = (Q : Int) := by omega
        have CC := hid (clone_any wA (G P) (M P) (SA.out.g P hP).1)
        obtain ⟨cq, fq⟩ := SA.out.hc Q hQ3
        clear c2
        go_wp2_with fail
        refine CC.out.mono ?_
        rintro e w5 ⟨g', rfl, hg', hm5, hb5⟩
        have SB := hid (SA.out.below hb5)
        have S5 := hid (SA.out.setG hb5 hQ3 hg' hm5)
        have B5 : Hid (Below w.heap.size w (w5.setCell ⟨bh, Q, none⟩ (.pointer (some ⟨g', 0, none⟩)))) := hid ((BA.out.trans (hb5.mono BA.out.size)).setCell (p := ⟨bh, Q, none⟩) (by have := SA.out.ne.1; exact this) _)
        obtain ⟨cu, fu⟩ := SB.out.hc Q hQ3
        obtain ⟨w6, H6w⟩ : ∃ x, Hid (w5.setCell ⟨bh, Q, none⟩ (.pointer (some ⟨g', 0, none⟩)) = x) := ⟨_, rfl⟩
        rw [H6w.out] at S5 B5
        have CY := hid (kcopy_any w6 (V P) (M P) (HB.of_own (S5.out.v P hP).1 (S5.out.v P hP).2) (by have := ML.out P hP; omega))
        have cm6 := (S5.out.mc P hP).1
        rw [← H6w.out] at cm6
        clear hm5 hb5 CC SB ch cq fq
        go_wp2_with fail
        rw [H6w.out]
        refine CY.out.mono ?_
        rintro e w7 ⟨v7, rfl, ho7, hb7⟩
        have hb7' := hb7
        have S7 := hid (S5.out.setV hQ3 (grown_below (r := (V Q).ownBlock) hb7) (own_mono4S ho7 B5.out.size) (S5.out.v P hP).2 (fun k e => .inr (ho7.lt k e).1))
        have B7 : Hid (Below w.heap.size w (w7.setCell ⟨bh + 1, Q, none⟩ v7)) := hid ((B5.out.trans (hb7.mono B5.out.size)).setCell (p := ⟨bh + 1, Q, none⟩) (by have := S5.out.ne.2.1; exact this) _)
        obtain ⟨cu7, fu7⟩ := (S5.out.below hb7).mc Q hQ3
        obtain ⟨pq, cq, eq⟩ := own_sliceS ho7
        obtain ⟨LL, HLL⟩ : ∃ x, Hid ((M P).length = x) := ⟨_, rfl⟩
        rw [HLL.out] at eq
        subst eq
        clear ho7 hb7 hb7' CY cu fu cm6
        go_wp2
        exact ⟨⟨k + 1, by omega, by go_num, _, _, _, S7, hid (upd_len ML.out (Nat.le_trans (ML.out P hP) (Nat.mul_le_mul_right _ (Nat.le_succ k)))), B7⟩, by simp [intOf]; omega⟩
      have e0 : (cl == 0) = false := by simpa using z0
      have e1 : (cl == 1) = false := by simpa using z1
      have e2 : (cl == 2) = false := by simpa using z2
      have e3 : (cl == 3) = false := by simpa using z3
      have e4 : (cl == 4) = false := by simpa using z4
      clear z0 z1 z2 z3 z4 c2
      go_wp2_with fail
      refine (CN.out wA).mono ?_
      rintro e w5 ⟨g', rfl, hg', hblk, hb5⟩
      have SB := hid (SA.out.below hb5)
      have S5 := hid (SA.out.setG hb5 hP hg' (HM.nil hblk))
      have B5 : Hid (Below w.heap.size w (w5.setCell ⟨bh, P, none⟩ (.pointer (some ⟨g', 0, none⟩)))) := hid ((BA.out.trans (hb5.mono BA.out.size)).setCell (p := ⟨bh, P, none⟩) (by have := SA.out.ne.1; exact this) _)
      obtain ⟨cu, fu⟩ := SB.out.hc P hP
      obtain ⟨w6, H6w⟩ : ∃ x, Hid (w5.setCell ⟨bh, P, none⟩ (.pointer (some ⟨g', 0, none⟩)) = x) := ⟨_, rfl⟩
      rw [H6w.out] at S5 B5
      obtain ⟨cm6, fm6⟩ := S5.out.mc P hP
      have S7 := hid (S5.out.setV hP (World.grownBy_refl w6 _) (v := .slice none 0 0) (l := []) (World.ownsRow_nil _ _ _ _) (fun x hx => by cases hx) (fun k e => by cases e))
      have B7 : Hid (Below w.heap.size w (w6.setCell ⟨bh + 1, P, none⟩ (.slice none 0 0))) := hid (B5.out.setCell (p := ⟨bh + 1, P, none⟩) (by have := S5.out.ne.2.1; exact this) _)
      rw [← H6w.out] at cm6 fm6 S7 B7
      clear hblk hb5 SB ch
      go_wp2
      exact ⟨⟨k + 1, by omega, by go_num, _, _, _, S7, hid (upd_len ML.out (by simp)), B7⟩, by simp [intOf]; omega⟩
    · have hk' : k = n := by omega
      subst hk'
      clear hlt HC HE CN
      go_wp2
      go_loopw [10] (fun i wz => ∃ J : Nat, J ≤ 3 ∧ i = .int .i64 (J : Int) ∧ Hid (SS w.heap.size bh (bh + 1) G V M M wz) ∧ Hid (Below w.heap.size w wz)) (fun i _ => 3 - (intOf i).toNat)
      case atStart => exact ⟨0, by decide, rfl, SR, BR⟩
      case round =>
        clear SR BR
        obtain ⟨P, hP3, rfl, SA, BA⟩ := hrel
        by_cases hP : P < 3
        · have hPi : (P : Int) < 3 := by omega
          obtain ⟨wA, HwA⟩ : ∃ x, x = wr := ⟨_, rfl⟩
          subst HwA
          have dA : Hid (Below wA.heap.size wA wA.drew) := (Dr.one wA 1).below _
          have MLP : (M P).length ≤ 300000 * 1048576 := Nat.le_trans (ML.out P hP) (Nat.mul_le_mul_right _ hn)
          have ch := (SA.out.hc P hP).1
          have hbm0 := HB.of_own (SA.out.v P hP).1 (SA.out.v P hP).2
          have hmc := (SA.out.mc P hP).1
          obtain ⟨pm, cm, em⟩ := own_sliceS (SA.out.v P hP).1
          rw [em] at hbm0 hmc
          obtain ⟨LM, HLM⟩ : ∃ x, Hid ((M P).length = x) := ⟨_, rfl⟩
          rw [HLM.out] at hbm0 hmc
          have HMC := hid hmc
          have HBM := hid hbm0
          have hne2 : ((LM : Int) != (LM : Int)) = false := by simp
          obtain ⟨D, HD⟩ : ∃ D, Hid (digL (M P) = D) := ⟨_, rfl⟩
          obtain ⟨dm, HDM⟩ : ∃ dm, Hid (cellsB D = dm) := ⟨_, rfl⟩
          have hne : ∀ W, (binOp .neq 52 (.agg dm) (.agg dm)).run Tryd.prog W = .ok (.bool false) W := fun W => by
            have := run_neq_bytes W 32 52 Tryd.underlying52 D D (by rw [← HD.out, digL_length]) (by rw [← HD.out, digL_length])
            rw [decide_eq_true rfl, HDM.out] at this
            exact this
          have CS := hid (sum_dig wA.drew (G P) (M P) (SA.out.below dA.out |>.g P hP).1 ((HK.out.below BA.out).below dA.out) (by omega))
          rw [HD.out, HDM.out] at CS
          have CH := hid ch
          clear hmc em hbm0 ch
          go_wp2_with fail
          refine wp_region_held_drew (S := (fun W : World => W.cell? ⟨bh, P, none⟩ = some (.pointer (some ⟨G P, 0, none⟩)) ∧ W.cell? ⟨bh + 1, P, none⟩ = some (.slice pm LM cm))) (by kernel_rfl) ⟨CH.out, HMC.out⟩ (fun hHeld => ?_)
          have HS := hid hHeld
          clear hHeld
          change wpAnyH _ _ _ _ _ _ _ _ (World.drew _)
          refine wpAnyH_take (i := 0) (v := ?_) rfl (by kernel_rfl) (by kernel_rfl) (by kernel_rfl) (fun _ _ _ h => h) (Or.inl ⟨by rfl, ?q0⟩) HS.out ?_
          case q0 => intro w hSw; obtain ⟨hc0, hc1⟩ := hSw; go_simp; rfl
          simp only [Act.put, List.getElem_toArray, List.getElem_cons_zero, List.getElem_cons_succ, List.setIfInBounds_toArray, List.set_cons_zero, List.set_cons_succ]
          refine wpAnyH_take (i := 1) (v := ?_) rfl (by kernel_rfl) (by kernel_rfl) (by kernel_rfl) (fun _ _ _ h => h) (Or.inl ⟨by rfl, ?q1⟩) HS.out ?_
          case q1 => intro w hSw; obtain ⟨hc0, hc1⟩ := hSw; go_simp; rfl
          simp only [Act.put, List.getElem_toArray, List.getElem_cons_zero, List.getElem_cons_succ, List.setIfInBounds_toArray, List.set_cons_zero, List.set_cons_succ]
          refine wpAnyH_take (i := 2) (v := ?_) rfl (by kernel_rfl) (by kernel_rfl) (by kernel_rfl) (fun _ _ _ h => h) (Or.inl ⟨by rfl, ?q2⟩) HS.out ?_
          case q2 => intro w hSw; obtain ⟨hc0, hc1⟩ := hSw; go_simp; rfl
          simp only [Act.put, List.getElem_toArray, List.getElem_cons_zero, List.getElem_cons_succ, List.setIfInBounds_toArray, List.set_cons_zero, List.set_cons_succ]
          refine wpAnyH_take (i := 3) (v := ?_) rfl (by kernel_rfl) (by kernel_rfl) (by kernel_rfl) (fun _ _ _ h => h) (Or.inl ⟨by rfl, ?q3⟩) HS.out ?_
          case q3 => intro w hSw; obtain ⟨hc0, hc1⟩ := hSw; go_simp; rfl
          simp only [Act.put, List.getElem_toArray, List.getElem_cons_zero, List.getElem_cons_succ, List.setIfInBounds_toArray, List.set_cons_zero, List.set_cons_succ]
          refine wpAnyH_take (i := 4) (v := ?_) rfl (by kernel_rfl) (by kernel_rfl) (by kernel_rfl) (fun _ _ _ h => h) (Or.inl ⟨by rfl, ?q4⟩) HS.out ?_
          case q4 => intro w hSw; obtain ⟨hc0, hc1⟩ := hSw; go_simp; rfl
          simp only [Act.put, List.getElem_toArray, List.getElem_cons_zero, List.getElem_cons_succ, List.setIfInBounds_toArray, List.set_cons_zero, List.set_cons_succ]
          refine wpAnyH_take (i := 5) (v := ?_) rfl (by kernel_rfl) (by kernel_rfl) (by kernel_rfl) (fun _ _ _ h => h) (Or.inl ⟨by rfl, ?q5⟩) HS.out ?_
          case q5 => intro w hSw; obtain ⟨hc0, hc1⟩ := hSw; go_simp; rfl
          simp only [Act.put, List.getElem_toArray, List.getElem_cons_zero, List.getElem_cons_succ, List.setIfInBounds_toArray, List.set_cons_zero, List.set_cons_succ]
          refine wpAnyH_take (i := 6) (v := ?_) rfl (by kernel_rfl) (by kernel_rfl) (by kernel_rfl) (fun _ _ _ h => h) (Or.inl ⟨by rfl, ?q6⟩) HS.out ?_
          case q6 => intro w hSw; obtain ⟨hc0, hc1⟩ := hSw; go_simp; rfl
          simp only [Act.put, List.getElem_toArray, List.getElem_cons_zero, List.getElem_cons_succ, List.setIfInBounds_toArray, List.set_cons_zero, List.set_cons_succ]
          refine wpAnyH_take (i := 7) (v := ?_) rfl (by kernel_rfl) (by kernel_rfl) (by kernel_rfl) (fun _ _ _ h => h) (Or.inl ⟨by rfl, ?q7⟩) HS.out ?_
          case q7 => intro w hSw; obtain ⟨hc0, hc1⟩ := hSw; go_simp; rfl
          simp only [Act.put, List.getElem_toArray, List.getElem_cons_zero, List.getElem_cons_succ, List.setIfInBounds_toArray, List.set_cons_zero, List.set_cons_succ]
          refine wpAnyH_take (i := 9) (v := ?_) rfl (by kernel_rfl) (by kernel_rfl) (by kernel_rfl) (fun _ _ _ h => h) (Or.inl ⟨by rfl, ?q9⟩) HS.out ?_
          case q9 => intro w hSw; obtain ⟨hc0, hc1⟩ := hSw; go_simp; rfl
          simp only [Act.put, List.getElem_toArray, List.getElem_cons_zero, List.getElem_cons_succ, List.setIfInBounds_toArray, List.set_cons_zero, List.set_cons_succ]
          refine wpAnyH_take (i := 10) (v := ?_) rfl (by kernel_rfl) (by kernel_rfl) (by kernel_rfl) (fun _ _ _ h => h) (Or.inl ⟨by rfl, ?q10⟩) HS.out ?_
          case q10 => intro w hSw; obtain ⟨hc0, hc1⟩ := hSw; go_simp; rfl
          simp only [Act.put, List.getElem_toArray, List.getElem_cons_zero, List.getElem_cons_succ, List.setIfInBounds_toArray, List.set_cons_zero, List.set_cons_succ]
          refine wpAnyH_take (i := 11) (v := ?_) rfl (by kernel_rfl) (by kernel_rfl) (by kernel_rfl) (fun _ _ _ h => h) (Or.inl ⟨by rfl, ?q11⟩) HS.out ?_
          case q11 => intro w hSw; obtain ⟨hc0, hc1⟩ := hSw; go_simp; rfl
          simp only [Act.put, List.getElem_toArray, List.getElem_cons_zero, List.getElem_cons_succ, List.setIfInBounds_toArray, List.set_cons_zero, List.set_cons_succ]
          refine wpAnyH_ready (rs := [8]) (by kernel_rfl) (by simp) ?_
          refine AllReadyH.cons rfl (fun K hK => ?_) AllReadyH.nil
          replace hK := hid hK
          go_simp
          refine CS.out.mono ?_
          rintro e w5 ⟨rfl, hb5⟩
          have b5 := hid (dA.out.trans (show Below wA.heap.size wA.drew w5 from hb5))
          have CT := hid (rsum_any w5 _ (M P) (HBM.out.below b5.out) (by omega))
          rw [HD.out, HDM.out] at CT
          clear hb5 CS HS
          have HS : Hid (w5.cell? ⟨bh, P, none⟩ = some (.pointer (some ⟨G P, 0, none⟩)) ∧ w5.cell? ⟨bh + 1, P, none⟩ = some (.slice pm LM cm)) := ⟨(b5.out.cell (p := ⟨bh, P, none⟩) SA.out.bh_lt).trans CH.out, (b5.out.cell (p := ⟨bh + 1, P, none⟩) SA.out.bm_lt).trans HMC.out⟩
          refine hK.out _ _ HS.out (fun _ => ?_)
          clear hK K
          try (simp only [Act.put, List.getElem_toArray, List.getElem_cons_zero, List.getElem_cons_succ, List.setIfInBounds_toArray, List.set_cons_zero, List.set_cons_succ])
          refine wpAnyH_ready (rs := [12]) (by kernel_rfl) (by simp) ?_
          refine AllReadyH.cons rfl (fun K hK => ?_) AllReadyH.nil
          replace hK := hid hK
          go_simp
          refine CT.out.mono ?_
          rintro e w6 ⟨rfl, hb6⟩
          have b6 := hid (below_thenS b5.out hb6)
          have S6 := hid (SA.out.below b6.out)
          have CZ := hid (size_any w6 (G P) (M P) (S6.out.g P hP).1)
          rw [HLM.out] at CZ
          clear hb6 CT HS
          have HS : Hid (w6.cell? ⟨bh, P, none⟩ = some (.pointer (some ⟨G P, 0, none⟩)) ∧ w6.cell? ⟨bh + 1, P, none⟩ = some (.slice pm LM cm)) := ⟨(b6.out.cell (p := ⟨bh, P, none⟩) SA.out.bh_lt).trans CH.out, (b6.out.cell (p := ⟨bh + 1, P, none⟩) SA.out.bm_lt).trans HMC.out⟩
          refine hK.out _ _ HS.out (fun _ => ?_)
          clear hK K
          try (simp only [Act.put, List.getElem_toArray, List.getElem_cons_zero, List.getElem_cons_succ, List.setIfInBounds_toArray, List.set_cons_zero, List.set_cons_succ])
          refine wpAnyH_take (i := 13) (v := ?_) rfl (by kernel_rfl) (by kernel_rfl) (by kernel_rfl) (fun _ _ _ h => h) (Or.inl ⟨by rfl, ?q13⟩) HS.out ?_
          case q13 => intro w hSw; obtain ⟨hc0, hc1⟩ := hSw; have := hne w; go_simp; rfl
          simp only [Act.put, List.getElem_toArray, List.getElem_cons_zero, List.getElem_cons_succ, List.setIfInBounds_toArray, List.set_cons_zero, List.set_cons_succ]
          refine wpAnyH_take (i := 14) (v := ?_) rfl (by kernel_rfl) (by kernel_rfl) (by kernel_rfl) (fun _ _ _ h => h) (Or.inl ⟨by rfl, ?q14⟩) HS.out ?_
          case q14 => intro w hSw; obtain ⟨hc0, hc1⟩ := hSw; go_simp; rfl
          simp only [Act.put, List.getElem_toArray, List.getElem_cons_zero, List.getElem_cons_succ, List.setIfInBounds_toArray, List.set_cons_zero, List.set_cons_succ]
          refine wpAnyH_take (i := 15) (v := ?_) rfl (by kernel_rfl) (by kernel_rfl) (by kernel_rfl) (fun _ _ _ h => h) (Or.inl ⟨by rfl, ?q15⟩) HS.out ?_
          case q15 => intro w hSw; obtain ⟨hc0, hc1⟩ := hSw; go_simp; rfl
          simp only [Act.put, List.getElem_toArray, List.getElem_cons_zero, List.getElem_cons_succ, List.setIfInBounds_toArray, List.set_cons_zero, List.set_cons_succ]
          refine wpAnyH_take (i := 16) (v := ?_) rfl (by kernel_rfl) (by kernel_rfl) (by kernel_rfl) (fun _ _ _ h => h) (Or.inl ⟨by rfl, ?q16⟩) HS.out ?_
          case q16 => intro w hSw; obtain ⟨hc0, hc1⟩ := hSw; go_simp; rfl
          simp only [Act.put, List.getElem_toArray, List.getElem_cons_zero, List.getElem_cons_succ, List.setIfInBounds_toArray, List.set_cons_zero, List.set_cons_succ]
          refine wpAnyH_take (i := 17) (v := ?_) rfl (by kernel_rfl) (by kernel_rfl) (by kernel_rfl) (fun _ _ _ h => h) (Or.inl ⟨by rfl, ?q17⟩) HS.out ?_
          case q17 => intro w hSw; obtain ⟨hc0, hc1⟩ := hSw; go_simp; rfl
          simp only [Act.put, List.getElem_toArray, List.getElem_cons_zero, List.getElem_cons_succ, List.setIfInBounds_toArray, List.set_cons_zero, List.set_cons_succ]
          refine wpAnyH_take (i := 18) (v := ?_) rfl (by kernel_rfl) (by kernel_rfl) (by kernel_rfl) (fun _ _ _ h => h) (Or.inl ⟨by rfl, ?q18⟩) HS.out ?_
          case q18 => intro w hSw; obtain ⟨hc0, hc1⟩ := hSw; go_simp; rfl
          simp only [Act.put, List.getElem_toArray, List.getElem_cons_zero, List.getElem_cons_succ, List.setIfInBounds_toArray, List.set_cons_zero, List.set_cons_succ]
          refine wpAnyH_take (i := 20) (v := ?_) rfl (by kernel_rfl) (by kernel_rfl) (by kernel_rfl) (fun _ _ _ h => h) (Or.inl ⟨by rfl, ?q20⟩) HS.out ?_
          case q20 => intro w hSw; obtain ⟨hc0, hc1⟩ := hSw; go_simp; rfl
          simp only [Act.put, List.getElem_toArray, List.getElem_cons_zero, List.getElem_cons_succ, List.setIfInBounds_toArray, List.set_cons_zero, List.set_cons_succ]
          refine wpAnyH_take (i := 21) (v := ?_) rfl (by kernel_rfl) (by kernel_rfl) (by kernel_rfl) (fun _ _ _ h => h) (Or.inl ⟨by rfl, ?q21⟩) HS.out ?_
          case q21 => intro w hSw; obtain ⟨hc0, hc1⟩ := hSw; go_simp; rfl
          simp only [Act.put, List.getElem_toArray, List.getElem_cons_zero, List.getElem_cons_succ, List.setIfInBounds_toArray, List.set_cons_zero, List.set_cons_succ]
          refine wpAnyH_take (i := 22) (v := ?_) rfl (by kernel_rfl) (by kernel_rfl) (by kernel_rfl) (fun _ _ _ h => h) (Or.inl ⟨by rfl, ?q22⟩) HS.out ?_
          case q22 => intro w hSw; obtain ⟨hc0, hc1⟩ := hSw; go_simp; rfl
          simp only [Act.put, List.getElem_toArray, List.getElem_cons_zero, List.getElem_cons_succ, List.setIfInBounds_toArray, List.set_cons_zero, List.set_cons_succ]
          refine wpAnyH_take (i := 23) (v := ?_) rfl (by kernel_rfl) (by kernel_rfl) (by kernel_rfl) (fun _ _ _ h => h) (Or.inl ⟨by rfl, ?q23⟩) HS.out ?_
          case q23 => intro w hSw; obtain ⟨hc0, hc1⟩ := hSw; go_simp; rfl
          simp only [Act.put, List.getElem_toArray, List.getElem_cons_zero, List.getElem_cons_succ, List.setIfInBounds_toArray, List.set_cons_zero, List.set_cons_succ]
          refine wpAnyH_ready (rs := [19]) (by kernel_rfl) (by simp) ?_
          refine AllReadyH.cons rfl (fun K hK => ?_) AllReadyH.nil
          replace hK := hid hK
          go_simp
          refine CZ.out.mono ?_
          rintro e w7 ⟨rfl, hb7⟩
          have b7 := hid (below_thenS b6.out hb7)
          have S7 := hid (SA.out.below b7.out)
          clear hb7 CZ HS
          have HS : Hid (w7.cell? ⟨bh, P, none⟩ = some (.pointer (some ⟨G P, 0, none⟩)) ∧ w7.cell? ⟨bh + 1, P, none⟩ = some (.slice pm LM cm)) := ⟨(b7.out.cell (p := ⟨bh, P, none⟩) SA.out.bh_lt).trans CH.out, (b7.out.cell (p := ⟨bh + 1, P, none⟩) SA.out.bm_lt).trans HMC.out⟩
          refine hK.out _ _ HS.out (fun _ => ?_)
          clear hK K
          try (simp only [Act.put, List.getElem_toArray, List.getElem_cons_zero, List.getElem_cons_succ, List.setIfInBounds_toArray, List.set_cons_zero, List.set_cons_succ])
          refine wpAnyH_take (i := 24) (v := ?_) rfl (by kernel_rfl) (by kernel_rfl) (by kernel_rfl) (fun _ _ _ h => h) (Or.inl ⟨by rfl, ?q24⟩) HS.out ?_
          case q24 => intro w hSw; obtain ⟨hc0, hc1⟩ := hSw; go_simp; rfl
          simp only [Act.put, List.getElem_toArray, List.getElem_cons_zero, List.getElem_cons_succ, List.setIfInBounds_toArray, List.set_cons_zero, List.set_cons_succ]
          refine wpAnyH_take (i := 25) (v := ?_) rfl (by kernel_rfl) (by kernel_rfl) (by kernel_rfl) (fun _ _ _ h => h) (Or.inl ⟨by rfl, ?q25⟩) HS.out ?_
          case q25 => intro w hSw; obtain ⟨hc0, hc1⟩ := hSw; go_simp; rfl
          simp only [Act.put, List.getElem_toArray, List.getElem_cons_zero, List.getElem_cons_succ, List.setIfInBounds_toArray, List.set_cons_zero, List.set_cons_succ]
          refine wpAnyH_done (by kernel_rfl) ?_ _
          have B7 := hid (BA.out.trans (b7.out.mono BA.out.size))
          go_wp2
          exact ⟨⟨P + 1, by omega, by go_num, S7, B7⟩, by simp [intOf]; omega⟩
        · have hP' : P = 3 := by omega
          subst hP'
          go_wp2
          go_ret
          exact ⟨rfl, BA.out⟩
end Go.Proofs.YtinahldjpobigaaDoor
