/- Of the road to ringWholeCard_holds: RefShaSum, AppB, FrameMath, TgRef, TgRefA, RgRef, RLess, LoadOn, RgROrd, RgWhA, RgWhB. -/
import Derived.Test.YtjdfclbjmmmcfaaDoorG07
import Derived.Test.YtjdfclbjmmmcfaaDoorG00
import Derived.Laws.AppendOwn
import Derived.Test.YtjdfclbjmmmcfaaDoorG01
import Derived.Test.YtjdfclbjmmmcfaaDoorG06
import Derived.Laws.IdiomStrings
import Derived.Deep.RegionLaw
import Derived.Deep.DrawnRows
import Derived.Deep.RegionHeld
set_option linter.unusedVariables false
set_option linter.unusedSimpArgs false
namespace Go.Proofs.YtjdfclbjmmmcfaaDoor
open Go.RowKit
def curE (t : List Int) (i : Nat) : List Int := t.take i ++ zeros32.drop i
theorem curE_length (t : List Int) (i : Nat) (hi : i ≤ 32) (ht : t.length = 32) : (curE t i).length = 32 := by
  unfold curE
  rw [List.length_append, List.length_take, List.length_drop, zeros32_length]
  omega
theorem curE_step (t : List Int) (i : Nat) (hi : i < 32) (ht : t.length = 32) : (curE t i).set i (t.getD i 0) = curE t (i + 1) := by
  unfold curE
  have hl : (t.take i).length = i := by rw [List.length_take]; omega
  have hz : i < zeros32.length := by rw [zeros32_length]; omega
  have hi2 : i < t.length := by omega
  rw [List.set_append_right _ _ (by omega), hl, Nat.sub_self, List.drop_eq_getElem_cons hz, List.set_cons_zero, List.take_succ_eq_append_getElem hi2, getD_of_lt hi2, List.append_assoc]
  rfl
set_option maxRecDepth 100000 in
set_option maxHeartbeats 4000000 in
theorem rsum_any (w : World) (v : Value) (m : List Int) (h : HB w v m) (hbig : m.length ≤ 140737488355000) : Calls Tryd.prog 55 #[v] w fun e w' => e = .returned (.agg (cellsB (digL m))) ∧ Below w.heap.size w w' := by
  obtain ⟨zd, HZD⟩ : ∃ zd, Hid (cellsB zeros32 = zd) := ⟨_, rfl⟩
  obtain ⟨W0, hW0⟩ : ∃ W0, Hid (w.alloc (.cells zd 43) = W0) := ⟨_, rfl⟩
  have HB0 : Hid (Below w.heap.size w W0) := by rw [← hW0.out]; exact (Below.refl _ w).alloc (Nat.le_refl _) _
  have HR0 : Hid (W0.heap[w.heap.size]? = some (.cells zd 43 (0, 0))) := by rw [← hW0.out]; exact heap_alloc_new w _
  have HS0 : Hid (W0.heap.size = w.heap.size + 1) := by rw [← hW0.out]; refine hid ?_; simp
  obtain ⟨p, c, ev, hlc, hcm⟩ := h.open
  unfold maxLen at hcm
  obtain ⟨n, HN⟩ : ∃ n, Hid (m.length = n) := ⟨_, rfl⟩
  rw [HN.out] at ev hlc hbig
  have HH := hid (h.below HB0.out)
  have hmb := hid h.2
  subst ev
  clear h
  go_enter Tryd.func55, Tryd.ntmps55
  have HV0 : Hid (World.ownsRow W0 W0.heap.size 5 1 (.slice none 0 0) 0 []) := World.ownsRow_nil _ _ _ _
  go_wp2_with (first | (refine wpList_alloc_digest rfl rfl ?_; rw [HZD.out, hW0.out]) | (at_builtin; refine wpList_append_HB rfl _ _ rfl W0.heap.size (.slice none 0 0) 0 [] rfl HV0.out (.slice p n c) m rfl HH.out (by rw [HN.out]; omega) (Nat.le_refl _) ?_))
  intro v3 w2 ho3 hg3
  have HB02 : Hid (Below W0.heap.size W0 w2) := (Below.refl _ W0).grown hg3 (Nat.le_refl _) (fun k e => by cases e)
  have HO2 := hid ho3
  clear ho3 hg3
  go_wp2_with fail
  refine (rpad_ok _ n (by omega)).mono ?_
  rintro e w3 ⟨v2, rfl, ho2, hB2⟩
  obtain ⟨P, HP⟩ : ∃ P, Hid (padL n = P) := ⟨_, rfl⟩
  obtain ⟨q, HQ⟩ : ∃ q, Hid (P.length = q) := ⟨_, rfl⟩
  have hq72 : q ≤ 72 := by rw [← HQ.out, ← HP.out, padL_length]; unfold padZ; omega
  have HBP : Hid (HB w3 v2 P) := by rw [← HP.out]; exact HB.of_own ho2 (padL_byt n)
  have HO3 := hid (own_later HO2.out hB2)
  have HB03 : Hid (Below W0.heap.size W0 w3) := HB02.out.trans (hB2.mono HB02.out.size)
  obtain ⟨p2, c2, e2, hl2, hm2⟩ := HBP.out.open
  rw [HQ.out] at e2
  subst e2
  clear ho2 hB2 HO2
  go_wp2_with (at_builtin; refine wpList_append_HB rfl _ _ rfl W0.heap.size _ _ _ rfl HO3.out _ _ rfl HBP.out ?q1 ?q2 ?_)
  case q1 => rw [HN.out, HQ.out]; omega
  case q2 => exact HB03.out.size
  intro v4 w4 ho4 hg4
  obtain ⟨M, HM0⟩ : ∃ M, Hid (m ++ P = M) := ⟨_, rfl⟩
  have HPM : Hid (padded m = M) := by rw [← HM0.out, ← HP.out, ← HN.out]; rfl
  have HML : Hid (M.length = n + q) := by show _ = _; rw [← HM0.out, List.length_append, HN.out, HQ.out]
  have hmod : (n + q) % 64 = 0 := by have := padL_whole n; rwa [HP.out, HQ.out] at this
  have HMB : Hid (∀ x ∈ M, 0 ≤ x ∧ x < 256) := by
    intro x hx
    rw [← HM0.out] at hx
    rcases List.mem_append.1 hx with h1 | h1
    · exact hmb.out x h1
    · exact HBP.out.2 x h1
  have hbm : HB w4 v4 M := by
    refine HB.of_own (B := W0.heap.size) (e := 5) ?_ HMB.out
    have h4 := ho4
    rw [← List.map_append, HM0.out] at h4
    rw [HML.out, ← HN.out, ← HQ.out]
    exact h4
  have HB04 : Hid (Below W0.heap.size W0 w4) := HB03.out.grown hg4 HB03.out.size (fun k e => (HO3.out.lt k e).1)
  have HB4 : Hid (Below w.heap.size w w4) := HB0.out.trans (HB04.out.mono (by have := HS0.out; omega))
  have HRR4 : Hid (w4.heap[w.heap.size]? = some (.cells zd 43 (0, 0))) := (HB04.out.block _ (by have := HS0.out; omega)).trans HR0.out
  have hq9 : 9 ≤ q := by rw [← HQ.out, ← HP.out, padL_length]; omega
  obtain ⟨b4, o4, c4, e4, hc4, hm4, hcell4⟩ := hbm.ne (by rw [HML.out]; omega)
  rw [HML.out] at e4 hc4 hcell4
  have hb4 : b4 < w4.heap.size := World.block_lt_of_cell? w4 _ (hcell4 0 (by omega))
  have HC4 := hid hcell4
  unfold maxLen at hm4
  subst e4
  clear ho4 hg4 hbm hcell4 HO3 HBP
  obtain ⟨ivc, HIV⟩ : ∃ ivc, Hid (cellsW iv = ivc) := ⟨_, rfl⟩
  obtain ⟨z8, HZ8⟩ : ∃ z8, Hid (cellsW (zerosW 8) = z8) := ⟨_, rfl⟩
  have hz8 := zero_w8
  rw [HZ8.out] at hz8
  have HZ1 := hid hz8
  have HIm : Hid ((Tryd.prog.info? 102).map (·.size) = some ivc.size) := by rw [← HIV.out]; exact size_w8
  have H1m : Hid (ivc.all (·.oneCell') = true) := by rw [← HIV.out]; exact cellsW_one _
  have HZM : Hid (z8.size = ivc.size) := by rw [← HZ8.out, ← HIV.out, cellsW_size, zerosW_length]; exact rfl
  have CI := hid (rinitial_any w4)
  clear hz8
  rw [HIV.out] at CI
  go_wp2_with fail
  refine CI.out.mono ?_
  rintro e w5 ⟨rfl, hB5⟩
  have HB5 := hid hB5
  clear hB5
  have HR : Hid ((w5.alloc (.cells z8 102)).heap[w5.heap.size]? = some (.cells z8 102 (0, 0))) := heap_alloc_new w5 _
  have HB6 := hid (below_setRow ((Below.refl _ w5).alloc (Nat.le_refl _) (.cells z8 102)) (g := w5.heap.size) (Nat.le_refl _) ivc)
  have HF0 : Hid (((w5.alloc (.cells z8 102)).setRow w5.heap.size ivc).heap[w5.heap.size]? = some (.cells (cellsW (wAt M 0)) 102 (0, 0))) := by rw [show cellsW (wAt M 0) = ivc from HIV.out]; exact setRow_heap _ _ _ _ _ _ HR.out
  go_wp2_with (first | (refine wpList_alloc_agg HZ1.out rfl rfl ?_) | (refine wpList_store_row rfl 102 _ _ rfl w5.heap.size ivc rfl rfl 102 _ HR.out HIm.out HZM.out H1m.out ?_))
  go_loopw [7] (fun i wr => ∃ k I : Nat, I = 64 * k ∧ I ≤ n + q ∧ i = .int .i64 I ∧ Hid (wr.heap[w5.heap.size]? = some (.cells (cellsW (wAt M k)) 102 (0, 0))) ∧ Hid (Below w5.heap.size w5 wr)) (fun i _ => n + q - (intOf i).toNat)
  case atStart => exact ⟨0, 0, rfl, Nat.zero_le _, rfl, HF0, HB6⟩
  case round =>
    obtain ⟨k, I, hIk, hI, rfl, HF, HBk⟩ := hrel
    obtain ⟨wo, rfl⟩ : ∃ wo, wo = wr := ⟨_, rfl⟩
    have HIK := hid hIk
    clear hIk
    have hbr : b4 < w5.heap.size := by have := HB5.out.size; omega
    have hsr := HBk.out.size
    have HCr : Hid (∀ j, j < n + q → wo.cell? ⟨b4, o4 + j, none⟩ = some (.int .u8 (M.getD j 0))) := fun j hj => ((HBk.out.cell hbr).trans (HB5.out.cell hb4)).trans (HC4.out j hj)
    have h8 := wAt_W8 M k
    by_cases hlt : I + 64 ≤ n + q
    · have hbl := blkOf_length (m := M) (k := k) (by rw [HML.out]; have := HIK.out; omega)
      have hbb := blkOf_byt HMB.out k
      have HBG : Hid (∀ j, j < 64 → M.getD (I + j) 0 = (blkOf M k).getD j 0) := fun j hj => by rw [blkOf_get M k j hj, HIK.out]
      have HW1 : Hid (wAt M (k + 1) = mixL (wAt M k) (blkOf M k)) := rfl
      obtain ⟨B, HBL⟩ : ∃ B, Hid (blkOf M k = B) := ⟨_, rfl⟩
      obtain ⟨W, HW⟩ : ∃ W, Hid (wAt M k = W) := ⟨_, rfl⟩
      rw [HBL.out] at hbl hbb HBG HW1
      rw [HW.out] at h8 HF HW1
      have H8 := hid h8
      have HBB := hid hbb
      obtain ⟨zb, HZB⟩ : ∃ zb, Hid (cellsB (List.replicate 64 0) = zb) := ⟨_, rfl⟩
      have hzb := zero_b64
      rw [HZB.out] at hzb
      have HZ2 := hid hzb
      obtain ⟨W7, hW7⟩ : ∃ W7, Hid (wo.alloc (.cells zb 104) = W7) := ⟨_, rfl⟩
      have HB7 : Hid (Below wo.heap.size wo W7) := by rw [← hW7.out]; exact (Below.refl _ wo).alloc (Nat.le_refl _) _
      have hs7 : W7.heap.size = wo.heap.size + 1 := by rw [← hW7.out]; simp
      have HR7 : Hid (W7.heap[wo.heap.size]? = some (.cells (cellsB (curB B 0)) 104 (0, 0))) := by
        rw [← hW7.out, show cellsB (curB B 0) = zb from HZB.out]
        exact heap_alloc_new wo _
      clear h8 hbb hzb
      go_wp2_with (refine wpList_alloc_agg HZ2.out rfl rfl ?_; rw [hW7.out])
      clear hW7
      go_loopw [9] (fun i wq => ∃ J : Nat, J ≤ 64 ∧ i = .int .i64 J ∧ Hid (wq.heap[wo.heap.size]? = some (.cells (cellsB (curB B J)) 104 (0, 0))) ∧ Hid (W7.grownBy wq (some wo.heap.size))) (fun i _ => 64 - (intOf i).toNat)
      case atStart => exact ⟨0, Nat.zero_le _, rfl, HR7, ⟨rfl, rfl, rfl, Nat.le_refl _, fun _ _ _ => rfl⟩⟩
      case round =>
        obtain ⟨J, hJ, rfl, HFB, HG⟩ := hrel
        have hbw : b4 < wo.heap.size := by omega
        have HB8 : Hid (Below wo.heap.size wo wr) := HB7.out.grown HG.out (by omega) (fun k e => by cases e; exact Nat.le_refl _)
        by_cases hlj : J < 64
        · have hcx : wr.cell? ⟨b4, o4 + (I + J), none⟩ = some (.int .u8 (B.getD J 0)) := by
            rw [← HBG.out J hlj]
            exact (HB8.out.cell hbw).trans (HCr.out (I + J) (by omega))
          have hcb : wr.cell? ⟨wo.heap.size, J, none⟩ = some (.int .u8 ((curB B J).getD J 0)) := by
            rw [cell_of_row wr wo.heap.size J _ _ _ HFB.out]
            have hj2 : J < (curB B J).length := by rw [curB_length B J (by omega) hbl]; omega
            simp [cellsB, List.getD, List.getElem?_eq_getElem hj2]
          obtain ⟨old, HOLD⟩ : ∃ old, Hid ((curB B J).getD J 0 = old) := ⟨_, rfl⟩
          rw [HOLD.out] at hcb
          obtain ⟨x, HX⟩ : ∃ x, Hid (B.getD J 0 = x) := ⟨_, rfl⟩
          rw [HX.out] at hcx
          have hfz : wr.frozen? ⟨wo.heap.size, J, none⟩ = false := by simp [World.frozen?, HFB.out]
          go_wp2
          refine ⟨⟨J + 1, by omega, by go_num, ?_, grown_tr HG.out (grown_sets _ _ _ _)⟩, by simp [intOf]; omega⟩
          show _ = _
          rw [← curB_step B J hlj hbl, HX.out, ← cellsB_set2]
          exact heap_setCell_same wr wo.heap.size J _ _ _ HFB.out
        · have hJ64 : J = 64 := by omega
          subst hJ64
          have HCB : Hid (curB B 64 = B) := by
            show _ = _
            unfold curB
            rw [List.take_of_length_le (by omega), List.drop_eq_nil_of_le (by rw [List.length_replicate]; omega), List.append_nil]
          rw [HCB.out] at HFB
          obtain ⟨mb, HMB2⟩ : ∃ mb, Hid (cellsB B = mb) := ⟨_, rfl⟩
          obtain ⟨mw, HMW⟩ : ∃ mw, Hid (cellsW W = mw) := ⟨_, rfl⟩
          obtain ⟨mx, HMX⟩ : ∃ mx, Hid (cellsW (mixL W B) = mx) := ⟨_, rfl⟩
          have CM := hid (rmix_any wr W B H8.out hbl HBB.out)
          rw [HMB2.out, HMW.out, HMX.out] at CM
          rw [HMB2.out] at HFB
          have HFW : Hid (wr.heap[w5.heap.size]? = some (.cells mw 102 (0, 0))) := by
            show _ = _
            rw [HB8.out.block _ (by have := World.block_lt_of_cell? wo ⟨w5.heap.size, 0, none⟩ (u := .int .u32 ((W.getD 0 0 : Nat) : Int)) (by rw [cell_of_row wo w5.heap.size 0 _ _ _ HF.out]; exact cellsW_get (by rw [H8.out.1]; decide)); exact this), ← HMW.out]
            exact HF.out
          have hmws : mw.size = 8 := by rw [← HMW.out, cellsW_size, H8.out.1]
          have hmxs : mx.size = 8 := by rw [← HMX.out, cellsW_size, H8.out.mix.1]
          have hmbs : mb.size = 64 := by rw [← HMB2.out]; simp [cellsB, hbl]
          have HIb : Hid ((Tryd.prog.info? 104).map (·.size) = some mb.size) := by rw [hmbs]; exact size_b64
          have HIw : Hid ((Tryd.prog.info? 102).map (·.size) = some mw.size) := by rw [hmws]; exact size_w8
          have HIx : Hid ((Tryd.prog.info? 102).map (·.size) = some mx.size) := by rw [hmxs]; exact size_w8
          have HWX : Hid (mw.size = mx.size) := by rw [hmws, hmxs]; exact rfl
          have H1x : Hid (mx.all (·.oneCell') = true) := by rw [← HMX.out]; exact cellsW_one _
          clear hmws hmxs hmbs
          go_wp2_with (first | (refine wpList_load_row rfl 102 _ rfl w5.heap.size rfl 102 mw (0, 0) _ HFW.out Tryd.underlying102 rfl HIw.out ?_) | (refine wpList_load_row rfl 104 _ rfl wo.heap.size rfl 104 mb (0, 0) _ HFB.out Tryd.underlying104 rfl HIb.out ?_))
          refine CM.out.mono ?_
          rintro e w8 ⟨rfl, hB8⟩
          have hw5r : w5.heap.size < wr.heap.size := by have h1 := HB8.out.size; have h2 := HG.out.size; omega
          have HF8 : Hid (w8.heap[w5.heap.size]? = some (.cells mw 102 (0, 0))) := (hB8.block _ hw5r).trans HFW.out
          have HF9 : Hid ((w8.setRow w5.heap.size mx).heap[w5.heap.size]? = some (.cells mx 102 (0, 0))) := setRow_heap _ _ _ _ _ _ HF8.out
          have HB9 := hid (below_setRow ((HBk.out.trans (HB8.out.mono HBk.out.size)).trans (hB8.mono (Nat.le_trans HBk.out.size HB8.out.size))) (g := w5.heap.size) (Nat.le_refl _) mx)
          clear hB8
          go_wp2_with (refine wpList_store_row rfl 102 _ _ rfl w5.heap.size mx rfl rfl 102 _ HF8.out HIx.out HWX.out H1x.out ?_)
          refine ⟨⟨k + 1, I + 64, by have := HIK.out; omega, by omega, by go_num, ?_, HB9⟩, by simp [intOf]; omega⟩
          show _ = _
          rw [HW1.out, HMX.out]
          exact HF9.out
    · have hIe : I = n + q := by have := HIK.out; omega
      have HWE : Hid (wAt M k = wAt (padded m) ((padded m).length / 64)) := by
        show _ = _
        have h1 : (padded m).length / 64 = k := by rw [HPM.out, HML.out]; have := HIK.out; omega
        rw [h1, HPM.out]
      obtain ⟨W, HW⟩ : ∃ W, Hid (wAt M k = W) := ⟨_, rfl⟩
      rw [HW.out] at HF h8 HWE
      have H8 := hid h8
      obtain ⟨D, HD⟩ : ∃ D, Hid (W.flatMap (bigL 4) = D) := ⟨_, rfl⟩
      have HDG : Hid (digL m = D) := by show _ = _; rw [← HD.out, HWE.out]; rfl
      have hDl : D.length = 32 := by rw [← HDG.out, digL_length]
      have hwol : w5.heap.size < wo.heap.size := World.block_lt_of_cell? wo ⟨w5.heap.size, 0, none⟩ (u := .int .u32 ((W.getD 0 0 : Nat) : Int)) (by rw [cell_of_row wo w5.heap.size 0 _ _ _ HF.out]; exact cellsW_get (by rw [H8.out.1]; decide))
      have HBo5 : Hid (Below w4.heap.size w4 wo) := HB5.out.trans (HBk.out.mono HB5.out.size)
      have HBo : Hid (Below w.heap.size w wo) := HB4.out.trans (HBo5.out.mono HB4.out.size)
      have hw4 : w.heap.size < w4.heap.size := by have := HB04.out.size; have := HS0.out; omega
      have hwwo : w.heap.size < wo.heap.size := by have := HBo5.out.size; omega
      have HRo : Hid (wo.heap[w.heap.size]? = some (.cells zd 43 (0, 0))) := (HBo5.out.block _ hw4).trans HRR4.out
      obtain ⟨W7, hW7⟩ : ∃ W7, Hid (wo.alloc (.cells zd 43) = W7) := ⟨_, rfl⟩
      have HB7 : Hid (Below wo.heap.size wo W7) := by rw [← hW7.out]; exact (Below.refl _ wo).alloc (Nat.le_refl _) _
      have HS7 : Hid (W7.heap.size = wo.heap.size + 1) := by rw [← hW7.out]; refine hid ?_; simp
      have HR7 : Hid (W7.heap[wo.heap.size]? = some (.cells (cellsB (curE D 0)) 43 (0, 0))) := by
        rw [← hW7.out, show cellsB (curE D 0) = zd from HZD.out]
        exact heap_alloc_new wo _
      have HRr7 : Hid (W7.heap[w.heap.size]? = some (.cells zd 43 (0, 0))) := (HB7.out.block _ (by omega)).trans HRo.out
      have HF7 : Hid (W7.heap[w5.heap.size]? = some (.cells (cellsW W) 102 (0, 0))) := (HB7.out.block _ hwol).trans HF.out
      clear h8 hlt
      go_wp2_with (refine wpList_alloc_digest rfl rfl ?_; rw [HZD.out, hW7.out])
      clear hW7
      go_loopw [11] (fun i wq => ∃ J : Nat, J ≤ 32 ∧ i = .int .i64 J ∧ Hid (wq.heap[wo.heap.size]? = some (.cells (cellsB (curE D J)) 43 (0, 0))) ∧ Hid (W7.grownBy wq (some wo.heap.size))) (fun i _ => 32 - (intOf i).toNat)
      case atStart => exact ⟨0, Nat.zero_le _, rfl, HR7, ⟨rfl, rfl, rfl, Nat.le_refl _, fun _ _ _ => rfl⟩⟩
      case round =>
        obtain ⟨J, hJ, rfl, HFB, HG⟩ := hrel
        by_cases hlj : J < 32
        · obtain ⟨a, r, HJ⟩ : ∃ a r, Hid (J = 4 * a + r ∧ r < 4) := ⟨J / 4, J % 4, by show _ ∧ _; omega⟩
          have ha8 : a < 8 := by have := HJ.out; omega
          have HGD := hid (dig_get H8.out a r ha8 HJ.out.2)
          rw [HD.out, ← HJ.out.1] at HGD
          obtain ⟨x, HX⟩ : ∃ x, Hid (W.getD a 0 = x) := ⟨_, rfl⟩
          rw [HX.out] at HGD
          have hxl : x < 4294967296 := by rw [← HX.out]; exact getW_lt H8.out.2 a
          have cw : wr.cell? ⟨w5.heap.size, a, none⟩ = some (.int .u32 (x : Int)) := by
            rw [cell_of_row wr w5.heap.size a _ _ _ ((HG.out.block w5.heap.size (by have := HS7.out; omega) (by simp; omega)).trans HF7.out), cellsW_get (by rw [H8.out.1]; exact ha8), HX.out]
          have hcb : wr.cell? ⟨wo.heap.size, J, none⟩ = some (.int .u8 ((curE D J).getD J 0)) := by
            rw [cell_of_row wr wo.heap.size J _ _ _ HFB.out]
            have hj2 : J < (curE D J).length := by rw [curE_length D J (by omega) hDl]; omega
            simp [cellsB, List.getD, List.getElem?_eq_getElem hj2]
          obtain ⟨old, HOLD⟩ : ∃ old, Hid ((curE D J).getD J 0 = old) := ⟨_, rfl⟩
          rw [HOLD.out] at hcb
          have hfz : wr.frozen? ⟨wo.heap.size, J, none⟩ = false := by simp [World.frozen?, HFB.out]
          have e1 : Int.tdiv (J : Int) 4 = (a : Int) := by have := HJ.out; rw [Int.tdiv_eq_ediv_of_nonneg (by omega)]; omega
          have FIN : Hid (∀ y : Int, y = D.getD J 0 → Hid ((wr.setCell ⟨wo.heap.size, J, none⟩ (.int .u8 y)).heap[wo.heap.size]? = some (.cells (cellsB (curE D (J + 1))) 43 (0, 0)))) := fun y hy => by
            rw [← curE_step D J hlj hDl, ← hy, ← cellsB_set2]
            exact heap_setCell_same wr wo.heap.size J _ _ _ HFB.out
          have hr4 : r = 0 ∨ r = 1 ∨ r = 2 ∨ r = 3 := by have := HJ.out.2; omega
          rcases hr4 with rfl | rfl | rfl | rfl
          · have e2 : Int.tmod (J : Int) 4 = 0 := by have := HJ.out; rw [Int.tmod_eq_emod_of_nonneg (by omega)]; omega
            go_wp2
            exact ⟨⟨J + 1, by omega, by go_num, FIN.out _ (by rw [HGD.out]; simp; try omega), grown_tr HG.out (grown_sets _ _ _ _)⟩, by simp [intOf]; omega⟩
          · have e2 : Int.tmod (J : Int) 4 = 1 := by have := HJ.out; rw [Int.tmod_eq_emod_of_nonneg (by omega)]; omega
            go_wp2
            exact ⟨⟨J + 1, by omega, by go_num, FIN.out _ (by rw [HGD.out]; simp; try omega), grown_tr HG.out (grown_sets _ _ _ _)⟩, by simp [intOf]; omega⟩
          · have e2 : Int.tmod (J : Int) 4 = 2 := by have := HJ.out; rw [Int.tmod_eq_emod_of_nonneg (by omega)]; omega
            go_wp2
            exact ⟨⟨J + 1, by omega, by go_num, FIN.out _ (by rw [HGD.out]; simp; try omega), grown_tr HG.out (grown_sets _ _ _ _)⟩, by simp [intOf]; omega⟩
          · have e2 : Int.tmod (J : Int) 4 = 3 := by have := HJ.out; rw [Int.tmod_eq_emod_of_nonneg (by omega)]; omega
            go_wp2
            exact ⟨⟨J + 1, by omega, by go_num, FIN.out _ (by rw [HGD.out]; simp; try omega), grown_tr HG.out (grown_sets _ _ _ _)⟩, by simp [intOf]; omega⟩
        · have hJ32 : J = 32 := by omega
          subst hJ32
          have HCE : Hid (curE D 32 = D) := by
            show _ = _
            unfold curE
            rw [List.take_of_length_le (by omega), List.drop_eq_nil_of_le (by rw [zeros32_length]; omega), List.append_nil]
          rw [HCE.out] at HFB
          obtain ⟨dm, HDM⟩ : ∃ dm, Hid (cellsB D = dm) := ⟨_, rfl⟩
          rw [HDM.out] at HFB
          have hds : dm.size = 32 := by rw [← HDM.out]; simp [cellsB, hDl]
          have SD : Hid ((Tryd.prog.info? 43).map (·.size) = some dm.size) := by rw [hds]; exact size_digest
          have OD : Hid (dm.all (·.oneCell') = true) := by
            rw [← HDM.out]
            exact all_oneCell_toArray (fun v hv => by obtain ⟨x, _, rfl⟩ := List.mem_map.1 hv; rfl)
          have ZD : Hid (zd.size = dm.size) := by rw [hds, ← HZD.out]; rfl
          have HRf : Hid (wr.heap[w.heap.size]? = some (.cells zd 43 (0, 0))) := (HG.out.block w.heap.size (by have := HS7.out; omega) (by simp; omega)).trans HRr7.out
          have HBF := hid (below_setRow (HBo.out.trans ((HB7.out.grown HG.out HB7.out.size (fun k e => by cases e; exact Nat.le_refl _)).mono HBo.out.size)) (g := w.heap.size) (Nat.le_refl _) dm)
          clear hds hlj
          go_wp2_with (first | (refine wpList_load_row rfl 43 _ rfl wo.heap.size rfl 43 dm (0, 0) _ HFB.out Tryd.underlying43 rfl SD.out ?_) | (refine wpList_store_row rfl 43 _ _ rfl w.heap.size dm rfl rfl 43 _ HRf.out SD.out ZD.out OD.out ?_))
          refine bodyPost_ret (v := .agg dm) (results_cell_row (p := 2) (ty := 43) rfl _ _ w.heap.size 43 dm (0, 0) _ rfl (setRow_heap _ _ _ _ _ _ HRf.out) Tryd.underlying43 rfl SD.out) rfl ?_
          exact ⟨by rw [HDG.out, HDM.out], HBF.out⟩
theorem run_append_byte (w : World) (base : Nat) (ty : TypeId) (v : Value) (n : Nat) (xs : List Value) (hown : w.ownsRow base 5 1 v n xs) (a : Addr) (c : Nat) (x : Int) (hx : w.cell? a = some (.int .u8 x)) (hn : n + 1 ≤ 140737488355328) (hbase : base ≤ w.heap.size) :
    ∃ v' w', (Builtin.append_ #[47, 47] ty #[v, .slice (some a) 1 c]).run Tryd.prog w = .ok v' w' ∧ w'.ownsRow base 5 1 v' (n + 1) (xs ++ [.int .u8 x]) ∧ w.grownBy w' v.ownBlock ∧
      (v'.ownBlock = v.ownBlock ∨ (v'.ownBlock = some w.heap.size ∧ w.grownBy w' none)) := by
  obtain ⟨i0, hi, hz0, hz1, hz2⟩ := info_parts info_u8
  have hnews : ∀ j u, [Value.int .u8 x][j]? = some u → w.cell? (a.add j) = some u := by
    intro j u hj
    match j, hj with
    | 0, hj => simp at hj; subst hj; simpa [Addr.add] using hx
  have h1 : ∀ u ∈ [Value.int .u8 x], u.oneCell' = true := by intro u hu; simp at hu; subst hu; rfl
  obtain ⟨v', w', hr, h2, h3, _⟩ := run_append_own (P := Tryd.prog) w base 47 ty 5 i0 (.int .u8 0) 1 1 Tryd.underlying47 hi hz0 hz1 hz2 rfl (by decide) v n xs hown a 1 c [.int .u8 x] rfl hnews h1 (by unfold maxLen; omega) (by omega) hbase
  refine ⟨v', w', hr, h2, h3, ?_⟩
  rcases hown.2 with ⟨rfl, rfl⟩ | ⟨g, cap, cur, rfl, hbg, hg, hnc, hcm, hcs, htake⟩
  · have hr2 := run_append_nil (P := Tryd.prog) w 47 ty 5 i0 (.int .u8 0) Tryd.underlying47 hi hz0 a 1 c [.int .u8 x] (by rw [hz1]; rfl) hnews (by omega) (by omega) (by rw [hz2]; omega)
    rw [hr] at hr2
    simp only [Result.ok.injEq] at hr2
    obtain ⟨rfl, rfl⟩ := hr2
    exact .inr ⟨rfl, ⟨rfl, rfl, rfl, by simp, fun k hk _ => heap_alloc_old w.drew _ hk⟩⟩
  · by_cases hroom : n + 1 ≤ cap
    · obtain ⟨w2, hr2, _⟩ := run_append_fits (P := Tryd.prog) w base 47 ty 5 i0 1 Tryd.underlying47 hi hz1 g n cap xs hown a 1 c [.int .u8 x] rfl hnews h1 hroom
      rw [hr] at hr2
      simp only [Result.ok.injEq] at hr2
      obtain ⟨rfl, rfl⟩ := hr2
      exact .inl rfl
    · have hr2 := run_append_grow (P := Tryd.prog) w 47 ty 5 i0 (.int .u8 0) Tryd.underlying47 hi hz0 ⟨g, 0, none⟩ n cap xs (by rw [hz1]; exact hown.1) (hown.cells (g := g) rfl) a 1 c [.int .u8 x] (by rw [hz1]; rfl) hnews (by omega) (by omega) (growslice_fits (by omega) (by rw [hz2]; omega))
      rw [hr] at hr2
      simp only [Result.ok.injEq] at hr2
      obtain ⟨rfl, rfl⟩ := hr2
      exact .inr ⟨rfl, ⟨rfl, rfl, rfl, by simp, fun k hk _ => heap_alloc_old w.drew _ hk⟩⟩
theorem wpList_append_byte {w : World} {ops : Array Oper} {rest : List Oper} {o : Oper} {a : Act} {Q : Exit → Act → World → Prop} (hgd : o.guard = none) (s x : Operand)
    (ho : o.op = .call { callee := .builtin .append, args := #[s, x], argTypes := #[47, 47] })
    (base : Nat) (v : Value) (n : Nat) (xs : List Value) (hs : a.eval s = v) (hown : w.ownsRow base 5 1 v n xs)
    (ad : Addr) (c : Nat) (y : Int) (hx : a.eval x = .slice (some ad) 1 c) (hy : w.cell? ad = some (.int .u8 y)) (hn : n + 1 ≤ 140737488355328) (hbase : base ≤ w.heap.size)
    (h : ∀ v' w', w'.ownsRow base 5 1 v' (n + 1) (xs ++ [.int .u8 y]) → w.grownBy w' v.ownBlock → (v'.ownBlock = v.ownBlock ∨ (v'.ownBlock = some w.heap.size ∧ w.grownBy w' none)) → wpList Tryd.prog ops Q rest (a.put o.dst v') w') : wpList Tryd.prog ops Q (o :: rest) a w := by
  refine wpList_plain hgd fun K hK => ?_
  obtain ⟨v', w', hr, h2, h3, h4⟩ := run_append_byte w base o.type v n xs hown ad c y hy hn hbase
  unfold Oper.wp execOp
  simp only [ho, resolve, invoke, builtin, Sem.run_bind, Sem.run_pure, Result.andThen_ok, List.map_toArray, List.map_cons, List.map_nil, hs, hx, hr]
  exact hK _ _ (h v' w' h2 h3 h4)
def pcs (ls : List (List Int)) : List (List Int) := ls.flatMap fun l => [bigL 8 l.length, l]
def pcsTo (ls : List (List Int)) (k : Nat) : List (List Int) := pcs (ls.take k)
def framed (ls : List (List Int)) : List Int := (pcs ls).flatten
theorem pcs_snoc (ls : List (List Int)) (k : Nat) (hk : k < ls.length) : pcsTo ls (k + 1) = pcsTo ls k ++ [bigL 8 (ls.getD k []).length, ls.getD k []] := by
  unfold pcsTo pcs
  rw [List.take_succ_eq_append_getElem hk, List.flatMap_append]
  have e : ls.getD k [] = ls[k] := by simp [List.getD, List.getElem?_eq_getElem hk]
  rw [e]
  simp
theorem pcs_length (ls : List (List Int)) : (pcs ls).length = 2 * ls.length := by
  unfold pcs
  induction ls with
  | nil => rfl
  | cons a r ih => simp only [List.flatMap_cons, List.length_append, List.length_cons, List.length_nil, ih]; omega
theorem pcsTo_length (ls : List (List Int)) (k : Nat) : (pcsTo ls k).length ≤ 2 * ls.length := by
  unfold pcsTo
  rw [pcs_length, List.length_take]
  omega
theorem framed_length (ls : List (List Int)) : (framed ls).length = ls.flatten.length + 8 * ls.length := by
  unfold framed pcs
  induction ls with
  | nil => rfl
  | cons a r ih =>
    simp only [List.flatMap_cons, List.flatten_append, List.flatten_cons, List.flatten_nil, List.length_append, List.length_nil, List.length_cons, bigL_length] at ih ⊢
    omega
theorem valL_cons (c : Int) (l : List Int) : ∀ a : Nat, (c :: l).foldl (fun a c => a * 256 + c.toNat) a = l.foldl (fun a c => a * 256 + c.toNat) (a * 256 + c.toNat) := fun _ => rfl
theorem fold_bigL (r x a : Nat) : (bigL r x).foldl (fun a c => a * 256 + c.toNat) a = a * 256 ^ r + x % 256 ^ r := by
  induction r generalizing a with
  | zero => simp [bigL, Nat.mod_one]
  | succ r ih =>
    simp only [bigL, List.foldl_cons, Int.toNat_natCast]
    rw [ih, Nat.pow_succ]
    have h1 := Nat.mod_mul (a := 256 ^ r) (b := 256) (x := x)
    rw [h1]
    have : (a * 256 + x / 256 ^ r % 256) * 256 ^ r = a * (256 ^ r * 256) + 256 ^ r * (x / 256 ^ r % 256) := by
      rw [Nat.add_mul, Nat.mul_assoc, Nat.mul_comm 256 (256 ^ r), Nat.mul_comm (x / 256 ^ r % 256)]
    omega
theorem valL_bigL (r x : Nat) (h : x < 256 ^ r) : valL (bigL r x) = x := by
  unfold valL
  rw [fold_bigL, Nat.zero_mul, Nat.zero_add, Nat.mod_eq_of_lt h]
theorem valL_head (c : Int) (l : List Int) : valL (c :: l) = c.toNat * 256 ^ l.length + valL l := by
  obtain ⟨r, hr⟩ : ∃ r, r = l.reverse := ⟨_, rfl⟩
  have e : l = r.reverse := by rw [hr, List.reverse_reverse]
  subst e
  clear hr
  induction r with
  | nil => simp [valL]
  | cons d r ih =>
    rw [List.reverse_cons, ← List.cons_append, valL_snoc, valL_snoc, ih, List.length_append]
    simp only [List.length_cons, List.length_nil, Nat.zero_add, Nat.pow_succ]
    rw [Nat.add_mul, Nat.mul_assoc]
    omega
theorem bigL_mod (r x y : Nat) : bigL r (y * 256 ^ r + x) = bigL r x := by
  induction r generalizing y with
  | zero => rfl
  | succ r ih =>
    have e : y * 256 ^ (r + 1) + x = (y * 256) * 256 ^ r + x := by rw [Nat.pow_succ, Nat.mul_comm (256 ^ r), Nat.mul_assoc]
    simp only [bigL]
    rw [e, ih]
    have hp : 0 < 256 ^ r := Nat.pow_pos (by omega)
    rw [Nat.add_comm (y * 256 * 256 ^ r), Nat.add_mul_div_right _ _ hp]
    congr 2
    omega
theorem bigL_valL (l : List Int) (h : ∀ x ∈ l, 0 ≤ x ∧ x < 256) : bigL l.length (valL l) = l := by
  induction l with
  | nil => rfl
  | cons c l ih =>
    have hl : ∀ x ∈ l, 0 ≤ x ∧ x < 256 := fun x hx => h x (List.mem_cons_of_mem _ hx)
    have hc := h c (by simp)
    have hv := valL_lt l hl
    rw [valL_head]
    simp only [List.length_cons, bigL]
    rw [bigL_mod, ih hl]
    have hp : 0 < 256 ^ l.length := Nat.pow_pos (by omega)
    rw [Nat.add_comm (c.toNat * 256 ^ l.length), Nat.add_mul_div_right _ _ hp, Nat.div_eq_of_lt hv]
    congr 1
    omega
def Ok (ls : List (List Int)) : Prop := ∀ l ∈ ls, l.length < 256 ^ 8
theorem framed_cons (x : List Int) (xs : List (List Int)) : framed (x :: xs) = bigL 8 x.length ++ (x ++ framed xs) := by
  simp [framed, pcs]
theorem framed_append (a b : List (List Int)) : framed (a ++ b) = framed a ++ framed b := by
  simp [framed, pcs]
theorem framed_nil : framed [] = [] := rfl
theorem framed_cancel (ls : List (List Int)) (l : List Int) : ∀ xs, Ok xs → Ok ls → framed xs = framed ls ++ l → ∃ bs, xs = ls ++ bs ∧ framed bs = l := by
  induction ls with
  | nil => intro ys _ _ h; exact ⟨ys, rfl, h⟩
  | cons x xs ih =>
    intro as' ha hl h
    cases as' with
    | nil =>
      exfalso
      have := congrArg List.length h
      rw [framed_cons] at this
      simp [framed_nil, bigL_length] at this
      omega
    | cons y ys =>
      rw [framed_cons, framed_cons, List.append_assoc, List.append_assoc] at h
      have h1 := List.append_inj h (by rw [bigL_length, bigL_length])
      have hlen : y.length = x.length := by
        have := congrArg valL h1.1
        rwa [valL_bigL 8 _ (ha y (by simp)), valL_bigL 8 _ (hl x (by simp))] at this
      have h2 := List.append_inj h1.2 hlen
      obtain ⟨bs, e1, e2⟩ := ih ys (fun z hz => ha z (List.mem_cons_of_mem _ hz)) (fun z hz => hl z (List.mem_cons_of_mem _ hz)) h2.2
      exact ⟨bs, by rw [h2.1, e1]; rfl, e2⟩
theorem framed_inj {a b : List (List Int)} (ha : Ok a) (hb : Ok b) : framed a = framed b ↔ a = b := by
  constructor
  · intro h
    obtain ⟨bs, e1, e2⟩ := framed_cancel b [] a ha hb (by rw [List.append_nil]; exact h)
    have h2 : bs = [] := by
      cases bs with
      | nil => rfl
      | cons y ys =>
        have := congrArg List.length e2
        rw [framed_cons] at this
        simp [bigL_length] at this
    rw [e1, h2, List.append_nil]
  · intro h; rw [h]
def UInv (raw : List Int) (ls : List (List Int)) (f : Bool) (l : List Int) : Prop :=
  8 * ls.length ≤ raw.length + 8 ∧ l.length ≤ raw.length ∧ Ok ls ∧ (f = false → raw = framed ls ++ l) ∧ (f = true → l = [] ∧ ∀ xs, Ok xs → framed xs ≠ raw)
theorem UInv.start (raw : List Int) : UInv raw [] false raw := ⟨by simp, Nat.le_refl _, by intro l hl; simp at hl, fun _ => rfl, fun h => by cases h⟩
theorem UInv.none {raw : List Int} {ls : List (List Int)} {l : List Int} (h : UInv raw ls false l) (hb : ∀ bs, Ok bs → framed bs ≠ l) : ∀ xs, Ok xs → framed xs ≠ raw := by
  intro xs ha he
  obtain ⟨_, _, h3, h4, _⟩ := h
  rw [h4 rfl] at he
  obtain ⟨bs, e1, e2⟩ := framed_cancel ls l xs ha h3 he
  exact hb bs (fun z hz => ha z (by rw [e1]; exact List.mem_append_right _ hz)) e2
theorem no_frames_short {l : List Int} (h0 : 0 < l.length) (h8 : l.length < 8) : ∀ bs, Ok bs → framed bs ≠ l := by
  intro bs _ h
  cases bs with
  | nil => rw [framed_nil] at h; subst h; simp at h0
  | cons y ys =>
    have := congrArg List.length h
    rw [framed_cons] at this
    simp [bigL_length] at this
    omega
theorem no_frames_long {l : List Int} (h8 : 8 ≤ l.length) (hv : (l.drop 8).length < valL (l.take 8)) : ∀ bs, Ok bs → framed bs ≠ l := by
  intro bs hb h
  cases bs with
  | nil => rw [framed_nil] at h; subst h; simp at h8
  | cons y ys =>
    rw [framed_cons] at h
    have h1 : l.take 8 = bigL 8 y.length := by rw [← h, List.take_left' (bigL_length _ _)]
    have h2 : l.drop 8 = y ++ framed ys := by rw [← h, List.drop_left' (bigL_length _ _)]
    rw [h1, h2, valL_bigL 8 _ (hb y (by simp)), List.length_append] at hv
    omega
theorem UInv.step {raw : List Int} {ls : List (List Int)} {l : List Int} (hraw : raw.length < 256 ^ 8) (hby : ∀ x ∈ l, 0 ≤ x ∧ x < 256) (h : UInv raw ls false l) (h8 : 8 ≤ l.length) (hv : valL (l.take 8) ≤ (l.drop 8).length) :
    UInv raw (ls ++ [(l.drop 8).take (valL (l.take 8))]) false ((l.drop 8).drop (valL (l.take 8))) := by
  obtain ⟨h1, h2, h3, h4, h5⟩ := h
  have hlen : ((l.drop 8).take (valL (l.take 8))).length = valL (l.take 8) := by simp at hv ⊢; omega
  have e := h4 rfl
  have hr : raw.length = ls.flatten.length + 8 * ls.length + l.length := by rw [e, List.length_append, framed_length]
  refine ⟨?_, ?_, ?_, ?_, fun h => by cases h⟩
  · rw [List.length_append, List.length_singleton]; omega
  · simp; omega
  · intro z hz
    rcases List.mem_append.1 hz with hz | hz
    · exact h3 z hz
    · simp only [List.mem_singleton] at hz
      subst hz
      rw [hlen]
      refine Nat.lt_of_le_of_lt hv (Nat.lt_of_le_of_lt ?_ hraw)
      simp; omega
  · intro _
    rw [framed_append, framed_cons, framed_nil, List.append_nil, hlen, e]
    have hb8 : bigL 8 (valL (l.take 8)) = l.take 8 := by
      have := bigL_valL (l.take 8) (fun x hx => hby x (List.mem_of_mem_take hx))
      rwa [show (l.take 8).length = 8 by simp; omega] at this
    rw [hb8]
    simp only [List.append_assoc, List.take_append_drop]
theorem UInv.short {raw : List Int} {ls : List (List Int)} {l : List Int} (h : UInv raw ls false l) (h0 : 0 < l.length) (h8 : l.length < 8) : UInv raw (ls ++ [[]]) true [] := by
  have hn := h.none (no_frames_short h0 h8)
  obtain ⟨h1, h2, h3, h4, h5⟩ := h
  have e := h4 rfl
  have hr : raw.length = ls.flatten.length + 8 * ls.length + l.length := by rw [e, List.length_append, framed_length]
  refine ⟨by rw [List.length_append, List.length_singleton]; omega, by simp, ?_, (fun h => by cases h), fun _ => ⟨rfl, hn⟩⟩
  intro z hz
  rcases List.mem_append.1 hz with hz | hz
  · exact h3 z hz
  · simp only [List.mem_singleton] at hz
    subst hz
    simp
def hi5 (n m x : Nat) : List Int := (bigL n x).take (n - m)
theorem hi5_step (n m x : Nat) (h : m < n) : hi5 n m x = hi5 n (m + 1) x ++ [((x / 256 ^ m % 256 : Nat) : Int)] := by
  have key : ∀ r j, j < r → (bigL r x)[j]? = some ((x / 256 ^ (r - 1 - j) % 256 : Nat) : Int) := by
    intro r
    induction r with
    | zero => intro j hj; omega
    | succ r ih =>
      intro j hj
      cases j with
      | zero => simp [bigL]
      | succ j =>
        simp only [bigL, List.getElem?_cons_succ]
        rw [ih j (by omega), show r + 1 - 1 - (j + 1) = r - 1 - j by omega]
  unfold hi5
  have e : n - m = (n - (m + 1)) + 1 := by omega
  rw [e, List.take_add_one, key n _ (by omega), show n - 1 - (n - (m + 1)) = m by omega]
  rfl
set_option maxRecDepth 100000 in
set_option maxHeartbeats 1000000 in
theorem rbig5_any (W : World) (x n : Nat) (hx : x < 18446744073709551616) (hn : n ≤ 8) : Calls Tryd.prog 41 #[.int .u64 (x : Int), .int .i64 (n : Int)] W fun e W' => ∃ v', e = .returned v' ∧ W'.ownsRow W.heap.size 5 1 v' n ((bigL n x).map (Value.int .u8)) ∧ Below W.heap.size W W' := by
  go_enter Tryd.func41, Tryd.ntmps41
  go_wp2
  go_loopw [5, 6] (fun o i wr => ∃ m : Nat, m ≤ n ∧ i = .int .i64 ((m : Int) - 1) ∧ Hid (wr.ownsRow W.heap.size 5 1 o (n - m) ((hi5 n m x).map (Value.int .u8))) ∧ Hid (Below W.heap.size W wr)) (fun _ i _ => (intOf i + 1).toNat)
  case atStart => exact ⟨n, Nat.le_refl _, rfl, by rw [Nat.sub_self]; simp only [hi5, Nat.sub_self, List.take_zero, List.map_nil]; exact World.ownsRow_nil _ _ _ _, Below.refl _ _⟩
  case round =>
    obtain ⟨m, hm, rfl, HO, HBw⟩ := hrel
    cases m with
    | zero =>
      go_wp2
      go_ret
      refine ⟨_, rfl, ?_, HBw.out⟩
      have := HO.out
      simp only [Nat.sub_zero] at this
      rw [show hi5 n 0 x = bigL n x by unfold hi5; rw [Nat.sub_zero, List.take_of_length_le (by rw [bigL_length]; exact Nat.le_refl n)]] at this
      exact this
    | succ m =>
      have HS := hid (hi5_step n m x (by omega))
      have hmc : m = 0 ∨ m = 1 ∨ m = 2 ∨ m = 3 ∨ m = 4 ∨ m = 5 ∨ m = 6 ∨ m = 7 := by omega
      have hxi : (x : Int) < 18446744073709551616 := by omega
      have hsz := HBw.out.size
      obtain ⟨y, HY⟩ : ∃ y, Hid (((x / 256 ^ m % 256 : Nat) : Int) = y) := ⟨_, rfl⟩
      rw [HY.out] at HS
      obtain ⟨k0, HK⟩ : ∃ k0, Hid (n - (m + 1) = k0) := ⟨_, rfl⟩
      have HK2 : Hid (n - m = k0 + 1) := by show _ = _; rw [← HK.out]; omega
      have hk0 : k0 ≤ 8 := by rw [← HK.out]; omega
      obtain ⟨lst, HLs⟩ : ∃ lst, Hid (hi5 n (m + 1) x = lst) := ⟨_, rfl⟩
      rw [HLs.out] at HS
      have HO' := hid HO.out
      rw [HK.out, HLs.out] at HO'
      clear HO
      rcases hmc with rfl | rfl | rfl | rfl | rfl | rfl | rfl | rfl
      all_goals
        go_wp2_with (at_builtin; refine wpList_append_byte rfl _ _ rfl W.heap.size _ _ _ rfl (HO'.out.alloc _) ⟨wr.heap.size, 0, none⟩ 1 y rfl ?q0 ?q1 ?q2 ?_)
        case q0 => rw [← HY.out]; simp; try omega
        case q1 => omega
        case q2 => simp; omega
        intro v' w2 hown2 hgr2 _
        have HO2 : Hid (w2.ownsRow W.heap.size 5 1 v' (k0 + 1) (lst.map (Value.int .u8) ++ [.int .u8 y])) := hown2
        have HB2 := hid ((HBw.out.alloc HBw.out.size _).grown hgr2 (by simp; omega) (fun k e => (HO'.out.lt k e).1))
        clear hown2 hgr2
        go_wp2
        exact ⟨⟨_, Nat.le_of_succ_le hm, rfl, by rw [HK2.out, HS.out, List.map_append]; exact HO2, HB2⟩, by simp [intOf]⟩
def fr1 (l : List Int) : List Int := bigL 8 l.length ++ l
theorem fr1_length (l : List Int) : (fr1 l).length = 8 + l.length := by simp [fr1, bigL_length]
theorem fr1_byt {l : List Int} (h : ∀ x ∈ l, 0 ≤ x ∧ x < 256) : ∀ x ∈ fr1 l, 0 ≤ x ∧ x < 256 := fun x hx => (List.mem_append.1 hx).elim (bigL_byt _ _ x) (h x)
set_option maxRecDepth 100000 in
set_option maxHeartbeats 1000000 in
theorem rframe_any (w : World) (v : Value) (l : List Int) (h : HB w v l) (hl : l.length ≤ 140737488355000) : Calls Tryd.prog 69 #[v] w fun e w' => ∃ v', e = .returned v' ∧ w'.ownsRow w.heap.size 5 1 v' (fr1 l).length ((fr1 l).map (Value.int .u8)) ∧ Below w.heap.size w w' := by
  obtain ⟨p, c, e, hlc, hm⟩ := h.open
  have HH := hid h
  obtain ⟨n, HN⟩ : ∃ n, Hid (l.length = n) := ⟨_, rfl⟩
  rw [HN.out] at e hl hlc
  subst e
  clear h
  go_enter Tryd.func69, Tryd.ntmps69
  go_wp2_with fail
  refine (rbig5_any w n 8 (by omega) (by omega)).mono ?_
  rintro e w1 ⟨v1, rfl, ho1, hB1⟩
  have HO := hid ho1
  have HB1 := hid hB1
  have H1 := hid (HH.out.below hB1)
  clear ho1 hB1
  go_wp2_with (at_builtin; refine wpList_append_HB rfl _ _ rfl w.heap.size _ _ _ rfl HO.out _ _ rfl H1.out ?q1 ?q2 ?_)
  case q1 => rw [HN.out]; omega
  case q2 => exact HB1.out.size
  intro v2 w2 ho2 hg2
  have HO2 : Hid (w2.ownsRow w.heap.size 5 1 v2 (fr1 l).length ((fr1 l).map (Value.int .u8))) := by
    rw [fr1_length]
    show World.ownsRow _ _ _ _ _ _ _
    unfold fr1
    rw [List.map_append, HN.out]
    rw [HN.out] at ho2
    exact ho2
  have HB2 : Hid (Below w.heap.size w w2) := HB1.out.grown hg2 HB1.out.size (fun k e => (HO.out.lt k e).1)
  clear ho2 hg2
  go_wp2
  go_ret
  exact ⟨_, rfl, HO2.out, HB2.out⟩
def strI (s : ByteArray) : List Int := s.data.toList.map fun b => ((b.toNat : Nat) : Int)
theorem strI_length (s : ByteArray) : (strI s).length = s.size := by
  unfold strI
  rw [List.length_map, Array.length_toList]
  rfl
theorem wpList_bytes_str {ops : Array Oper} {rest : List Oper} {o : Oper} {a : Act} {w : World} {Q : Exit → Act → World → Prop} (hgd : o.guard = none) (x : Operand) (ho : o.op = .convert 9 47 x) (s : ByteArray) (hx : a.eval x = .string s) (hs : s.size ≤ 1000)
    (h : ∀ v' w', HB w' v' (strI s) → Below w.heap.size w w' → wpList Tryd.prog ops Q rest (a.put o.dst v') w') : wpList Tryd.prog ops Q (o :: rest) a w :=
  wpList_plain hgd fun _ hK => by
    have hr := run_bytes_of_string (P := Tryd.prog) w 9 47 5 s Tryd.underlying9 Tryd.underlying47 Tryd.underlying5
    unfold Oper.wp
    simp only [execOp, ho, hx, Sem.run_bind, hr, Result.andThen_ok]
    have hge := grownCap_ge w s.size 0 5
    have hle := grownCap_le_maxLen w s.size 0 5 (by unfold maxLen; omega)
    refine hK _ _ (h _ _ ⟨⟨_, _, by rw [strI_length], by rw [strI_length]; exact hge, hle, (fun e => by cases e), fun _ => ⟨w.heap.size, 0, rfl, fun j hj => ?_⟩⟩, fun x hx => ?_⟩ ((Below.refl _ w).drew.alloc (Nat.le_refl _) _))
    · have hb : (w.drew.alloc (.cells (bytesRow s (grownCap w s.size 0 5)) 5 ((bytesRow s (grownCap w s.size 0 5)).size, (bytesRow s (grownCap w s.size 0 5)).size + 1))).heap[w.heap.size]? = some (.cells (bytesRow s (grownCap w s.size 0 5)) 5 ((bytesRow s (grownCap w s.size 0 5)).size, (bytesRow s (grownCap w s.size 0 5)).size + 1)) := heap_alloc_new w.drew _
      rw [cell_of_row _ _ _ _ _ _ hb]
      have hj2 : j < s.data.size := by rw [strI_length] at hj; exact hj
      have hj3 : j < s.size := hj2
      simp [bytesRow, Array.getElem?_append, hj3, strI, List.getD, Array.getElem?_eq_getElem hj2]
    · unfold strI at hx
      obtain ⟨b, _, rfl⟩ := List.mem_map.1 hx
      have := b.toNat_lt
      omega
def frK (wd : List Int) (ps : List (List Int)) (k : Nat) : List Int := framed (wd :: ps.take k)
theorem frK_zero (wd : List Int) (ps : List (List Int)) : frK wd ps 0 = fr1 wd := by simp [frK, framed, pcs, fr1]
theorem frK_snoc (wd : List Int) (ps : List (List Int)) (k : Nat) (hk : k < ps.length) : frK wd ps (k + 1) = frK wd ps k ++ fr1 (ps.getD k []) := by
  unfold frK framed
  rw [List.take_succ_eq_append_getElem hk]
  have e : ps.getD k [] = ps[k] := by simp [List.getD, List.getElem?_eq_getElem hk]
  rw [e]
  simp only [pcs, fr1, List.flatMap_cons, List.flatMap_append, List.flatMap_nil, List.flatten_append, List.flatten_cons, List.flatten_nil, List.append_nil, List.append_assoc, List.cons_append, List.nil_append]
theorem frK_all (wd : List Int) (ps : List (List Int)) : frK wd ps ps.length = framed (wd :: ps) := by simp [frK]
theorem frK_le (wd : List Int) (ps : List (List Int)) (k : Nat) : (frK wd ps k).length ≤ wd.length + 8 + (ps.flatten.length + 8 * ps.length) := by
  unfold frK
  rw [framed_length]
  have := flat_take_le ps k
  simp only [List.flatten_cons, List.length_append, List.length_cons, List.length_take]
  omega
theorem framed_byt : ∀ (ps : List (List Int)), (∀ l ∈ ps, ∀ x ∈ l, 0 ≤ x ∧ x < 256) → ∀ x ∈ framed ps, 0 ≤ x ∧ x < 256 := by
  intro ps h x hx
  unfold framed pcs at hx
  obtain ⟨l, h1, h2⟩ := List.mem_flatten.1 hx
  obtain ⟨q, h3, h4⟩ := List.mem_flatMap.1 h1
  simp only [List.mem_cons, List.not_mem_nil, or_false] at h4
  rcases h4 with rfl | rfl
  · exact bigL_byt _ _ x h2
  · exact h _ h3 x h2
def sring : ByteArray := ⟨(wRing.map fun x => UInt8.ofNat x.toNat).toArray⟩
theorem sring_strI : strI sring = wRing := by decide
set_option maxRecDepth 100000 in
set_option maxHeartbeats 1000000 in
theorem rword_ring (w : World) : Calls Tryd.prog 67 #[.int .u8 9] w fun e w' => e = .returned (.string sring) ∧ w' = w := by
  go_enter Tryd.func67, Tryd.ntmps67
  go_wp2
  go_ret
  exact ⟨rfl, rfl⟩
set_option maxRecDepth 100000 in
set_option maxHeartbeats 1000000 in
theorem rfits_ring (w : World) (v : Value) (l r : List Int) (h : HL w v [l, r]) (hl : l.length = 16) (hr : r.length = 4) : Calls Tryd.prog 68 #[.int .u8 9, v] w fun e w' => e = .returned (.bool true) ∧ w' = w := by
  obtain ⟨b, off, c, rfl, hc1, hc2, hh⟩ := h.ne (by simp)
  obtain ⟨u0, h0, hb0⟩ := hh 0 (by simp)
  obtain ⟨u1, h1, hb1⟩ := hh 1 (by simp)
  obtain ⟨p0, c0, rfl, _, _⟩ := hb0.open
  obtain ⟨p1, c1, rfl, _, _⟩ := hb1.open
  simp only [List.getD_cons_zero, List.getD_cons_succ, hl, hr, List.length_cons, List.length_nil, Nat.add_zero, Nat.zero_add, Nat.reduceAdd] at h0 h1 ⊢
  clear hh hb0 hb1 h
  go_enter Tryd.func68, Tryd.ntmps68
  go_wp2
  go_ret
  exact ⟨rfl, rfl⟩
set_option maxRecDepth 100000 in
set_option maxHeartbeats 2000000 in
theorem rbytes_ring (w : World) (v : Value) (ps : List (List Int)) (h : HL w v ps) (hF : ∀ w', Below w.heap.size w w' → Calls Tryd.prog 68 #[.int .u8 9, v] w' fun e w'' => e = .returned (.bool true) ∧ w'' = w') (hbig : ps.flatten.length + 8 * ps.length ≤ 100000000000000) :
    Calls Tryd.prog 54 #[.int .u8 9, v] w fun e w' => ∃ v', e = .returned (.tuple #[v', .int .i64 0]) ∧ w'.ownsRow w.heap.size 5 1 v' (framed (strI sring :: ps)).length ((framed (strI sring :: ps)).map (Value.int .u8)) ∧ Below w.heap.size w w' := by
  have hsz : sring.size ≤ 1000 := by decide
  have hse : sring.toList.isEmpty = false := by decide +kernel
  have A0 := hid h
  obtain ⟨p, c, e, hlc, hm⟩ := h.open
  unfold maxLen at hm
  have A : Hid (0 < ps.length → ∃ b off, p = some ⟨b, off, none⟩ ∧ ∀ j, j < ps.length → ∃ u, w.cell? ⟨b, off + j, none⟩ = some u ∧ HB w u (ps.getD j [])) := by
    intro h0
    obtain ⟨b, off, c', e', _, _, hh⟩ := h.ne h0
    rw [e] at e'
    simp only [Value.slice.injEq, true_and] at e'
    exact ⟨b, off, e'.1, hh⟩
  have HF := hid hF
  obtain ⟨n, HN⟩ : ∃ n, Hid (ps.length = n) := ⟨_, rfl⟩
  have HBig := hid hbig
  rw [HN.out] at e hlc hbig
  subst e
  clear h hF
  go_enter Tryd.func54, Tryd.ntmps54
  go_wp2_with fail
  refine (rword_ring _).mono ?_
  rintro e w1 ⟨rfl, rfl⟩
  go_wp2_with fail
  refine (HF.out _ (Below.refl _ _)).mono ?_
  rintro e w2 ⟨rfl, rfl⟩
  go_wp2_with fail
  refine (rword_ring _).mono ?_
  rintro e w3 ⟨rfl, rfl⟩
  go_wp2_with (refine wpList_bytes_str rfl _ rfl sring rfl hsz ?_)
  intro v4 w4 hb4 hB4
  have HB4 := hid hb4
  have BL4 := hid hB4
  clear hb4 hB4
  go_wp2_with fail
  refine (rframe_any w4 v4 _ HB4.out (by rw [strI_length]; omega)).mono ?_
  rintro e w5 ⟨v5, rfl, ho5, hB5⟩
  have HO5 : Hid (w5.ownsRow w3.heap.size 5 1 v5 (frK (strI sring) ps 0).length ((frK (strI sring) ps 0).map (Value.int .u8))) := by
    rw [frK_zero]
    exact own_mono ho5 BL4.out.size
  have BL5 := hid (BL4.out.trans (hB5.mono BL4.out.size))
  clear ho5 hB5
  go_wp2
  go_loopw [6, 7] (fun o i wr => ∃ k : Nat, k ≤ n ∧ i = .int .i64 k ∧ Hid (wr.ownsRow w3.heap.size 5 1 o (frK (strI sring) ps k).length ((frK (strI sring) ps k).map (Value.int .u8))) ∧ Hid (Below w3.heap.size w3 wr)) (fun _ i _ => n - (intOf i).toNat)
  case atStart => exact ⟨0, Nat.zero_le _, rfl, HO5, BL5⟩
  case round =>
    obtain ⟨k, hk, rfl, HO, HBel⟩ := hrel
    by_cases hlt : k < n
    · obtain ⟨b, off, rfl, hh⟩ := A.out (by rw [HN.out]; omega)
      obtain ⟨u, hu0, hb⟩ := hh k (by rw [HN.out]; exact hlt)
      have hu : wr.cell? ⟨b, off + k, none⟩ = some u := (HBel.out.cell (World.block_lt_of_cell? w3 _ hu0)).trans hu0
      have HBu := hid (hb.below HBel.out)
      have hls : (ps.getD k []).length ≤ 100000000000000 := by
        have h1 := flat_take_le ps (k + 1)
        rw [flat_snoc ps k (by rw [HN.out]; exact hlt), List.length_append] at h1
        have := HBig.out
        omega
      have HS := hid (frK_snoc (strI sring) ps k (by rw [HN.out]; exact hlt))
      have HLe := hid (frK_le (strI sring) ps (k + 1))
      rw [HS.out, List.length_append, strI_length] at HLe
      clear hh hb hu0
      go_wp2_with fail
      refine (rframe_any wr u _ HBu.out (by omega)).mono ?_
      rintro e w6 ⟨v6, rfl, ho6, hB6⟩
      have HB6 : Hid (HB w6 v6 (fr1 (ps.getD k []))) := HB.of_own ho6 (fr1_byt HBu.out.2)
      have HO6 := hid (own_below HO.out hB6)
      have BL6 := hid (HBel.out.trans (hB6.mono HBel.out.size))
      clear ho6 hB6
      go_wp2_with (at_builtin; refine wpList_append_HB rfl _ _ rfl w3.heap.size _ _ _ rfl HO6.out _ _ rfl HB6.out ?q1 ?q2 ?_)
      case q1 => have := HLe.out; have := HBig.out; omega
      case q2 => exact BL6.out.size
      intro v7 w7 ho7 hg7
      have HO7 : Hid (w7.ownsRow w3.heap.size 5 1 v7 (frK (strI sring) ps (k + 1)).length ((frK (strI sring) ps (k + 1)).map (Value.int .u8))) := by
        rw [HS.out, List.length_append, List.map_append]
        exact ho7
      have BL7 : Hid (Below w3.heap.size w3 w7) := BL6.out.grown hg7 BL6.out.size (fun k e => (HO6.out.lt k e).1)
      clear ho7 hg7
      go_wp2
      exact ⟨⟨k + 1, by omega, by go_num, HO7, BL7⟩, by simp [intOf]; omega⟩
    · have hkn : k = ps.length := by rw [HN.out]; omega
      have HO8 := hid HO.out
      rw [hkn, frK_all] at HO8
      go_wp2
      go_ret2
      exact ⟨_, rfl, HO8.out, HBel.out⟩
theorem framed_ring (x : List Int) (s : Nat) (hx : x.length = 16) : framed (strI sring :: [x, bigL 4 s]) = rgB x s := by
  rw [sring_strI]
  simp [framed, pcs, rgB, hx, bigL_length, num8, wRing]
  simp [bigL]
set_option maxRecDepth 100000 in
set_option maxHeartbeats 2000000 in
theorem rdigest_ring (w : World) (v : Value) (ps : List (List Int)) (h : HL w v ps) (hF : ∀ w', Below w.heap.size w w' → Calls Tryd.prog 68 #[.int .u8 9, v] w' fun e w'' => e = .returned (.bool true) ∧ w'' = w') (hbig : ps.flatten.length + 8 * ps.length ≤ 1000) (hby : ∀ l ∈ ps, ∀ x ∈ l, 0 ≤ x ∧ x < 256) :
    Calls Tryd.prog 40 #[.int .u8 9, v] w fun e w' => e = .returned (.agg (cellsB (digL (framed (strI sring :: ps))))) ∧ Below w.heap.size w w' := by
  have hsz : sring.size ≤ 1000 := by decide
  obtain ⟨zd, HZD⟩ : ∃ zd, Hid (cellsB zeros32 = zd) := ⟨_, rfl⟩
  obtain ⟨W0, hW0⟩ : ∃ W0, Hid (w.alloc (.cells zd 43) = W0) := ⟨_, rfl⟩
  have HB0 : Hid (Below w.heap.size w W0) := by rw [← hW0.out]; exact (Below.refl _ w).alloc (Nat.le_refl _) _
  have HR0 : Hid (W0.heap[w.heap.size]? = some (.cells zd 43 (0, 0))) := by rw [← hW0.out]; exact heap_alloc_new w _
  have hS0 : W0.heap.size = w.heap.size + 1 := by rw [← hW0.out]; simp
  have HF := hid hF
  have HL0 := hid (h.below HB0.out)
  obtain ⟨m, HM⟩ : ∃ m, Hid (framed (strI sring :: ps) = m) := ⟨_, rfl⟩
  have hmb : ∀ x ∈ m, 0 ≤ x ∧ x < 256 := by
    rw [← HM.out]
    refine framed_byt _ fun l hl => ?_
    rcases List.mem_cons.1 hl with rfl | hl
    · intro x hx
      unfold strI at hx
      obtain ⟨b, _, rfl⟩ := List.mem_map.1 hx
      have := b.toNat_lt
      omega
    · exact hby l hl
  have hml : m.length ≤ 3000 := by
    rw [← HM.out, framed_length]
    simp only [List.flatten_cons, List.length_append, List.length_cons, strI_length]
    omega
  clear h hF
  go_enter Tryd.func40, Tryd.ntmps40
  go_wp2_with (refine wpList_alloc_digest rfl rfl ?_; rw [HZD.out, hW0.out])
  refine (rbytes_ring W0 v ps HL0.out (fun w' hb => HF.out w' (HB0.out.trans (hb.mono HB0.out.size))) (by omega)).mono ?_
  rintro e w1 ⟨v1, rfl, ho1, hB1⟩
  rw [HM.out] at ho1
  have HB1 := hid (HB.of_own ho1 hmb)
  have BL1 := hid hB1
  clear ho1 hB1
  go_wp2_with fail
  refine (rsum_any w1 v1 m HB1.out (by omega)).mono ?_
  rintro e w2 ⟨rfl, hB2⟩
  obtain ⟨dm, HD⟩ : ∃ dm, Hid (cellsB (digL m) = dm) := ⟨_, rfl⟩
  have hds : dm.size = 32 := by rw [← HD.out]; simp [cellsB, digL_length]
  have SD : Hid ((Tryd.prog.info? 43).map (·.size) = some dm.size) := by rw [hds]; exact size_digest
  have OD : Hid (dm.all (·.oneCell') = true) := by rw [← HD.out]; exact cellsB_one _
  have ZD : Hid (zd.size = dm.size) := by rw [hds, ← HZD.out]; rfl
  have HR2 : Hid (w2.heap[w.heap.size]? = some (.cells zd 43 (0, 0))) := by
    show _ = _
    rw [hB2.block _ (by have := BL1.out.size; omega), BL1.out.block _ (by omega)]
    exact HR0.out
  have HBF := hid (below_setRow ((HB0.out.trans (BL1.out.mono (by omega))).trans (hB2.mono (by have := BL1.out.size; omega))) (g := w.heap.size) (Nat.le_refl _) dm)
  rw [HD.out]
  clear hB2 hds
  go_wp2_with (refine wpList_store_row rfl 43 _ _ rfl w.heap.size dm rfl rfl 43 _ HR2.out SD.out ZD.out OD.out ?_)
  refine bodyPost_ret (v := .agg dm) (results_cell_row (p := 4) (ty := 43) rfl _ _ w.heap.size 43 dm (0, 0) _ rfl (setRow_heap _ _ _ _ _ _ HR2.out) Tryd.underlying43 rfl SD.out) rfl ?_
  exact ⟨by rw [HM.out, HD.out], HBF.out⟩
set_option maxRecDepth 100000 in
set_option maxHeartbeats 2000000 in
theorem rring_any (w : World) (x : List Int) (s : Nat) (hx : X16 x) (hs : s < 4294967296) : Calls Tryd.prog 32 #[.agg (cellsB x), .int .u32 (s : Int)] w fun e w' => e = .returned (.agg (cellsB (rgL x s))) ∧ Below w.heap.size w w' := by
  obtain ⟨zd, HZD⟩ : ∃ zd, Hid (cellsB zeros32 = zd) := ⟨_, rfl⟩
  obtain ⟨cl, HCL⟩ : ∃ c, Hid (cellsB x = c) := ⟨_, rfl⟩
  rw [HCL.out]
  have hsi : (s : Int) < 4294967296 := by omega
  go_enter Tryd.func32, Tryd.ntmps32
  go_wp2_with (refine wpList_alloc_digest rfl rfl ?_; rw [HZD.out])
  have e3 : (w.alloc (.cells cl 23)).heap.size = w.heap.size + 1 := by simp
  rw [e3]
  obtain ⟨W0, hW0⟩ : ∃ W0, Hid ((w.alloc (.cells cl 23)).alloc (.cells zd 43) = W0) := ⟨_, rfl⟩
  have HB0 : Hid (Below w.heap.size w W0) := by
    rw [← hW0.out]
    exact ((Below.refl _ w).alloc (Nat.le_refl _) _).alloc (by simp) _
  have HS0 : Hid (W0.heap.size = w.heap.size + 2) := by rw [← hW0.out]; refine hid ?_; simp
  have H1 : Hid (W0.heap[w.heap.size]? = some (.cells cl 23 (0, 0))) := by
    rw [← hW0.out]
    refine hid ?_
    rw [heap_alloc_old _ _ (by simp)]
    exact heap_alloc_new w _
  have H3 : Hid (W0.heap[w.heap.size + 1]? = some (.cells zd 43 (0, 0))) := by
    rw [← hW0.out, ← e3]
    exact heap_alloc_new _ _
  rw [hW0.out]
  simp only [Act.put, List.setIfInBounds_toArray, List.set_cons_zero, List.set_cons_succ]
  refine wp_region_any (by kernel_rfl) ?_
  change wpAny _ _ _ _ _ _ _ (World.drew _)
  refine wpAny_take (i := 0) (v := ?_) rfl (by kernel_rfl) (by kernel_rfl) (by kernel_rfl) (fun _ _ _ h => h) (Or.inl ⟨by rfl, ?q0⟩) ?_
  case q0 => intro w; go_simp; rfl
  refine wpAny_take (i := 1) (v := ?_) rfl (by kernel_rfl) (by kernel_rfl) (by kernel_rfl) (fun _ _ _ h => h) (Or.inl ⟨by rfl, ?q1⟩) ?_
  case q1 => intro w; go_simp; rfl
  refine wpAny_take (i := 2) (v := .int .u64 (s : Int)) rfl (by kernel_rfl) (by kernel_rfl) (by kernel_rfl) (fun _ _ _ h => h) (Or.inl ⟨by rfl, ?q2⟩) ?_
  case q2 => intro w; go_simp; rw [IntKind.wrap_u64]; omega
  have CB : Hid (∀ W : World, Calls Tryd.prog 41 #[.int .u64 (s : Int), .int .i64 4] W fun e W' => ∃ v', e = .returned v' ∧ W'.ownsRow W.heap.size 5 1 v' 4 ((bigL 4 s).map (Value.int .u8)) ∧ Below W.heap.size W W') := hid fun W => rbig5_any W s 4 (by omega) (by omega)
  refine wpAny_ready (rs := [3]) (by kernel_rfl) (by simp) ?_
  refine AllReady.cons rfl (fun K hK => ?_) AllReady.nil
  go_simp
  refine (CB.out _).mono ?_
  rintro e w1 ⟨v1, rfl, ho1, hB1⟩
  obtain ⟨p1, c1, rfl⟩ := own_slc ho1
  have HB1 := hid (HB.of_own (l := bigL 4 s) (by rw [bigL_length]; exact ho1) (bigL_byt 4 s))
  have BL1 : Hid (Below W0.heap.size W0 w1) := hid (((Below.refl W0.heap.size W0).drew).trans hB1)
  clear ho1 hB1
  refine hK _ _ ?_
  clear hK
  refine wpAny_ready (rs := [4]) (by kernel_rfl) (by simp) ?_
  refine AllReady.cons rfl (fun K hK => ?_) AllReady.nil
  go_simp
  obtain ⟨W4, hW4⟩ : ∃ W4, Hid (w1.alloc (.cells #[.slice (some ⟨w.heap.size, 0, none⟩) 16 16, .slice p1 4 c1] 47) = W4) := ⟨_, rfl⟩
  have HB4 : Hid (Below w1.heap.size w1 W4) := by rw [← hW4.out]; exact (Below.refl _ w1).alloc (Nat.le_refl _) _
  have hs1 := BL1.out.size
  have hs2 := HS0.out
  have HLv : Hid (HL W4 (.slice (some ⟨w1.heap.size, 0, none⟩) 2 2) [x, bigL 4 s]) := by
    refine hid ⟨_, 2, rfl, by simp, by unfold maxLen; omega, (fun e => by cases e), fun _ => ⟨w1.heap.size, 0, rfl, fun j hj => ?_⟩⟩
    have h4 : W4.heap[w1.heap.size]? = some (.cells #[.slice (some ⟨w.heap.size, 0, none⟩) 16 16, .slice p1 4 c1] 47 (0, 0)) := by rw [← hW4.out]; exact heap_alloc_new w1 _
    have hj2 : j = 0 ∨ j = 1 := by simp at hj; omega
    rcases hj2 with rfl | rfl
    · refine ⟨_, by rw [cell_of_row W4 _ (0 + 0) _ _ _ h4]; rfl, ⟨⟨some ⟨w.heap.size, 0, none⟩, 16, by rw [List.getD_cons_zero, hx.1]; rfl, by rw [List.getD_cons_zero, hx.1]; omega, by unfold maxLen; omega, (fun e => by cases e), fun _ => ⟨w.heap.size, 0, rfl, fun i hi => ?_⟩⟩, hx.2⟩⟩
      have h5 : W4.heap[w.heap.size]? = some (.cells (cellsB x) 23 (0, 0)) := by rw [HB4.out.block _ (by omega), BL1.out.block _ (by omega), H1.out, HCL.out]
      have hi' : i < x.length := hi
      rw [cell_of_row W4 _ (0 + i) _ _ _ h5]
      simp [cellsB, List.getD, List.getElem?_eq_getElem hi']
    · exact ⟨_, by rw [cell_of_row W4 _ (0 + 1) _ _ _ h4]; rfl, HB1.out.below HB4.out⟩
  have CD := hid (rdigest_ring W4 _ [x, bigL 4 s] HLv.out (fun w' hb => rfits_ring w' _ x _ (HLv.out.below hb) hx.1 (bigL_length 4 s)) (by simp [hx.1, bigL_length]) (fun q hq => by
    rcases List.mem_cons.1 hq with rfl | hq
    · exact hx.2
    · have : q = bigL 4 s := by simpa using hq
      rw [this]; exact bigL_byt 4 s))
  rw [framed_ring x s hx.1] at CD
  refine hK _ _ ?_
  rw [hW4.out]
  clear hK
  refine wpAny_ready (rs := [5]) (by kernel_rfl) (by simp) ?_
  refine AllReady.cons rfl (fun K hK => ?_) AllReady.nil
  go_simp
  refine CD.out.mono ?_
  rintro e w5 ⟨rfl, hB5⟩
  obtain ⟨dm, HD⟩ : ∃ dm, Hid (cellsB (digL (rgB x s)) = dm) := ⟨_, rfl⟩
  have hds : dm.size = 32 := by rw [← HD.out]; simp [cellsB, digL_length]
  have SD : Hid ((Tryd.prog.info? 43).map (·.size) = some dm.size) := by rw [hds]; exact size_digest
  have OD : Hid (dm.all (·.oneCell') = true) := by rw [← HD.out]; exact cellsB_one _
  have ZD : Hid (zd.size = dm.size) := by rw [hds, ← HZD.out]; rfl
  have hs4 := HB4.out.size
  have HR5 : Hid (w5.heap[w.heap.size + 1]? = some (.cells zd 43 (0, 0))) := by
    refine hid ?_
    show w5.heap[w.heap.size + 1]? = _
    rw [hB5.block _ (by omega), HB4.out.block _ (by omega), BL1.out.block _ (by omega)]
    exact H3.out
  have BL5 : Hid (Below w.heap.size w w5) := (((HB0.out.trans (BL1.out.mono (by omega))).trans (HB4.out.mono (by omega))).trans (hB5.mono (by omega)))
  have HBF := hid (below_setRow BL5.out (g := w.heap.size + 1) (by omega) dm)
  rw [HD.out]
  clear hB5 hds CD
  refine hK _ _ ?_
  clear hK
  refine wpAny_ready (rs := [6]) (by kernel_rfl) (by simp) ?_
  refine AllReady.cons rfl (fun K hK => ?_) AllReady.nil
  rw [if_pos (by rfl)]
  refine wp_store_row 43 _ _ rfl (w.heap.size + 1) dm rfl rfl 43 _ HR5.out SD.out ZD.out OD.out ?_
  refine hK _ _ ?_
  clear hK
  refine wpAny_done (by kernel_rfl) ?_ _
  go_wp2
  refine bodyPost_ret (v := .agg dm) (results_cell_row (p := 4) (ty := 43) rfl _ _ (w.heap.size + 1) 43 dm (0, 0) _ rfl (setRow_heap _ _ _ _ _ _ HR5.out) Tryd.underlying43 rfl SD.out) rfl ?_
  exact ⟨by rw [← HD.out]; rfl, HBF.out⟩
attribute [local go_sem ↓] Go.wp_at_zero Go.wp_at_succ
set_option maxRecDepth 100000 in
set_option maxHeartbeats 1000000 in
theorem rless_any (w : World) (va vb : Value) (la lb : List Int) (ha : HB w va la) (hb : HB w vb lb) :
    Calls Tryd.prog 33 #[va, vb] w fun e w' => e = .returned (.bool (ltL la lb)) ∧ Dr w w' := by
  have HA := hid ha
  have HBb := hid hb
  obtain ⟨pa, ca, rfl, hca, hcam⟩ := ha.open
  obtain ⟨pb, cb, rfl, hcb, hcbm⟩ := hb.open
  unfold maxLen at hcam hcbm
  clear ha hb
  go_enter Tryd.func33, Tryd.ntmps33
  go_wp2
  go_loopw [5] (fun i wr => ∃ k : Nat, k ≤ la.length ∧ k ≤ lb.length ∧ i = .int .i64 k ∧ Hid (ltL la lb = ltL (la.drop k) (lb.drop k)) ∧ Hid (Dr w wr)) (fun i _ => la.length - (intOf i).toNat)
  case atStart => exact ⟨0, Nat.zero_le _, Nat.zero_le _, rfl, rfl, Dr.refl _⟩
  case round =>
    obtain ⟨k, hka, hkb, rfl, HE, HD⟩ := hrel
    by_cases hlt : k < la.length ∧ k < lb.length
    · obtain ⟨h1, h2⟩ := hlt
      obtain ⟨ba, oa, ca', ea, _, _, hha⟩ := HA.out.ne (by omega)
      obtain ⟨bb, ob, cb', eb, _, _, hhb⟩ := HBb.out.ne (by omega)
      simp only [Value.slice.injEq, true_and] at ea eb
      obtain ⟨rfl, rfl⟩ := ea
      obtain ⟨rfl, rfl⟩ := eb
      obtain ⟨x, HX⟩ : ∃ x, Hid (la.getD k 0 = x) := ⟨_, rfl⟩
      obtain ⟨y, HY⟩ : ∃ y, Hid (lb.getD k 0 = y) := ⟨_, rfl⟩
      have cx := (HD.out.cell _).trans (hha k h1)
      have cy := (HD.out.cell _).trans (hhb k h2)
      rw [HX.out] at cx
      rw [HY.out] at cy
      have HS : Hid (ltL (la.drop k) (lb.drop k) = if x < y then true else if y < x then false else ltL (la.drop (k + 1)) (lb.drop (k + 1))) := by
        show _ = _
        rw [List.drop_eq_getElem_cons h1, List.drop_eq_getElem_cons h2, ← HX.out, ← HY.out, getD_of_lt h1, getD_of_lt h2]
        rfl
      clear hha hhb
      by_cases hxy : x = y
      · have HS2 : Hid (ltL (la.drop k) (lb.drop k) = ltL (la.drop (k + 1)) (lb.drop (k + 1))) := by
          show _ = _
          rw [HS.out, if_neg (by omega), if_neg (by omega)]
        subst hxy
        go_wp2
        go_region
        all_goals go_wp2
        all_goals exact ⟨⟨k + 1, by omega, by omega, by go_num, HE.out.trans HS2.out, HD.out.drewN 1⟩, by simp [intOf]; omega⟩
      · have HS2 : Hid (ltL (la.drop k) (lb.drop k) = decide (x < y)) := by
          show _ = _
          rw [HS.out]
          by_cases h : x < y
          · rw [if_pos h]; simp [h]
          · rw [if_neg h, if_pos (by omega)]; simp [h]
        have HF : Hid (ltL la lb = decide (x < y)) := HE.out.trans HS2.out
        go_wp2
        go_region
        all_goals go_wp2
        all_goals go_region
        all_goals go_wp2
        all_goals go_ret
        all_goals exact ⟨by rw [HF.out]; rfl, (HD.out.drewN 1).drewN 1⟩
    · have HF : Hid (ltL la lb = decide (la.length < lb.length)) := by
        show _ = _
        rw [HE.out]
        rcases Nat.lt_or_ge k la.length with h1 | h1
        · have h2 : lb.length ≤ k := by omega
          rw [List.drop_eq_nil_of_le h2, List.drop_eq_getElem_cons h1]
          symm
          simp [ltL]
          omega
        · rw [List.drop_eq_nil_of_le h1]
          rcases Nat.lt_or_ge k lb.length with h2 | h2
          · rw [List.drop_eq_getElem_cons h2]
            symm
            simp [ltL]
            omega
          · rw [List.drop_eq_nil_of_le h2]
            symm
            simp [ltL]
            omega
      by_cases h1 : k < la.length
      · have h2 : k = lb.length := by omega
        subst h2
        clear hlt
        go_wp2
        go_ret
        exact ⟨by rw [HF.out]; rfl, HD.out⟩
      · have h2 : k = la.length := by omega
        subst h2
        clear hlt h1
        go_wp2
        go_ret
        exact ⟨by rw [HF.out]; rfl, HD.out⟩
theorem wpList_load_row_on {P : Program} {ops : Array Oper} {rest : List Oper} {o : Oper} {a : Act} {w : World} {Q : Exit → Act → World → Prop} (hw : Region.wanted o (yielded ops a.tmps) = true) (ty : TypeId) (x : Operand) (ho : o.op = .load ty x)
    (g : Nat) (hx : a.eval x = .pointer (some ⟨g, 0, none⟩)) (t : TypeId) (cs : Array Value) (fr : Nat × Nat) (d : TypeDesc) (hg : w.heap[g]? = some (.cells cs t fr))
    (hu : P.underlying ty = some d) (hd : (match d with | .struct _ | .array _ _ => true | _ => false) = true) (hi : (P.info? ty).map (·.size) = some cs.size)
    (h : wpList P ops Q rest (a.put o.dst (.agg cs)) w) : wpList P ops Q (o :: rest) a w := by
  refine wpList_step fun K hK => ?_
  simp only [hw, if_true]
  exact wp_load_row ty x ho g hx t cs fr d hg hu hd hi (hK _ _ h)
theorem setRow_alloc_newT (w : World) (c c' : Array Value) (t : TypeId) : (w.alloc (.cells c t)).setRow w.heap.size c' = w.alloc (.cells c' t) := by
  simp only [World.setRow, World.alloc]
  congr 1
  apply Array.ext_getElem?
  intro i
  rw [Array.getElem?_modify, Array.getElem?_push, Array.getElem?_push]
  by_cases e : w.heap.size = i
  · subst e; simp
  · rw [if_neg e, if_neg (Ne.symm e), if_neg (Ne.symm e)]
end Go.Proofs.YtjdfclbjmmmcfaaDoor
namespace Go.Proofs.YtjdfclbjmmmcfaaDoor
open Go Go.RowKit
theorem ltL_cmpB : ∀ (a b : List Int), ltL a b = decide (cmpB a b < 0)
  | [], [] => rfl
  | [], _ :: _ => rfl
  | _ :: _, [] => rfl
  | a :: l, b :: r => by
    unfold ltL cmpB
    by_cases h1 : a < b
    · rw [if_pos h1, if_pos h1]; rfl
    · rw [if_neg h1, if_neg h1]
      by_cases h2 : b < a
      · rw [if_pos h2, if_pos h2]; rfl
      · rw [if_neg h2, if_neg h2]
        exact ltL_cmpB l r
theorem HB.dig {w : World} {g : Nat} {l : List Int} (hl : D32 l) {T : TypeId} (h : w.heap[g]? = some (.cells (cellsB l) T (0, 0))) : HB w (.slice (some ⟨g, 0, none⟩) 32 32) l := by
  refine ⟨⟨some ⟨g, 0, none⟩, 32, by rw [hl.1], by rw [hl.1]; omega, by unfold maxLen; omega, (fun e => by cases e), fun _ => ⟨g, 0, rfl, fun j hj => ?_⟩⟩, hl.2⟩
  rw [cell_of_row w g (0 + j) _ _ _ h]
  simp [cellsB, List.getD, List.getElem?_eq_getElem hj]
set_option maxRecDepth 100000 in
set_option maxHeartbeats 4000000 in
theorem ahead_any (w : World) (x : List Int) (a b : Nat) (hx : X16 x) (ha : a < 4294967296) (hb : b < 4294967296) :
    Calls Tryd.prog 21 #[.agg (cellsB x), .int .i64 (a : Int), .int .i64 (b : Int)] w fun e w' => e = .returned (.bool (decide (ltR (rgL x) a b))) ∧ Below w.heap.size w w' := by
  have HIx := hid (size_ix hx)
  obtain ⟨cl, HCL⟩ : ∃ c, Hid (cellsB x = c) := ⟨_, rfl⟩
  rw [HCL.out] at HIx
  rw [HCL.out]
  obtain ⟨zd, HZD⟩ : ∃ zd, Hid (cellsB zeros32 = zd) := ⟨_, rfl⟩
  have HX := hid hx
  obtain ⟨W1, HW1⟩ : ∃ W1, Hid (w.alloc (.cells cl 23) = W1) := ⟨_, rfl⟩
  have HB1 : Hid (Below w.heap.size w W1) := by rw [← HW1.out]; exact (Below.refl _ w).alloc (Nat.le_refl _) _
  have HC1 : Hid (W1.heap[w.heap.size]? = some (.cells cl 23 (0, 0))) := by rw [← HW1.out]; exact heap_alloc_new w _
  have hs1 : w.heap.size < W1.heap.size := (Array.getElem?_eq_some_iff.1 HC1.out).1
  have C1 := hid (rring_any W1 x a hx ha)
  rw [HCL.out] at C1
  obtain ⟨da, HDA⟩ : ∃ d, Hid (rgL x a = d) := ⟨_, rfl⟩
  obtain ⟨db', HDB⟩ : ∃ d, Hid (rgL x b = d) := ⟨_, rfl⟩
  have DA : Hid (D32 da) := by rw [← HDA.out]; exact rgL_D x a
  have DB : Hid (D32 db') := by rw [← HDB.out]; exact rgL_D x b
  obtain ⟨M, HM⟩ : ∃ M, Hid (decide (ltR (rgL x) a b) = M) := ⟨_, rfl⟩
  have HM2 : Hid (M = if da = db' then decide (a < b) else ltL da db') := by
    rw [← HM.out, ← HDA.out, ← HDB.out]
    refine hid ?_
    by_cases q : rgL x a = rgL x b
    · rw [if_pos q]
      exact decide_eq_decide.2 ((ltR_iff _ a b).trans ⟨fun h => h.elim (·.2) (fun h => absurd q h.1), fun h => .inl ⟨q, h⟩⟩)
    · rw [if_neg q, ltL_cmpB]
      exact decide_eq_decide.2 ((ltR_iff _ a b).trans ⟨fun h => h.elim (fun h => absurd h.1 q) (·.2), fun h => .inr ⟨q, h⟩⟩)
  rw [HM.out]
  rw [HDA.out] at C1
  obtain ⟨ca, HCA⟩ : ∃ c, Hid (cellsB da = c) := ⟨_, rfl⟩
  obtain ⟨cb, HCB⟩ : ∃ c, Hid (cellsB db' = c) := ⟨_, rfl⟩
  rw [HCA.out] at C1
  have hza : Hid (zd.size = ca.size) := by rw [← HZD.out, ← HCA.out, cellsB_size, cellsB_size, DA.out.1]; exact rfl
  have hzb : Hid (zd.size = cb.size) := by rw [← HZD.out, ← HCB.out, cellsB_size, cellsB_size, DB.out.1]; exact rfl
  have SA : Hid ((Tryd.prog.info? 43).map (·.size) = some ca.size) := by rw [← HCA.out, cellsB_size, DA.out.1]; exact size_digest
  have SB : Hid ((Tryd.prog.info? 43).map (·.size) = some cb.size) := by rw [← HCB.out, cellsB_size, DB.out.1]; exact size_digest
  have O1 : Hid (ca.all (·.oneCell') = true) := by rw [← HCA.out]; exact cellsB_one _
  have O2 : Hid (cb.all (·.oneCell') = true) := by rw [← HCB.out]; exact cellsB_one _
  have HEQ : ∀ W : World, (binOp .eql 43 (.agg ca) (.agg cb)).run Tryd.prog W = .ok (.bool (decide (da = db'))) W := fun W => by rw [← HCA.out, ← HCB.out]; exact run_eql_bytes W 32 43 Tryd.underlying43 da db' DA.out.1 DB.out.1
  have hai : (a : Int) < 4294967296 := by omega
  have hbi : (b : Int) < 4294967296 := by omega
  clear hx
  go_enter Tryd.func21, Tryd.ntmps21
  go_wp2_with (refine wpList_load_row rfl 23 _ rfl w.heap.size rfl 23 cl (0, 0) _ (by rw [HW1.out]; exact HC1.out) Tryd.underlying23 rfl HIx.out ?_; rw [HW1.out])
  refine C1.out.mono ?_
  rintro e W2 ⟨rfl, hB2⟩
  have HB2 : Hid (Below w.heap.size w W2) := HB1.out.trans (hB2.mono HB1.out.size)
  have HC2 : Hid (W2.heap[w.heap.size]? = some (.cells cl 23 (0, 0))) := (hB2.block _ hs1).trans HC1.out
  have hs2 : w.heap.size < W2.heap.size := (Array.getElem?_eq_some_iff.1 HC2.out).1
  clear hB2 C1 HC1
  have HR2 : Hid ((W2.alloc (.cells zd 43)).heap[W2.heap.size]? = some (.cells zd 43 (0, 0))) := heap_alloc_new W2 _
  obtain ⟨W3, HW3⟩ : ∃ W3, Hid ((W2.alloc (.cells zd 43)).setRow W2.heap.size ca = W3) := ⟨_, rfl⟩
  have HA3 : Hid (W3.heap[W2.heap.size]? = some (.cells ca 43 (0, 0))) := by rw [← HW3.out]; exact setRow_heap _ _ _ _ _ _ HR2.out
  have HB3 : Hid (Below W2.heap.size W2 W3) := by rw [← HW3.out]; exact below_setRow ((Below.refl _ W2).alloc (Nat.le_refl _) _) (Nat.le_refl _) _
  have HC3 : Hid (W3.heap[w.heap.size]? = some (.cells cl 23 (0, 0))) := (HB3.out.block _ hs2).trans HC2.out
  have hs3 : W2.heap.size < W3.heap.size := (Array.getElem?_eq_some_iff.1 HA3.out).1
  have C2 := hid (rring_any W3 x b HX.out hb)
  rw [HCL.out, HDB.out, HCB.out] at C2
  go_wp2_with (first
    | (refine wpList_alloc_digest rfl rfl ?_; rw [HZD.out])
    | (refine wpList_store_row rfl 43 _ _ rfl W2.heap.size ca rfl rfl 43 _ HR2.out SA.out hza.out O1.out ?_; rw [HW3.out])
    | (refine wpList_load_row rfl 23 _ rfl w.heap.size rfl 23 cl (0, 0) _ HC3.out Tryd.underlying23 rfl HIx.out ?_))
  refine C2.out.mono ?_
  rintro e W4 ⟨rfl, hB4⟩
  have HB4 : Hid (Below w.heap.size w W4) := (HB2.out.trans (HB3.out.mono HB2.out.size)).trans (hB4.mono (by omega))
  have HA4 : Hid (W4.heap[W2.heap.size]? = some (.cells ca 43 (0, 0))) := (hB4.block _ hs3).trans HA3.out
  have hs4 := hB4.size
  clear hB4 C2 HC3
  have HR4 : Hid ((W4.alloc (.cells zd 43)).heap[W4.heap.size]? = some (.cells zd 43 (0, 0))) := heap_alloc_new W4 _
  obtain ⟨W5, HW5⟩ : ∃ W5, Hid ((W4.alloc (.cells zd 43)).setRow W4.heap.size cb = W5) := ⟨_, rfl⟩
  have HD5 : Hid (W5.heap[W4.heap.size]? = some (.cells cb 43 (0, 0))) := by rw [← HW5.out]; exact setRow_heap _ _ _ _ _ _ HR4.out
  have HB5 : Hid (Below W4.heap.size W4 W5) := by rw [← HW5.out]; exact below_setRow ((Below.refl _ W4).alloc (Nat.le_refl _) _) (Nat.le_refl _) _
  have HA5 : Hid (W5.heap[W2.heap.size]? = some (.cells ca 43 (0, 0))) := (HB5.out.block _ (by omega)).trans HA4.out
  have BL5 : Hid (Below w.heap.size w W5) := HB4.out.trans (HB5.out.mono HB4.out.size)
  have CL : Hid (∀ W : World, W.heap = W5.heap → Calls Tryd.prog 33 #[.slice (some ⟨W2.heap.size, 0, none⟩) 32 32, .slice (some ⟨W4.heap.size, 0, none⟩) 32 32] W fun e w' => e = .returned (.bool (ltL da db')) ∧ Dr W w') := hid fun W hW => rless_any W _ _ da db' (HB.dig DA.out (T := 43) (by rw [hW, HCA.out]; exact HA5.out)) (HB.dig DB.out (T := 43) (by rw [hW, HCB.out]; exact HD5.out))
  by_cases hE : da = db'
  · have HE := hid hE
    rw [decide_eq_true hE] at HEQ
    clear hE
    go_wp2_with (first
      | (refine wpList_alloc_digest rfl rfl ?_; rw [HZD.out])
      | (refine wpList_store_row rfl 43 _ _ rfl W4.heap.size cb rfl rfl 43 _ HR4.out SB.out hzb.out O2.out ?_; rw [HW5.out])
      | (refine wpList_load_row rfl 43 _ rfl W2.heap.size rfl 43 ca (0, 0) _ HA5.out Tryd.underlying43 rfl SA.out ?_)
      | (refine wpList_load_row rfl 43 _ rfl W4.heap.size rfl 43 cb (0, 0) _ HD5.out Tryd.underlying43 rfl SB.out ?_))
    go_ret
    exact ⟨by rw [HM2.out, if_pos HE.out]; rfl, BL5.out⟩
  · have HE := hid hE
    rw [decide_eq_false hE] at HEQ
    clear hE
    go_wp2_with (first
      | (refine wpList_alloc_digest rfl rfl ?_; rw [HZD.out])
      | (refine wpList_store_row rfl 43 _ _ rfl W4.heap.size cb rfl rfl 43 _ HR4.out SB.out hzb.out O2.out ?_; rw [HW5.out])
      | (refine wpList_load_row rfl 43 _ rfl W2.heap.size rfl 43 ca (0, 0) _ HA5.out Tryd.underlying43 rfl SA.out ?_)
      | (refine wpList_load_row rfl 43 _ rfl W4.heap.size rfl 43 cb (0, 0) _ HD5.out Tryd.underlying43 rfl SB.out ?_))
    refine wp_region_held_drew (S := fun W' => W'.heap = W5.heap) (by kernel_rfl) (by exact rfl) (fun hHeld => ?_)
    have HS := hid hHeld
    clear hHeld
    change wpAnyH _ _ _ _ _ _ _ _ (World.drew _)
    refine wpAnyH_take (i := 0) (v := ?_) rfl (by kernel_rfl) (by kernel_rfl) (by kernel_rfl) (fun _ _ _ h => h) (Or.inl ⟨by rfl, ?q0⟩) HS.out ?_
    case q0 => intro w hSw; go_simp; rfl
    simp only [Act.put, List.getElem_toArray, List.getElem_cons_zero, List.getElem_cons_succ, List.setIfInBounds_toArray, List.set_cons_zero, List.set_cons_succ]
    refine wpAnyH_take (i := 1) (v := ?_) rfl (by kernel_rfl) (by kernel_rfl) (by kernel_rfl) (fun _ _ _ h => h) (Or.inl ⟨by rfl, ?q1⟩) HS.out ?_
    case q1 => intro w hSw; go_simp; rfl
    simp only [Act.put, List.getElem_toArray, List.getElem_cons_zero, List.getElem_cons_succ, List.setIfInBounds_toArray, List.set_cons_zero, List.set_cons_succ]
    refine wpAnyH_ready (rs := [2]) (by kernel_rfl) (by simp) ?_
    refine AllReadyH.cons rfl (fun K hK => ?_) AllReadyH.nil
    replace hK := hid hK
    go_simp
    refine (CL.out _ HS.out).mono ?_
    rintro e w' ⟨rfl, hd⟩
    have HD := hid hd
    have HS2 : Hid (w'.heap = W5.heap) := hid (hd.heap.trans HS.out)
    clear hd
    refine hK.out _ _ HS2.out (fun _ => ?_)
    clear hK K
    replace HS := HS2
    refine wpAnyH_take (i := 3) (v := ?_) rfl (by kernel_rfl) (by kernel_rfl) (by kernel_rfl) (fun _ _ _ h => h) (Or.inl ⟨by rfl, ?q3⟩) HS.out ?_
    case q3 => intro w hSw; go_simp; rfl
    simp only [Act.put, List.getElem_toArray, List.getElem_cons_zero, List.getElem_cons_succ, List.setIfInBounds_toArray, List.set_cons_zero, List.set_cons_succ]
    refine wpAnyH_done (by kernel_rfl) ?_ _
    go_wp2
    go_ret
    exact ⟨by rw [HM2.out, if_neg HE.out]; rfl, BL5.out.drew.trans (HD.out.below _)⟩
def roL (l : List Nat) (k : Nat) : List Nat := l.map fun s => if s < k then s else 0
theorem roL_length (l : List Nat) (k : Nat) : (roL l k).length = l.length := by simp [roL]
theorem roL_zero (l : List Nat) (n : Nat) (h : l.length = n) : roL l 0 = List.replicate n 0 := by
  subst h
  unfold roL
  apply List.ext_getElem (by simp)
  intro i h1 h2
  simp
theorem roL_all {d : Nat → List Int} {n : Nat} {l : List Nat} (h : IsO d n l) : roL l n = l := by
  unfold roL
  conv => rhs; rw [← List.map_id l]
  refine List.map_congr_left fun a ha => ?_
  rw [if_pos ((h.mem a).1 ha)]
  rfl
theorem roL_step {d : Nat → List Int} {n : Nat} {l : List Nat} (h : IsO d n l) {i k : Nat} (hi : l[i]? = some k) : (roL l k).set i k = roL l (k + 1) := by
  have hil := (List.getElem?_eq_some_iff.1 hi).1
  have e : l[i] = k := (List.getElem?_eq_some_iff.1 hi).2
  apply List.ext_getElem (by simp [roL])
  intro j h1 h2
  have hjl : j < l.length := by simpa [roL] using h2
  rw [List.getElem_set]
  by_cases q : i = j
  · subst q
    rw [if_pos rfl]
    simp [roL, e]
  · rw [if_neg q]
    have hne : l[j] ≠ k := by
      intro hh
      rcases Nat.lt_or_ge i j with p | p
      · exact (List.pairwise_iff_getElem.1 h.nodup) i j hil hjl p (by rw [e, hh])
      · exact (List.pairwise_iff_getElem.1 h.nodup) j i hjl hil (by omega) (by rw [e, hh])
    simp only [roL, List.getElem_map]
    by_cases p : l[j] < k
    · rw [if_pos p, if_pos (by omega)]
    · rw [if_neg p, if_neg (by omega)]
theorem IsO.place {d : Nat → List Int} {n : Nat} {l : List Nat} (h : IsO d n l) {k : Nat} (hk : k < n) : ∃ i, i < n ∧ l[i]? = some k := by
  obtain ⟨i, hi, e⟩ := List.getElem_of_mem ((h.mem k).2 hk)
  exact ⟨i, by rw [← h.len]; exact hi, by rw [List.getElem?_eq_getElem hi, e]⟩
def cntA (d : Nat → List Int) (s t : Nat) : Nat := (List.range t).countP (fun u => decide (ltR d u s))
theorem cntA_step (d : Nat → List Int) (s t : Nat) : cntA d s (t + 1) = cntA d s t + if ltR d t s then 1 else 0 := by
  unfold cntA
  rw [List.range_succ, List.countP_append]
  by_cases h : ltR d t s <;> simp [h]
theorem cntA_le (d : Nat → List Int) (s t : Nat) : cntA d s t ≤ t := by
  have := List.countP_le_length (p := fun u => decide (ltR d u s)) (l := List.range t)
  rwa [List.length_range] at this
set_option maxRecDepth 100000 in
set_option maxHeartbeats 2000000 in
theorem rorder_bad (w : World) (x : List Int) (n : Int) (hx : X16 x) (hn : n < 1 ∨ 32 < n) :
    Calls Tryd.prog 9 #[.agg (cellsB x), .int .i64 n] w fun e w' => e = .returned (.tuple #[.slice none 0 0, .int .i64 2]) ∧ Below w.heap.size w w' := by
  obtain ⟨cl, HCL⟩ : ∃ c, Hid (cellsB x = c) := ⟨_, rfl⟩
  rw [HCL.out]
  have HB0 : Hid (Below w.heap.size w (w.alloc (.cells cl 23))) := (Below.refl _ w).alloc (Nat.le_refl _) _
  go_enter Tryd.func9, Tryd.ntmps9
  by_cases h1 : n < 1
  · go_wp2
    go_ret2
    exact ⟨rfl, HB0.out⟩
  · have h2 : 32 < n := by omega
    go_wp2
    go_ret2
    exact ⟨rfl, HB0.out⟩
set_option maxRecDepth 100000 in
set_option maxHeartbeats 4000000 in
theorem rorder_ok (w : World) (x : List Int) (n : Nat) (l : List Nat) (hx : X16 x) (h1 : 1 ≤ n) (h2 : n ≤ 32) (hO : IsO (rgL x) n l) :
    Calls Tryd.prog 9 #[.agg (cellsB x), .int .i64 (n : Int)] w fun e w' => ∃ g, e = .returned (.tuple #[.slice (some ⟨g, 0, none⟩) n n, .int .i64 0]) ∧ w.heap.size ≤ g ∧ OI w' g l ∧ Below w.heap.size w w' := by
  have HIx := hid (size_ix hx)
  obtain ⟨cl, HCL⟩ : ∃ c, Hid (cellsB x = c) := ⟨_, rfl⟩
  rw [HCL.out] at HIx
  rw [HCL.out]
  have HX := hid hx
  have HO := hid hO
  have HL := hid hO.len
  obtain ⟨W1, HW1⟩ : ∃ W1, Hid (w.alloc (.cells cl 23) = W1) := ⟨_, rfl⟩
  have HB1 : Hid (Below w.heap.size w W1) := by rw [← HW1.out]; exact (Below.refl _ w).alloc (Nat.le_refl _) _
  have HS1 : Hid (W1.heap.size = w.heap.size + 1) := by rw [← HW1.out]; refine hid ?_; simp
  have HC1 : Hid (W1.heap[w.heap.size]? = some (.cells cl 23 (0, 0))) := by rw [← HW1.out]; exact heap_alloc_new w _
  have hmk := run_make_int W1 n (by omega)
  obtain ⟨W2, HW2⟩ : ∃ W2, Hid (W1.alloc (.cells (nv (List.replicate n 0)) 3) = W2) := ⟨_, rfl⟩
  have BL2 : Hid (Below (w.heap.size + 1) W1 W2) := by rw [← HS1.out, ← HW2.out]; exact (Below.refl _ W1).alloc (Nat.le_refl _) _
  have HO2 : Hid (OI W2 (w.heap.size + 1) (roL l 0)) := by rw [← HW2.out, ← HS1.out, roL_zero l n HL.out]; exact heap_alloc_new W1 _
  rw [HW2.out, HS1.out] at hmk
  have h1' : ¬ ((n : Int) < 1) := by omega
  have h2' : ¬ (32 < (n : Int)) := by omega
  clear hx hO
  go_enter Tryd.func9, Tryd.ntmps9
  go_wp2
  rw [HW1.out]
  go_wp2
  rw [hmk]
  simp only [Result.andThen]
  rw [Oper.upon_value]
  go_wp2
  clear hmk
  go_loopw [7] (fun i wr => ∃ s : Nat, s ≤ n ∧ i = .int .i64 s ∧ Hid (OI wr (w.heap.size + 1) (roL l s)) ∧ Hid (Below (w.heap.size + 1) W1 wr)) (fun i _ => n - (intOf i).toNat)
  case atStart => exact ⟨0, Nat.zero_le _, rfl, HO2, BL2⟩
  case round =>
    obtain ⟨s, hs, rfl, HOs, HBs⟩ := hrel
    by_cases hlt : s < n
    · obtain ⟨i, hin, hi⟩ := HO.out.place hlt
      have HPI := hid hi
      have HRK : Hid (cntA (rgL x) s n = i) := HO.out.rank hi
      clear hi
      go_wp2
      go_loopw [8, 9] (fun r j wi => ∃ t : Nat, t ≤ n ∧ j = .int .i64 t ∧ r = .int .i64 (cntA (rgL x) s t : Nat) ∧ Hid (OI wi (w.heap.size + 1) (roL l s)) ∧ Hid (Below (w.heap.size + 1) W1 wi)) (fun _ j _ => n - (intOf j).toNat)
      case atStart => exact ⟨0, Nat.zero_le _, rfl, rfl, HOs, HBs⟩
      case round =>
        clear HOs HBs
        obtain ⟨t, ht, rfl, rfl, HOs, HBs⟩ := hrel
        have hsz := HBs.out.size
        have HCi : Hid (wr.heap[w.heap.size]? = some (.cells cl 23 (0, 0))) := (HBs.out.block _ (by omega)).trans HC1.out
        have hcs := cntA_step (rgL x) s t
        have hcl := cntA_le (rgL x) s t
        by_cases htn : t < n
        · by_cases hts : t = s
          · have HC0 : Hid (cntA (rgL x) s (t + 1) = cntA (rgL x) s t) := by
              refine hid ?_
              rw [hcs, hts, if_neg (ltR_irrefl _ _)]
              rfl
            clear hcs
            obtain ⟨c, HC⟩ : ∃ c, Hid (cntA (rgL x) s t = c) := ⟨_, rfl⟩
            rw [HC.out] at hcl HC0 ⊢
            subst hts
            go_wp2
            exact ⟨⟨t + 1, by omega, by go_num, by rw [HC0.out], HOs, HBs⟩, by simp [intOf]; omega⟩
          · have hbn : ((t : Int) != (s : Int)) = true := by simp only [bne_iff_ne, ne_eq]; omega
            have CA := hid (ahead_any wr x t s HX.out (by omega) (by omega))
            rw [HCL.out] at CA
            obtain ⟨c, HC⟩ : ∃ c, Hid (cntA (rgL x) s t = c) := ⟨_, rfl⟩
            have HC0 := hid hcs
            rw [HC.out] at hcl HC0 ⊢
            clear hcs
            by_cases hR : ltR (rgL x) t s
            · rw [decide_eq_true hR] at CA
              rw [if_pos hR] at HC0
              clear hR
              go_wp2_with (first | (refine wpList_load_row_on (by rfl) 23 _ rfl w.heap.size rfl 23 cl (0, 0) _ HCi.out Tryd.underlying23 rfl HIx.out ?_))
              refine CA.out.mono ?_
              rintro e W5 ⟨rfl, hB5⟩
              have HO5 := hid (HOs.out.below hB5)
              have BL5 : Hid (Below (w.heap.size + 1) W1 W5) := HBs.out.trans (hB5.mono (by rw [← HS1.out]; exact hsz))
              clear hB5 CA
              go_wp2
              exact ⟨⟨t + 1, by omega, by go_num, by rw [HC0.out]; go_num, HO5, BL5⟩, by simp [intOf]; omega⟩
            · rw [decide_eq_false hR] at CA
              rw [if_neg hR] at HC0
              clear hR
              go_wp2_with (first | (refine wpList_load_row_on (by rfl) 23 _ rfl w.heap.size rfl 23 cl (0, 0) _ HCi.out Tryd.underlying23 rfl HIx.out ?_))
              refine CA.out.mono ?_
              rintro e W5 ⟨rfl, hB5⟩
              have HO5 := hid (HOs.out.below hB5)
              have BL5 : Hid (Below (w.heap.size + 1) W1 W5) := HBs.out.trans (hB5.mono (by rw [← HS1.out]; exact hsz))
              clear hB5 CA
              go_wp2
              exact ⟨⟨t + 1, by omega, by go_num, by rw [HC0.out]; rfl, HO5, BL5⟩, by simp [intOf]; omega⟩
        · have htn2 : t = n := by omega
          clear hcs hcl
          rw [htn2, HRK.out]
          have hcell := HOs.out.cell (i := i) (by rw [roL_length, HL.out]; exact hin)
          have hfree := HOs.out.free i
          have HO6 := hid (HOs.out.set i s)
          rw [roL_step HO.out HPI.out] at HO6
          have BL6 : Hid (Below (w.heap.size + 1) W1 (wr.setCell ⟨w.heap.size + 1, i, none⟩ (.int .i64 (s : Int)))) := hid (HBs.out.setCell (p := ⟨w.heap.size + 1, i, none⟩) (Nat.le_refl _) _)
          clear htn2 htn
          go_wp2
          exact ⟨⟨s + 1, by omega, by go_num, HO6, BL6⟩, by simp [intOf]; omega⟩
    · have hsn : s = n := by omega
      have HO7 := HOs.out
      rw [hsn, roL_all HO.out] at HO7
      have HO8 := hid HO7
      clear HO7 hsn
      go_wp2
      go_ret2
      exact ⟨_, rfl, by omega, HO8.out, HB1.out.trans (HBs.out.mono (by omega))⟩
end Go.Proofs.YtjdfclbjmmmcfaaDoor
namespace Go.Proofs.YtjdfclbjmmmcfaaDoor
open Go Go.RowKit Go.Shelf
theorem rg_held_n {P : Program} {ops : Array Oper} {Q : Exit → Act → World → Prop} {S : World → Prop} {id : Nat} {a : Act} {w : World} (hm : P.follows .mixedOrders = true) (hS : S w.drew)
    (h : S w.drew → wpAnyH P .any ops (fun e a' w' => e = .normal ∧ Q e a' w') S ops.size (Array.replicate ops.size false) a w.drew) : (Code.region id ops true).wp P Q a w :=
  Code.wp_mono (fun _ _ _ q => q.2) (wp_region_held_drew hm hS h)
def sn (l : List Nat) (k : Nat) : Array Value := ((List.range 40).map fun v => Value.bool (decide (v ∈ l.take k))).toArray
theorem sn_size (l : List Nat) (k : Nat) : (sn l k).size = 40 := by simp [sn]
theorem sn_at (l : List Nat) (k v : Nat) (hv : v < 40) : (sn l k)[v]? = some (.bool (decide (v ∈ l.take k))) := by simp [sn, hv]
theorem sn_step (l : List Nat) (k : Nat) (hk : k < l.length) (h40 : l.getD k 0 < 40) : (sn l k).setIfInBounds (l.getD k 0) (.bool true) = sn l (k + 1) := by
  have e : l[k] = l.getD k 0 := by simp [List.getD, List.getElem?_eq_getElem hk]
  apply Array.ext_getElem?
  intro v
  by_cases hv : v < 40
  · rw [sn_at _ _ _ hv, List.take_succ_eq_append_getElem hk, e]
    by_cases q : l.getD k 0 = v
    · rw [← q, decide_eq_true (List.mem_append_right _ (List.mem_singleton.2 rfl))]
      rw [Array.getElem?_setIfInBounds_self_of_lt (by rw [sn_size]; exact h40)]
    · rw [Array.getElem?_setIfInBounds_ne q, sn_at _ _ _ hv]
      congr 2
      rw [decide_eq_decide]
      constructor
      · intro h; exact List.mem_append_left _ h
      · intro h
        rcases List.mem_append.1 h with h | h
        · exact h
        · rw [List.mem_singleton] at h
          exact absurd h.symm q
  · rw [Array.getElem?_eq_none (by simp [sn_size]; omega), Array.getElem?_eq_none (by rw [sn_size]; omega)]
theorem sn_zero (l : List Nat) : sn l 0 = (List.replicate 40 (Value.bool false)).toArray := by
  unfold sn
  congr 1
theorem sn_new {l : List Nat} (hd : l.Nodup) {k : Nat} (hk : k < l.length) : decide (l.getD k 0 ∈ l.take k) = false := by
  rw [decide_eq_false_iff_not]
  intro h
  obtain ⟨j, hj, e⟩ := List.getElem_of_mem h
  have hjk : j < k := by simp at hj; omega
  rw [List.getElem_take] at e
  have e2 : l[k] = l.getD k 0 := by simp [List.getD, List.getElem?_eq_getElem hk]
  exact (List.pairwise_iff_getElem.1 hd) j k (by omega) hk hjk (by rw [e, e2])
structure Wq (w : World) (cx : Array Value) (n g bL bS : Nat) (l : List Nat) (k : Nat) (W : World) : Prop where
  hx : W.heap[w.heap.size]? = some (.cells cx 23 (0, 0))
  hn : W.heap[w.heap.size + 1]? = some (.cells #[.int .i64 (n : Int)] 3 (0, 0))
  hr : W.heap[w.heap.size + 2]? = some (.cells #[.bool false] 4 (0, 0))
  hl : W.heap[bL]? = some (.cells #[.slice (some ⟨g, 0, none⟩) n n] 24 (0, 0))
  hs : W.heap[bS]? = some (.cells (sn l k) 4 (0, 0))
  hg : OI W g l
  bel : Below w.heap.size w W
theorem hp_lt {W : World} {b : Nat} {o : Obj} (h : W.heap[b]? = some o) : b < W.heap.size := (Array.getElem?_eq_some_iff.1 h).1
theorem Wq.below {w W W' : World} {cx : Array Value} {n g bL bS : Nat} {l : List Nat} {k : Nat} (h : Wq w cx n g bL bS l k W) (hB : Below W.heap.size W W') : Wq w cx n g bL bS l k W' :=
  ⟨(hB.block _ (hp_lt h.hx)).trans h.hx, (hB.block _ (hp_lt h.hn)).trans h.hn, (hB.block _ (hp_lt h.hr)).trans h.hr, (hB.block _ (hp_lt h.hl)).trans h.hl, (hB.block _ (hp_lt h.hs)).trans h.hs, h.hg.below hB, h.bel.trans (hB.mono h.bel.size)⟩
theorem Wq.cn {w W : World} {cx : Array Value} {n g bL bS : Nat} {l : List Nat} {k : Nat} (h : Wq w cx n g bL bS l k W) : W.cell? ⟨w.heap.size + 1, 0, none⟩ = some (.int .i64 (n : Int)) := (cell_of_row _ _ _ _ _ _ h.hn).trans rfl
theorem Wq.cl {w W : World} {cx : Array Value} {n g bL bS : Nat} {l : List Nat} {k : Nat} (h : Wq w cx n g bL bS l k W) : W.cell? ⟨bL, 0, none⟩ = some (.slice (some ⟨g, 0, none⟩) n n) := (cell_of_row _ _ _ _ _ _ h.hl).trans rfl
theorem Wq.cs {w W : World} {cx : Array Value} {n g bL bS : Nat} {l : List Nat} {k : Nat} (h : Wq w cx n g bL bS l k W) (v : Nat) (hv : v < 40) : W.cell? ⟨bS, v, none⟩ = some (.bool (decide (v ∈ l.take k))) := (cell_of_row _ _ _ _ _ _ h.hs).trans (sn_at l k v hv)
theorem rising_ok {x : List Int} {n : Nat} {l : List Nat} (h : IsO (rgL x) n l) {k : Nat} (h0 : 0 < k) (hk : k < n) : ltL (rgL x (l.getD k 0)) (rgL x (l.getD (k - 1) 0)) = false ∧ ¬ (rgL x (l.getD (k - 1) 0) = rgL x (l.getD k 0) ∧ l.getD k 0 < l.getD (k - 1) 0) := by
  have hl := h.len
  have e1 : l[k]'(by omega) = l.getD k 0 := by simp [List.getD, List.getElem?_eq_getElem (show k < l.length by omega)]
  have e2 : l[k - 1]'(by omega) = l.getD (k - 1) 0 := by simp [List.getD, List.getElem?_eq_getElem (show k - 1 < l.length by omega)]
  have := (List.pairwise_iff_getElem.1 h.2) (k - 1) k (by omega) (by omega) (by omega)
  rw [e1, e2] at this
  generalize l.getD k 0 = b at *
  generalize l.getD (k - 1) 0 = a at *
  rw [ltR_iff] at this
  rw [ltL_cmpB, decide_eq_false_iff_not]
  rcases this with ⟨q, p⟩ | ⟨q, p⟩
  · rw [q, cmpB_self]
    exact ⟨by decide, fun h => by omega⟩
  · refine ⟨fun h => ?_, fun h => q h.1⟩
    rw [cmpB_neg] at h
    omega
set_option maxRecDepth 100000 in
set_option maxHeartbeats 1000000 in
theorem lpick_any (w : World) (x : Int) (n : Nat) (h1 : 1 ≤ n) (h2 : n ≤ 32) (hx : -9223372036854775808 ≤ x ∧ x < 9223372036854775808) : Calls Tryd.prog 19 #[.int .i64 x, .int .i64 (n : Int)] w fun e w' => e = .returned (.int .i64 (x % (n : Int))) ∧ w' = w := by
  have hn0 : ¬ (n = 0) := by omega
  have hn1 : ¬ ((n : Int) < 1) := by omega
  have b1 := Int.emod_nonneg x (show (n : Int) ≠ 0 by omega)
  have b2 := Int.emod_lt_of_pos x (show (0 : Int) < n by omega)
  have h3 : Int.tmod x n = if 0 ≤ x ∨ (n : Int) ∣ x then x % n else x % n - n := by
    rw [Int.tmod_eq_emod]
    split <;> simp
  obtain ⟨t, HT⟩ : ∃ t, Hid (Int.tmod x n = t) := ⟨_, rfl⟩
  rw [HT.out] at h3
  have HT2 := HT.out
  by_cases hc : 0 ≤ x ∨ (n : Int) ∣ x
  · rw [if_pos hc] at h3
    have ht : ¬ (t < 0) := by omega
    have HE := hid h3
    clear h3 hc b1 b2
    go_enter Tryd.func19, Tryd.ntmps19
    go_wp2
    go_ret
    exact ⟨by rw [← HE.out]; rfl, rfl⟩
  · rw [if_neg hc] at h3
    have ht : t < 0 := by omega
    have HE : Hid (t + (n : Int) = x % (n : Int)) := hid (by omega)
    have HB : -9223372036854775808 ≤ t + (n : Int) ∧ t + (n : Int) ≤ 9223372036854775807 := by omega
    clear h3 hc b1 b2
    go_enter Tryd.func19, Tryd.ntmps19
    go_wp2
    go_ret
    exact ⟨by rw [← HE.out]; rfl, rfl⟩
theorem cells_from {A C : World} {row : Option Nat} {b n : Nat} {cs : Array Value} {t : TypeId} {fz : Nat × Nat} (h : A.heap[b]? = some (.cells cs t fz)) (hg : A.grownBy C row) (hr : ∀ r, row = some r → n ≤ r ∧ ∃ o : Obj, A.heap[r]? = some o ∧ o.isCells = false) : C.heap[b]? = some (.cells cs t fz) := by
  refine (hg.block b (hp_lt h) fun e => ?_).trans h
  obtain ⟨_, o, ho, hc⟩ := hr b e.symm
  rw [h] at ho
  cases ho
  cases hc
structure Wr (w : World) (n g bL bN bK : Nat) (l : List Nat) (q k : Nat) (W : World) : Prop where
  hn : W.heap[w.heap.size + 1]? = some (.cells #[.int .i64 (n : Int)] 3 (0, 0))
  hr : W.heap[w.heap.size + 2]? = some (.cells #[.bool false] 4 (0, 0))
  hl : W.heap[bL]? = some (.cells #[.slice (some ⟨g, 0, none⟩) n n] 24 (0, 0))
  hg : OI W g l
  hN : W.heap[bN]? = some (.cells #[.int .i64 (q : Int)] 3 (0, 0))
  hK : W.heap[bK]? = some (.cells #[.int .i64 (k : Int)] 3 (0, 0))
  bel : Below w.heap.size w W
theorem Wr.from {w A C : World} {n g bL bN bK : Nat} {l : List Nat} {q k B : Nat} {row : Option Nat} (h : Wr w n g bL bN bK l q k A) (hB : w.heap.size ≤ B) (hg : A.grownBy C row) (hr : ∀ r, row = some r → B ≤ r ∧ ∃ o : Obj, A.heap[r]? = some o ∧ o.isCells = false) : Wr w n g bL bN bK l q k C :=
  ⟨cells_from h.hn hg hr, cells_from h.hr hg hr, cells_from h.hl hg hr, cells_from h.hg hg hr, cells_from h.hN hg hr, cells_from h.hK hg hr, below_from h.bel (Nat.le_refl _) hg hr hB⟩
theorem Wr.next {w W : World} {n g bL bN bK : Nat} {l : List Nat} {q k q2 k2 : Nat} (h : Wr w n g bL bN bK l q k W) (d1 : bN ≠ w.heap.size + 1) (d2 : bN ≠ w.heap.size + 2) (d3 : bN ≠ bL) (d4 : bN ≠ g) (d5 : bK ≠ w.heap.size + 1) (d6 : bK ≠ w.heap.size + 2) (d7 : bK ≠ bL) (d8 : bK ≠ g) (d9 : bN ≠ bK) (hN : w.heap.size ≤ bN) (hK : w.heap.size ≤ bK) :
    Wr w n g bL bN bK l q2 k2 ((W.setCell ⟨bN, 0, none⟩ (.int .i64 (q2 : Int))).setCell ⟨bK, 0, none⟩ (.int .i64 (k2 : Int))) := by
  have kp : ∀ b o, W.heap[b]? = some o → b ≠ bN → b ≠ bK → ((W.setCell ⟨bN, 0, none⟩ (.int .i64 (q2 : Int))).setCell ⟨bK, 0, none⟩ (.int .i64 (k2 : Int))).heap[b]? = some o := fun b o hb h1 h2 => by
    rw [heap_setCell_other _ _ _ _ (fun e => h2 e), heap_setCell_other _ _ _ _ (fun e => h1 e)]
    exact hb
  refine ⟨kp _ _ h.hn (Ne.symm d1) (Ne.symm d5), kp _ _ h.hr (Ne.symm d2) (Ne.symm d6), kp _ _ h.hl (Ne.symm d3) (Ne.symm d7), kp _ _ h.hg (Ne.symm d4) (Ne.symm d8), ?_, ?_, (h.bel.setCell (p := ⟨bN, 0, none⟩) hN _).setCell (p := ⟨bK, 0, none⟩) hK _⟩
  · rw [heap_setCell_other _ _ _ _ (fun e => d9 e)]
    exact heap_setCell_same W bN 0 _ _ _ h.hN
  · have := (heap_setCell_other W ⟨bN, 0, none⟩ bK (.int .i64 (q2 : Int)) (fun e => d9 e.symm)).trans h.hK
    exact heap_setCell_same _ bK 0 _ _ _ this
end Go.Proofs.YtjdfclbjmmmcfaaDoor
