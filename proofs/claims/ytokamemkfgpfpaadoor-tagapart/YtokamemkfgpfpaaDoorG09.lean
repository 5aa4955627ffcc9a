/- Of the road to tagApartCard_holds: ShaMixesLaw, RefShaSum, AppB, FrameMath, Owns, TgRef, EvLit, TgEv, TgPad, TgRef2. -/
import Derived.Test.YtokamemkfgpfpaaDoorG08
import Derived.Test.YtokamemkfgpfpaaDoorG03
import Derived.Test.YtokamemkfgpfpaaDoorG00
import Derived.Laws.AppendOwn
import Derived.Test.YtokamemkfgpfpaaDoorG04
import Derived.Laws.AppendOwnNone
import Derived.Laws.IdiomStrings
import Derived.Test.YtokamemkfgpfpaaDoorChecked
set_option linter.unusedVariables false
set_option linter.unusedSimpArgs false
namespace Go.Proofs.YtokamemkfgpfpaaDoor
open Go.RowKit
theorem zero_b64 : (Tryd.prog.info? 76).map (·.zero) = some (some (.agg (cellsB (List.replicate 64 0)))) := by kernel_rfl
theorem cellsB_set2 (l : List Int) (i : Nat) (x : Int) : (cellsB l).setIfInBounds i (.int .u8 x) = cellsB (l.set i x) := by
  unfold cellsB
  rw [List.map_set]
  simp
theorem dig_get {W : List Nat} (hW : W8 W) (a r : Nat) (ha : a < 8) (hr : r < 4) : (W.flatMap (bigL 4)).getD (4 * a + r) 0 = ((W.getD a 0 / 256 ^ (3 - r) % 256 : Nat) : Int) := by
  obtain ⟨x0, x1, x2, x3, x4, x5, x6, x7, rfl, _⟩ := hW.open
  have h1 : a = 0 ∨ a = 1 ∨ a = 2 ∨ a = 3 ∨ a = 4 ∨ a = 5 ∨ a = 6 ∨ a = 7 := by omega
  have h2 : r = 0 ∨ r = 1 ∨ r = 2 ∨ r = 3 := by omega
  rcases h1 with rfl | rfl | rfl | rfl | rfl | rfl | rfl | rfl <;> rcases h2 with rfl | rfl | rfl | rfl <;> rfl
def curB (t : List Int) (i : Nat) : List Int := t.take i ++ (List.replicate 64 (0 : Int)).drop i
theorem curB_length (t : List Int) (i : Nat) (hi : i ≤ 64) (ht : t.length = 64) : (curB t i).length = 64 := by
  unfold curB
  rw [List.length_append, List.length_take, List.length_drop, List.length_replicate]
  omega
theorem curB_step (t : List Int) (i : Nat) (hi : i < 64) (ht : t.length = 64) : (curB t i).set i (t.getD i 0) = curB t (i + 1) := by
  unfold curB
  have hl : (t.take i).length = i := by rw [List.length_take]; omega
  have hz : i < (List.replicate 64 (0 : Int)).length := by rw [List.length_replicate]; omega
  have hi2 : i < t.length := by omega
  rw [List.set_append_right _ _ (by omega), hl, Nat.sub_self, List.drop_eq_getElem_cons hz, List.set_cons_zero, List.take_succ_eq_append_getElem hi2, getD_of_lt hi2, List.append_assoc]
  rfl
theorem blkOf_get (M : List Int) (k j : Nat) (hj : j < 64) : (blkOf M k).getD j 0 = M.getD (64 * k + j) 0 := by
  unfold blkOf
  simp only [List.getD, List.getElem?_take, List.getElem?_drop, if_pos hj]
def curE (t : List Int) (i : Nat) : List Int := t.take i ++ zeros32.drop i
theorem curE_length (t : List Int) (i : Nat) (hi : i ≤ 32) (ht : t.length = 32) : (curE t i).length = 32 := by
  unfold curE
  rw [List.length_append, List.length_take, List.length_drop, zeros32_length]
  omega
theorem curE_step (t : List Int) (i : Nat) (hi : i < 32) (ht : t.length = 32) : (curE t i).set i (t.getD i 0) = curE t (i + 1) := by
  unfold curE
  have hl : (t.take i).length = i := by rw [List.length_take]; omega
  have hz : i < zeros32.length := by rw [zeros32_length]; omega
  have hi2 : i < t.length := by omega
  rw [List.set_append_right _ _ (by omega), hl, Nat.sub_self, List.drop_eq_getElem_cons hz, List.set_cons_zero, List.take_succ_eq_append_getElem hi2, getD_of_lt hi2, List.append_assoc]
  rfl
set_option maxRecDepth 100000 in
set_option maxHeartbeats 4000000 in
theorem rsum_any (w : World) (v : Value) (m : List Int) (h : HB w v m) (hbig : m.length ≤ 140737488355000) : Calls Tryd.prog 15 #[v] w fun e w' => e = .returned (.agg (cellsB (digL m))) ∧ Below w.heap.size w w' := by
  obtain ⟨zd, HZD⟩ : ∃ zd, Hid (cellsB zeros32 = zd) := ⟨_, rfl⟩
  obtain ⟨W0, hW0⟩ : ∃ W0, Hid (w.alloc (.cells zd 34) = W0) := ⟨_, rfl⟩
  have HB0 : Hid (Below w.heap.size w W0) := by rw [← hW0.out]; exact (Below.refl _ w).alloc (Nat.le_refl _) _
  have HR0 : Hid (W0.heap[w.heap.size]? = some (.cells zd 34 (0, 0))) := by rw [← hW0.out]; exact heap_alloc_new w _
  have HS0 : Hid (W0.heap.size = w.heap.size + 1) := by rw [← hW0.out]; refine hid ?_; simp
  obtain ⟨p, c, ev, hlc, hcm⟩ := h.open
  unfold maxLen at hcm
  obtain ⟨n, HN⟩ : ∃ n, Hid (m.length = n) := ⟨_, rfl⟩
  rw [HN.out] at ev hlc hbig
  have HH := hid (h.below HB0.out)
  have hmb := hid h.2
  subst ev
  clear h
  go_enter Tryd.func15, Tryd.ntmps15
  have HV0 : Hid (World.ownsRow W0 W0.heap.size 5 1 (.slice none 0 0) 0 []) := World.ownsRow_nil _ _ _ _
  go_wp2_with (first | (refine wpList_alloc_digest rfl rfl ?_; rw [HZD.out, hW0.out]) | (at_builtin; refine wpList_append_HB rfl _ _ rfl W0.heap.size (.slice none 0 0) 0 [] rfl HV0.out (.slice p n c) m rfl HH.out (by rw [HN.out]; omega) (Nat.le_refl _) ?_))
  intro v3 w2 ho3 hg3
  have HB02 : Hid (Below W0.heap.size W0 w2) := (Below.refl _ W0).grown hg3 (Nat.le_refl _) (fun k e => by cases e)
  have HO2 := hid ho3
  clear ho3 hg3
  go_wp2_with fail
  refine (rpad_ok _ n (by omega)).mono ?_
  rintro e w3 ⟨v2, rfl, ho2, hB2⟩
  obtain ⟨P, HP⟩ : ∃ P, Hid (padL n = P) := ⟨_, rfl⟩
  obtain ⟨q, HQ⟩ : ∃ q, Hid (P.length = q) := ⟨_, rfl⟩
  have hq72 : q ≤ 72 := by rw [← HQ.out, ← HP.out, padL_length]; unfold padZ; omega
  have HBP : Hid (HB w3 v2 P) := by rw [← HP.out]; exact HB.of_own ho2 (padL_byt n)
  have HO3 := hid (own_later HO2.out hB2)
  have HB03 : Hid (Below W0.heap.size W0 w3) := HB02.out.trans (hB2.mono HB02.out.size)
  obtain ⟨p2, c2, e2, hl2, hm2⟩ := HBP.out.open
  rw [HQ.out] at e2
  subst e2
  clear ho2 hB2 HO2
  go_wp2_with (at_builtin; refine wpList_append_HB rfl _ _ rfl W0.heap.size _ _ _ rfl HO3.out _ _ rfl HBP.out ?q1 ?q2 ?_)
  case q1 => rw [HN.out, HQ.out]; omega
  case q2 => exact HB03.out.size
  intro v4 w4 ho4 hg4
  obtain ⟨M, HM0⟩ : ∃ M, Hid (m ++ P = M) := ⟨_, rfl⟩
  have HPM : Hid (padded m = M) := by rw [← HM0.out, ← HP.out, ← HN.out]; rfl
  have HML : Hid (M.length = n + q) := by show _ = _; rw [← HM0.out, List.length_append, HN.out, HQ.out]
  have hmod : (n + q) % 64 = 0 := by have := padL_whole n; rwa [HP.out, HQ.out] at this
  have HMB : Hid (∀ x ∈ M, 0 ≤ x ∧ x < 256) := by
    intro x hx
    rw [← HM0.out] at hx
    rcases List.mem_append.1 hx with h1 | h1
    · exact hmb.out x h1
    · exact HBP.out.2 x h1
  have hbm : HB w4 v4 M := by
    refine HB.of_own (B := W0.heap.size) (e := 5) ?_ HMB.out
    have h4 := ho4
    rw [← List.map_append, HM0.out] at h4
    rw [HML.out, ← HN.out, ← HQ.out]
    exact h4
  have HB04 : Hid (Below W0.heap.size W0 w4) := HB03.out.grown hg4 HB03.out.size (fun k e => (HO3.out.lt k e).1)
  have HB4 : Hid (Below w.heap.size w w4) := HB0.out.trans (HB04.out.mono (by have := HS0.out; omega))
  have HRR4 : Hid (w4.heap[w.heap.size]? = some (.cells zd 34 (0, 0))) := (HB04.out.block _ (by have := HS0.out; omega)).trans HR0.out
  have hq9 : 9 ≤ q := by rw [← HQ.out, ← HP.out, padL_length]; omega
  obtain ⟨b4, o4, c4, e4, hc4, hm4, hcell4⟩ := hbm.ne (by rw [HML.out]; omega)
  rw [HML.out] at e4 hc4 hcell4
  have hb4 : b4 < w4.heap.size := World.block_lt_of_cell? w4 _ (hcell4 0 (by omega))
  have HC4 := hid hcell4
  unfold maxLen at hm4
  subst e4
  clear ho4 hg4 hbm hcell4 HO3 HBP
  obtain ⟨ivc, HIV⟩ : ∃ ivc, Hid (cellsW iv = ivc) := ⟨_, rfl⟩
  obtain ⟨z8, HZ8⟩ : ∃ z8, Hid (cellsW (zerosW 8) = z8) := ⟨_, rfl⟩
  have hz8 := zero_w8
  rw [HZ8.out] at hz8
  have HZ1 := hid hz8
  have HIm : Hid ((Tryd.prog.info? 74).map (·.size) = some ivc.size) := by rw [← HIV.out]; exact size_w8
  have H1m : Hid (ivc.all (·.oneCell') = true) := by rw [← HIV.out]; exact cellsW_one _
  have HZM : Hid (z8.size = ivc.size) := by rw [← HZ8.out, ← HIV.out, cellsW_size, zerosW_length]; exact rfl
  have CI := hid (rinitial_any w4)
  clear hz8
  rw [HIV.out] at CI
  go_wp2_with fail
  refine CI.out.mono ?_
  rintro e w5 ⟨rfl, hB5⟩
  have HB5 := hid hB5
  clear hB5
  have HR : Hid ((w5.alloc (.cells z8 74)).heap[w5.heap.size]? = some (.cells z8 74 (0, 0))) := heap_alloc_new w5 _
  have HB6 := hid (below_setRow ((Below.refl _ w5).alloc (Nat.le_refl _) (.cells z8 74)) (g := w5.heap.size) (Nat.le_refl _) ivc)
  have HF0 : Hid (((w5.alloc (.cells z8 74)).setRow w5.heap.size ivc).heap[w5.heap.size]? = some (.cells (cellsW (wAt M 0)) 74 (0, 0))) := by rw [show cellsW (wAt M 0) = ivc from HIV.out]; exact setRow_heap _ _ _ _ _ _ HR.out
  go_wp2_with (first | (refine wpList_alloc_agg HZ1.out rfl rfl ?_) | (refine wpList_store_row rfl 74 _ _ rfl w5.heap.size ivc rfl rfl 74 _ HR.out HIm.out HZM.out H1m.out ?_))
  go_loopw [7] (fun i wr => ∃ k I : Nat, I = 64 * k ∧ I ≤ n + q ∧ i = .int .i64 I ∧ Hid (wr.heap[w5.heap.size]? = some (.cells (cellsW (wAt M k)) 74 (0, 0))) ∧ Hid (Below w5.heap.size w5 wr)) (fun i _ => n + q - (intOf i).toNat)
  case atStart => exact ⟨0, 0, rfl, Nat.zero_le _, rfl, HF0, HB6⟩
  case round =>
    obtain ⟨k, I, hIk, hI, rfl, HF, HBk⟩ := hrel
    obtain ⟨wo, rfl⟩ : ∃ wo, wo = wr := ⟨_, rfl⟩
    have HIK := hid hIk
    clear hIk
    have hbr : b4 < w5.heap.size := by have := HB5.out.size; omega
    have hsr := HBk.out.size
    have HCr : Hid (∀ j, j < n + q → wo.cell? ⟨b4, o4 + j, none⟩ = some (.int .u8 (M.getD j 0))) := fun j hj => ((HBk.out.cell hbr).trans (HB5.out.cell hb4)).trans (HC4.out j hj)
    have h8 := wAt_W8 M k
    by_cases hlt : I + 64 ≤ n + q
    · have hbl := blkOf_length (m := M) (k := k) (by rw [HML.out]; have := HIK.out; omega)
      have hbb := blkOf_byt HMB.out k
      have HBG : Hid (∀ j, j < 64 → M.getD (I + j) 0 = (blkOf M k).getD j 0) := fun j hj => by rw [blkOf_get M k j hj, HIK.out]
      have HW1 : Hid (wAt M (k + 1) = mixL (wAt M k) (blkOf M k)) := rfl
      obtain ⟨B, HBL⟩ : ∃ B, Hid (blkOf M k = B) := ⟨_, rfl⟩
      obtain ⟨W, HW⟩ : ∃ W, Hid (wAt M k = W) := ⟨_, rfl⟩
      rw [HBL.out] at hbl hbb HBG HW1
      rw [HW.out] at h8 HF HW1
      have H8 := hid h8
      have HBB := hid hbb
      obtain ⟨zb, HZB⟩ : ∃ zb, Hid (cellsB (List.replicate 64 0) = zb) := ⟨_, rfl⟩
      have hzb := zero_b64
      rw [HZB.out] at hzb
      have HZ2 := hid hzb
      obtain ⟨W7, hW7⟩ : ∃ W7, Hid (wo.alloc (.cells zb 76) = W7) := ⟨_, rfl⟩
      have HB7 : Hid (Below wo.heap.size wo W7) := by rw [← hW7.out]; exact (Below.refl _ wo).alloc (Nat.le_refl _) _
      have hs7 : W7.heap.size = wo.heap.size + 1 := by rw [← hW7.out]; simp
      have HR7 : Hid (W7.heap[wo.heap.size]? = some (.cells (cellsB (curB B 0)) 76 (0, 0))) := by
        rw [← hW7.out, show cellsB (curB B 0) = zb from HZB.out]
        exact heap_alloc_new wo _
      clear h8 hbb hzb
      go_wp2_with (refine wpList_alloc_agg HZ2.out rfl rfl ?_; rw [hW7.out])
      clear hW7
      go_loopw [9] (fun i wq => ∃ J : Nat, J ≤ 64 ∧ i = .int .i64 J ∧ Hid (wq.heap[wo.heap.size]? = some (.cells (cellsB (curB B J)) 76 (0, 0))) ∧ Hid (W7.grownBy wq (some wo.heap.size))) (fun i _ => 64 - (intOf i).toNat)
      case atStart => exact ⟨0, Nat.zero_le _, rfl, HR7, ⟨rfl, rfl, rfl, Nat.le_refl _, fun _ _ _ => rfl⟩⟩
      case round =>
        obtain ⟨J, hJ, rfl, HFB, HG⟩ := hrel
        have hbw : b4 < wo.heap.size := by omega
        have HB8 : Hid (Below wo.heap.size wo wr) := HB7.out.grown HG.out (by omega) (fun k e => by cases e; exact Nat.le_refl _)
        by_cases hlj : J < 64
        · have hcx : wr.cell? ⟨b4, o4 + (I + J), none⟩ = some (.int .u8 (B.getD J 0)) := by
            rw [← HBG.out J hlj]
            exact (HB8.out.cell hbw).trans (HCr.out (I + J) (by omega))
          have hcb : wr.cell? ⟨wo.heap.size, J, none⟩ = some (.int .u8 ((curB B J).getD J 0)) := by
            rw [cell_of_row wr wo.heap.size J _ _ _ HFB.out]
            have hj2 : J < (curB B J).length := by rw [curB_length B J (by omega) hbl]; omega
            simp [cellsB, List.getD, List.getElem?_eq_getElem hj2]
          obtain ⟨old, HOLD⟩ : ∃ old, Hid ((curB B J).getD J 0 = old) := ⟨_, rfl⟩
          rw [HOLD.out] at hcb
          obtain ⟨x, HX⟩ : ∃ x, Hid (B.getD J 0 = x) := ⟨_, rfl⟩
          rw [HX.out] at hcx
          have hfz : wr.frozen? ⟨wo.heap.size, J, none⟩ = false := by simp [World.frozen?, HFB.out]
          go_wp2
          refine ⟨⟨J + 1, by omega, by go_num, ?_, grown_tr HG.out (grown_sets _ _ _ _)⟩, by simp [intOf]; omega⟩
          show _ = _
          rw [← curB_step B J hlj hbl, HX.out, ← cellsB_set2]
          exact heap_setCell_same wr wo.heap.size J _ _ _ HFB.out
        · have hJ64 : J = 64 := by omega
          subst hJ64
          have HCB : Hid (curB B 64 = B) := by
            show _ = _
            unfold curB
            rw [List.take_of_length_le (by omega), List.drop_eq_nil_of_le (by rw [List.length_replicate]; omega), List.append_nil]
          rw [HCB.out] at HFB
          obtain ⟨mb, HMB2⟩ : ∃ mb, Hid (cellsB B = mb) := ⟨_, rfl⟩
          obtain ⟨mw, HMW⟩ : ∃ mw, Hid (cellsW W = mw) := ⟨_, rfl⟩
          obtain ⟨mx, HMX⟩ : ∃ mx, Hid (cellsW (mixL W B) = mx) := ⟨_, rfl⟩
          have CM := hid (rmix_any wr W B H8.out hbl HBB.out)
          rw [HMB2.out, HMW.out, HMX.out] at CM
          rw [HMB2.out] at HFB
          have HFW : Hid (wr.heap[w5.heap.size]? = some (.cells mw 74 (0, 0))) := by
            show _ = _
            rw [HB8.out.block _ (by have := World.block_lt_of_cell? wo ⟨w5.heap.size, 0, none⟩ (u := .int .u32 ((W.getD 0 0 : Nat) : Int)) (by rw [cell_of_row wo w5.heap.size 0 _ _ _ HF.out]; exact cellsW_get (by rw [H8.out.1]; decide)); exact this), ← HMW.out]
            exact HF.out
          have hmws : mw.size = 8 := by rw [← HMW.out, cellsW_size, H8.out.1]
          have hmxs : mx.size = 8 := by rw [← HMX.out, cellsW_size, H8.out.mix.1]
          have hmbs : mb.size = 64 := by rw [← HMB2.out]; simp [cellsB, hbl]
          have HIb : Hid ((Tryd.prog.info? 76).map (·.size) = some mb.size) := by rw [hmbs]; exact size_b64
          have HIw : Hid ((Tryd.prog.info? 74).map (·.size) = some mw.size) := by rw [hmws]; exact size_w8
          have HIx : Hid ((Tryd.prog.info? 74).map (·.size) = some mx.size) := by rw [hmxs]; exact size_w8
          have HWX : Hid (mw.size = mx.size) := by rw [hmws, hmxs]; exact rfl
          have H1x : Hid (mx.all (·.oneCell') = true) := by rw [← HMX.out]; exact cellsW_one _
          clear hmws hmxs hmbs
          go_wp2_with (first | (refine wpList_load_row rfl 74 _ rfl w5.heap.size rfl 74 mw (0, 0) _ HFW.out Tryd.underlying74 rfl HIw.out ?_) | (refine wpList_load_row rfl 76 _ rfl wo.heap.size rfl 76 mb (0, 0) _ HFB.out Tryd.underlying76 rfl HIb.out ?_))
          refine CM.out.mono ?_
          rintro e w8 ⟨rfl, hB8⟩
          have hw5r : w5.heap.size < wr.heap.size := by have h1 := HB8.out.size; have h2 := HG.out.size; omega
          have HF8 : Hid (w8.heap[w5.heap.size]? = some (.cells mw 74 (0, 0))) := (hB8.block _ hw5r).trans HFW.out
          have HF9 : Hid ((w8.setRow w5.heap.size mx).heap[w5.heap.size]? = some (.cells mx 74 (0, 0))) := setRow_heap _ _ _ _ _ _ HF8.out
          have HB9 := hid (below_setRow ((HBk.out.trans (HB8.out.mono HBk.out.size)).trans (hB8.mono (Nat.le_trans HBk.out.size HB8.out.size))) (g := w5.heap.size) (Nat.le_refl _) mx)
          clear hB8
          go_wp2_with (refine wpList_store_row rfl 74 _ _ rfl w5.heap.size mx rfl rfl 74 _ HF8.out HIx.out HWX.out H1x.out ?_)
          refine ⟨⟨k + 1, I + 64, by have := HIK.out; omega, by omega, by go_num, ?_, HB9⟩, by simp [intOf]; omega⟩
          show _ = _
          rw [HW1.out, HMX.out]
          exact HF9.out
    · have hIe : I = n + q := by have := HIK.out; omega
      have HWE : Hid (wAt M k = wAt (padded m) ((padded m).length / 64)) := by
        show _ = _
        have h1 : (padded m).length / 64 = k := by rw [HPM.out, HML.out]; have := HIK.out; omega
        rw [h1, HPM.out]
      obtain ⟨W, HW⟩ : ∃ W, Hid (wAt M k = W) := ⟨_, rfl⟩
      rw [HW.out] at HF h8 HWE
      have H8 := hid h8
      obtain ⟨D, HD⟩ : ∃ D, Hid (W.flatMap (bigL 4) = D) := ⟨_, rfl⟩
      have HDG : Hid (digL m = D) := by show _ = _; rw [← HD.out, HWE.out]; rfl
      have hDl : D.length = 32 := by rw [← HDG.out, digL_length]
      have hwol : w5.heap.size < wo.heap.size := World.block_lt_of_cell? wo ⟨w5.heap.size, 0, none⟩ (u := .int .u32 ((W.getD 0 0 : Nat) : Int)) (by rw [cell_of_row wo w5.heap.size 0 _ _ _ HF.out]; exact cellsW_get (by rw [H8.out.1]; decide))
      have HBo5 : Hid (Below w4.heap.size w4 wo) := HB5.out.trans (HBk.out.mono HB5.out.size)
      have HBo : Hid (Below w.heap.size w wo) := HB4.out.trans (HBo5.out.mono HB4.out.size)
      have hw4 : w.heap.size < w4.heap.size := by have := HB04.out.size; have := HS0.out; omega
      have hwwo : w.heap.size < wo.heap.size := by have := HBo5.out.size; omega
      have HRo : Hid (wo.heap[w.heap.size]? = some (.cells zd 34 (0, 0))) := (HBo5.out.block _ hw4).trans HRR4.out
      obtain ⟨W7, hW7⟩ : ∃ W7, Hid (wo.alloc (.cells zd 34) = W7) := ⟨_, rfl⟩
      have HB7 : Hid (Below wo.heap.size wo W7) := by rw [← hW7.out]; exact (Below.refl _ wo).alloc (Nat.le_refl _) _
      have HS7 : Hid (W7.heap.size = wo.heap.size + 1) := by rw [← hW7.out]; refine hid ?_; simp
      have HR7 : Hid (W7.heap[wo.heap.size]? = some (.cells (cellsB (curE D 0)) 34 (0, 0))) := by
        rw [← hW7.out, show cellsB (curE D 0) = zd from HZD.out]
        exact heap_alloc_new wo _
      have HRr7 : Hid (W7.heap[w.heap.size]? = some (.cells zd 34 (0, 0))) := (HB7.out.block _ (by omega)).trans HRo.out
      have HF7 : Hid (W7.heap[w5.heap.size]? = some (.cells (cellsW W) 74 (0, 0))) := (HB7.out.block _ hwol).trans HF.out
      clear h8 hlt
      go_wp2_with (refine wpList_alloc_digest rfl rfl ?_; rw [HZD.out, hW7.out])
      clear hW7
      go_loopw [11] (fun i wq => ∃ J : Nat, J ≤ 32 ∧ i = .int .i64 J ∧ Hid (wq.heap[wo.heap.size]? = some (.cells (cellsB (curE D J)) 34 (0, 0))) ∧ Hid (W7.grownBy wq (some wo.heap.size))) (fun i _ => 32 - (intOf i).toNat)
      case atStart => exact ⟨0, Nat.zero_le _, rfl, HR7, ⟨rfl, rfl, rfl, Nat.le_refl _, fun _ _ _ => rfl⟩⟩
      case round =>
        obtain ⟨J, hJ, rfl, HFB, HG⟩ := hrel
        by_cases hlj : J < 32
        · obtain ⟨a, r, HJ⟩ : ∃ a r, Hid (J = 4 * a + r ∧ r < 4) := ⟨J / 4, J % 4, by show _ ∧ _; omega⟩
          have ha8 : a < 8 := by have := HJ.out; omega
          have HGD := hid (dig_get H8.out a r ha8 HJ.out.2)
          rw [HD.out, ← HJ.out.1] at HGD
          obtain ⟨x, HX⟩ : ∃ x, Hid (W.getD a 0 = x) := ⟨_, rfl⟩
          rw [HX.out] at HGD
          have hxl : x < 4294967296 := by rw [← HX.out]; exact getW_lt H8.out.2 a
          have cw : wr.cell? ⟨w5.heap.size, a, none⟩ = some (.int .u32 (x : Int)) := by
            rw [cell_of_row wr w5.heap.size a _ _ _ ((HG.out.block w5.heap.size (by have := HS7.out; omega) (by simp; omega)).trans HF7.out), cellsW_get (by rw [H8.out.1]; exact ha8), HX.out]
          have hcb : wr.cell? ⟨wo.heap.size, J, none⟩ = some (.int .u8 ((curE D J).getD J 0)) := by
            rw [cell_of_row wr wo.heap.size J _ _ _ HFB.out]
            have hj2 : J < (curE D J).length := by rw [curE_length D J (by omega) hDl]; omega
            simp [cellsB, List.getD, List.getElem?_eq_getElem hj2]
          obtain ⟨old, HOLD⟩ : ∃ old, Hid ((curE D J).getD J 0 = old) := ⟨_, rfl⟩
          rw [HOLD.out] at hcb
          have hfz : wr.frozen? ⟨wo.heap.size, J, none⟩ = false := by simp [World.frozen?, HFB.out]
          have e1 : Int.tdiv (J : Int) 4 = (a : Int) := by have := HJ.out; rw [Int.tdiv_eq_ediv_of_nonneg (by omega)]; omega
          have FIN : Hid (∀ y : Int, y = D.getD J 0 → Hid ((wr.setCell ⟨wo.heap.size, J, none⟩ (.int .u8 y)).heap[wo.heap.size]? = some (.cells (cellsB (curE D (J + 1))) 34 (0, 0)))) := fun y hy => by
            rw [← curE_step D J hlj hDl, ← hy, ← cellsB_set2]
            exact heap_setCell_same wr wo.heap.size J _ _ _ HFB.out
          have hr4 : r = 0 ∨ r = 1 ∨ r = 2 ∨ r = 3 := by have := HJ.out.2; omega
          rcases hr4 with rfl | rfl | rfl | rfl
          · have e2 : Int.tmod (J : Int) 4 = 0 := by have := HJ.out; rw [Int.tmod_eq_emod_of_nonneg (by omega)]; omega
            go_wp2
            exact ⟨⟨J + 1, by omega, by go_num, FIN.out _ (by rw [HGD.out]; simp; try omega), grown_tr HG.out (grown_sets _ _ _ _)⟩, by simp [intOf]; omega⟩
          · have e2 : Int.tmod (J : Int) 4 = 1 := by have := HJ.out; rw [Int.tmod_eq_emod_of_nonneg (by omega)]; omega
            go_wp2
            exact ⟨⟨J + 1, by omega, by go_num, FIN.out _ (by rw [HGD.out]; simp; try omega), grown_tr HG.out (grown_sets _ _ _ _)⟩, by simp [intOf]; omega⟩
          · have e2 : Int.tmod (J : Int) 4 = 2 := by have := HJ.out; rw [Int.tmod_eq_emod_of_nonneg (by omega)]; omega
            go_wp2
            exact ⟨⟨J + 1, by omega, by go_num, FIN.out _ (by rw [HGD.out]; simp; try omega), grown_tr HG.out (grown_sets _ _ _ _)⟩, by simp [intOf]; omega⟩
          · have e2 : Int.tmod (J : Int) 4 = 3 := by have := HJ.out; rw [Int.tmod_eq_emod_of_nonneg (by omega)]; omega
            go_wp2
            exact ⟨⟨J + 1, by omega, by go_num, FIN.out _ (by rw [HGD.out]; simp; try omega), grown_tr HG.out (grown_sets _ _ _ _)⟩, by simp [intOf]; omega⟩
        · have hJ32 : J = 32 := by omega
          subst hJ32
          have HCE : Hid (curE D 32 = D) := by
            show _ = _
            unfold curE
            rw [List.take_of_length_le (by omega), List.drop_eq_nil_of_le (by rw [zeros32_length]; omega), List.append_nil]
          rw [HCE.out] at HFB
          obtain ⟨dm, HDM⟩ : ∃ dm, Hid (cellsB D = dm) := ⟨_, rfl⟩
          rw [HDM.out] at HFB
          have hds : dm.size = 32 := by rw [← HDM.out]; simp [cellsB, hDl]
          have SD : Hid ((Tryd.prog.info? 34).map (·.size) = some dm.size) := by rw [hds]; exact size_digest
          have OD : Hid (dm.all (·.oneCell') = true) := by
            rw [← HDM.out]
            exact all_oneCell_toArray (fun v hv => by obtain ⟨x, _, rfl⟩ := List.mem_map.1 hv; rfl)
          have ZD : Hid (zd.size = dm.size) := by rw [hds, ← HZD.out]; rfl
          have HRf : Hid (wr.heap[w.heap.size]? = some (.cells zd 34 (0, 0))) := (HG.out.block w.heap.size (by have := HS7.out; omega) (by simp; omega)).trans HRr7.out
          have HBF := hid (below_setRow (HBo.out.trans ((HB7.out.grown HG.out HB7.out.size (fun k e => by cases e; exact Nat.le_refl _)).mono HBo.out.size)) (g := w.heap.size) (Nat.le_refl _) dm)
          clear hds hlj
          go_wp2_with (first | (refine wpList_load_row rfl 34 _ rfl wo.heap.size rfl 34 dm (0, 0) _ HFB.out Tryd.underlying34 rfl SD.out ?_) | (refine wpList_store_row rfl 34 _ _ rfl w.heap.size dm rfl rfl 34 _ HRf.out SD.out ZD.out OD.out ?_))
          refine bodyPost_ret (v := .agg dm) (results_cell_row (p := 2) (ty := 34) rfl _ _ w.heap.size 34 dm (0, 0) _ rfl (setRow_heap _ _ _ _ _ _ HRf.out) Tryd.underlying34 rfl SD.out) rfl ?_
          exact ⟨by rw [HDG.out, HDM.out], HBF.out⟩
theorem run_append_byte (w : World) (base : Nat) (ty : TypeId) (v : Value) (n : Nat) (xs : List Value) (hown : w.ownsRow base 5 1 v n xs) (a : Addr) (c : Nat) (x : Int) (hx : w.cell? a = some (.int .u8 x)) (hn : n + 1 ≤ 140737488355328) (hbase : base ≤ w.heap.size) :
    ∃ v' w', (Builtin.append_ #[30, 30] ty #[v, .slice (some a) 1 c]).run Tryd.prog w = .ok v' w' ∧ w'.ownsRow base 5 1 v' (n + 1) (xs ++ [.int .u8 x]) ∧ w.grownBy w' v.ownBlock ∧
      (v'.ownBlock = v.ownBlock ∨ (v'.ownBlock = some w.heap.size ∧ w.grownBy w' none)) := by
  obtain ⟨i0, hi, hz0, hz1, hz2⟩ := info_parts info_u8
  have hnews : ∀ j u, [Value.int .u8 x][j]? = some u → w.cell? (a.add j) = some u := by
    intro j u hj
    match j, hj with
    | 0, hj => simp at hj; subst hj; simpa [Addr.add] using hx
  have h1 : ∀ u ∈ [Value.int .u8 x], u.oneCell' = true := by intro u hu; simp at hu; subst hu; rfl
  obtain ⟨v', w', hr, h2, h3, _⟩ := run_append_own (P := Tryd.prog) w base 30 ty 5 i0 (.int .u8 0) 1 1 Tryd.underlying30 hi hz0 hz1 hz2 rfl (by decide) v n xs hown a 1 c [.int .u8 x] rfl hnews h1 (by unfold maxLen; omega) (by omega) hbase
  refine ⟨v', w', hr, h2, h3, ?_⟩
  rcases hown.2 with ⟨rfl, rfl⟩ | ⟨g, cap, cur, rfl, hbg, hg, hnc, hcm, hcs, htake⟩
  · have hr2 := run_append_nil (P := Tryd.prog) w 30 ty 5 i0 (.int .u8 0) Tryd.underlying30 hi hz0 a 1 c [.int .u8 x] (by rw [hz1]; rfl) hnews (by omega) (by omega) (by rw [hz2]; omega)
    rw [hr] at hr2
    simp only [Result.ok.injEq] at hr2
    obtain ⟨rfl, rfl⟩ := hr2
    exact .inr ⟨rfl, ⟨rfl, rfl, rfl, by simp, fun k hk _ => heap_alloc_old w.drew _ hk⟩⟩
  · by_cases hroom : n + 1 ≤ cap
    · obtain ⟨w2, hr2, _⟩ := run_append_fits (P := Tryd.prog) w base 30 ty 5 i0 1 Tryd.underlying30 hi hz1 g n cap xs hown a 1 c [.int .u8 x] rfl hnews h1 hroom
      rw [hr] at hr2
      simp only [Result.ok.injEq] at hr2
      obtain ⟨rfl, rfl⟩ := hr2
      exact .inl rfl
    · have hr2 := run_append_grow (P := Tryd.prog) w 30 ty 5 i0 (.int .u8 0) Tryd.underlying30 hi hz0 ⟨g, 0, none⟩ n cap xs (by rw [hz1]; exact hown.1) (hown.cells (g := g) rfl) a 1 c [.int .u8 x] (by rw [hz1]; rfl) hnews (by omega) (by omega) (growslice_fits (by omega) (by rw [hz2]; omega))
      rw [hr] at hr2
      simp only [Result.ok.injEq] at hr2
      obtain ⟨rfl, rfl⟩ := hr2
      exact .inr ⟨rfl, ⟨rfl, rfl, rfl, by simp, fun k hk _ => heap_alloc_old w.drew _ hk⟩⟩
theorem wpList_append_byte {w : World} {ops : Array Oper} {rest : List Oper} {o : Oper} {a : Act} {Q : Exit → Act → World → Prop} (hgd : o.guard = none) (s x : Operand)
    (ho : o.op = .call { callee := .builtin .append, args := #[s, x], argTypes := #[30, 30] })
    (base : Nat) (v : Value) (n : Nat) (xs : List Value) (hs : a.eval s = v) (hown : w.ownsRow base 5 1 v n xs)
    (ad : Addr) (c : Nat) (y : Int) (hx : a.eval x = .slice (some ad) 1 c) (hy : w.cell? ad = some (.int .u8 y)) (hn : n + 1 ≤ 140737488355328) (hbase : base ≤ w.heap.size)
    (h : ∀ v' w', w'.ownsRow base 5 1 v' (n + 1) (xs ++ [.int .u8 y]) → w.grownBy w' v.ownBlock → (v'.ownBlock = v.ownBlock ∨ (v'.ownBlock = some w.heap.size ∧ w.grownBy w' none)) → wpList Tryd.prog ops Q rest (a.put o.dst v') w') : wpList Tryd.prog ops Q (o :: rest) a w := by
  refine wpList_plain hgd fun K hK => ?_
  obtain ⟨v', w', hr, h2, h3, h4⟩ := run_append_byte w base o.type v n xs hown ad c y hy hn hbase
  unfold Oper.wp execOp
  simp only [ho, resolve, invoke, builtin, Sem.run_bind, Sem.run_pure, Result.andThen_ok, List.map_toArray, List.map_cons, List.map_nil, hs, hx, hr]
  exact hK _ _ (h v' w' h2 h3 h4)
def pcs (ls : List (List Int)) : List (List Int) := ls.flatMap fun l => [bigL 8 l.length, l]
def pcsTo (ls : List (List Int)) (k : Nat) : List (List Int) := pcs (ls.take k)
def framed (ls : List (List Int)) : List Int := (pcs ls).flatten
theorem pcs_snoc (ls : List (List Int)) (k : Nat) (hk : k < ls.length) : pcsTo ls (k + 1) = pcsTo ls k ++ [bigL 8 (ls.getD k []).length, ls.getD k []] := by
  unfold pcsTo pcs
  rw [List.take_succ_eq_append_getElem hk, List.flatMap_append]
  have e : ls.getD k [] = ls[k] := by simp [List.getD, List.getElem?_eq_getElem hk]
  rw [e]
  simp
theorem pcs_length (ls : List (List Int)) : (pcs ls).length = 2 * ls.length := by
  unfold pcs
  induction ls with
  | nil => rfl
  | cons a r ih => simp only [List.flatMap_cons, List.length_append, List.length_cons, List.length_nil, ih]; omega
theorem pcsTo_length (ls : List (List Int)) (k : Nat) : (pcsTo ls k).length ≤ 2 * ls.length := by
  unfold pcsTo
  rw [pcs_length, List.length_take]
  omega
theorem framed_length (ls : List (List Int)) : (framed ls).length = ls.flatten.length + 8 * ls.length := by
  unfold framed pcs
  induction ls with
  | nil => rfl
  | cons a r ih =>
    simp only [List.flatMap_cons, List.flatten_append, List.flatten_cons, List.flatten_nil, List.length_append, List.length_nil, List.length_cons, bigL_length] at ih ⊢
    omega
theorem valL_cons (c : Int) (l : List Int) : ∀ a : Nat, (c :: l).foldl (fun a c => a * 256 + c.toNat) a = l.foldl (fun a c => a * 256 + c.toNat) (a * 256 + c.toNat) := fun _ => rfl
theorem fold_bigL (r x a : Nat) : (bigL r x).foldl (fun a c => a * 256 + c.toNat) a = a * 256 ^ r + x % 256 ^ r := by
  induction r generalizing a with
  | zero => simp [bigL, Nat.mod_one]
  | succ r ih =>
    simp only [bigL, List.foldl_cons, Int.toNat_natCast]
    rw [ih, Nat.pow_succ]
    have h1 := Nat.mod_mul (a := 256 ^ r) (b := 256) (x := x)
    rw [h1]
    have : (a * 256 + x / 256 ^ r % 256) * 256 ^ r = a * (256 ^ r * 256) + 256 ^ r * (x / 256 ^ r % 256) := by
      rw [Nat.add_mul, Nat.mul_assoc, Nat.mul_comm 256 (256 ^ r), Nat.mul_comm (x / 256 ^ r % 256)]
    omega
theorem valL_bigL (r x : Nat) (h : x < 256 ^ r) : valL (bigL r x) = x := by
  unfold valL
  rw [fold_bigL, Nat.zero_mul, Nat.zero_add, Nat.mod_eq_of_lt h]
theorem valL_head (c : Int) (l : List Int) : valL (c :: l) = c.toNat * 256 ^ l.length + valL l := by
  obtain ⟨r, hr⟩ : ∃ r, r = l.reverse := ⟨_, rfl⟩
  have e : l = r.reverse := by rw [hr, List.reverse_reverse]
  subst e
  clear hr
  induction r with
  | nil => simp [valL]
  | cons d r ih =>
    rw [List.reverse_cons, ← List.cons_append, valL_snoc, valL_snoc, ih, List.length_append]
    simp only [List.length_cons, List.length_nil, Nat.zero_add, Nat.pow_succ]
    rw [Nat.add_mul, Nat.mul_assoc]
    omega
theorem bigL_mod (r x y : Nat) : bigL r (y * 256 ^ r + x) = bigL r x := by
  induction r generalizing y with
  | zero => rfl
  | succ r ih =>
    have e : y * 256 ^ (r + 1) + x = (y * 256) * 256 ^ r + x := by rw [Nat.pow_succ, Nat.mul_comm (256 ^ r), Nat.mul_assoc]
    simp only [bigL]
    rw [e, ih]
    have hp : 0 < 256 ^ r := Nat.pow_pos (by omega)
    rw [Nat.add_comm (y * 256 * 256 ^ r), Nat.add_mul_div_right _ _ hp]
    congr 2
    omega
theorem bigL_valL (l : List Int) (h : ∀ x ∈ l, 0 ≤ x ∧ x < 256) : bigL l.length (valL l) = l := by
  induction l with
  | nil => rfl
  | cons c l ih =>
    have hl : ∀ x ∈ l, 0 ≤ x ∧ x < 256 := fun x hx => h x (List.mem_cons_of_mem _ hx)
    have hc := h c (by simp)
    have hv := valL_lt l hl
    rw [valL_head]
    simp only [List.length_cons, bigL]
    rw [bigL_mod, ih hl]
    have hp : 0 < 256 ^ l.length := Nat.pow_pos (by omega)
    rw [Nat.add_comm (c.toNat * 256 ^ l.length), Nat.add_mul_div_right _ _ hp, Nat.div_eq_of_lt hv]
    congr 1
    omega
def Ok (ls : List (List Int)) : Prop := ∀ l ∈ ls, l.length < 256 ^ 8
theorem framed_cons (x : List Int) (xs : List (List Int)) : framed (x :: xs) = bigL 8 x.length ++ (x ++ framed xs) := by
  simp [framed, pcs]
theorem framed_append (a b : List (List Int)) : framed (a ++ b) = framed a ++ framed b := by
  simp [framed, pcs]
theorem framed_nil : framed [] = [] := rfl
theorem framed_cancel (ls : List (List Int)) (l : List Int) : ∀ xs, Ok xs → Ok ls → framed xs = framed ls ++ l → ∃ bs, xs = ls ++ bs ∧ framed bs = l := by
  induction ls with
  | nil => intro ys _ _ h; exact ⟨ys, rfl, h⟩
  | cons x xs ih =>
    intro as' ha hl h
    cases as' with
    | nil =>
      exfalso
      have := congrArg List.length h
      rw [framed_cons] at this
      simp [framed_nil, bigL_length] at this
      omega
    | cons y ys =>
      rw [framed_cons, framed_cons, List.append_assoc, List.append_assoc] at h
      have h1 := List.append_inj h (by rw [bigL_length, bigL_length])
      have hlen : y.length = x.length := by
        have := congrArg valL h1.1
        rwa [valL_bigL 8 _ (ha y (by simp)), valL_bigL 8 _ (hl x (by simp))] at this
      have h2 := List.append_inj h1.2 hlen
      obtain ⟨bs, e1, e2⟩ := ih ys (fun z hz => ha z (List.mem_cons_of_mem _ hz)) (fun z hz => hl z (List.mem_cons_of_mem _ hz)) h2.2
      exact ⟨bs, by rw [h2.1, e1]; rfl, e2⟩
theorem framed_inj {a b : List (List Int)} (ha : Ok a) (hb : Ok b) : framed a = framed b ↔ a = b := by
  constructor
  · intro h
    obtain ⟨bs, e1, e2⟩ := framed_cancel b [] a ha hb (by rw [List.append_nil]; exact h)
    have h2 : bs = [] := by
      cases bs with
      | nil => rfl
      | cons y ys =>
        have := congrArg List.length e2
        rw [framed_cons] at this
        simp [bigL_length] at this
    rw [e1, h2, List.append_nil]
  · intro h; rw [h]
def UInv (raw : List Int) (ls : List (List Int)) (f : Bool) (l : List Int) : Prop :=
  8 * ls.length ≤ raw.length + 8 ∧ l.length ≤ raw.length ∧ Ok ls ∧ (f = false → raw = framed ls ++ l) ∧ (f = true → l = [] ∧ ∀ xs, Ok xs → framed xs ≠ raw)
theorem UInv.start (raw : List Int) : UInv raw [] false raw := ⟨by simp, Nat.le_refl _, by intro l hl; simp at hl, fun _ => rfl, fun h => by cases h⟩
theorem UInv.none {raw : List Int} {ls : List (List Int)} {l : List Int} (h : UInv raw ls false l) (hb : ∀ bs, Ok bs → framed bs ≠ l) : ∀ xs, Ok xs → framed xs ≠ raw := by
  intro xs ha he
  obtain ⟨_, _, h3, h4, _⟩ := h
  rw [h4 rfl] at he
  obtain ⟨bs, e1, e2⟩ := framed_cancel ls l xs ha h3 he
  exact hb bs (fun z hz => ha z (by rw [e1]; exact List.mem_append_right _ hz)) e2
theorem no_frames_short {l : List Int} (h0 : 0 < l.length) (h8 : l.length < 8) : ∀ bs, Ok bs → framed bs ≠ l := by
  intro bs _ h
  cases bs with
  | nil => rw [framed_nil] at h; subst h; simp at h0
  | cons y ys =>
    have := congrArg List.length h
    rw [framed_cons] at this
    simp [bigL_length] at this
    omega
theorem no_frames_long {l : List Int} (h8 : 8 ≤ l.length) (hv : (l.drop 8).length < valL (l.take 8)) : ∀ bs, Ok bs → framed bs ≠ l := by
  intro bs hb h
  cases bs with
  | nil => rw [framed_nil] at h; subst h; simp at h8
  | cons y ys =>
    rw [framed_cons] at h
    have h1 : l.take 8 = bigL 8 y.length := by rw [← h, List.take_left' (bigL_length _ _)]
    have h2 : l.drop 8 = y ++ framed ys := by rw [← h, List.drop_left' (bigL_length _ _)]
    rw [h1, h2, valL_bigL 8 _ (hb y (by simp)), List.length_append] at hv
    omega
theorem UInv.step {raw : List Int} {ls : List (List Int)} {l : List Int} (hraw : raw.length < 256 ^ 8) (hby : ∀ x ∈ l, 0 ≤ x ∧ x < 256) (h : UInv raw ls false l) (h8 : 8 ≤ l.length) (hv : valL (l.take 8) ≤ (l.drop 8).length) :
    UInv raw (ls ++ [(l.drop 8).take (valL (l.take 8))]) false ((l.drop 8).drop (valL (l.take 8))) := by
  obtain ⟨h1, h2, h3, h4, h5⟩ := h
  have hlen : ((l.drop 8).take (valL (l.take 8))).length = valL (l.take 8) := by simp at hv ⊢; omega
  have e := h4 rfl
  have hr : raw.length = ls.flatten.length + 8 * ls.length + l.length := by rw [e, List.length_append, framed_length]
  refine ⟨?_, ?_, ?_, ?_, fun h => by cases h⟩
  · rw [List.length_append, List.length_singleton]; omega
  · simp; omega
  · intro z hz
    rcases List.mem_append.1 hz with hz | hz
    · exact h3 z hz
    · simp only [List.mem_singleton] at hz
      subst hz
      rw [hlen]
      refine Nat.lt_of_le_of_lt hv (Nat.lt_of_le_of_lt ?_ hraw)
      simp; omega
  · intro _
    rw [framed_append, framed_cons, framed_nil, List.append_nil, hlen, e]
    have hb8 : bigL 8 (valL (l.take 8)) = l.take 8 := by
      have := bigL_valL (l.take 8) (fun x hx => hby x (List.mem_of_mem_take hx))
      rwa [show (l.take 8).length = 8 by simp; omega] at this
    rw [hb8]
    simp only [List.append_assoc, List.take_append_drop]
theorem UInv.short {raw : List Int} {ls : List (List Int)} {l : List Int} (h : UInv raw ls false l) (h0 : 0 < l.length) (h8 : l.length < 8) : UInv raw (ls ++ [[]]) true [] := by
  have hn := h.none (no_frames_short h0 h8)
  obtain ⟨h1, h2, h3, h4, h5⟩ := h
  have e := h4 rfl
  have hr : raw.length = ls.flatten.length + 8 * ls.length + l.length := by rw [e, List.length_append, framed_length]
  refine ⟨by rw [List.length_append, List.length_singleton]; omega, by simp, ?_, (fun h => by cases h), fun _ => ⟨rfl, hn⟩⟩
  intro z hz
  rcases List.mem_append.1 hz with hz | hz
  · exact h3 z hz
  · simp only [List.mem_singleton] at hz
    subst hz
    simp
theorem own_mono {w : World} {B B' e n : Nat} {v : Value} {xs : List Value} (h : w.ownsRow B e 1 v n xs) (hb : B' ≤ B) : w.ownsRow B' e 1 v n xs := by
  refine ⟨h.1, ?_⟩
  rcases h.2 with h2 | ⟨g, cap, cur, h1, h2, h3⟩
  · exact .inl h2
  · exact .inr ⟨g, cap, cur, h1, Nat.le_trans hb h2, h3⟩
theorem own_slc {w : World} {B n : Nat} {e : TypeId} {v : Value} {xs : List Value} (h : w.ownsRow B e 1 v n xs) : ∃ p c, v = .slice p n c := by
  rcases h.2 with ⟨rfl, rfl⟩ | ⟨g, cap, cur, rfl, _⟩
  · exact ⟨none, 0, rfl⟩
  · exact ⟨_, _, rfl⟩
theorem none_or (z : Option Nat) : z = none ∨ z ≠ none := by cases z <;> simp
theorem own_below {w w' : World} {B n : Nat} {e : TypeId} {v : Value} {xs : List Value} (h : w.ownsRow B e 1 v n xs) (hb : Below w.heap.size w w') : w'.ownsRow B e 1 v n xs :=
  h.kept ⟨hb.os, hb.tape, hb.output, hb.size, fun k hk _ => hb.block k hk⟩ (none_or _)
theorem own_ne {w w' : World} {B B' n n' : Nat} {e e' : TypeId} {v v' : Value} {xs xs' : List Value} (h : w.ownsRow B e 1 v n xs) (h' : w'.ownsRow B' e' 1 v' n' xs') (hb : w.heap.size ≤ B') :
    (v.ownBlock = none ∨ v.ownBlock ≠ v'.ownBlock) ∧ (v'.ownBlock = none ∨ v'.ownBlock ≠ v.ownBlock) := by
  constructor
  · rcases none_or v.ownBlock with q | q
    · exact .inl q
    · refine .inr fun e => ?_
      obtain ⟨k, hk⟩ := Option.ne_none_iff_exists'.1 q
      have h1 := h.lt k hk
      have h2 := h'.lt k (e ▸ hk)
      omega
  · rcases none_or v'.ownBlock with q | q
    · exact .inl q
    · refine .inr fun e => ?_
      obtain ⟨k, hk⟩ := Option.ne_none_iff_exists'.1 q
      have h1 := h'.lt k hk
      have h2 := h.lt k (e ▸ hk)
      omega
def hi5 (n m x : Nat) : List Int := (bigL n x).take (n - m)
theorem hi5_step (n m x : Nat) (h : m < n) : hi5 n m x = hi5 n (m + 1) x ++ [((x / 256 ^ m % 256 : Nat) : Int)] := by
  have key : ∀ r j, j < r → (bigL r x)[j]? = some ((x / 256 ^ (r - 1 - j) % 256 : Nat) : Int) := by
    intro r
    induction r with
    | zero => intro j hj; omega
    | succ r ih =>
      intro j hj
      cases j with
      | zero => simp [bigL]
      | succ j =>
        simp only [bigL, List.getElem?_cons_succ]
        rw [ih j (by omega), show r + 1 - 1 - (j + 1) = r - 1 - j by omega]
  unfold hi5
  have e : n - m = (n - (m + 1)) + 1 := by omega
  rw [e, List.take_add_one, key n _ (by omega), show n - 1 - (n - (m + 1)) = m by omega]
  rfl
set_option maxRecDepth 100000 in
set_option maxHeartbeats 1000000 in
theorem rbig5_any (W : World) (x n : Nat) (hx : x < 18446744073709551616) (hn : n ≤ 8) : Calls Tryd.prog 72 #[.int .u64 (x : Int), .int .i64 (n : Int)] W fun e W' => ∃ v', e = .returned v' ∧ W'.ownsRow W.heap.size 5 1 v' n ((bigL n x).map (Value.int .u8)) ∧ Below W.heap.size W W' := by
  go_enter Tryd.func72, Tryd.ntmps72
  go_wp2
  go_loopw [5, 6] (fun o i wr => ∃ m : Nat, m ≤ n ∧ i = .int .i64 ((m : Int) - 1) ∧ Hid (wr.ownsRow W.heap.size 5 1 o (n - m) ((hi5 n m x).map (Value.int .u8))) ∧ Hid (Below W.heap.size W wr)) (fun _ i _ => (intOf i + 1).toNat)
  case atStart => exact ⟨n, Nat.le_refl _, rfl, by rw [Nat.sub_self]; simp only [hi5, Nat.sub_self, List.take_zero, List.map_nil]; exact World.ownsRow_nil _ _ _ _, Below.refl _ _⟩
  case round =>
    obtain ⟨m, hm, rfl, HO, HBw⟩ := hrel
    cases m with
    | zero =>
      go_wp2
      go_ret
      refine ⟨_, rfl, ?_, HBw.out⟩
      have := HO.out
      simp only [Nat.sub_zero] at this
      rw [show hi5 n 0 x = bigL n x by unfold hi5; rw [Nat.sub_zero, List.take_of_length_le (by rw [bigL_length]; exact Nat.le_refl n)]] at this
      exact this
    | succ m =>
      have HS := hid (hi5_step n m x (by omega))
      have hmc : m = 0 ∨ m = 1 ∨ m = 2 ∨ m = 3 ∨ m = 4 ∨ m = 5 ∨ m = 6 ∨ m = 7 := by omega
      have hxi : (x : Int) < 18446744073709551616 := by omega
      have hsz := HBw.out.size
      obtain ⟨y, HY⟩ : ∃ y, Hid (((x / 256 ^ m % 256 : Nat) : Int) = y) := ⟨_, rfl⟩
      rw [HY.out] at HS
      obtain ⟨k0, HK⟩ : ∃ k0, Hid (n - (m + 1) = k0) := ⟨_, rfl⟩
      have HK2 : Hid (n - m = k0 + 1) := by show _ = _; rw [← HK.out]; omega
      have hk0 : k0 ≤ 8 := by rw [← HK.out]; omega
      obtain ⟨lst, HLs⟩ : ∃ lst, Hid (hi5 n (m + 1) x = lst) := ⟨_, rfl⟩
      rw [HLs.out] at HS
      have HO' := hid HO.out
      rw [HK.out, HLs.out] at HO'
      clear HO
      rcases hmc with rfl | rfl | rfl | rfl | rfl | rfl | rfl | rfl
      all_goals
        go_wp2_with (at_builtin; refine wpList_append_byte rfl _ _ rfl W.heap.size _ _ _ rfl (HO'.out.alloc _) ⟨wr.heap.size, 0, none⟩ 1 y rfl ?q0 ?q1 ?q2 ?_)
        case q0 => rw [← HY.out]; simp; try omega
        case q1 => omega
        case q2 => simp; omega
        intro v' w2 hown2 hgr2 _
        have HO2 : Hid (w2.ownsRow W.heap.size 5 1 v' (k0 + 1) (lst.map (Value.int .u8) ++ [.int .u8 y])) := hown2
        have HB2 := hid ((HBw.out.alloc HBw.out.size _).grown hgr2 (by simp; omega) (fun k e => (HO'.out.lt k e).1))
        clear hown2 hgr2
        go_wp2
        exact ⟨⟨_, Nat.le_of_succ_le hm, rfl, by rw [HK2.out, HS.out, List.map_append]; exact HO2, HB2⟩, by simp [intOf]⟩
def fr1 (l : List Int) : List Int := bigL 8 l.length ++ l
theorem fr1_length (l : List Int) : (fr1 l).length = 8 + l.length := by simp [fr1, bigL_length]
theorem fr1_byt {l : List Int} (h : ∀ x ∈ l, 0 ≤ x ∧ x < 256) : ∀ x ∈ fr1 l, 0 ≤ x ∧ x < 256 := fun x hx => (List.mem_append.1 hx).elim (bigL_byt _ _ x) (h x)
set_option maxRecDepth 100000 in
set_option maxHeartbeats 1000000 in
theorem rframe_any (w : World) (v : Value) (l : List Int) (h : HB w v l) (hl : l.length ≤ 140737488355000) : Calls Tryd.prog 42 #[v] w fun e w' => ∃ v', e = .returned v' ∧ w'.ownsRow w.heap.size 5 1 v' (fr1 l).length ((fr1 l).map (Value.int .u8)) ∧ Below w.heap.size w w' := by
  obtain ⟨p, c, e, hlc, hm⟩ := h.open
  have HH := hid h
  obtain ⟨n, HN⟩ : ∃ n, Hid (l.length = n) := ⟨_, rfl⟩
  rw [HN.out] at e hl hlc
  subst e
  clear h
  go_enter Tryd.func42, Tryd.ntmps42
  go_wp2_with fail
  refine (rbig5_any w n 8 (by omega) (by omega)).mono ?_
  rintro e w1 ⟨v1, rfl, ho1, hB1⟩
  have HO := hid ho1
  have HB1 := hid hB1
  have H1 := hid (HH.out.below hB1)
  clear ho1 hB1
  go_wp2_with (at_builtin; refine wpList_append_HB rfl _ _ rfl w.heap.size _ _ _ rfl HO.out _ _ rfl H1.out ?q1 ?q2 ?_)
  case q1 => rw [HN.out]; omega
  case q2 => exact HB1.out.size
  intro v2 w2 ho2 hg2
  have HO2 : Hid (w2.ownsRow w.heap.size 5 1 v2 (fr1 l).length ((fr1 l).map (Value.int .u8))) := by
    rw [fr1_length]
    show World.ownsRow _ _ _ _ _ _ _
    unfold fr1
    rw [List.map_append, HN.out]
    rw [HN.out] at ho2
    exact ho2
  have HB2 : Hid (Below w.heap.size w w2) := HB1.out.grown hg2 HB1.out.size (fun k e => (HO.out.lt k e).1)
  clear ho2 hg2
  go_wp2
  go_ret
  exact ⟨_, rfl, HO2.out, HB2.out⟩
end Go.Proofs.YtokamemkfgpfpaaDoor
namespace Go.Proofs.YtokamemkfgpfpaaDoor
open Go Go.RowKit Ev
def TV.plainT : TV → Bool
  | .sc s => s.plain
  | .agg l => l.all SV.plain
def plainA : AV → Bool
  | .tv v => TV.plainT v
  | .tup l => l.all TV.plainT
theorem sv_any {ρ : Env} {ms ms' : List Nat} {s : SV} (h : s.plain = true) : s.inst ρ ms = s.inst ρ ms' := by
  cases s <;> simp [SV.plain] at h <;> simp only [SV.inst]
  subst h; rfl
theorem tv_any {ρ : Env} {ms ms' : List Nat} {s : TV} (h : TV.plainT s = true) : s.inst ρ ms = s.inst ρ ms' := by
  cases s with
  | sc s => exact sv_any h
  | agg l =>
    simp only [TV.inst]
    congr 2
    refine List.map_congr_left fun p hp => sv_any ?_
    simp only [TV.plainT, List.all_eq_true] at h
    exact h p hp
theorem av_any {ρ : Env} {ms ms' : List Nat} {s : AV} (h : plainA s = true) : s.inst ρ ms = s.inst ρ ms' := by
  cases s with
  | tv s => exact tv_any h
  | tup l =>
    simp only [AV.inst]
    congr 2
    refine List.map_congr_left fun p hp => tv_any ?_
    simp only [plainA, List.all_eq_true] at h
    exact h p hp
def con1 (g : Nat) (xs : List AV) (v : AV) : ConF := fun g' xs' _ => if g' = g then (if xs' = xs then some v else none) else none
theorem con1_ok {ρ : Env} {con : ConF} (hcon : ConOk Tryd.prog ρ con) (hm : Tryd.prog.follows .mixedOrders = true) {n g : Nat} {xs : List AV} {v : AV} {H' : List Blk} (h : evCallF Tryd.prog noLore con n g xs H0 = some (v, H')) (hx : xs.all plainA = true) (hv : plainA v = true) : ConOk Tryd.prog ρ (con1 g xs v) := by
  intro g' xs' H u hu ms B w args ha hH
  unfold con1 at hu
  split at hu
  case isFalse => cases hu
  rename_i e
  subst e
  split at hu <;> cases hu
  rename_i e
  subst e
  have ha0 : xs'.map (AV.inst ρ ms0) = args.toList.map some := by
    rw [← ha]
    exact List.map_congr_left fun x hx' => av_any (List.all_eq_true.1 hx x hx')
  refine (calls_of_evHF (noLore_ok ρ) hcon hm n h w ha0 (holds_nil ρ w)).mono ?_
  rintro e w' ⟨ms', u', rfl, _, h1, _, h3⟩
  exact ⟨u', rfl, by rw [av_any hv (ms' := ms')]; exact h1, h3⟩
def conOr (c d : ConF) : ConF := fun g xs H => match c g xs H with | some v => some v | none => d g xs H
theorem conOr_ok {ρ : Env} {c d : ConF} (hc : ConOk Tryd.prog ρ c) (hd : ConOk Tryd.prog ρ d) : ConOk Tryd.prog ρ (conOr c d) := by
  intro g xs H v h
  unfold conOr at h
  split at h
  · rename_i u hu
    cases h
    exact hc g xs H _ hu
  · exact hd g xs H v h
def litB (l : List Nat) : List SV := l.map fun x : Nat => .int .u8 (.lit (x : Int))
def wNode : List Int := [115, 116, 114, 111, 110, 103, 114, 111, 111, 109, 32, 110, 111, 100, 101]
def wPad : List Int := [115, 116, 114, 111, 110, 103, 114, 111, 111, 109, 32, 112, 97, 100]
def num8 (n : Int) : List Int := [0, 0, 0, 0, 0, 0, 0, n]
def ndB (l r : List Int) : List Int := num8 15 ++ (wNode ++ (num8 32 ++ (l ++ (num8 32 ++ r))))
def ndL (l r : List Int) : List Int := digL (ndB l r)
def pdB (x : Nat) : List Int := num8 14 ++ (wPad ++ (num8 4 ++ bigL 4 x))
def pdL (x : Nat) : List Int := digL (pdB x)
def ByI (l : List Int) : Prop := ∀ x ∈ l, 0 ≤ x ∧ x < 256
def D32 (l : List Int) : Prop := l.length = 32 ∧ ByI l
def tellSl : SV → Option (Nat × Nat × Nat)
  | .sl n o len cap => if len ≤ cap ∧ cap ≤ 100000 then some (n, o, len) else none
  | _ => none
theorem tellSl_ok {ρ : Env} {ms : List Nat} {s : SV} {n o len : Nat} (h : tellSl s = some (n, o, len)) {u : Value} (hu : s.inst ρ ms = some u) : ∃ b c, ms[n]? = some b ∧ u = .slice (some ⟨b, o, none⟩) len c ∧ len ≤ c ∧ c ≤ 100000 := by
  unfold tellSl at h
  split at h
  case h_2 => cases h
  rename_i n' o' len' cap
  split at h <;> cases h
  rename_i hc
  simp only [SV.inst, Option.map_eq_some_iff] at hu
  obtain ⟨b, h1, rfl⟩ := hu
  exact ⟨b, cap, h1, rfl, hc⟩
def toldAt (H : List Blk) (s : SV) : Option (List SV) := (tellSl s).bind fun x => span H x.1 x.2.1 x.2.2
theorem toldAt_ok {ρ : Env} {ms : List Nat} {H : List Blk} {B : Nat} {w : World} (hH : Holds ρ ms H B w) {s : SV} {l : List SV} (h : toldAt H s = some l) {u : Value} (hu : s.inst ρ ms = some u) :
    ∃ (b o c : Nat) (vs : List Value), u = .slice (some ⟨b, o, none⟩) vs.length c ∧ vs.length ≤ c ∧ c ≤ 100000 ∧ l.map (SV.inst ρ ms) = vs.map some ∧ ∀ j v, vs[j]? = some v → w.cell? ⟨b, o + j, none⟩ = some v := by
  unfold toldAt at h
  rw [Option.bind_eq_some_iff] at h
  obtain ⟨⟨n, o, len⟩, h1, h2⟩ := h
  obtain ⟨b, c, hb, rfl, hc1, hc2⟩ := tellSl_ok h1 hu
  obtain ⟨vs, r1, r2, r3⟩ := span_ok ((hH.sees n).at _ _) hb h2
  dsimp only at r2
  subst r2
  exact ⟨b, o, c, vs, rfl, hc1, hc2, r1, r3⟩
def conSum (exp : List SV) (o : Nat) : ConF := fun g xs H =>
  if g = 35 then
    match xs with
    | [.tv (.sc s)] =>
      match toldAt H s with
      | some [t] => match toldAt H t with
        | some l => if l = exp ∧ hasK H = true then some (.tv (.agg ((List.range 32).map fun i => .int .u8 (.var (o + i))))) else none
        | none => none
      | _ => none
    | _ => none
  else none
theorem conSum_ok {ρ : Env} {exp : List SV} {o : Nat} {m : List Int} (hm : ByI m) (hl : m.length ≤ 1000) (hexp : ∀ ms, exp.map (SV.inst ρ ms) = (m.map (Value.int .u8)).map some) (hout : ∀ i, i < 32 → ρ.int (o + i) = (digL m).getD i 0) : ConOk Tryd.prog ρ (conSum exp o) := by
  intro g xs H v h ms B w args ha hH
  unfold conSum at h
  split at h
  case isFalse => cases h
  rename_i hg
  subst hg
  split at h
  case h_2 => cases h
  rename_i s
  split at h
  case h_2 => cases h
  rename_i t h1
  split at h
  case h_2 => cases h
  rename_i l h2
  split at h <;> cases h
  rename_i hc
  obtain ⟨rfl, hK⟩ := hc
  obtain ⟨al⟩ := args
  obtain ⟨u, rfl, hau⟩ : ∃ u, al = [u] ∧ s.inst ρ ms = some u := by
    cases al with
    | nil => simp at ha
    | cons u r =>
      cases r with
      | cons _ _ => simp at ha
      | nil =>
        simp only [List.map_cons, List.map_nil, List.cons.injEq, and_true, AV.inst, TV.inst] at ha
        exact ⟨u, rfl, ha⟩
  obtain ⟨b, off, c, vs, rfl, hc1, hc2, r1, r3⟩ := toldAt_ok hH h1 hau
  obtain ⟨u2, rfl⟩ : ∃ u2, vs = [u2] := by
    cases vs with
    | nil => simp at r1
    | cons u2 r => cases r with
      | nil => exact ⟨u2, rfl⟩
      | cons _ _ => simp at r1
  simp only [List.map_cons, List.map_nil, List.cons.injEq, and_true] at r1
  obtain ⟨b2, off2, c2, vs2, rfl, hd1, hd2, q1, q3⟩ := toldAt_ok hH h2 r1
  have e : vs2 = m.map (Value.int .u8) := by
    have := hexp ms
    rw [q1] at this
    exact List.map_inj_right (fun _ _ h => Option.some.inj h) |>.1 this
  subst e
  simp only [List.length_map] at hd1 q3 r3
  have hHB : HB w (.slice (some ⟨b2, off2, none⟩) m.length c2) m := ⟨⟨_, c2, rfl, hd1, by unfold maxLen; omega, (fun e => by cases e), fun _ => ⟨b2, off2, rfl, fun j hj => q3 j _ (by simp [List.getD, List.getElem?_eq_getElem hj])⟩⟩, hm⟩
  have hHL : HL w (.slice (some ⟨b, off, none⟩) 1 c) [m] := ⟨_, c, rfl, hc1, by unfold maxLen; omega, (fun e => by cases e), fun _ => ⟨b, off, rfl, fun j hj => by
    have hj0 : j = 0 := by simp at hj; omega
    subst hj0
    exact ⟨_, r3 0 _ rfl, hHB⟩⟩⟩
  refine (sums_any w _ [m] hHL (hasK_ok hH hK) (by simp; omega)).mono fun e w' ⟨r1, r2⟩ => ⟨_, r1, ?_, r2⟩
  simp only [AV.inst, TV.inst, List.flatten_cons, List.flatten_nil, List.append_nil]
  rw [(seqO_iff _ ((digL m).map (Value.int .u8))).2 ?_]
  · rfl
  · rw [List.map_map, List.map_map]
    refine List.ext_getElem (by simp [digL_length]) fun i h1 h2 => ?_
    have hi : i < 32 := by simpa using h1
    have hi2 : i < (digL m).length := by rw [digL_length]; exact hi
    simp only [List.getElem_map, List.getElem_range, Function.comp, SV.inst, Ex.den, hout i hi]
    simp [List.getD, List.getElem?_eq_getElem hi2]
def vI (o n : Nat) : List SV := (List.range n).map fun i => .int .u8 (.var (o + i))
def lI (l : List Int) : List SV := l.map fun x => .int .u8 (.lit x)
theorem lI_inst (ρ : Env) (ms : List Nat) (l : List Int) : (lI l).map (SV.inst ρ ms) = (l.map (Value.int .u8)).map some := by simp [lI, SV.inst, Ex.den]
theorem vI_inst (ρ : Env) (ms : List Nat) (o n : Nat) (l : List Int) (hl : l.length = n) (h : ∀ i, i < n → ρ.int (o + i) = l.getD i 0) : (vI o n).map (SV.inst ρ ms) = (l.map (Value.int .u8)).map some := by
  unfold vI
  rw [List.map_map, List.map_map]
  refine List.ext_getElem (by simp [hl]) fun i h1 h2 => ?_
  have hi : i < n := by simpa using h1
  have hi2 : i < l.length := by omega
  simp only [List.getElem_map, List.getElem_range, Function.comp, SV.inst, Ex.den, h i hi]
  simp [List.getD, List.getElem?_eq_getElem hi2]
theorem agg_inst {ρ : Env} {ms : List Nat} {s : List SV} {l : List Int} (h : s.map (SV.inst ρ ms) = (l.map (Value.int .u8)).map some) : (AV.tv (.agg s)).inst ρ ms = some (.agg (cellsB l)) := by
  simp only [AV.inst, TV.inst]
  rw [(seqO_iff _ _).2 h]
  rfl
def envN (l r : List Int) : Env := ⟨fun i => if i < 32 then l.getD i 0 else if i < 64 then r.getD (i - 32) 0 else (ndL l r).getD (i - 64) 0, fun _ => .tuple #[], fun _ _ _ => 0⟩
def expN : List SV := lI (num8 15) ++ (lI wNode ++ (lI (num8 32) ++ (vI 0 32 ++ (lI (num8 32) ++ vI 32 32))))
theorem expN_inst {l r : List Int} (hl : D32 l) (hr : D32 r) (ms : List Nat) : expN.map (SV.inst (envN l r) ms) = ((ndB l r).map (Value.int .u8)).map some := by
  unfold expN ndB
  simp only [List.map_append, lI_inst]
  rw [vI_inst (envN l r) ms 0 32 l hl.1 (fun i hi => by simp [envN, hi]), vI_inst (envN l r) ms 32 32 r hr.1 (fun i hi => by
    simp only [envN]
    rw [if_neg (by omega), if_pos (by omega), show 32 + i - 32 = i by omega])]
theorem ndB_byt {l r : List Int} (hl : D32 l) (hr : D32 r) : ByI (ndB l r) := by
  have k : ∀ l : List Int, (l.all fun x => decide (0 ≤ x ∧ x < 256)) = true → ByI l := fun l h x hx => by simpa using List.all_eq_true.1 h x hx
  have a : ∀ a b : List Int, ByI a → ByI b → ByI (a ++ b) := fun a b ha hb x hx => (List.mem_append.1 hx).elim (ha x) (hb x)
  exact a _ _ (k _ (by decide)) (a _ _ (k _ (by decide)) (a _ _ (k _ (by decide)) (a _ _ hl.2 (a _ _ (k _ (by decide)) hr.2))))
theorem node_ev : evCallF Tryd.prog noLore (conSum expN 64) 100 56 [.tv (.agg (vI 0 32)), .tv (.agg (vI 32 32))] HK = some (.tv (.agg (vI 64 32)), HK) := by kernel_rfl
theorem node_any (w : World) (l r : List Int) (hl : D32 l) (hr : D32 r) (hk : KC w) : Calls Tryd.prog 56 #[.agg (cellsB l), .agg (cellsB r)] w fun e w' => e = .returned (.agg (cellsB (ndL l r))) ∧ Below w.heap.size w w' := by
  have hcon : ConOk Tryd.prog (envN l r) (conSum expN 64) := conSum_ok (m := ndB l r) (ndB_byt hl hr) (by simp [ndB, num8, wNode, hl.1, hr.1]) (expN_inst hl hr) (fun i hi => by
    simp only [envN]
    rw [if_neg (by omega), if_neg (by omega), show 64 + i - 64 = i by omega]
    rfl)
  refine (calls_of_evHF (noLore_ok (envN l r)) hcon mixedOrders 100 node_ev (args := #[.agg (cellsB l), .agg (cellsB r)]) w ?_ (holdsK (envN l r) w hk)).mono ?_
  · simp only [List.map_cons, List.map_nil]
    rw [agg_inst (vI_inst (envN l r) ms0 0 32 l hl.1 (fun i hi => by simp [envN, hi])), agg_inst (vI_inst (envN l r) ms0 32 32 r hr.1 (fun i hi => by
      simp only [envN]
      rw [if_neg (by omega), if_pos (by omega), show 32 + i - 32 = i by omega]))]
  · rintro e w' ⟨ms, u, rfl, _, h1, _, h3⟩
    rw [agg_inst (vI_inst (envN l r) ms 64 32 (ndL l r) (digL_length _) (fun i hi => by
      simp only [envN]
      rw [if_neg (by omega), if_neg (by omega), show 64 + i - 64 = i by omega]))] at h1
    simp only [Option.some.injEq] at h1
    rw [← h1]
    exact ⟨rfl, h3⟩
def envP (x : Nat) : Env := ⟨fun i => if i = 0 then (x : Int) else (pdL x).getD (i - 1) 0, fun _ => .tuple #[], fun _ _ _ => 0⟩
def bigE : List SV := [.int .u8 (.con .u8 (.shr (.con .u64 (.var 0)) 24)), .int .u8 (.con .u8 (.shr (.con .u64 (.var 0)) 16)), .int .u8 (.con .u8 (.shr (.con .u64 (.var 0)) 8)), .int .u8 (.con .u8 (.con .u64 (.var 0)))]
def expP : List SV := lI (num8 14) ++ (lI wPad ++ (lI (num8 4) ++ bigE))
theorem bigE_inst (x : Nat) (hx : x < 4294967296) (ms : List Nat) : bigE.map (SV.inst (envP x) ms) = ((bigL 4 x).map (Value.int .u8)).map some := by
  have e0 : IntKind.u64.wrap (x : Int) = (x : Int) := by rw [IntKind.wrap_u64]; omega
  have f : ∀ k : Nat, ((x : Int).fdiv (2 ^ k)) = ((x / 2 ^ k : Nat) : Int) := fun k => by
    rw [show (2 : Int) ^ k = ((2 ^ k : Nat) : Int) by simp, Int.ofNat_fdiv]
  have g : ∀ n : Nat, IntKind.u8.wrap (n : Int) = ((n % 256 : Nat) : Int) := fun n => by rw [IntKind.wrap_u8]; rfl
  simp only [bigE, bigL, List.map_cons, List.map_nil, SV.inst, Ex.den, envP, if_pos, e0, f, g, Nat.pow_zero, Nat.div_one]
theorem expP_inst (x : Nat) (hx : x < 4294967296) (ms : List Nat) : expP.map (SV.inst (envP x) ms) = ((pdB x).map (Value.int .u8)).map some := by
  unfold expP pdB
  simp only [List.map_append, lI_inst]
  rw [bigE_inst x hx]
theorem pdB_byt (x : Nat) : ByI (pdB x) := by
  have k : ∀ l : List Int, (l.all fun x => decide (0 ≤ x ∧ x < 256)) = true → ByI l := fun l h x hx => by simpa using List.all_eq_true.1 h x hx
  have a : ∀ a b : List Int, ByI a → ByI b → ByI (a ++ b) := fun a b ha hb x hx => (List.mem_append.1 hx).elim (ha x) (hb x)
  exact a _ _ (k _ (by decide)) (a _ _ (k _ (by decide)) (a _ _ (k _ (by decide)) (bigL_byt 4 x)))
theorem pad_ev : evCallF Tryd.prog noLore (conSum expP 1) 100 16 [.tv (.sc (.int .u32 (.var 0)))] HK = some (.tv (.agg (vI 1 32)), HK) := by kernel_rfl
theorem tpad_any (w : World) (x : Nat) (hx : x < 4294967296) (hk : KC w) : Calls Tryd.prog 16 #[.int .u32 (x : Int)] w fun e w' => e = .returned (.agg (cellsB (pdL x))) ∧ Below w.heap.size w w' := by
  have hv : ∀ i, (envP x).int (1 + i) = (pdL x).getD i 0 := fun i => by
    simp only [envP]
    rw [if_neg (by omega), show 1 + i - 1 = i by omega]
  have hcon : ConOk Tryd.prog (envP x) (conSum expP 1) := conSum_ok (m := pdB x) (pdB_byt x) (by simp [pdB, num8, wPad, bigL_length]) (expP_inst x hx) (fun i _ => hv i)
  refine (calls_of_evHF (noLore_ok (envP x)) hcon mixedOrders 100 pad_ev (args := #[.int .u32 (x : Int)]) w ?_ (holdsK (envP x) w hk)).mono ?_
  · simp [AV.inst, TV.inst, SV.inst, Ex.den, envP]
  · rintro e w' ⟨ms, u, rfl, _, h1, _, h3⟩
    rw [agg_inst (vI_inst (envP x) ms 1 32 (pdL x) (digL_length _) (fun i _ => hv i))] at h1
    simp only [Option.some.injEq] at h1
    rw [← h1]
    exact ⟨rfl, h3⟩
theorem digL_byt (m : List Int) : ByI (digL m) := by
  intro x hx
  unfold digL at hx
  obtain ⟨y, _, h⟩ := List.mem_flatMap.1 hx
  exact bigL_byt _ _ x h
theorem ndL_D (l r : List Int) : D32 (ndL l r) := ⟨digL_length _, digL_byt _⟩
theorem pdL_D (x : Nat) : D32 (pdL x) := ⟨digL_length _, digL_byt _⟩
end Go.Proofs.YtokamemkfgpfpaaDoor
namespace Go.Proofs.YtokamemkfgpfpaaDoor
open Go.RowKit
def strI (s : ByteArray) : List Int := s.data.toList.map fun b => ((b.toNat : Nat) : Int)
theorem strI_length (s : ByteArray) : (strI s).length = s.size := by
  unfold strI
  rw [List.length_map, Array.length_toList]
  rfl
theorem wpList_bytes_str {ops : Array Oper} {rest : List Oper} {o : Oper} {a : Act} {w : World} {Q : Exit → Act → World → Prop} (hgd : o.guard = none) (x : Operand) (ho : o.op = .convert 9 30 x) (s : ByteArray) (hx : a.eval x = .string s) (hs : s.size ≤ 1000)
    (h : ∀ v' w', HB w' v' (strI s) → Below w.heap.size w w' → wpList Tryd.prog ops Q rest (a.put o.dst v') w') : wpList Tryd.prog ops Q (o :: rest) a w :=
  wpList_plain hgd fun _ hK => by
    have hr := run_bytes_of_string (P := Tryd.prog) w 9 30 5 s Tryd.underlying9 Tryd.underlying30 Tryd.underlying5
    unfold Oper.wp
    simp only [execOp, ho, hx, Sem.run_bind, hr, Result.andThen_ok]
    have hge := grownCap_ge w s.size 0 5
    have hle := grownCap_le_maxLen w s.size 0 5 (by unfold maxLen; omega)
    refine hK _ _ (h _ _ ⟨⟨_, _, by rw [strI_length], by rw [strI_length]; exact hge, hle, (fun e => by cases e), fun _ => ⟨w.heap.size, 0, rfl, fun j hj => ?_⟩⟩, fun x hx => ?_⟩ ((Below.refl _ w).drew.alloc (Nat.le_refl _) _))
    · have hb : (w.drew.alloc (.cells (bytesRow s (grownCap w s.size 0 5)) 5 ((bytesRow s (grownCap w s.size 0 5)).size, (bytesRow s (grownCap w s.size 0 5)).size + 1))).heap[w.heap.size]? = some (.cells (bytesRow s (grownCap w s.size 0 5)) 5 ((bytesRow s (grownCap w s.size 0 5)).size, (bytesRow s (grownCap w s.size 0 5)).size + 1)) := heap_alloc_new w.drew _
      rw [cell_of_row _ _ _ _ _ _ hb]
      have hj2 : j < s.data.size := by rw [strI_length] at hj; exact hj
      have hj3 : j < s.size := hj2
      simp [bytesRow, Array.getElem?_append, hj3, strI, List.getD, Array.getElem?_eq_getElem hj2]
    · unfold strI at hx
      obtain ⟨b, _, rfl⟩ := List.mem_map.1 hx
      have := b.toNat_lt
      omega
def snode : ByteArray := ⟨((if 6 = 6 then wNode else wPad).map fun x => UInt8.ofNat x.toNat).toArray⟩
theorem snode_strI : strI snode = if 6 = 6 then wNode else wPad := by decide
set_option maxRecDepth 100000 in
set_option maxHeartbeats 1000000 in
theorem rword_node (w : World) : Calls Tryd.prog 27 #[.int .u8 6] w fun e w' => e = .returned (.string snode) ∧ w' = w := by
  go_enter Tryd.func27, Tryd.ntmps27
  go_wp2
  go_ret
  exact ⟨rfl, rfl⟩
def spad : ByteArray := ⟨((if 7 = 6 then wNode else wPad).map fun x => UInt8.ofNat x.toNat).toArray⟩
theorem spad_strI : strI spad = if 7 = 6 then wNode else wPad := by decide
set_option maxRecDepth 100000 in
set_option maxHeartbeats 1000000 in
theorem rword_pad (w : World) : Calls Tryd.prog 27 #[.int .u8 7] w fun e w' => e = .returned (.string spad) ∧ w' = w := by
  go_enter Tryd.func27, Tryd.ntmps27
  go_wp2
  go_ret
  exact ⟨rfl, rfl⟩
set_option maxRecDepth 100000 in
set_option maxHeartbeats 1000000 in
theorem rfits_node (w : World) (v : Value) (l r : List Int) (h : HL w v [l, r]) (hl : l.length = 32) (hr : r.length = 32) : Calls Tryd.prog 41 #[.int .u8 6, v] w fun e w' => e = .returned (.bool true) ∧ w' = w := by
  obtain ⟨b, off, c, rfl, hc1, hc2, hh⟩ := h.ne (by simp)
  obtain ⟨u0, h0, hb0⟩ := hh 0 (by simp)
  obtain ⟨u1, h1, hb1⟩ := hh 1 (by simp)
  obtain ⟨p0, c0, rfl, _, _⟩ := hb0.open
  obtain ⟨p1, c1, rfl, _, _⟩ := hb1.open
  simp only [List.getD_cons_zero, List.getD_cons_succ, hl, hr, List.length_cons, List.length_nil, Nat.add_zero, Nat.zero_add, Nat.reduceAdd] at h0 h1 ⊢
  clear hh hb0 hb1 h
  go_enter Tryd.func41, Tryd.ntmps41
  go_wp2
  go_ret
  exact ⟨rfl, rfl⟩
set_option maxRecDepth 100000 in
set_option maxHeartbeats 1000000 in
theorem rfits_pad (w : World) (v : Value) (l : List Int) (h : HL w v [l]) (hl : l.length = 4) : Calls Tryd.prog 41 #[.int .u8 7, v] w fun e w' => e = .returned (.bool true) ∧ w' = w := by
  obtain ⟨b, off, c, rfl, hc1, hc2, hh⟩ := h.ne (by simp)
  obtain ⟨u0, h0, hb0⟩ := hh 0 (by simp)
  obtain ⟨p0, c0, rfl, _, _⟩ := hb0.open
  simp only [List.getD_cons_zero, List.getD_cons_succ, hl, List.length_cons, List.length_nil, Nat.add_zero, Nat.zero_add, Nat.reduceAdd] at h0 ⊢
  clear hh hb0 h
  go_enter Tryd.func41, Tryd.ntmps41
  go_wp2
  go_ret
  exact ⟨rfl, rfl⟩
def frK (wd : List Int) (ps : List (List Int)) (k : Nat) : List Int := framed (wd :: ps.take k)
theorem frK_zero (wd : List Int) (ps : List (List Int)) : frK wd ps 0 = fr1 wd := by simp [frK, framed, pcs, fr1]
theorem frK_snoc (wd : List Int) (ps : List (List Int)) (k : Nat) (hk : k < ps.length) : frK wd ps (k + 1) = frK wd ps k ++ fr1 (ps.getD k []) := by
  unfold frK framed
  rw [List.take_succ_eq_append_getElem hk]
  have e : ps.getD k [] = ps[k] := by simp [List.getD, List.getElem?_eq_getElem hk]
  rw [e]
  simp only [pcs, fr1, List.flatMap_cons, List.flatMap_append, List.flatMap_nil, List.flatten_append, List.flatten_cons, List.flatten_nil, List.append_nil, List.append_assoc, List.cons_append, List.nil_append]
theorem frK_all (wd : List Int) (ps : List (List Int)) : frK wd ps ps.length = framed (wd :: ps) := by simp [frK]
theorem frK_le (wd : List Int) (ps : List (List Int)) (k : Nat) : (frK wd ps k).length ≤ wd.length + 8 + (ps.flatten.length + 8 * ps.length) := by
  unfold frK
  rw [framed_length]
  have := flat_take_le ps k
  simp only [List.flatten_cons, List.length_append, List.length_cons, List.length_take]
  omega
theorem framed_byt : ∀ (ps : List (List Int)), (∀ l ∈ ps, ∀ x ∈ l, 0 ≤ x ∧ x < 256) → ∀ x ∈ framed ps, 0 ≤ x ∧ x < 256 := by
  intro ps h x hx
  unfold framed pcs at hx
  obtain ⟨l, h1, h2⟩ := List.mem_flatten.1 hx
  obtain ⟨q, h3, h4⟩ := List.mem_flatMap.1 h1
  simp only [List.mem_cons, List.not_mem_nil, or_false] at h4
  rcases h4 with rfl | rfl
  · exact bigL_byt _ _ x h2
  · exact h _ h3 x h2
set_option maxRecDepth 100000 in
set_option maxHeartbeats 2000000 in
theorem rbytes_node (w : World) (v : Value) (ps : List (List Int)) (h : HL w v ps) (hF : ∀ w', Below w.heap.size w w' → Calls Tryd.prog 41 #[.int .u8 6, v] w' fun e w'' => e = .returned (.bool true) ∧ w'' = w') (hbig : ps.flatten.length + 8 * ps.length ≤ 100000000000000) :
    Calls Tryd.prog 19 #[.int .u8 6, v] w fun e w' => ∃ v', e = .returned (.tuple #[v', .int .i64 0]) ∧ w'.ownsRow w.heap.size 5 1 v' (framed (strI snode :: ps)).length ((framed (strI snode :: ps)).map (Value.int .u8)) ∧ Below w.heap.size w w' := by
  have hsz : snode.size ≤ 1000 := by decide
  have hse : snode.toList.isEmpty = false := by decide +kernel
  have A0 := hid h
  obtain ⟨p, c, e, hlc, hm⟩ := h.open
  unfold maxLen at hm
  have A : Hid (0 < ps.length → ∃ b off, p = some ⟨b, off, none⟩ ∧ ∀ j, j < ps.length → ∃ u, w.cell? ⟨b, off + j, none⟩ = some u ∧ HB w u (ps.getD j [])) := by
    intro h0
    obtain ⟨b, off, c', e', _, _, hh⟩ := h.ne h0
    rw [e] at e'
    simp only [Value.slice.injEq, true_and] at e'
    exact ⟨b, off, e'.1, hh⟩
  have HF := hid hF
  obtain ⟨n, HN⟩ : ∃ n, Hid (ps.length = n) := ⟨_, rfl⟩
  have HBig := hid hbig
  rw [HN.out] at e hlc hbig
  subst e
  clear h hF
  go_enter Tryd.func19, Tryd.ntmps19
  go_wp2_with fail
  refine (rword_node _).mono ?_
  rintro e w1 ⟨rfl, rfl⟩
  go_wp2_with fail
  refine (HF.out _ (Below.refl _ _)).mono ?_
  rintro e w2 ⟨rfl, rfl⟩
  go_wp2_with fail
  refine (rword_node _).mono ?_
  rintro e w3 ⟨rfl, rfl⟩
  go_wp2_with (refine wpList_bytes_str rfl _ rfl snode rfl hsz ?_)
  intro v4 w4 hb4 hB4
  have HB4 := hid hb4
  have BL4 := hid hB4
  clear hb4 hB4
  go_wp2_with fail
  refine (rframe_any w4 v4 _ HB4.out (by rw [strI_length]; omega)).mono ?_
  rintro e w5 ⟨v5, rfl, ho5, hB5⟩
  have HO5 : Hid (w5.ownsRow w3.heap.size 5 1 v5 (frK (strI snode) ps 0).length ((frK (strI snode) ps 0).map (Value.int .u8))) := by
    rw [frK_zero]
    exact own_mono ho5 BL4.out.size
  have BL5 := hid (BL4.out.trans (hB5.mono BL4.out.size))
  clear ho5 hB5
  go_wp2
  go_loopw [6, 7] (fun o i wr => ∃ k : Nat, k ≤ n ∧ i = .int .i64 k ∧ Hid (wr.ownsRow w3.heap.size 5 1 o (frK (strI snode) ps k).length ((frK (strI snode) ps k).map (Value.int .u8))) ∧ Hid (Below w3.heap.size w3 wr)) (fun _ i _ => n - (intOf i).toNat)
  case atStart => exact ⟨0, Nat.zero_le _, rfl, HO5, BL5⟩
  case round =>
    obtain ⟨k, hk, rfl, HO, HBel⟩ := hrel
    by_cases hlt : k < n
    · obtain ⟨b, off, rfl, hh⟩ := A.out (by rw [HN.out]; omega)
      obtain ⟨u, hu0, hb⟩ := hh k (by rw [HN.out]; exact hlt)
      have hu : wr.cell? ⟨b, off + k, none⟩ = some u := (HBel.out.cell (World.block_lt_of_cell? w3 _ hu0)).trans hu0
      have HBu := hid (hb.below HBel.out)
      have hls : (ps.getD k []).length ≤ 100000000000000 := by
        have h1 := flat_take_le ps (k + 1)
        rw [flat_snoc ps k (by rw [HN.out]; exact hlt), List.length_append] at h1
        have := HBig.out
        omega
      have HS := hid (frK_snoc (strI snode) ps k (by rw [HN.out]; exact hlt))
      have HLe := hid (frK_le (strI snode) ps (k + 1))
      rw [HS.out, List.length_append, strI_length] at HLe
      clear hh hb hu0
      go_wp2_with fail
      refine (rframe_any wr u _ HBu.out (by omega)).mono ?_
      rintro e w6 ⟨v6, rfl, ho6, hB6⟩
      have HB6 : Hid (HB w6 v6 (fr1 (ps.getD k []))) := HB.of_own ho6 (fr1_byt HBu.out.2)
      have HO6 := hid (own_below HO.out hB6)
      have BL6 := hid (HBel.out.trans (hB6.mono HBel.out.size))
      clear ho6 hB6
      go_wp2_with (at_builtin; refine wpList_append_HB rfl _ _ rfl w3.heap.size _ _ _ rfl HO6.out _ _ rfl HB6.out ?q1 ?q2 ?_)
      case q1 => have := HLe.out; have := HBig.out; omega
      case q2 => exact BL6.out.size
      intro v7 w7 ho7 hg7
      have HO7 : Hid (w7.ownsRow w3.heap.size 5 1 v7 (frK (strI snode) ps (k + 1)).length ((frK (strI snode) ps (k + 1)).map (Value.int .u8))) := by
        rw [HS.out, List.length_append, List.map_append]
        exact ho7
      have BL7 : Hid (Below w3.heap.size w3 w7) := BL6.out.grown hg7 BL6.out.size (fun k e => (HO6.out.lt k e).1)
      clear ho7 hg7
      go_wp2
      exact ⟨⟨k + 1, by omega, by go_num, HO7, BL7⟩, by simp [intOf]; omega⟩
    · have hkn : k = ps.length := by rw [HN.out]; omega
      have HO8 := hid HO.out
      rw [hkn, frK_all] at HO8
      go_wp2
      go_ret2
      exact ⟨_, rfl, HO8.out, HBel.out⟩
set_option maxRecDepth 100000 in
set_option maxHeartbeats 2000000 in
theorem rbytes_pad (w : World) (v : Value) (ps : List (List Int)) (h : HL w v ps) (hF : ∀ w', Below w.heap.size w w' → Calls Tryd.prog 41 #[.int .u8 7, v] w' fun e w'' => e = .returned (.bool true) ∧ w'' = w') (hbig : ps.flatten.length + 8 * ps.length ≤ 100000000000000) :
    Calls Tryd.prog 19 #[.int .u8 7, v] w fun e w' => ∃ v', e = .returned (.tuple #[v', .int .i64 0]) ∧ w'.ownsRow w.heap.size 5 1 v' (framed (strI spad :: ps)).length ((framed (strI spad :: ps)).map (Value.int .u8)) ∧ Below w.heap.size w w' := by
  have hsz : spad.size ≤ 1000 := by decide
  have hse : spad.toList.isEmpty = false := by decide +kernel
  have A0 := hid h
  obtain ⟨p, c, e, hlc, hm⟩ := h.open
  unfold maxLen at hm
  have A : Hid (0 < ps.length → ∃ b off, p = some ⟨b, off, none⟩ ∧ ∀ j, j < ps.length → ∃ u, w.cell? ⟨b, off + j, none⟩ = some u ∧ HB w u (ps.getD j [])) := by
    intro h0
    obtain ⟨b, off, c', e', _, _, hh⟩ := h.ne h0
    rw [e] at e'
    simp only [Value.slice.injEq, true_and] at e'
    exact ⟨b, off, e'.1, hh⟩
  have HF := hid hF
  obtain ⟨n, HN⟩ : ∃ n, Hid (ps.length = n) := ⟨_, rfl⟩
  have HBig := hid hbig
  rw [HN.out] at e hlc hbig
  subst e
  clear h hF
  go_enter Tryd.func19, Tryd.ntmps19
  go_wp2_with fail
  refine (rword_pad _).mono ?_
  rintro e w1 ⟨rfl, rfl⟩
  go_wp2_with fail
  refine (HF.out _ (Below.refl _ _)).mono ?_
  rintro e w2 ⟨rfl, rfl⟩
  go_wp2_with fail
  refine (rword_pad _).mono ?_
  rintro e w3 ⟨rfl, rfl⟩
  go_wp2_with (refine wpList_bytes_str rfl _ rfl spad rfl hsz ?_)
  intro v4 w4 hb4 hB4
  have HB4 := hid hb4
  have BL4 := hid hB4
  clear hb4 hB4
  go_wp2_with fail
  refine (rframe_any w4 v4 _ HB4.out (by rw [strI_length]; omega)).mono ?_
  rintro e w5 ⟨v5, rfl, ho5, hB5⟩
  have HO5 : Hid (w5.ownsRow w3.heap.size 5 1 v5 (frK (strI spad) ps 0).length ((frK (strI spad) ps 0).map (Value.int .u8))) := by
    rw [frK_zero]
    exact own_mono ho5 BL4.out.size
  have BL5 := hid (BL4.out.trans (hB5.mono BL4.out.size))
  clear ho5 hB5
  go_wp2
  go_loopw [6, 7] (fun o i wr => ∃ k : Nat, k ≤ n ∧ i = .int .i64 k ∧ Hid (wr.ownsRow w3.heap.size 5 1 o (frK (strI spad) ps k).length ((frK (strI spad) ps k).map (Value.int .u8))) ∧ Hid (Below w3.heap.size w3 wr)) (fun _ i _ => n - (intOf i).toNat)
  case atStart => exact ⟨0, Nat.zero_le _, rfl, HO5, BL5⟩
  case round =>
    obtain ⟨k, hk, rfl, HO, HBel⟩ := hrel
    by_cases hlt : k < n
    · obtain ⟨b, off, rfl, hh⟩ := A.out (by rw [HN.out]; omega)
      obtain ⟨u, hu0, hb⟩ := hh k (by rw [HN.out]; exact hlt)
      have hu : wr.cell? ⟨b, off + k, none⟩ = some u := (HBel.out.cell (World.block_lt_of_cell? w3 _ hu0)).trans hu0
      have HBu := hid (hb.below HBel.out)
      have hls : (ps.getD k []).length ≤ 100000000000000 := by
        have h1 := flat_take_le ps (k + 1)
        rw [flat_snoc ps k (by rw [HN.out]; exact hlt), List.length_append] at h1
        have := HBig.out
        omega
      have HS := hid (frK_snoc (strI spad) ps k (by rw [HN.out]; exact hlt))
      have HLe := hid (frK_le (strI spad) ps (k + 1))
      rw [HS.out, List.length_append, strI_length] at HLe
      clear hh hb hu0
      go_wp2_with fail
      refine (rframe_any wr u _ HBu.out (by omega)).mono ?_
      rintro e w6 ⟨v6, rfl, ho6, hB6⟩
      have HB6 : Hid (HB w6 v6 (fr1 (ps.getD k []))) := HB.of_own ho6 (fr1_byt HBu.out.2)
      have HO6 := hid (own_below HO.out hB6)
      have BL6 := hid (HBel.out.trans (hB6.mono HBel.out.size))
      clear ho6 hB6
      go_wp2_with (at_builtin; refine wpList_append_HB rfl _ _ rfl w3.heap.size _ _ _ rfl HO6.out _ _ rfl HB6.out ?q1 ?q2 ?_)
      case q1 => have := HLe.out; have := HBig.out; omega
      case q2 => exact BL6.out.size
      intro v7 w7 ho7 hg7
      have HO7 : Hid (w7.ownsRow w3.heap.size 5 1 v7 (frK (strI spad) ps (k + 1)).length ((frK (strI spad) ps (k + 1)).map (Value.int .u8))) := by
        rw [HS.out, List.length_append, List.map_append]
        exact ho7
      have BL7 : Hid (Below w3.heap.size w3 w7) := BL6.out.grown hg7 BL6.out.size (fun k e => (HO6.out.lt k e).1)
      clear ho7 hg7
      go_wp2
      exact ⟨⟨k + 1, by omega, by go_num, HO7, BL7⟩, by simp [intOf]; omega⟩
    · have hkn : k = ps.length := by rw [HN.out]; omega
      have HO8 := hid HO.out
      rw [hkn, frK_all] at HO8
      go_wp2
      go_ret2
      exact ⟨_, rfl, HO8.out, HBel.out⟩
end Go.Proofs.YtokamemkfgpfpaaDoor
