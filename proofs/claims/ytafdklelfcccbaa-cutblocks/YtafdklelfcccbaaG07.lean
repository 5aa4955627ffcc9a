/- Of the road to cutBlocks_holds: CutBlkAll, CutBlkCur, CutBlkRef, CutBlkRefAll, MarksMore, LentKit, ApartF, AptL0, AptL1. -/
import Derived.Test.YtafdklelfcccbaaG06
import Derived.Test.YtafdklelfcccbaaG04
import Derived.Test.YtafdklelfcccbaaG05
import Derived.Deep.RegionHeld3
import Derived.Laws.AppendOwn
import Derived.Deep.RegionHeld
set_option linter.unusedVariables false
set_option linter.unusedSimpArgs false
namespace Go.Proofs.Ytafdklelfcccbaa
open Go Go.RowKit
def BkOk (l : List Int) (k : Int) : Prop := 1 ≤ l.length ∧ (l.length : Int) ≤ k * upI 65536 k
instance (l : List Int) (k : Int) : Decidable (BkOk l k) := by unfold BkOk; infer_instance
def bkE (l : List Int) (k : Int) : Int := if 1 ≤ k ∧ k ≤ 255 then (if BkOk l k then 0 else 91) else 3
def bkL (l : List Int) (k : Int) : List (List Int) := if (1 ≤ k ∧ k ≤ 255) ∧ BkOk l k then blL l k.toNat k.toNat else []
theorem PWD.nil (B : Nat) (w : World) : PWD B w (.slice none 0 0) [] := ⟨[], World.ownsRow_nil _ _ _ _, ⟨rfl, fun j hj => by simp at hj, fun i j hi => by simp at hi⟩, fun j hj => by simp at hj⟩
set_option maxRecDepth 100000 in
set_option maxHeartbeats 8000000 in
theorem blocks_any (w : World) (v : Value) (l : List Int) (k : Int) (hv : HB w v l) :
    Calls Try.prog 34 #[v, .int .i64 k] w fun e w' => ∃ v', e = .returned (.tuple #[v', .int .i64 (bkE l k)]) ∧ PWD w.heap.size w' v' (bkL l k) ∧ Below w.heap.size w w' := by
  by_cases hk : 1 ≤ k ∧ k ≤ 255
  · by_cases hb : BkOk l k
    · obtain ⟨kk, rfl⟩ := Int.eq_ofNat_of_zero_le (show 0 ≤ k by omega)
      have e1 : bkE l (kk : Int) = 0 := by unfold bkE; rw [if_pos hk, if_pos hb]
      have e2 : bkL l (kk : Int) = blL l kk kk := by unfold bkL; rw [if_pos ⟨hk, hb⟩, Int.toNat_natCast]
      rw [e1, e2]
      exact blocks_apt w v l kk hv (by omega) (by omega) hb.1 hb.2
    · have e1 : Hid (bkE l k = 91) := by show _ = _; unfold bkE; rw [if_pos hk, if_neg hb]
      have e2 : Hid (bkL l k = []) := by show _ = _; unfold bkL; rw [if_neg fun q => hb q.2]
      obtain ⟨hk1, hk2⟩ := hk
      obtain ⟨p, c, rfl, _, _⟩ := hv.open
      have ml := most_lt hk1 hk2
      have CM := hid fun w => most_any w k hk1 hk2
      have nb : ¬ (1 ≤ l.length ∧ (l.length : Int) ≤ k * upI 65536 k) := hb
      obtain ⟨M, HM⟩ : ∃ M, Hid (k * upI 65536 k = M) := ⟨_, rfl⟩
      rw [HM.out] at CM ml nb
      clear hv hb
      by_cases hl : l.length < 1
      · have hl' : (l.length : Int) < 1 := by omega
        go_enter Try.func34, Try.ntmps34
        go_wp2
        go_ret2
        rw [e1.out, e2.out]
        exact ⟨_, rfl, PWD.nil _ _, Below.refl _ _⟩
      · have hl' : ¬ (l.length : Int) < 1 := by omega
        have hM : M < (l.length : Int) := by omega
        clear nb
        go_enter Try.func34, Try.ntmps34
        go_wp2_with fail
        refine (CM.out w).mono ?_
        rintro e wq ⟨rfl, hwq⟩
        rw [hwq]
        clear hwq wq
        go_wp2
        go_ret2
        rw [e1.out, e2.out]
        exact ⟨_, rfl, PWD.nil _ _, Below.refl _ _⟩
  · have e1 : Hid (bkE l k = 3) := by show _ = _; unfold bkE; rw [if_neg hk]
    have e2 : Hid (bkL l k = []) := by show _ = _; unfold bkL; rw [if_neg fun q => hk q.1]
    obtain ⟨p, c, rfl, _, _⟩ := hv.open
    clear hv
    by_cases h1 : k < 1
    · clear hk
      go_enter Try.func34, Try.ntmps34
      go_wp2
      go_ret2
      rw [e1.out, e2.out]
      exact ⟨_, rfl, PWD.nil _ _, Below.refl _ _⟩
    · have h2 : 255 < k := by omega
      clear hk
      go_enter Try.func34, Try.ntmps34
      go_wp2
      go_ret2
      rw [e1.out, e2.out]
      exact ⟨_, rfl, PWD.nil _ _, Below.refl _ _⟩
def curB (pc : List Int) (u x : Nat) : List Int := pc.take x ++ List.replicate (u - x) 0
theorem curB_length {pc : List Int} {u x : Nat} (hp : pc.length = u) (hx : x ≤ u) : (curB pc u x).length = u := by simp [curB]; omega
theorem curB_step {pc : List Int} {u x : Nat} (hp : pc.length = u) (hx : x < u) : (curB pc u x).set x (pc.getD x 0) = curB pc u (x + 1) := by
  apply List.ext_getElem?
  intro i
  unfold curB
  rw [List.getElem?_set]
  by_cases h : x = i
  · subst h
    have hl : x < (pc.take x ++ List.replicate (u - x) 0).length := by simp; omega
    rw [if_pos rfl, if_pos hl, List.getElem?_append_left (by simp; omega), List.getElem?_take_of_lt (by omega)]
    simp [List.getD, List.getElem?_eq_getElem (show x < pc.length by omega)]
  · rw [if_neg h]
    by_cases hi : i < x
    · rw [List.getElem?_append_left (by simp; omega), List.getElem?_append_left (by simp; omega), List.getElem?_take_of_lt hi, List.getElem?_take_of_lt (by omega)]
    · rw [List.getElem?_append_right (by simp; omega), List.getElem?_append_right (by simp; omega), List.getElem?_replicate, List.getElem?_replicate]
      simp only [List.length_take]
      split <;> split <;> first | rfl | omega
theorem pc_get (l : List Int) (N u j x : Nat) (hx : j * u + x < N) (hxu : x < u) (hl : l.length ≤ N) (hjN : (j + 1) * u ≤ N) : (pcP (padL l N) u j).getD x 0 = if j * u + x < l.length then l.getD (j * u + x) 0 else 0 := by
  unfold pcP pcAt
  rw [padL_length hl, Nat.min_eq_left (by rw [Nat.add_mul] at hjN; omega)]
  simp only [List.getD, List.getElem?_drop]
  rw [List.getElem?_take_of_lt (by omega)]
  unfold padL
  by_cases h : j * u + x < l.length
  · rw [if_pos h, List.getElem?_append_left h]
  · rw [if_neg h, List.getElem?_append_right (by omega), List.getElem?_replicate]
    split <;> rfl
theorem curB_done {l : List Int} {N u j x : Nat} (hp : (pcP (padL l N) u j).length = u) (hl : l.length ≤ N) (hjN : (j + 1) * u ≤ N) (hx : x ≤ u) (h : x < u → l.length ≤ j * u + x) : curB (pcP (padL l N) u j) u x = pcP (padL l N) u j := by
  have hjN' : j * u + u ≤ N := by rw [Nat.add_mul] at hjN; omega
  apply List.ext_getElem?
  intro i
  unfold curB
  by_cases hi : i < x
  · rw [List.getElem?_append_left (by simp; omega), List.getElem?_take_of_lt hi]
  · rw [List.getElem?_append_right (by simp; omega), List.getElem?_replicate]
    by_cases hiu : i < u
    · have e := pc_get l N u j i (by omega) hiu hl hjN
      rw [if_neg (by have := h (by omega); omega)] at e
      rw [if_pos (by simp; omega), List.getElem?_eq_getElem (by omega)]
      simp only [List.getD, List.getElem?_eq_getElem (show i < (pcP (padL l N) u j).length by omega), Option.getD_some] at e
      rw [e]
    · rw [if_neg (by simp; omega), List.getElem?_eq_none (by omega)]
set_option maxRecDepth 100000 in
set_option maxHeartbeats 8000000 in
theorem rblocks_ok (w : World) (v : Value) (l : List Int) (k : Nat) (hv : HB w v l) (hk1 : 1 ≤ k) (hk2 : k ≤ 255) (hl1 : 1 ≤ l.length) (hl2 : (l.length : Int) ≤ (k : Int) * upI 65536 k) :
    Calls Try.prog 35 #[v, .int .i64 k] w fun e w' => ∃ v', e = .returned (.tuple #[v', .int .i64 0]) ∧ HL w' v' (blL l k k) ∧ Below w.heap.size w w' := by
  have HA := hid hv
  obtain ⟨b0, o0, c0, e0, hlc, hcm, hcell0⟩ := hv.ne (by omega)
  subst e0
  unfold maxLen at hcm
  have HC0 := hid hcell0
  clear hcell0 hv
  have ml := most_lt (k := (k : Int)) (by omega) (by omega)
  have CM := hid fun w => rup_any w 65536 (k : Int) (by decide) (by decide) (by omega) (by omega)
  obtain ⟨M, HM⟩ : ∃ M, Hid ((k : Int) * upI 65536 k = M) := ⟨_, rfl⟩
  rw [HM.out] at ml hl2
  have hM := HM.out
  have hwM : IntKind.i64.wrap M = M := wrap64 (by omega) (by omega)
  have CU := hid fun w => rup_any w (l.length : Int) (k : Int) (by omega) (by omega) (by omega) (by omega)
  rw [pcN_up hl1] at CU
  obtain ⟨u, HU⟩ : ∃ u, Hid (blU l k = u) := ⟨_, rfl⟩
  have hu1 : 1 ≤ u := by rw [← HU.out]; exact blU_pos l k
  obtain ⟨N, HN⟩ : ∃ N, Hid (k * u = N) := ⟨_, rfl⟩
  have hN1 : l.length ≤ N := by rw [← HN.out, ← HU.out]; exact blU_ge hk1 hl1
  have hN2 : N ≤ l.length + k := by rw [← HN.out, ← HU.out]; exact blU_le hk1
  have huN : u ≤ N := by rw [← HN.out]; exact Nat.le_mul_of_pos_left u hk1
  rw [show pcN l.length k = u from HU.out] at CU
  have hl0 : ¬ (l.length : Int) = 0 := by omega
  have hle : ((l.length : Int) == 0) = false := beq_eq_false_iff_ne.2 hl0
  obtain ⟨i0, hi, hz0, hz1, hz2⟩ := info_parts info_u8
  have HBL : Hid (∀ j, blL l k (j + 1) = blL l k j ++ [pcP (padL l N) u j]) := fun j => by rw [blL_succ, HU.out, HN.out]
  have HPN : Hid (∀ j, j < k → (j + 1) * u ≤ N) := fun j hj => by rw [← HN.out]; exact Nat.mul_le_mul_right u hj
  have HPL : Hid (∀ j, j < k → (pcP (padL l N) u j).length = u) := fun j hj => by
    have := HPN.out j hj
    rw [Nat.add_mul] at this
    rw [pcP_length, padL_length hN1]
    unfold pcAt
    omega
  go_enter Try.func35, Try.ntmps35
  go_wp2_with fail
  refine (CM.out w).mono ?_
  rintro e w1 ⟨rfl, hB1⟩
  have B1 := hid hB1
  clear hB1
  go_wp2_with fail
  refine (CU.out w1).mono ?_
  rintro e w2 ⟨rfl, hB2⟩
  have B2 : Hid (Below w.heap.size w w2) := B1.out.trans (hB2.mono B1.out.size)
  clear hB2 B1 hM hwM
  go_wp2
  go_loopw [7, 8] (fun o i wr => ∃ j : Nat, j ≤ k ∧ i = .int .i64 (j : Int) ∧ Hid (OWL w wr o (blL l k j)) ∧ Hid (Below w.heap.size w wr)) (fun _ i _ => k - (intOf i).toNat)
  case atStart => exact ⟨0, Nat.zero_le _, rfl, (by show OWL _ _ _ _; simpa [blL] using OWL.nil w w2), B2.out⟩
  case round =>
    clear B2
    obtain ⟨wo, hwo⟩ : ∃ wo, wo = wr := ⟨_, rfl⟩
    subst hwo
    obtain ⟨j, hj, rfl, HO, HBel⟩ := hrel
    by_cases hlt : j < k
    · obtain ⟨wb, hmk, hown, hgr⟩ := run_make_full (P := Try.prog) wo w.heap.size 22 5 i0 (.int .u8 0) 1 Try.underlying22 hi hz0 hz1 .i64 .i64 u (by rw [hz2]; omega) (by unfold maxLen; omega) HBel.out.size
      rw [made_cells] at hown
      obtain ⟨pc, HPC⟩ : ∃ pc, Hid (pcP (padL l N) u j = pc) := ⟨_, rfl⟩
      have hpl : pc.length = u := by rw [← HPC.out]; exact HPL.out j hlt
      have hjN := HPN.out j hlt
      rw [Nat.add_mul, Nat.one_mul] at hjN
      have O0 : Hid (wb.ownsRow w.heap.size 5 1 (.slice (some ⟨wo.heap.size, 0, none⟩) u u) u ((curB pc u 0).map (Value.int .u8))) := by
        show World.ownsRow _ _ _ _ _ _ _
        simpa [curB] using hown
      have BR0 : Hid (Below wo.heap.size wo wb) := (Below.refl _ wo).grown hgr (Nat.le_refl _) (fun k e => by cases e)
      obtain ⟨J, HJ⟩ : ∃ J, Hid (j * u = J) := ⟨_, rfl⟩
      have hmul : (j : Int) * (u : Int) = (J : Int) := by rw [← HJ.out]; simp
      rw [HJ.out] at hjN
      have hwJ : IntKind.i64.wrap (J : Int) = (J : Int) := wrap64 (by omega) (by omega)
      clear hown hgr
      obtain ⟨po, co, eo⟩ : ∃ p c, _ = Value.slice p (blL l k j).length c := by obtain ⟨xs, hrow, _⟩ := HO.out; exact own_slc hrow
      subst eo
      have HUK := hid hlt
      go_wp2
      go_loopw [10] (fun x wq => ∃ X : Nat, X ≤ u ∧ x = .int .i64 (X : Int) ∧ Hid (wq.ownsRow w.heap.size 5 1 (.slice (some ⟨wo.heap.size, 0, none⟩) u u) u ((curB pc u X).map (Value.int .u8))) ∧ Hid (Below wo.heap.size wo wq)) (fun x _ => u - (intOf x).toNat)
      case atStart => exact ⟨0, Nat.zero_le _, rfl, O0.out, BR0.out⟩
      case round =>
        clear O0 BR0
        obtain ⟨X, hX, rfl, OX, BX⟩ := hrel
        have BW : Hid (Below w.heap.size w wr) := HBel.out.trans (BX.out.mono HBel.out.size)
        have hwX : IntKind.i64.wrap ((J : Int) + (X : Int)) = ((J + X : Nat) : Int) := by rw [IntKind.wrap_i64]; omega
        by_cases hxx : X < u ∧ J + X < l.length
        · obtain ⟨hxu, hxl⟩ := hxx
          have hxu' : (X : Int) < (u : Int) := by omega
          have hxl' : ((J + X : Nat) : Int) < (l.length : Int) := by omega
          have q1 := (BW.out.cell (World.block_lt_of_cell? w _ (HC0.out (J + X) hxl))).trans (HC0.out (J + X) hxl)
          obtain ⟨y, HY⟩ : ∃ y, Hid (l.getD (J + X) 0 = y) := ⟨_, rfl⟩
          rw [HY.out] at q1
          have hoc := OX.out.cellAt X (by omega)
          have hof := OX.out.frozenAt X
          have hol : (curB pc u X).length = u := curB_length hpl hX
          obtain ⟨z, hz⟩ : ∃ z, ((curB pc u X).map (Value.int .u8))[X]? = some z := ⟨_, List.getElem?_eq_getElem (by simp; omega)⟩
          rw [hz] at hoc
          have OS : Hid ((wr.setCell ⟨wo.heap.size, X, none⟩ (.int .u8 y)).ownsRow w.heap.size 5 1 (.slice (some ⟨wo.heap.size, 0, none⟩) u u) u ((curB pc u (X + 1)).map (Value.int .u8))) := by
            have h2 := (OX.out.stored X (.int .u8 y)).1
            have e : y = pc.getD X 0 := by
              rw [← HPC.out, pc_get l N u j X (by rw [HJ.out]; omega) hxu hN1 (HPN.out j HUK.out), HJ.out, if_pos hxl, HY.out]
            rw [← List.map_set, e, curB_step hpl hxu] at h2
            rw [e]
            exact h2
          have BS : Hid (Below wo.heap.size wo (wr.setCell ⟨wo.heap.size, X, none⟩ (.int .u8 y))) := BX.out.setCell (Nat.le_refl _) _
          clear hz hol
          go_wp2
          exact ⟨⟨X + 1, by omega, by go_num, OS.out, BS.out⟩, by simp [intOf]; omega⟩
        · have hdone : Hid (curB pc u X = pc) := by
            rw [← HPC.out]
            exact curB_done (HPL.out j HUK.out) hN1 (HPN.out j HUK.out) hX (fun h => by rw [HJ.out]; omega)
          have hcond : (decide ((X : Int) < (u : Int)) && decide (((J + X : Nat) : Int) < (l.length : Int))) = false := by
            simp; omega
          rw [hdone.out] at OX
          have hBLl : (blL l k j).length = j := blL_length l k j
          have hal : Below wr.heap.size wr (wr.alloc (.cells #[.slice (some ⟨wo.heap.size, 0, none⟩) u u] 22)) := (Below.refl _ _).alloc (Nat.le_refl _) _
          have HO3 := hid ((HO.out.below BX.out).below hal)
          have HE3 : Hid (EL w (wr.alloc (.cells #[.slice (some ⟨wo.heap.size, 0, none⟩) u u] 22)) (.slice (some ⟨wo.heap.size, 0, none⟩) u u) pc) :=
            .inl ⟨by rw [hpl]; exact OX.out.alloc _, by rw [← HPC.out]; exact pcP_byt (padL_byt (N := N) HA.out.2) u j⟩
          have HB3 := hid (BW.out.trans (hal.mono BW.out.size))
          clear hal hcond
          by_cases hxu : X < u
          · have hxu' : (X : Int) < (u : Int) := by omega
            have hxl' : ¬ ((J + X : Nat) : Int) < (l.length : Int) := by omega
            go_wp2_with (at_builtin; refine wpList_append_OWL (w0 := w) rfl _ _ rfl _ _ rfl HO3.out ⟨wr.heap.size, 0, none⟩ 1 1 [_] [pc] rfl rfl rfl (cell_one_new _ _ _) ?q1 ?q2 ?q3 ?q4 ?_)
            case q1 => exact HE3.out
            case q2 => rfl
            case q3 => have := hBLl; omega
            case q4 => have := BW.out.size; omega
            intro v' w4 hO4 hg4 hbk
            have HO4 : Hid (OWL w w4 v' (blL l k (j + 1))) := by rw [HBL.out, HPC.out]; exact hO4
            have HB4 := hid (HB3.out.grown hg4 HB3.out.size (fun k e => (hbk k e).1))
            clear hO4 hg4 hbk
            go_wp2
            exact ⟨⟨j + 1, by omega, by go_num, HO4, HB4⟩, by simp [intOf]; omega⟩
          · have hxu' : ¬ (X : Int) < (u : Int) := by omega
            go_wp2_with (at_builtin; refine wpList_append_OWL (w0 := w) rfl _ _ rfl _ _ rfl HO3.out ⟨wr.heap.size, 0, none⟩ 1 1 [_] [pc] rfl rfl rfl (cell_one_new _ _ _) ?q1 ?q2 ?q3 ?q4 ?_)
            case q1 => exact HE3.out
            case q2 => rfl
            case q3 => have := hBLl; omega
            case q4 => have := BW.out.size; omega
            intro v' w4 hO4 hg4 hbk
            have HO4 : Hid (OWL w w4 v' (blL l k (j + 1))) := by rw [HBL.out, HPC.out]; exact hO4
            have HB4 := hid (HB3.out.grown hg4 HB3.out.size (fun k e => (hbk k e).1))
            clear hO4 hg4 hbk
            go_wp2
            exact ⟨⟨j + 1, by omega, by go_num, HO4, HB4⟩, by simp [intOf]; omega⟩
    · have hjk : j = k := by omega
      have HF := hid (HO.out.hl HBel.out)
      rw [hjk] at HF
      have hlt' : ¬ (j : Int) < (k : Int) := by omega
      clear hjk
      go_wp2
      go_ret2
      exact ⟨_, rfl, HF.out, HBel.out⟩
set_option maxRecDepth 100000 in
set_option maxHeartbeats 8000000 in
theorem rblocks_any (w : World) (v : Value) (l : List Int) (k : Int) (hv : HB w v l) :
    Calls Try.prog 35 #[v, .int .i64 k] w fun e w' => ∃ v', e = .returned (.tuple #[v', .int .i64 (bkE l k)]) ∧ HL w' v' (bkL l k) ∧ Below w.heap.size w w' := by
  by_cases hk : 1 ≤ k ∧ k ≤ 255
  · by_cases hb : BkOk l k
    · obtain ⟨kk, rfl⟩ := Int.eq_ofNat_of_zero_le (show 0 ≤ k by omega)
      have e1 : bkE l (kk : Int) = 0 := by unfold bkE; rw [if_pos hk, if_pos hb]
      have e2 : bkL l (kk : Int) = blL l kk kk := by unfold bkL; rw [if_pos ⟨hk, hb⟩, Int.toNat_natCast]
      rw [e1, e2]
      exact rblocks_ok w v l kk hv (by omega) (by omega) hb.1 hb.2
    · have e1 : Hid (bkE l k = 91) := by show _ = _; unfold bkE; rw [if_pos hk, if_neg hb]
      have e2 : Hid (bkL l k = []) := by show _ = _; unfold bkL; rw [if_neg fun q => hb q.2]
      obtain ⟨hk1, hk2⟩ := hk
      obtain ⟨p, c, rfl, _, _⟩ := hv.open
      have ml := most_lt hk1 hk2
      have CM := hid fun w => rup_any w 65536 k (by decide) (by decide) (by omega) (by omega)
      have nb : ¬ (1 ≤ l.length ∧ (l.length : Int) ≤ k * upI 65536 k) := hb
      obtain ⟨M, HM⟩ : ∃ M, Hid (k * upI 65536 k = M) := ⟨_, rfl⟩
      rw [HM.out] at ml nb
      have hM0 := HM.out
      have hwM : IntKind.i64.wrap M = M := wrap64 (by omega) (by omega)
      clear hv hb
      by_cases hl : l.length < 1
      · have hl' : ((l.length : Int) == 0) = true := by rw [beq_iff_eq]; omega
        go_enter Try.func35, Try.ntmps35
        go_wp2
        go_ret2
        rw [e1.out, e2.out]
        exact ⟨_, rfl, HL.nil _, Below.refl _ _⟩
      · have hl' : ((l.length : Int) == 0) = false := beq_eq_false_iff_ne.2 (by omega)
        have hM : M < (l.length : Int) := by omega
        clear nb
        go_enter Try.func35, Try.ntmps35
        go_wp2_with fail
        refine (CM.out w).mono ?_
        rintro e wq ⟨rfl, hwq⟩
        have BQ := hid hwq
        clear hwq
        go_wp2
        go_ret2
        rw [e1.out, e2.out]
        exact ⟨_, rfl, HL.nil _, BQ.out⟩
  · have e1 : Hid (bkE l k = 3) := by show _ = _; unfold bkE; rw [if_neg hk]
    have e2 : Hid (bkL l k = []) := by show _ = _; unfold bkL; rw [if_neg fun q => hk q.1]
    obtain ⟨p, c, rfl, _, _⟩ := hv.open
    clear hv
    by_cases h1 : k < 1
    · clear hk
      go_enter Try.func35, Try.ntmps35
      go_wp2
      go_ret2
      rw [e1.out, e2.out]
      exact ⟨_, rfl, HL.nil _, Below.refl _ _⟩
    · have h2 : 255 < k := by omega
      clear hk
      go_enter Try.func35, Try.ntmps35
      go_wp2
      go_ret2
      rw [e1.out, e2.out]
      exact ⟨_, rfl, HL.nil _, Below.refl _ _⟩
end Go.Proofs.Ytafdklelfcccbaa
namespace Go.Proofs.Ytafdklelfcccbaa
open Go.RowKit
set_option maxHeartbeats 1000000 in
theorem over_byt (w : World) (B : Nat) (v : Value) (l : List Int) (h : w.ownsRow B 5 1 v l.length (l.map (Value.int .u8))) (hl : ∀ x ∈ l, 0 ≤ x ∧ x < 256) (hn : l.length ≤ 140737488355328) :
    Calls Try.prog 30 #[v] w fun e w' => e = .returned (.tuple #[]) ∧ (∃ l' : List Int, l'.length = l.length ∧ (∀ x ∈ l', 0 ≤ x ∧ x < 256) ∧ w'.ownsRow B 5 1 v l.length (l'.map (Value.int .u8))) ∧ w.grownBy w' v.ownBlock := by
  obtain ⟨n, hnl⟩ : ∃ n, n = l.length := ⟨_, rfl⟩
  rw [← hnl] at h hn ⊢
  rcases h.2 with ⟨rfl, h0⟩ | ⟨g, cap, cur, rfl, hbg, hg, hnc, hcm, hcs, htake⟩
  · subst h0
    clear hnl h
    go_enter Try.func30, Try.ntmps30
    go_wp2
    go_loop [2] (fun i => i = .int .i64 0) (fun _ => 0)
    case atStart => rfl
    case round =>
      subst hrel
      go_wp2
      go_end0
      exact ⟨rfl, World.ownsRow_nil _ _ _ _, ⟨rfl, rfl, rfl, Nat.le_refl _, fun _ _ _ => rfl⟩⟩
  · have HO : Hid (∃ l' : List Int, l'.length = n ∧ (∀ x ∈ l', 0 ≤ x ∧ x < 256) ∧ w.ownsRow B 5 1 (.slice (some ⟨g, 0, none⟩) n cap) n (l'.map (Value.int .u8))) := ⟨l, hnl.symm, hl, h⟩
    clear h hg htake hcs hbg hl hnl
    unfold maxLen at hcm
    go_enter Try.func30, Try.ntmps30
    go_wp2
    go_loopw [2] (fun i wr => ∃ k : Nat, k ≤ n ∧ i = .int .i64 k ∧ Hid (∃ l' : List Int, l'.length = n ∧ (∀ x ∈ l', 0 ≤ x ∧ x < 256) ∧ wr.ownsRow B 5 1 (.slice (some ⟨g, 0, none⟩) n cap) n (l'.map (Value.int .u8))) ∧ Hid (w.grownBy wr (some g))) (fun i _ => n - (intOf i).toNat)
    case atStart => exact ⟨0, Nat.zero_le _, rfl, HO, ⟨rfl, rfl, rfl, Nat.le_refl _, fun _ _ _ => rfl⟩⟩
    case round =>
      clear HO
      obtain ⟨k, hk, rfl, HY, HG⟩ := hrel
      by_cases hlt : k < n
      · obtain ⟨l', hl', hby', hy⟩ := HY.out
        have hc := hy.cellAt k (by omega)
        have hfz := hy.frozenAt k
        obtain ⟨z, hz⟩ : ∃ z, (l'.map (Value.int .u8))[k]? = some z := ⟨_, List.getElem?_eq_getElem (by rw [List.length_map]; omega)⟩
        rw [hz] at hc
        have HYY := hid hy
        have HL' := hid hl'
        have HBY := hid hby'
        clear hz hy hl' hby' HY
        go_wp2_with fail
        have e1 : ((k : Int) + 3) = ((k + 3 : Nat) : Int) := by omega
        rw [e1]
        refine (mark_any wr 7 (k + 3) (by omega) (by omega)).mono ?_
        rintro e wz ⟨rfl, hw⟩
        have hw' := hw.symm
        subst hw'
        clear hw e1
        go_wp2
        refine ⟨⟨k + 1, by omega, by go_num, ⟨l'.set k (mkB 7 (k + 3)), by rw [List.length_set]; exact HL'.out, fun x hx => ?_, by rw [List.map_set]; exact (HYY.out.stored k _).1⟩, ⟨HG.out.os, HG.out.tape, HG.out.output, by simpa using HG.out.size, fun i hi hne => by
          rw [heap_setCell_other _ _ _ _ (fun e => hne (by simp [e]))]
          exact HG.out.block i hi hne⟩⟩, by simp [intOf]; omega⟩
        rcases List.mem_or_eq_of_mem_set hx with h1 | h1
        · exact HBY.out x h1
        · rw [h1]; exact mkB_byt _ _
      · go_wp2
        go_end0
        exact ⟨rfl, HY.out, HG.out⟩
end Go.Proofs.Ytafdklelfcccbaa
namespace Go.Proofs.Ytafdklelfcccbaa
open Go Go.RowKit
theorem HV.three (w : World) (a b c : Value) : HV (w.alloc (.cells #[a, b, c] 22)) (.slice (some ⟨w.heap.size, 0, none⟩) 3 3) [a, b, c] := by
  refine ⟨_, _, rfl, by simp, by decide, fun _ => ⟨w.heap.size, 0, rfl, ⟨_, _, heap_alloc_new w _⟩, fun k hk => ?_⟩⟩
  match k, hk with
  | 0, _ => simp
  | 1, _ => simp
  | 2, _ => simp
theorem lent_part {w : World} {B : Nat} {v : Value} {l : List Int} (h : w.ownsRow B 5 1 v (lent l).length ((lent l).map (Value.int .u8))) (hby : ∀ x ∈ l, 0 ≤ x ∧ x < 256) :
    ∃ g c, v = .slice (some ⟨g, 0, none⟩) (l.length + 70) c ∧ B ≤ g ∧ g < w.heap.size ∧ l.length + 70 ≤ c ∧ c ≤ 9223372036854775807 ∧ HB w (.slice (some ⟨g, 0, none⟩) l.length c) l ∧ HB w (.slice (some ⟨g, 0, none⟩) (l.length + 70) c) (lent l) := by
  have hf := HB.of_own h (lent_byt hby)
  have hll := lent_length l
  rcases h.2 with ⟨_, e0⟩ | ⟨g, cap, cur, rfl, hb, hh, hn, hm, _⟩
  · omega
  · unfold maxLen at hm
    refine ⟨g, cap, by rw [hll], hb, (Array.getElem?_eq_some_iff.1 hh).1, by omega, hm, ?_, by rw [hll] at hf; exact hf⟩
    have h3 := hf.sliced 0 l.length cap (Nat.zero_le _) (by omega) (by omega) (Nat.le_refl _)
    rw [lent_take] at h3
    have e : (if cap = 0 then (some (⟨g, 0, none⟩ : Addr)) else (some (⟨g, 0, none⟩ : Addr)).map (·.add 0)) = some ⟨g, 0, none⟩ := by
      split
      · rfl
      · simp [Addr.add]
    rw [e] at h3
    simpa using h3
theorem own_pre {w : World} {B g n c : Nat} {l : List Int} (h : w.ownsRow B 5 1 (.slice (some ⟨g, 0, none⟩) n c) l.length (l.map (Value.int .u8))) (hl : ∀ x ∈ l, 0 ≤ x ∧ x < 256) (m : Nat) (hm : m ≤ l.length) (hmc : m ≤ c) : HB w (.slice (some ⟨g, 0, none⟩) m c) (l.take m) := by
  have hf := HB.of_own h hl
  obtain ⟨p, c', e, h1, h2⟩ := hf.open
  simp only [Value.slice.injEq] at e
  obtain ⟨rfl, rfl, rfl⟩ := e
  have h3 := hf.sliced 0 m c (Nat.zero_le _) hm (by omega) (Nat.le_refl _)
  have e : (if c = 0 then (some (⟨g, 0, none⟩ : Addr)) else (some (⟨g, 0, none⟩ : Addr)).map (·.add 0)) = some ⟨g, 0, none⟩ := by
    split
    · rfl
    · simp [Addr.add]
  rw [e] at h3
  simpa using h3
theorem own_other {w w' : World} {B n g : Nat} {e : TypeId} {v : Value} {xs : List Value} (h : w.ownsRow B e 1 v n xs) (hg : w.grownBy w' (some g)) (hb : g < B) : w'.ownsRow B e 1 v n xs :=
  h.kept hg (by
    rcases none_or v.ownBlock with q | q
    · exact .inl q
    · exact .inr fun e => by have := (h.lt g e).1; omega)
theorem HB.other {w w' : World} {u : Value} {l : List Int} {g : Nat} (h : HB w u l) (hg : w.grownBy w' (some g)) (hr : u.ownBlock = none ∨ u.ownBlock ≠ some g) : HB w' u l := h.away hg hr
end Go.Proofs.Ytafdklelfcccbaa
namespace Go.Proofs.Ytafdklelfcccbaa
open Go.RowKit
structure BF (B : Nat) (w w' : World) : Prop where
  bel : Below B w w'
  typ : ∀ (b : Nat) (cs : Array Value) (T : TypeId) (fz : Nat × Nat), w.heap[b]? = some (.cells cs T fz) → T ≠ 5 → w'.heap[b]? = w.heap[b]?
theorem BF.refl (B : Nat) (w : World) : BF B w w := ⟨Below.refl _ _, fun _ _ _ _ _ _ => rfl⟩
theorem BF.size {B : Nat} {w w' : World} (h : BF B w w') : w.heap.size ≤ w'.heap.size := h.bel.size
theorem BF.drew {B : Nat} {w w' : World} (h : BF B w w') : BF B w w'.drew := ⟨h.bel.drew, h.typ⟩
theorem BF.alloc {B : Nat} {w w' : World} (h : BF B w w') (hB : B ≤ w'.heap.size) (o : Obj) : BF B w (w'.alloc o) :=
  ⟨h.bel.alloc hB o, fun b cs T fz q n => (heap_alloc_old w' o (Nat.lt_of_lt_of_le (Array.getElem?_eq_some_iff.1 q).1 h.size)).trans (h.typ b cs T fz q n)⟩
theorem BF.setCell {B : Nat} {w w' : World} (h : BF B w w') {g i : Nat} (hp : B ≤ g) (u : Value) (hT : BT w' g 5) : BF B w (w'.setCell ⟨g, i, none⟩ u) :=
  ⟨h.bel.setCell hp u, fun b cs T fz q n => by
    have e := h.typ b cs T fz q n
    rw [← e]
    obtain ⟨cur, f2, hh⟩ := hT
    have : g ≠ b := fun x => by
      rw [← x] at q e
      rw [e, q] at hh
      simp only [Option.some.injEq, Obj.cells.injEq] at hh
      exact n hh.2.1
    simp [World.setCell, Array.getElem?_modify, this]⟩
theorem BF.grown {B : Nat} {w w' w2 : World} {row : Option Nat} (h : BF B w w') (hg : w'.grownBy w2 row) (hB : B ≤ w'.heap.size) (hr : ∀ k, row = some k → B ≤ k) (hT : ∀ k, row = some k → BT w' k 5 ∨ w.heap.size ≤ k) : BF B w w2 :=
  ⟨h.bel.grown hg hB hr, fun b cs T fz q n => by
    have e := h.typ b cs T fz q n
    have hb := (Array.getElem?_eq_some_iff.1 q).1
    rw [← e]
    refine hg.block b (Nat.lt_of_lt_of_le hb h.size) (fun x => ?_)
    rcases hT b x.symm with ⟨cur, f2, hh⟩ | h2
    · rw [e, q] at hh
      simp only [Option.some.injEq, Obj.cells.injEq] at hh
      exact n hh.2.1
    · omega⟩
set_option maxHeartbeats 4000000 in
theorem apart_anyF (B : Nat) (w : World) (v : Value) (us : List Value) (ls : List (List Int)) (hv : HV w v us) (ha : Apt B w us ls) (hB : B ≤ w.heap.size) (hn : us.length ≤ 5864062014634) (hls : ∀ k, (ls.getD k []).length ≤ 140737488351232) :
    Calls Try.prog 31 #[v] w fun e w' => e = .returned (.bool true) ∧ BF B w w' := by
  obtain ⟨p, c, e, hlc, hm, hcell⟩ := id hv
  unfold maxLen at hm
  subst e
  have A : Hid (0 < us.length → ∃ b off, p = some ⟨b, off, none⟩) := fun h0 => by
    obtain ⟨b, off, e, _⟩ := hcell (by intro e; subst e; simp at h0)
    exact ⟨b, off, e⟩
  have HV0 := hid hv
  have HA0 := hid (Ph1.start ha)
  have HLS := hid hls
  clear hcell hv ha hls
  go_enter Try.func31, Try.ntmps31
  go_wp2
  go_loopw [3] (fun k wr => ∃ K : Nat, K ≤ us.length ∧ k = .int .i64 K ∧ Hid (Ph1 B wr us ls K 0) ∧ Hid (HV wr (.slice p us.length c) us) ∧ Hid (BF B w wr)) (fun k _ => us.length - (intOf k).toNat)
  case atStart => exact ⟨0, Nat.zero_le _, rfl, HA0, HV0, BF.refl _ _⟩
  case round =>
    clear HA0 HV0
    obtain ⟨K, hK, rfl, HP, HVr, HBr⟩ := hrel
    by_cases hlt : K < us.length
    · obtain ⟨b, off, rfl⟩ := A.out (by omega)
      have hcells : Hid (∀ wz, HV wz (.slice (some ⟨b, off, none⟩) us.length c) us → wz.cell? ⟨b, off + K, none⟩ = some (us.getD K undef)) := by
        intro wz hz
        obtain ⟨p', c', e', _, _, h4⟩ := hz
        obtain ⟨b', off', e2, _, hc⟩ := h4 (by intro e; subst e; simp at hlt)
        simp only [Value.slice.injEq, true_and] at e'
        rw [← e'.1] at e2
        simp only [Option.some.injEq, Addr.mk.injEq, and_true] at e2
        obtain ⟨rfl, rfl⟩ := e2
        exact hc K hlt
      obtain ⟨n, HN⟩ : ∃ n, Hid ((ls.getD K []).length = n) := ⟨_, rfl⟩
      have hn2 : n ≤ 140737488351232 := by rw [← HN.out]; exact HLS.out K
      obtain ⟨pk, ck, HU⟩ : ∃ pk ck, Hid (us.getD K undef = .slice pk n ck) := by
        obtain ⟨pk, ck, e⟩ := HP.out.slice K hlt
        rw [HN.out] at e
        exact ⟨pk, ck, e⟩
      go_wp2
      go_loopw [4] (fun i wz => ∃ I : Nat, I ≤ n ∧ i = .int .i64 I ∧ Hid (Ph1 B wz us ls K I) ∧ Hid (HV wz (.slice (some ⟨b, off, none⟩) us.length c) us) ∧ Hid (BF B w wz)) (fun i _ => n - (intOf i).toNat)
      case atStart => exact ⟨0, Nat.zero_le _, rfl, HP, HVr, HBr⟩
      case round =>
        clear HP HVr HBr
        obtain ⟨I, hI, rfl, HP, HVr, HBr⟩ := hrel
        have hc1 := hcells.out wr HVr.out
        rw [HU.out] at hc1
        by_cases hli : I < n
        · obtain ⟨g, ck', e, hck, hck2, hgB, hBT, hcc⟩ := HP.out.some K hlt (by rw [HN.out]; omega)
          rw [HU.out, HN.out] at e
          simp only [Value.slice.injEq, true_and] at e
          obtain ⟨rfl, rfl⟩ := e
          obtain ⟨⟨z, hz⟩, hfz⟩ := hcc I (by rw [HN.out]; exact hli)
          rw [HN.out] at hck2
          unfold maxLen at hck
          have HBT := hid hBT
          have hgb : b ≠ g := (HVr.out.block (by omega)).ne hBT (by decide)
          have hbg : g ≠ b := Ne.symm hgb
          clear hcc hBT
          go_wp2
          go_region_held3 (fun w' => w'.cell? ⟨b, off + K, none⟩ = some (.slice (some ⟨g, 0, none⟩) n ck)) (go_keep) ((go_at_call 38; refine (mark_eq _ (K + 1) I _ _ (wrap_succ K (by omega)) rfl (by omega) (by omega)).mono ?_; rintro e wz ⟨rfl, hw⟩; have hw' := hw.symm; subst hw'; clear hw))
          have hst := HP.out.step hlt (by rw [HN.out]; exact hli) HU.out
          have HP2 := hid hst.1.drew
          have HV2 := hid (HVr.out.grown hst.2 (fun g' e => by cases e; exact HBT.out)).drew
          have HB2 := hid (HBr.out.setCell (g := g) (i := I) hgB (.int .u8 (mkB (K + 1) I)) HBT.out).drew
          clear hst
          go_wp2
          exact ⟨⟨I + 1, by omega, by go_num, HP2, HV2, HB2⟩, by simp [intOf]; omega⟩
        · have HP2 := hid (HP.out.next (by rw [HN.out]; omega))
          go_wp2
          exact ⟨⟨K + 1, by omega, by go_num, HP2, HVr, HBr⟩, by simp [intOf]; omega⟩
    · have hKn : K = us.length := by omega
      have HPl : Hid (Pool B wr us ls 0 0 []) := by
        have := HP.out
        rw [hKn] at this
        exact this.pool
      obtain ⟨N, HN⟩ : ∃ N, Hid (wr.heap.size = N) := ⟨_, rfl⟩
      have HNu : Hid (∀ j b, j < us.length → (us.getD j undef).ownBlock = some b → b < N) := fun j b hj hb => by rw [← HN.out]; exact (HPl.out.2.1.2.1 j b hj hb).1
      have HNv : Hid (∀ b off n c', Value.slice p us.length c = .slice (some ⟨b, off, none⟩) n c' → 0 < us.length → b < N) := fun b off n c' e h0 => by
        rw [← HN.out]
        have h1 := HVr.out
        rw [e] at h1
        obtain ⟨cur, fz, hh⟩ := h1.block h0
        exact (Array.getElem?_eq_some_iff.1 hh).1
      have HNW : Hid (w.heap.size ≤ N) := by rw [← HN.out]; exact HBr.out.size
      have HNB : Hid (B ≤ N) := by rw [← HN.out]; exact Nat.le_trans hB HBr.out.size
      have HNs : Hid (N ≤ wr.heap.size) := by rw [HN.out]; exact Nat.le_refl N
      clear HP hKn HN
      go_wp2
      go_loopw [5, 6] (fun gs k wz => ∃ (K : Nat) (gl : List Value), K ≤ us.length ∧ k = .int .i64 K ∧ Hid (Pool B wz us ls K K gl) ∧ Hid (wz.ownsRow N 22 1 gs K gl) ∧ Hid (HV wz (.slice p us.length c) us) ∧ Hid (BF B w wz) ∧ Hid (N ≤ wz.heap.size)) (fun _ k _ => us.length - (intOf k).toNat)
      case atStart => exact ⟨0, [], Nat.zero_le _, rfl, HPl, World.ownsRow_nil _ _ _ _, HVr, HBr, HNs⟩
      case round =>
        clear HPl HVr HBr HNs hlt hK
        obtain ⟨K, gl, hK, rfl, HP, HG, HVr, HBr, HNs⟩ := hrel
        by_cases hlt : K < us.length
        · obtain ⟨b, off, rfl⟩ := A.out (by omega)
          obtain ⟨n, HNn⟩ : ∃ n, Hid ((ls.getD K []).length = n) := ⟨_, rfl⟩
          have hn2 : n ≤ 140737488351232 := by rw [← HNn.out]; exact HLS.out K
          obtain ⟨pk, ck, HU⟩ : ∃ pk ck, Hid (us.getD K undef = .slice pk n ck) := by
            obtain ⟨pk, ck, e⟩ := HP.out.2.1.2.2 K hlt
            rw [HNn.out] at e
            exact ⟨pk, ck, e⟩
          have hc1 := HVr.out.cellAt K hlt
          rw [HU.out] at hc1
          have HC := hid (Cur.start HP.out hlt)
          rw [HU.out] at HC
          go_wp2
          go_loopw [7, 8] (fun g i wz => ∃ m : Nat, m ≤ 70 ∧ i = .int .i64 m ∧ Hid (Cur B wz us ls K gl g m) ∧ Hid (wz.ownsRow N 22 1 u5 K gl) ∧ Hid (HV wz (.slice (some ⟨b, off, none⟩) us.length c) us) ∧ Hid (BF B w wz) ∧ Hid (N ≤ wz.heap.size)) (fun _ i _ => 70 - (intOf i).toNat)
          case atStart => exact ⟨0, Nat.zero_le _, rfl, HC, HG, HVr, HBr, HNs⟩
          case round =>
            clear HC HG HVr HBr HNs hc1
            obtain ⟨m, hm70, rfl, HC, HG, HVr, HBr, HNs⟩ := hrel
            have hc1 := HVr.out.cellAt K hlt
            rw [HU.out] at hc1
            by_cases hlm : m < 70
            · have hlm2 : (m : Int) < 70 := by omega
              go_wp2_with fail
              refine (mark_eq wr (K + 1) (n + m) _ _ (by omega) (by omega) (by omega) (by omega)).mono ?_
              rintro e wz ⟨rfl, hw⟩
              have hw' := hw.symm
              subst hw'
              clear hw
              have HCa := hid (HC.out.alloc hlt (.cells #[.int .u8 (mkB (K + 1) (n + m))] 5))
              have HO := HCa.out.2.1
              rw [HNn.out] at HO
              have HOh := hid HO
              clear HO
              go_wp2_with (at_builtin; refine wpList_append_byte rfl _ _ rfl B _ (n + m) _ rfl HOh.out ⟨wr.heap.size, 0, none⟩ 1 (mkB (K + 1) (n + m)) rfl (by simp) ?q1 ?q2 ?_)
              case q1 => omega
              case q2 => have := HBr.out.size; simp; omega
              intro g' w2 hown2 hgr2 hd2
              have hBT := own_BT HOh.out
              have hal := World.grownBy_alloc wr (.cells #[.int .u8 (mkB (K + 1) (n + m))] 5) none
              have HC2 := hid (HCa.out.step hlt (by rw [HNn.out]; exact hown2) hgr2 (by rw [World.size_alloc]; exact hd2))
              have HG2 : Hid (w2.ownsRow N 22 1 u5 K gl) := by
                have h1 := HG.out.alloc (.cells #[.int .u8 (mkB (K + 1) (n + m))] 5)
                refine h1.kept hgr2 ?_
                cases hx : u7.ownBlock with
                | none => cases hy : u5.ownBlock <;> simp
                | some q =>
                  obtain ⟨cur, fz, hh⟩ := hBT q hx
                  exact .inr (own_block_ne h1 hh (by decide))
              have HV2 := hid ((HVr.out.grown hal (fun g e => by cases e)).grown hgr2 hBT)
              have HB2 := hid ((HBr.out.alloc (Nat.le_trans hB HBr.out.size) (.cells #[.int .u8 (mkB (K + 1) (n + m))] 5)).grown hgr2 (by have := HBr.out.size; simp; omega) (fun k e => (HOh.out.lt k e).1) (fun k e => .inl (hBT k e)))
              have HN2 : Hid (N ≤ w2.heap.size) := by have h1 := hgr2.size; have h2 := HNs.out; simp at h1; exact Nat.le_trans h2 (by omega)
              clear hown2 hgr2 hd2 hBT hal
              go_wp2
              exact ⟨⟨m + 1, by omega, by go_num, HC2, HG2, HV2, HB2, HN2⟩, by simp [intOf]; omega⟩
            · have e70 : m = 70 := by omega
              subst e70
              have HPn := hid (HC.out.finish hlt)
              have HOg := HC.out.2.1
              rw [HNn.out] at HOg
              obtain ⟨pg, cg, eg, _, _⟩ : ∃ pg cg, u7 = .slice pg (n + 70) cg ∧ True ∧ True := by
                rcases HOg.2 with ⟨_, e⟩ | ⟨g', cap, cur, e, _⟩
                · omega
                · exact ⟨_, _, e, trivial, trivial⟩
              subst eg
              obtain ⟨i0, hi, hz0, hz1, hz2⟩ := info_parts info_bytes
              have HGa := hid (HG.out.alloc (.cells #[.slice pg (n + 70) cg] 22))
              have hal := World.grownBy_alloc wr (.cells #[.slice pg (n + 70) cg] 22) none
              have tr : ∀ x : Option Nat, x = none ∨ x ≠ none := fun x => by cases x <;> simp
              have HPa := hid (HPn.out.grown hal (fun i _ => tr _) (fun j _ _ => tr _) (by omega))
              have HVa := hid (HVr.out.grown hal (fun g e => by cases e))
              have HBa := hid (HBr.out.alloc (Nat.le_trans hB HBr.out.size) (.cells #[.slice pg (n + 70) cg] 22))
              clear HOg tr hal
              go_wp2_with (at_builtin; refine wpList_append_own _ rfl _ _ 48 rfl N 22 i0 (.slice none 0 0) 1 24 Try.underlying48 hi hz0 hz1 hz2 rfl (by decide) _ K gl rfl HGa.out ⟨wr.heap.size, 0, none⟩ 1 1 [_] rfl rfl (cell_one_new _ _ _) ?q1 ?q2 ?q3 ?q4 ?_)
              case q1 => intro u hu; simp only [List.mem_singleton] at hu; subst hu; rfl
              case q2 => unfold maxLen; omega
              case q3 => omega
              case q4 => have := HNs.out; simp; omega
              intro gs' w2 hown2 hgr2 _
              have hlo : ∀ g, u5.ownBlock = some g → N ≤ g := fun g e => (HGa.out.lt g e).1
              have HP2 : Hid (Pool B w2 us ls (K + 1) (K + 1) (gl ++ [.slice pg (n + 70) cg])) := by
                refine HPa.out.grown hgr2 (fun i hi => ?_) (fun j hj _ => ?_) (by omega)
                · cases hx : u5.ownBlock with
                  | none => cases hy : ((gl ++ [Value.slice pg (n + 70) cg]).getD i undef).ownBlock <;> simp
                  | some q =>
                    obtain ⟨cur, fz, hh⟩ := own_BT HGa.out q hx
                    exact .inr (own_block_ne (HPa.out.2.2.1 i hi).1 hh (by decide))
                · cases hx : (us.getD j undef).ownBlock with
                  | none => exact .inl rfl
                  | some q =>
                    right
                    intro e
                    have h1 := HNu.out j q hj hx
                    have h2 := hlo q e.symm
                    omega
              have HV2 := hid (HVa.out.apart hgr2 hlo HNv.out)
              have HB2 := hid (HBa.out.grown hgr2 (by have := HBr.out.size; simp; omega) (fun k e => Nat.le_trans HNB.out (hlo k e)) (fun k e => .inr (Nat.le_trans HNW.out (hlo k e))))
              have HG2 : Hid (w2.ownsRow N 22 1 gs' (K + 1) (gl ++ [.slice pg (n + 70) cg])) := hown2
              have HN2 : Hid (N ≤ w2.heap.size) := by have h1 := hgr2.size; have h2 := HNs.out; simp at h1; exact Nat.le_trans h2 (by omega)
              clear hown2 hgr2 hlo
              go_wp2
              exact ⟨⟨K + 1, _, by omega, by go_num, HP2, HG2, HV2, HB2, HN2⟩, by simp [intOf]; omega⟩
        · have hKn : K = us.length := by omega
          subst hKn
          obtain ⟨pg, cg, eg⟩ : ∃ pg cg, u5 = .slice pg us.length cg := by
            rcases HG.out.2 with ⟨e, e2⟩ | ⟨g', cap, cur, e, _⟩
            · exact ⟨none, 0, by rw [e, e2]⟩
            · exact ⟨_, _, e⟩
          subst eg
          go_wp2
          go_loop [9] (fun k => ∃ Q : Nat, Q ≤ us.length ∧ k = .int .i64 Q) (fun k => us.length - (intOf k).toNat)
          case atStart => exact ⟨0, Nat.zero_le _, rfl⟩
          case round =>
            obtain ⟨Q, hQ, rfl⟩ := hrel
            by_cases hlq : Q < us.length
            · obtain ⟨b, off, rfl⟩ := A.out (by omega)
              obtain ⟨n, HNn⟩ : ∃ n, Hid ((ls.getD Q []).length = n) := ⟨_, rfl⟩
              have hn2 : n ≤ 140737488351232 := by rw [← HNn.out]; exact HLS.out Q
              have hc1 := HVr.out.cellAt Q hlq
              obtain ⟨hrow, hu⟩ := HP.out.2.2.1 Q hlq
              rw [HNn.out] at hrow hu
              obtain ⟨pk, ck, HU⟩ : ∃ pk ck, Hid (us.getD Q undef = .slice pk n ck) := by
                obtain ⟨pk, ck, e⟩ := HP.out.2.1.2.2 Q hlq
                rw [HNn.out] at e
                exact ⟨pk, ck, e⟩
              rw [HU.out] at hc1 hu
              obtain ⟨gg, capg, eg, _, hcg1, hcg2, hgc⟩ := ownsRow_cells HG.out (by omega)
              simp only [Value.slice.injEq, true_and] at eg
              obtain ⟨rfl, rfl⟩ := eg
              have hgl : gl.length = us.length := HP.out.1
              have hc2 := hgc Q (gl.getD Q undef) (by simp [List.getD, List.getElem?_eq_getElem (show Q < gl.length by omega)])
              rw [Nat.zero_add] at hc2
              obtain ⟨gq, capq, eq, _, hq1, hq2, hqc⟩ := ownsRow_cells hrow (by omega)
              rw [eq] at hc2
              have HQ : Hid (∀ I, I < n + 70 → wr.cell? ⟨gq, I, none⟩ = some (.int .u8 (mkB (Q + 1) I))) := fun I hI => by
                have hjl : I < (marksL (Q + 1) (n + 70)).length := by rw [marksL_length]; exact hI
                have := hqc I (.int .u8 (mkB (Q + 1) I)) (by rw [List.getElem?_map, List.getElem?_eq_getElem hjl, ← getD_of_lt hjl, marksL_getD _ _ _ hI]; rfl)
                rwa [Nat.zero_add] at this
              have HUc : Hid (∀ I, I < n → ∃ b' off', pk = some ⟨b', off', none⟩ ∧ wr.cell? ⟨b', off' + I, none⟩ = some (.int .u8 (mkB (Q + 1) I)) ∧ n ≤ ck) := fun I hI => by
                obtain ⟨b', off', c', e, h1, h2, hh⟩ := hu.ne (by rw [marksL_length]; omega)
                rw [marksL_length] at e hh h1
                simp only [Value.slice.injEq, true_and] at e
                obtain ⟨rfl, rfl⟩ := e
                have := hh I hI
                rw [marksL_getD _ _ _ hI] at this
                exact ⟨b', off', rfl, this, h1⟩
              unfold maxLen at hcg2 hq2
              clear hrow hu hgc hqc eq hgl
              go_wp2
              go_loop [10] (fun i => ∃ I : Nat, I ≤ n + 70 ∧ i = .int .i64 I) (fun i => n + 70 - (intOf i).toNat)
              case atStart => exact ⟨0, Nat.zero_le _, rfl⟩
              case round =>
                obtain ⟨I, hI, rfl⟩ := hrel
                by_cases hli : I < n + 70
                · have hx1 := HQ.out I hli
                  have hli2 : (I : Int) < (n : Int) + 70 := by omega
                  go_wp2_with fail
                  refine (mark_eq wr (Q + 1) I _ _ (by omega) rfl (by omega) (by omega)).mono ?_
                  rintro e wz ⟨rfl, hw⟩
                  have hw' := hw.symm
                  subst hw'
                  clear hw
                  obtain ⟨x, HX⟩ : ∃ x, Hid (mkB (Q + 1) I = x) := ⟨_, rfl⟩
                  rw [HX.out] at hx1 ⊢
                  have hxx : (x != x) = false := by simp
                  by_cases hln : I < n
                  · have hdn : decide ((I : Int) < (n : Int)) = true := by simp; omega
                    have hln2 : (I : Int) < (n : Int) := by omega
                    obtain ⟨b', off', rfl, hx2, _⟩ := HUc.out I hln
                    rw [HX.out] at hx2
                    go_wp2
                    exact ⟨⟨I + 1, by omega, by go_num⟩, by simp [intOf]; omega⟩
                  · have hdn : decide ((I : Int) < (n : Int)) = false := by simp; omega
                    go_wp2
                    exact ⟨⟨I + 1, by omega, by go_num⟩, by simp [intOf]; omega⟩
                · have hli2 : ¬ ((I : Int) < (n : Int) + 70) := by omega
                  go_wp2
                  exact ⟨⟨Q + 1, by omega, by go_num⟩, by simp [intOf]; omega⟩
            · go_wp2
              go_ret
              exact ⟨rfl, HBr.out⟩
abbrev TE : TypeId := 22
theorem own_atL {w : World} {B n : Nat} {e : TypeId} {v : Value} {xs : List Value} (h : w.ownsRow B e 1 v n xs) {b : Nat} (hb : v.ownBlock = some b) : b < w.heap.size ∧ B ≤ b ∧ ∃ cs, w.heap[b]? = some (.cells cs e (0, 0)) := by
  rcases h.2 with ⟨rfl, _⟩ | ⟨g, cap, cur, rfl, hB, hh, _⟩
  · cases hb
  · cases hb
    exact ⟨(Array.getElem?_eq_some_iff.1 hh).1, hB, _, hh⟩
theorem own_ofL {w w' : World} {B n : Nat} {e : TypeId} {v : Value} {xs : List Value} (h : w.ownsRow B e 1 v n xs) (hk : ∀ b, v.ownBlock = some b → w'.heap[b]? = w.heap[b]?) : w'.ownsRow B e 1 v n xs := by
  refine ⟨h.1, ?_⟩
  rcases h.2 with q | ⟨g, cap, cur, rfl, hB, hh, r⟩
  · exact .inl q
  · exact .inr ⟨g, cap, cur, rfl, hB, (hk g rfl).trans hh, r⟩
theorem own_slcL {w : World} {B n : Nat} {e : TypeId} {v : Value} {xs : List Value} (h : w.ownsRow B e 1 v n xs) : ∃ p c, v = .slice p n c := by
  rcases h.2 with ⟨rfl, rfl⟩ | ⟨g, cap, cur, rfl, _⟩
  · exact ⟨_, _, rfl⟩
  · exact ⟨_, _, rfl⟩
theorem info_elL : (Try.prog.info? 22).map (fun i => (i.zero, i.size, i.bytes)) = some (some (.slice none 0 0), 1, 24) := by kernel_rfl
theorem info_ellL : (Try.prog.info? 48).map (fun i => (i.zero, i.size, i.bytes)) = some (some (.slice none 0 0), 1, 24) := by kernel_rfl
theorem run_appL (w : World) (base : Nat) (ty : TypeId) (v : Value) (n : Nat) (xs : List Value) (hown : w.ownsRow base TE 1 v n xs) (a : Addr) (c : Nat) (x : Value) (h1x : x.oneCell' = true) (hx : w.cell? a = some x) (hn : n + 1 ≤ 5000000000000) (hbase : base ≤ w.heap.size) :
    ∃ v' w', (Builtin.append_ #[48, 48] ty #[v, .slice (some a) 1 c]).run Try.prog w = .ok v' w' ∧ w'.ownsRow base TE 1 v' (n + 1) (xs ++ [x]) ∧ w.grownBy w' v.ownBlock ∧
      ((∃ g cap, v = .slice (some ⟨g, 0, none⟩) n cap ∧ v' = .slice (some ⟨g, 0, none⟩) (n + 1) cap) ∨ (v'.ownBlock = some w.heap.size ∧ w.grownBy w' none)) := by
  obtain ⟨i0, hi, hz0, hz1, hz2⟩ := info_parts info_elL
  have hnews : ∀ j u, [x][j]? = some u → w.cell? (a.add j) = some u := by
    intro j u hj
    match j, hj with
    | 0, hj => simp at hj; subst hj; simpa [Addr.add] using hx
  have h1 : ∀ u ∈ [x], u.oneCell' = true := by intro u hu; simp at hu; subst hu; exact h1x
  obtain ⟨v', w', hr, h2, h3, _⟩ := run_append_own (P := Try.prog) w base 48 ty TE i0 (.slice none 0 0) 1 24 Try.underlying48 hi hz0 hz1 hz2 rfl (by decide) v n xs hown a 1 c [x] rfl hnews h1 (by unfold maxLen; omega) (by omega) hbase
  refine ⟨v', w', hr, h2, h3, ?_⟩
  rcases hown.2 with ⟨rfl, rfl⟩ | ⟨g, cap, cur, rfl, hbg, hg, hnc, hcm, hcs, htake⟩
  · have hr2 := run_append_nil (P := Try.prog) w 48 ty TE i0 (.slice none 0 0) Try.underlying48 hi hz0 a 1 c [x] (by rw [hz1]; rfl) hnews (by omega) (by omega) (by rw [hz2]; omega)
    rw [hr] at hr2
    simp only [Result.ok.injEq] at hr2
    obtain ⟨rfl, rfl⟩ := hr2
    exact .inr ⟨rfl, ⟨rfl, rfl, rfl, by simp, fun k hk _ => heap_alloc_old w.drew _ hk⟩⟩
  · by_cases hroom : n + 1 ≤ cap
    · obtain ⟨w2, hr2, _⟩ := run_append_fits (P := Try.prog) w base 48 ty TE i0 1 Try.underlying48 hi hz1 g n cap xs hown a 1 c [x] rfl hnews h1 hroom
      rw [hr] at hr2
      simp only [Result.ok.injEq] at hr2
      obtain ⟨rfl, rfl⟩ := hr2
      exact .inl ⟨g, cap, rfl, rfl⟩
    · have hr2 := run_append_grow (P := Try.prog) w 48 ty TE i0 (.slice none 0 0) Try.underlying48 hi hz0 ⟨g, 0, none⟩ n cap xs (by rw [hz1]; exact hown.1) (hown.cells (g := g) rfl) a 1 c [x] (by rw [hz1]; rfl) hnews (by omega) (by omega) (growslice_fits (by omega) (by rw [hz2]; omega))
      rw [hr] at hr2
      simp only [Result.ok.injEq] at hr2
      obtain ⟨rfl, rfl⟩ := hr2
      exact .inr ⟨rfl, ⟨rfl, rfl, rfl, by simp, fun k hk _ => heap_alloc_old w.drew _ hk⟩⟩
theorem wp_appL {w : World} {o : Oper} {a : Act} {K : Act → World → Prop} {Q : Exit → Act → World → Prop} (s x : Operand)
    (ho : o.op = .call { callee := .builtin .append, args := #[s, x], argTypes := #[48, 48] })
    (base : Nat) (v : Value) (n : Nat) (xs : List Value) (hs : a.eval s = v) (hown : w.ownsRow base TE 1 v n xs)
    (ad : Addr) (c : Nat) (y : Value) (hx : a.eval x = .slice (some ad) 1 c) (h1 : y.oneCell' = true) (hy : w.cell? ad = some y) (hn : n + 1 ≤ 5000000000000) (hbase : base ≤ w.heap.size)
    (h : ∀ v' w', w'.ownsRow base TE 1 v' (n + 1) (xs ++ [y]) → w.grownBy w' v.ownBlock → ((∃ g cap, v = .slice (some ⟨g, 0, none⟩) n cap ∧ v' = .slice (some ⟨g, 0, none⟩) (n + 1) cap) ∨ (v'.ownBlock = some w.heap.size ∧ w.grownBy w' none)) → K (a.put o.dst v') w') : o.wp Try.prog a w K Q := by
  obtain ⟨v', w', hr, h2, h3, h4⟩ := run_appL w base o.type v n xs hown ad c y h1 hy hn hbase
  unfold Oper.wp execOp
  simp only [ho, resolve, invoke, builtin, Sem.run_bind, Sem.run_pure, Result.andThen_ok, List.map_toArray, List.map_cons, List.map_nil, hs, hx, hr]
  exact h v' w' h2 h3 h4
theorem wpList_appL {w : World} {ops : Array Oper} {rest : List Oper} {o : Oper} {a : Act} {Q : Exit → Act → World → Prop} (hgd : o.guard = none) (s x : Operand)
    (ho : o.op = .call { callee := .builtin .append, args := #[s, x], argTypes := #[48, 48] })
    (base : Nat) (v : Value) (n : Nat) (xs : List Value) (hs : a.eval s = v) (hown : w.ownsRow base TE 1 v n xs)
    (ad : Addr) (c : Nat) (y : Value) (hx : a.eval x = .slice (some ad) 1 c) (h1 : y.oneCell' = true) (hy : w.cell? ad = some y) (hn : n + 1 ≤ 5000000000000) (hbase : base ≤ w.heap.size)
    (h : ∀ v' w', w'.ownsRow base TE 1 v' (n + 1) (xs ++ [y]) → w.grownBy w' v.ownBlock → ((∃ g cap, v = .slice (some ⟨g, 0, none⟩) n cap ∧ v' = .slice (some ⟨g, 0, none⟩) (n + 1) cap) ∨ (v'.ownBlock = some w.heap.size ∧ w.grownBy w' none)) → wpList Try.prog ops Q rest (a.put o.dst v') w') : wpList Try.prog ops Q (o :: rest) a w :=
  wpList_plain hgd fun K hK => wp_appL s x ho base v n xs hs hown ad c y hx h1 hy hn hbase fun v' w' q1 q2 q3 => hK _ _ (h v' w' q1 q2 q3)
def HVL (w : World) (v : Value) (us : List Value) : Prop :=
  ∃ (p : Option Addr) (c : Nat), v = .slice p us.length c ∧ us.length ≤ c ∧ c ≤ maxLen ∧
    (us ≠ [] → ∃ b off, p = some ⟨b, off, none⟩ ∧ (∃ cs, w.heap[b]? = some (.cells cs 48 (0, 0))) ∧ ∀ k, k < us.length → w.cell? ⟨b, off + k, none⟩ = some (us.getD k undef))
def mkA (k j : Nat) : Array Value := #[.int .u8 ((k : Int) % 256), .int .u8 ((j : Int) % 256), .int .u8 ((j : Int) / 256 % 256)]
def mkLs (k j : Nat) : List Int := [(k : Int) % 256, (j : Int) % 256, (j : Int) / 256 % 256]
def Mkd (w : World) (u : Value) (k j : Nat) : Prop := ∃ b, u = .slice (some ⟨b, 0, none⟩) 3 3 ∧ w.heap[b]? = some (.cells (mkA k j) 5 (0, 0))
theorem Mkd.hb {w : World} {u : Value} {k j : Nat} (h : Mkd w u k j) : HB w u (mkLs k j) := by
  obtain ⟨b, rfl, hb⟩ := h
  refine ⟨⟨_, 3, rfl, Nat.le_refl _, by unfold maxLen; omega, (fun e => by cases e), fun _ => ⟨b, 0, rfl, fun i hi => ?_⟩⟩, fun x hx => ?_⟩
  · rw [cell_of_row _ _ _ _ _ _ hb]
    match i, hi with
    | 0, _ => rfl
    | 1, _ => rfl
    | 2, _ => rfl
  · simp only [mkLs, List.mem_cons, List.not_mem_nil, or_false] at hx
    rcases hx with rfl | rfl | rfl <;> omega
def KT (w w' : World) : Prop := ∀ (b : Nat) (cs : Array Value), w.heap[b]? = some (.cells cs 5 (0, 0)) → w'.heap[b]? = w.heap[b]?
theorem Mkd.keep {w w' : World} {u : Value} {k j : Nat} (h : Mkd w u k j) (hk : KT w w') : Mkd w' u k j := by
  obtain ⟨b, e, hb⟩ := h
  exact ⟨b, e, (hk b _ hb).trans hb⟩
theorem KT.refl (w : World) : KT w w := fun _ _ _ => rfl
theorem KT.trans {a b c : World} (h : KT a b) (h2 : KT b c) : KT a c := fun x cs q => by
  have e := h x cs q
  rw [← e]
  exact h2 x cs (e.trans q)
theorem KT.below {w w' : World} (h : Below w.heap.size w w') : KT w w' := fun b cs q => h.block b (Array.getElem?_eq_some_iff.1 q).1
theorem KT.grown {w w' : World} {row : Option Nat} (hg : w.grownBy w' row) (hr : ∀ b, row = some b → ∃ cs T, w.heap[b]? = some (.cells cs T (0, 0)) ∧ T ≠ 5) : KT w w' := fun b cs q => hg.block b (Array.getElem?_eq_some_iff.1 q).1 (fun e => by
  obtain ⟨cs', T, q1, q2⟩ := hr b e.symm
  rw [q] at q1
  simp only [Option.some.injEq, Obj.cells.injEq] at q1
  exact q2 q1.2.1.symm)
def RowI (B : Nat) (w : World) (v : Value) (n k i : Nat) : Prop := ∃ xs : List Value, w.ownsRow B TE 1 v n xs ∧ ∀ j, j < i → j < n → Mkd w (xs.getD j undef) k j
theorem RowI.keep {B : Nat} {w w' : World} {v : Value} {n k i : Nat} (h : RowI B w v n k i) (hk : KT w w') (hb : ∀ b, v.ownBlock = some b → w'.heap[b]? = w.heap[b]?) : RowI B w' v n k i := by
  obtain ⟨xs, h1, h2⟩ := h
  exact ⟨xs, own_ofL h1 hb, fun j hj hn => (h2 j hj hn).keep hk⟩
theorem RowI.less {B : Nat} {w : World} {v : Value} {n k i i' : Nat} (h : RowI B w v n k i) (hi : i' ≤ i) : RowI B w v n k i' := by
  obtain ⟨xs, h1, h2⟩ := h
  exact ⟨xs, h1, fun j hj hn => h2 j (by omega) hn⟩
theorem RowI.pre {B : Nat} {w : World} {g n n' c k : Nat} (h : RowI B w (.slice (some ⟨g, 0, none⟩) n c) n k n) (hn : n' ≤ n) : RowI B w (.slice (some ⟨g, 0, none⟩) n' c) n' k n' := by
  obtain ⟨xs, h1, h2⟩ := h
  have hl : xs.length = n := by have := h1.1; omega
  refine ⟨xs.take n', ?_, fun j hj _ => ?_⟩
  · rcases h1.2 with ⟨e, _⟩ | ⟨g', cap, cur, e, hB, hh, hnc, hcm, hcs, htk⟩
    · cases e
    · simp only [Value.slice.injEq, Option.some.injEq, Addr.mk.injEq, and_true, true_and] at e
      obtain ⟨rfl, rfl⟩ := e
      refine ⟨by simp; omega, .inr ⟨_, _, cur, rfl, hB, hh, by omega, hcm, hcs, ?_⟩⟩
      rw [← htk, List.take_take]
      congr 1
      omega
  · have e : (xs.take n').getD j undef = xs.getD j undef := by simp [List.getD, List.getElem?_take, hj]
    rw [e]
    exact h2 j (by omega) (by omega)
theorem HVL.at {w : World} {v : Value} {us : List Value} (h : HVL w v us) {b off n c : Nat} (e : v = .slice (some ⟨b, off, none⟩) n c) {k : Nat} (hk : k < us.length) : w.cell? ⟨b, off + k, none⟩ = some (us.getD k undef) := by
  obtain ⟨p, c', e', _, _, h4⟩ := h
  obtain ⟨b', off', e2, _, hc⟩ := h4 (by intro x; subst x; simp at hk)
  rw [e] at e'
  simp only [Value.slice.injEq] at e'
  rw [← e'.1] at e2
  simp only [Option.some.injEq, Addr.mk.injEq, and_true] at e2
  obtain ⟨rfl, rfl⟩ := e2
  exact hc k hk
theorem HVL.keep {w w' : World} {v : Value} {us : List Value} (h : HVL w v us) (hk : ∀ (b : Nat) (cs : Array Value), w.heap[b]? = some (.cells cs 48 (0, 0)) → w'.heap[b]? = w.heap[b]?) : HVL w' v us := by
  obtain ⟨p, c, e, h1, h2, h4⟩ := h
  refine ⟨p, c, e, h1, h2, fun hne => ?_⟩
  obtain ⟨b, off, e2, ⟨cs, hb⟩, hc⟩ := h4 hne
  have e3 := hk b cs hb
  refine ⟨b, off, e2, ⟨cs, e3.trans hb⟩, fun k hk' => ?_⟩
  rw [← hc k hk']
  exact World.cell?_of_block e3
theorem HVL.below {w w' : World} {v : Value} {us : List Value} (h : HVL w v us) (hb : Below w.heap.size w w') : HVL w' v us := h.keep fun b cs q => hb.block b (Array.getElem?_eq_some_iff.1 q).1
def cntL (ns : List Nat) (k i k' : Nat) : Nat := if k' < k then ns.getD k' 0 else if k' = k then i else 0
structure P3 (B : Nat) (w0 w : World) (v : Value) (us : List Value) (ns : List Nat) (k i : Nat) : Prop where
  hv : HVL w v us
  row : ∀ k', k' < us.length → RowI B w (us.getD k' undef) (ns.getD k' 0) k' (cntL ns k i k')
  bel : Below B w0 w
def DisU (us : List Value) : Prop := ∀ i j, i < us.length → j < us.length → i ≠ j → (us.getD i undef).ownBlock = none ∨ (us.getD i undef).ownBlock ≠ (us.getD j undef).ownBlock
theorem u8w (k : Int) : IntKind.u8.wrap k = k % 256 := by rw [IntKind.wrap_u8]
theorem quo256 (i : Nat) : Int.tdiv (i : Int) 256 = (i : Int) / 256 := by
  rw [Int.tdiv_eq_ediv_of_nonneg (by omega)]
theorem P3.step {B : Nat} {w0 w : World} {v : Value} {us : List Value} {ns : List Nat} {k i g c : Nat} (h : P3 B w0 w v us ns k i) (hd : DisU us) (hk : k < us.length) (hi : i < ns.getD k 0) (hu : us.getD k undef = .slice (some ⟨g, 0, none⟩) (ns.getD k 0) c) (hB : B ≤ w.heap.size) :
    P3 B w0 ((w.alloc (.cells (mkA k i) 5)).setCell ⟨g, i, none⟩ (.slice (some ⟨w.heap.size, 0, none⟩) 3 3)) v us ns k (i + 1) := by
  obtain ⟨W1, HW1⟩ : ∃ W : World, w.alloc (.cells (mkA k i) 5) = W := ⟨_, rfl⟩
  have b1 : Below w.heap.size w W1 := by rw [← HW1]; exact (Below.refl _ w).alloc (Nat.le_refl _) _
  have hmk : Mkd W1 (.slice (some ⟨w.heap.size, 0, none⟩) 3 3) k i := ⟨_, rfl, by rw [← HW1]; exact heap_alloc_new w _⟩
  rw [HW1]
  have r1 : ∀ k', k' < us.length → RowI B W1 (us.getD k' undef) (ns.getD k' 0) k' (cntL ns k i k') := fun k' hk' => by
    obtain ⟨xs, q1, q2⟩ := h.row k' hk'
    exact RowI.keep ⟨xs, q1, q2⟩ (KT.below b1) (fun b hb => b1.block b (own_atL q1 hb).1)
  obtain ⟨xs, q1, q2⟩ := r1 k hk
  rw [hu] at q1
  obtain ⟨_, hgB, cs, hg⟩ := own_atL q1 (b := g) rfl
  obtain ⟨s1, s2⟩ := q1.stored i (.slice (some ⟨w.heap.size, 0, none⟩) 3 3)
  have kt : KT W1 (W1.setCell ⟨g, i, none⟩ (.slice (some ⟨w.heap.size, 0, none⟩) 3 3)) := KT.grown s2 (fun b e => by cases e; exact ⟨cs, _, hg, by decide⟩)
  refine ⟨(h.hv.below b1).keep (fun b cs' q => s2.block b (Array.getElem?_eq_some_iff.1 q).1 (fun e => by
      cases e
      rw [hg] at q
      simp only [Option.some.injEq, Obj.cells.injEq] at q
      exact absurd q.2.1 (by decide))), fun k' hk' => ?_, (h.bel.trans (b1.mono hB)).setCell hgB _⟩
  by_cases e : k' = k
  · subst e
    rw [hu]
    refine ⟨_, s1, fun j hj hn => ?_⟩
    have hc : cntL ns k' (i + 1) k' = i + 1 := by simp [cntL]
    rw [hc] at hj
    have hxl : xs.length = ns.getD k' 0 := by have := q1.1; omega
    by_cases ej : j = i
    · subst ej
      have : (xs.set j (.slice (some ⟨w.heap.size, 0, none⟩) 3 3)).getD j undef = .slice (some ⟨w.heap.size, 0, none⟩) 3 3 := by simp [List.getD, show j < xs.length by omega]
      rw [this]
      exact hmk.keep kt
    · have : (xs.set i (.slice (some ⟨w.heap.size, 0, none⟩) 3 3)).getD j undef = xs.getD j undef := by simp [List.getD, List.getElem?_set, show i ≠ j from fun x => ej x.symm]
      rw [this]
      exact (q2 j (by simp [cntL]; omega) hn).keep kt
  · have ec : cntL ns k (i + 1) k' = cntL ns k i k' := by simp [cntL, e]
    rw [ec]
    refine (r1 k' hk').keep kt (fun b hb => ?_)
    obtain ⟨ys, y1, _⟩ := r1 k' hk'
    refine s2.block b (own_atL y1 hb).1 (fun x => ?_)
    rcases hd k' k hk' hk e with z | z
    · rw [z] at hb; cases hb
    · rw [hb, hu] at z
      exact z x
theorem P3.next {B : Nat} {w0 w : World} {v : Value} {us : List Value} {ns : List Nat} {k i : Nat} (h : P3 B w0 w v us ns k i) (hi : ns.getD k 0 ≤ i) : P3 B w0 w v us ns (k + 1) 0 := by
  refine ⟨h.hv, fun k' hk' => ?_, h.bel⟩
  have hr0 := h.row k' hk'
  by_cases e : k' < k + 1
  · have e1 : cntL ns (k + 1) 0 k' = ns.getD k' 0 := by simp [cntL, e]
    rw [e1]
    by_cases e2 : k' < k
    · have e3 : cntL ns k i k' = ns.getD k' 0 := by simp [cntL, e2]
      rw [e3] at hr0
      exact hr0
    · obtain rfl : k' = k := by omega
      have e3 : cntL ns k' i k' = i := by simp [cntL]
      rw [e3] at hr0
      exact hr0.less hi
  · have e1 : cntL ns (k + 1) 0 k' = 0 := by simp [cntL]; omega
    rw [e1]
    exact hr0.less (Nat.zero_le _)
structure P4 (B : Nat) (w0 w : World) (v : Value) (us : List Value) (ns : List Nat) (k : Nat) (gl : List Value) : Prop where
  hv : HVL w v us
  len : gl.length = k
  row : ∀ k', k' < us.length → RowI B w (us.getD k' undef) (ns.getD k' 0) k' (ns.getD k' 0)
  big : ∀ k', k' < k → RowI B w (gl.getD k' undef) (ns.getD k' 0 + 70) k' (ns.getD k' 0 + 70)
  dis : ∀ k' j, k' < k → k ≤ j → j < us.length → (gl.getD k' undef).ownBlock = none ∨ (gl.getD k' undef).ownBlock ≠ (us.getD j undef).ownBlock
  bel : Below B w0 w
structure P5 (B : Nat) (w0 w : World) (v : Value) (us : List Value) (ns : List Nat) (k : Nat) (gl : List Value) (x : Value) (m : Nat) : Prop where
  hv : HVL w v us
  len : gl.length = k
  oth : ∀ k', k' < us.length → k' ≠ k → RowI B w (us.getD k' undef) (ns.getD k' 0) k' (ns.getD k' 0)
  big : ∀ k', k' < k → RowI B w (gl.getD k' undef) (ns.getD k' 0 + 70) k' (ns.getD k' 0 + 70)
  dis : ∀ k' j, k' < k → k ≤ j → j < us.length → (gl.getD k' undef).ownBlock = none ∨ (gl.getD k' undef).ownBlock ≠ (us.getD j undef).ownBlock
  bel : Below B w0 w
  cur : RowI B w x (ns.getD k 0 + m) k (ns.getD k 0 + m)
  own : (∃ g c, us.getD k undef = .slice (some ⟨g, 0, none⟩) (ns.getD k 0) c ∧ x = .slice (some ⟨g, 0, none⟩) (ns.getD k 0 + m) c) ∨ ((x.ownBlock = none ∨ x.ownBlock ≠ (us.getD k undef).ownBlock) ∧ RowI B w (us.getD k undef) (ns.getD k 0) k (ns.getD k 0))
  apu : ∀ j, j < us.length → j ≠ k → x.ownBlock = none ∨ x.ownBlock ≠ (us.getD j undef).ownBlock
  apg : ∀ k', k' < k → x.ownBlock = none ∨ x.ownBlock ≠ (gl.getD k' undef).ownBlock
theorem P4.start {B : Nat} {w0 w : World} {v : Value} {us : List Value} {ns : List Nat} (h : P3 B w0 w v us ns us.length 0) : P4 B w0 w v us ns 0 [] :=
  ⟨h.hv, rfl, fun k' hk' => by have := h.row k' hk'; simpa [cntL, hk'] using this, fun k' hk' => by omega, fun k' j hk' => by omega, h.bel⟩
theorem P5.start {B : Nat} {w0 w : World} {v : Value} {us : List Value} {ns : List Nat} {k : Nat} {gl : List Value} (h : P4 B w0 w v us ns k gl) (hd : DisU us) (hk : k < us.length) : P5 B w0 w v us ns k gl (us.getD k undef) 0 := by
  have hr := h.row k hk
  refine ⟨h.hv, h.len, fun k' q _ => h.row k' q, h.big, h.dis, h.bel, hr, ?_, fun j hj hne => hd k j hk hj (Ne.symm hne), fun k' hk' => ?_⟩
  · obtain ⟨xs, q1, _⟩ := hr
    rcases q1.2 with ⟨e, _⟩ | ⟨g, cap, cur, e, _⟩
    · exact .inr ⟨.inl (by rw [e]; rfl), h.row k hk⟩
    · exact .inl ⟨g, cap, e, e⟩
  · rcases h.dis k' k hk' (Nat.le_refl _) hk with q | q
    · cases q2 : (us.getD k undef).ownBlock with
      | none => exact .inl rfl
      | some b => exact .inr (by rw [q]; intro e; cases e)
    · exact .inr fun e => q e.symm
theorem P5.below {B : Nat} {w0 w w' : World} {v : Value} {us : List Value} {ns : List Nat} {k : Nat} {gl : List Value} {x : Value} {m : Nat} (h : P5 B w0 w v us ns k gl x m) (hb : Below w.heap.size w w') (hB : B ≤ w.heap.size) : P5 B w0 w' v us ns k gl x m := by
  have kp : ∀ {v : Value} {n k i : Nat}, RowI B w v n k i → RowI B w' v n k i := fun {v n k i} q => by
    obtain ⟨xs, q1, q2⟩ := q
    exact RowI.keep ⟨xs, q1, q2⟩ (KT.below hb) (fun b e => hb.block b (own_atL q1 e).1)
  exact ⟨h.hv.below hb, h.len, fun k' a b => kp (h.oth k' a b), fun k' a => kp (h.big k' a), h.dis, h.bel.trans (hb.mono hB), kp h.cur, h.own.imp id (fun ⟨a, b⟩ => ⟨a, kp b⟩), h.apu, h.apg⟩
theorem P5.step {B : Nat} {w0 w w' : World} {v : Value} {us : List Value} {ns : List Nat} {k : Nat} {gl : List Value} {x x' u : Value} {m : Nat} {xs : List Value} (h : P5 B w0 w v us ns k gl x m) (hk : k < us.length) (hxs : w.ownsRow B TE 1 x (ns.getD k 0 + m) xs) (hm : ∀ j, j < ns.getD k 0 + m → Mkd w (xs.getD j undef) k j) (hu : Mkd w u k (ns.getD k 0 + m)) (ho : w'.ownsRow B TE 1 x' (ns.getD k 0 + m + 1) (xs ++ [u])) (hg : w.grownBy w' x.ownBlock)
    (hw : (∃ g cap, x = .slice (some ⟨g, 0, none⟩) (ns.getD k 0 + m) cap ∧ x' = .slice (some ⟨g, 0, none⟩) (ns.getD k 0 + m + 1) cap) ∨ (x'.ownBlock = some w.heap.size ∧ w.grownBy w' none)) (hB : B ≤ w.heap.size) : P5 B w0 w' v us ns k gl x' (m + 1) := by
  have kt : KT w w' := KT.grown hg (fun b e => by obtain ⟨_, _, cs, q⟩ := own_atL hxs e; exact ⟨cs, _, q, by decide⟩)
  have hxl : xs.length = ns.getD k 0 + m := by have := hxs.1; omega
  have kp : ∀ {z : Value} {n k i : Nat}, (x.ownBlock = none ∨ x.ownBlock ≠ z.ownBlock) → RowI B w z n k i → RowI B w' z n k i := fun {z n k i} hd q => by
    obtain ⟨ys, q1, q2⟩ := q
    refine RowI.keep ⟨ys, q1, q2⟩ kt (fun b e => hg.block b (own_atL q1 e).1 (fun e2 => ?_))
    rcases hd with d | d
    · rw [d] at e2; cases e2
    · exact d (e2.symm.trans e.symm)
  have new : ∀ z : Value, (x.ownBlock = none ∨ x.ownBlock ≠ z.ownBlock) → (∀ b, z.ownBlock = some b → b < w.heap.size) → (x'.ownBlock = none ∨ x'.ownBlock ≠ z.ownBlock) := fun z hd hz => by
    rcases hw with ⟨g, cap, rfl, rfl⟩ | ⟨e, _⟩
    · exact hd
    · refine .inr fun q => ?_
      rw [e] at q
      have := hz _ q.symm
      omega
  have cur : RowI B w' x' (ns.getD k 0 + (m + 1)) k (ns.getD k 0 + (m + 1)) := by
    refine ⟨xs ++ [u], ho, fun j hj _ => ?_⟩
    by_cases e : j < ns.getD k 0 + m
    · have : (xs ++ [u]).getD j undef = xs.getD j undef := by rw [getD_app, if_pos (by omega)]
      rw [this]
      exact (hm j e).keep kt
    · obtain rfl : j = ns.getD k 0 + m := by omega
      have : (xs ++ [u]).getD (ns.getD k 0 + m) undef = u := by rw [getD_app, if_neg (by omega), hxl, Nat.sub_self]; rfl
      rw [this]
      exact hu.keep kt
  refine ⟨h.hv.keep (fun b cs q => hg.block b (Array.getElem?_eq_some_iff.1 q).1 (fun e => by
      obtain ⟨_, _, cs', q2⟩ := own_atL hxs e.symm
      rw [q] at q2
      simp only [Option.some.injEq, Obj.cells.injEq] at q2
      exact absurd q2.2.1 (by decide))), h.len, fun k' a b => kp (h.apu k' a b) (h.oth k' a b), fun k' a => kp (h.apg k' a) (h.big k' a), h.dis, h.bel.grown hg (Nat.le_trans hB (Nat.le_refl _)) (fun b e => (own_atL hxs e).2.1), cur, ?_, fun j hj hne => new _ (h.apu j hj hne) (fun b e => by obtain ⟨ys, q1, _⟩ := h.oth j hj hne; exact (own_atL q1 e).1), fun k' hk' => new _ (h.apg k' hk') (fun b e => by obtain ⟨ys, q1, _⟩ := h.big k' hk'; exact (own_atL q1 e).1)⟩
  rcases h.own with ⟨g, c, e1, e2⟩ | ⟨e1, e2⟩
  · rcases hw with ⟨g', cap, e3, e4⟩ | ⟨e3, e4⟩
    · rw [e2] at e3
      simp only [Value.slice.injEq, Option.some.injEq, Addr.mk.injEq, and_true, true_and] at e3
      obtain ⟨rfl, rfl⟩ := e3
      exact .inl ⟨g, c, e1, e4⟩
    · refine .inr ⟨.inr fun q => ?_, ?_⟩
      · rw [e3, e1] at q
        have := (own_atL hxs (b := g) (by rw [e2]; rfl)).1
        simp only [Value.ownBlock, Option.some.injEq] at q
        omega
      · have hc := h.cur
        rw [e2] at hc
        rw [e1]
        have hp := hc.pre (n' := ns.getD k 0) (by omega)
        obtain ⟨ys, q1, q2⟩ := hp
        exact RowI.keep ⟨ys, q1, q2⟩ kt (fun b e => e4.block b (own_atL q1 e).1 (fun x => by cases x))
  · refine .inr ⟨new _ e1 (fun b e => by obtain ⟨ys, q1, _⟩ := e2; exact (own_atL q1 e).1), kp e1 e2⟩
theorem P5.finish {B : Nat} {w0 w : World} {v : Value} {us : List Value} {ns : List Nat} {k : Nat} {gl : List Value} {x : Value} (h : P5 B w0 w v us ns k gl x 70) (hk : k < us.length) : P4 B w0 w v us ns (k + 1) (gl ++ [x]) := by
  refine ⟨h.hv, by simp [h.len], fun k' hk' => ?_, fun k' hk' => ?_, fun k' j hk' hj hju => ?_, h.bel⟩
  · by_cases e : k' = k
    · subst e
      rcases h.own with ⟨g, c, e1, e2⟩ | ⟨_, e2⟩
      · have hc := h.cur
        rw [e2] at hc
        rw [e1]
        exact hc.pre (by omega)
      · exact e2
    · exact h.oth k' hk' e
  · rw [getD_app, h.len]
    split
    · rename_i q; exact h.big k' q
    · obtain rfl : k' = k := by omega
      rw [Nat.sub_self]
      exact h.cur
  · rw [getD_app, h.len]
    split
    · rename_i q; exact h.dis k' j q (by omega) hju
    · obtain rfl : k' = k := by omega
      rw [Nat.sub_self]
      exact h.apu j hju (by omega)
theorem P4.below {B : Nat} {w0 w w' : World} {v : Value} {us : List Value} {ns : List Nat} {k : Nat} {gl : List Value} (h : P4 B w0 w v us ns k gl) (hb : Below w.heap.size w w') (hB : B ≤ w.heap.size) : P4 B w0 w' v us ns k gl := by
  have kp : ∀ {v : Value} {n k i : Nat}, RowI B w v n k i → RowI B w' v n k i := fun {v n k i} q => by
    obtain ⟨xs, q1, q2⟩ := q
    exact RowI.keep ⟨xs, q1, q2⟩ (KT.below hb) (fun b e => hb.block b (own_atL q1 e).1)
  exact ⟨h.hv.below hb, h.len, fun k' a => kp (h.row k' a), fun k' a => kp (h.big k' a), h.dis, h.bel.trans (hb.mono hB)⟩
theorem P4.grown {B N : Nat} {w0 w w' : World} {v : Value} {us : List Value} {ns : List Nat} {k : Nat} {gl : List Value} (h : P4 B w0 w v us ns k gl) {r : Option Nat} (hg : w.grownBy w' r) (hr : ∀ b, r = some b → N ≤ b ∧ ∃ cs, w.heap[b]? = some (.cells cs 48 (0, 0))) (hB : B ≤ N) (hBw : B ≤ w.heap.size) (hv : ∀ b off n c, v = .slice (some ⟨b, off, none⟩) n c → 0 < us.length → b < N) : P4 B w0 w' v us ns k gl := by
  have kt : KT w w' := KT.grown hg (fun b e => by obtain ⟨_, cs, q⟩ := hr b e; exact ⟨cs, _, q, by decide⟩)
  have kp : ∀ {z : Value} {n k i : Nat}, RowI B w z n k i → RowI B w' z n k i := fun {z n k i} q => by
    obtain ⟨xs, q1, q2⟩ := q
    refine RowI.keep ⟨xs, q1, q2⟩ kt (fun b e => hg.block b (own_atL q1 e).1 (fun e2 => ?_))
    obtain ⟨_, cs, q3⟩ := hr b e2.symm
    obtain ⟨_, _, cs', q4⟩ := own_atL q1 e
    rw [q3] at q4
    simp only [Option.some.injEq, Obj.cells.injEq] at q4
    exact absurd q4.2.1 (by decide)
  refine ⟨?_, h.len, fun k' a => kp (h.row k' a), fun k' a => kp (h.big k' a), h.dis, h.bel.grown hg hBw (fun b e => Nat.le_trans hB (hr b e).1)⟩
  obtain ⟨p, c, e, h1, h2, h4⟩ := h.hv
  refine ⟨p, c, e, h1, h2, fun hne => ?_⟩
  obtain ⟨b, off, e2, ⟨cs, hb⟩, hc⟩ := h4 hne
  have hbN := hv b off us.length c (by rw [e, e2]) (List.length_pos_iff.2 hne)
  have e3 : w'.heap[b]? = w.heap[b]? := hg.block b (Array.getElem?_eq_some_iff.1 hb).1 (fun x => by have := (hr b x.symm).1; omega)
  refine ⟨b, off, e2, ⟨cs, e3.trans hb⟩, fun k hk' => ?_⟩
  rw [← hc k hk']
  exact World.cell?_of_block e3
theorem wanted_litL {P : Program} {ops : Array Oper} {o : Oper} {a : Act} {w w' : World} {K : Act → World → Prop} {Q : Exit → Act → World → Prop} {X : Prop} (hw : Region.wanted o (yielded ops a.tmps) = true) (t : TypeId) (len : Nat) (parts : Array (Nat × Operand)) (ho : o.op = .buildSlice t len parts) (ps : Array (Nat × Value)) (hps : (parts.map fun (i, x) => (i, a.eval x)) = ps) (v : Value)
    (hr : (Instr.buildSlice t len ps).run P w = .ok v w') (h : K (a.put o.dst v) w') : if Region.wanted o (yielded ops a.tmps) = true then Oper.wp P o a w K Q else X := by
  rw [if_pos hw]
  unfold Oper.wp execOp
  simp only [ho, Sem.run_bind, hps, hr, Result.andThen_ok]
  exact h
theorem run_lit3 (w : World) (a b c : Int) : (Instr.buildSlice 22 3 #[(0, .int .u8 a), (1, .int .u8 b), (2, .int .u8 c)]).run Try.prog w = .ok (.slice (some ⟨w.heap.size, 0, none⟩) 3 3) (w.alloc (.cells #[.int .u8 a, .int .u8 b, .int .u8 c] 5)) := by kernel_rfl
theorem run_lit1 (w : World) (p : Option Addr) (n c : Nat) : (Instr.buildSlice 48 1 #[(0, .slice p n c)]).run Try.prog w = .ok (.slice (some ⟨w.heap.size, 0, none⟩) 1 1) (w.alloc (.cells #[.slice p n c] TE)) := by kernel_rfl
theorem flat_takeL {α : Type} (l : List (List α)) (k : Nat) (h : k < l.length) : (l.take (k + 1)).flatten = (l.take k).flatten ++ l.getD k [] := by
  rw [List.take_succ_eq_append_getElem h, List.flatten_append]
  simp [List.getD, List.getElem?_eq_getElem h]
end Go.Proofs.Ytafdklelfcccbaa
