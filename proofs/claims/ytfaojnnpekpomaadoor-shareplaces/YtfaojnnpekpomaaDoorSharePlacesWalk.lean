/- SharePlaces, walked. -/
import Derived.Test.YtfaojnnpekpomaaDoorShLives
set_option linter.unusedSimpArgs false
set_option linter.unusedVariables false
namespace Go.Proofs.YtfaojnnpekpomaaDoor
open Go Go.RowKit

/-- Where block j must begin; behind the last one: the end. -/
def nxV (k n g z : Int) (j : Nat) : Int := if (j : Int) < upI z g then p4 k n g z + (j : Int) * (g / k) else p5 k n g z
theorem nxV_step {k n g z : Int} (h : OkS k n g z) (j : Nat) (hj : (j : Int) < upI z g) : p4 k n g z + (j : Int) * (g / k) + bkN k n g z j = nxV k n g z (j + 1) := by
  unfold nxV bkN
  by_cases hl : (j : Int) = upI z g - 1
  · rw [if_pos hl, if_neg (by omega), hl]
    unfold p5 dtN
    omega
  · rw [if_neg hl, if_pos (by omega)]
    have : ((j + 1 : Nat) : Int) * (g / k) = (j : Int) * (g / k) + (g / k) := by
      rw [show ((j + 1 : Nat) : Int) = (j : Int) + 1 by omega, Int.add_mul, Int.one_mul]
    omega
theorem bkN_pos {k n g z : Int} (h : OkS k n g z) (j : Int) : 1 ≤ bkN k n g z j ∧ bkN k n g z j ≤ 65790 := by
  have := h.blocks
  unfold bkN
  split <;> omega
theorem nxV_le {k n g z : Int} (h : OkS k n g z) (j : Nat) : 0 ≤ nxV k n g z j ∧ nxV k n g z j ≤ 20000000 := by
  have a := h.blocks
  have b := p_le k n g z
  have c := dt_le h
  unfold nxV
  split
  · have hm : 0 ≤ (j : Int) * (g / k) := Int.mul_nonneg (by omega) (by omega)
    have hm2 : (j : Int) * (g / k) ≤ (upI z g - 1) * (g / k) := Int.mul_le_mul_of_nonneg_right (by omega) (by omega)
    omega
  · unfold p5; omega
set_option maxRecDepth 100000 in
set_option maxHeartbeats 8000000 in
theorem sharePlaces_walk (w : World) (k n g z : Int) (hkp : KP w) : Calls Tryd.prog 3 #[.int .i64 k, .int .i64 n, .int .i64 g, .int .i64 z] w fun e w' => e = .returned (.bool true) ∧ Below w.heap.size w w' := by
  have C0 := hid (lives_any w hkp)
  have HK := hid hkp
  have CA := hid fun w => ragain_any w k n g z
  have HSZ0 : Hid ((Tryd.prog.info? 24).map (·.size) = some 8) := size_shape
  clear hkp
  by_cases h : OkS k n g z
  · rw [show agT k n g z = shR k n g z from if_pos h, show agE k n g z = 0 from if_pos h] at CA
    have hbl := h.blocks
    have hpl := p_le k n g z
    have hdt := dt_le h
    have C1 := hid fun w => frontLen_ok w k n g z h
    have C2 := hid fun w => len_ok w k n g z h
    have C3 := hid fun w (j : Nat) => place_ok w k n g z h (j : Int)
    have C4 := hid fun w (j : Nat) => rblocksize_any w k n g z (upI z g) (tlI z g) (g / k) (upI (tlI z g) k) (j : Int)
    rw [ft_of h, show [k, n, g, z, upI z g, tlI z g, g / k, upI (tlI z g) k] = shR k n g z from rfl] at C4
    rw [show plF k n g z 4 = p4 k n g z from rfl] at C1
    rw [show plF k n g z 5 = p5 k n g z from rfl] at C2
    have hp5 : p5 k n g z = p4 k n g z + dtN k n g z := rfl
    have HS := hid (shV_size (shR k n g z) rfl)
    have H4 : Hid ((ints (shR k n g z))[4]? = some (.int .i64 (upI z g))) := rfl
    have HO : Hid ((ints (shR k n g z)).all (·.oneCell') = true) := by refine hid ?_; simp [ints, shR, Value.oneCell']
    unfold shV at CA C1 C2 C3 C4
    obtain ⟨m, Hm⟩ : ∃ m, Hid (ints (shR k n g z) = m) := ⟨_, rfl⟩
    rw [Hm.out] at CA C1 C2 C3 C4 HS H4 HO
    have HS8 : Hid (m.size = 8) := by refine hid ?_; rw [← Hm.out]; rfl
    go_enter Tryd.func3, Tryd.ntmps3
    go_wp2_with fail
    refine C0.out.mono ?_
    rintro e w1 ⟨rfl, hb1⟩
    have B1 := hid hb1
    clear hb1 C0
    go_wp2_with fail
    refine (CA.out w1).mono ?_
    rintro e w2 ⟨rfl, hb2⟩
    have B2 := hid (B1.out.trans (hb2.mono B1.out.size))
    clear hb2 CA
    have Z3 := hid (heap_alloc_new w2 (.cells #[.int .i64 0, .int .i64 0, .int .i64 0, .int .i64 0, .int .i64 0, .int .i64 0, .int .i64 0, .int .i64 0] 24))
    obtain ⟨w3, HW3⟩ : ∃ x, Hid ((w2.alloc (.cells #[.int .i64 0, .int .i64 0, .int .i64 0, .int .i64 0, .int .i64 0, .int .i64 0, .int .i64 0, .int .i64 0] 24)).setRow w2.heap.size m = x) := ⟨_, rfl⟩
    have H3 : Hid (w3.heap[w2.heap.size]? = some (.cells m 24 (0, 0))) := by refine hid ?_; rw [← HW3.out]; exact setRow_heap _ _ _ _ _ _ Z3.out
    have B3 : Hid (Below w.heap.size w w3) := by refine hid ?_; rw [← HW3.out]; exact bel_setRow (B2.out.alloc B2.out.size _) B2.out.size _
    have S3 : Hid (w3.heap.size = w2.heap.size + 1) := by refine hid ?_; rw [← HW3.out]; simp [World.setRow]
    go_wp2_with (first | (refine wpList_store_row rfl 24 _ _ rfl w2.heap.size m rfl rfl 24 _ Z3.out HS.out (by rw [HS8.out]; rfl) HO.out ?_; rw [HW3.out]) | (refine wpList_load_row rfl 24 _ rfl w2.heap.size rfl 24 m (0, 0) _ H3.out Tryd.underlying24 rfl HS.out ?_) | fail)
    refine (C1.out w3 (HK.out.below B3.out)).mono ?_
    rintro e w4 ⟨rfl, hb4⟩
    have B4 := hid (B3.out.trans (hb4.mono B3.out.size))
    have H4b := hid ((hb4.block w2.heap.size (by rw [S3.out]; omega)).trans H3.out)
    have S4 : Hid (w2.heap.size < w4.heap.size) := hid (by have := hb4.size; rw [S3.out] at this; omega)
    clear hb4 C1
    go_wp2_with (first | (refine wpList_load_row rfl 24 _ rfl w2.heap.size rfl 24 m (0, 0) _ H4b.out Tryd.underlying24 rfl HS.out ?_) | fail)
    refine (C2.out w4 (HK.out.below B4.out)).mono ?_
    rintro e w5 ⟨rfl, hb5⟩
    have B5 := hid (B4.out.trans (hb5.mono B4.out.size))
    have H5 := hid ((hb5.block w2.heap.size S4.out).trans H4b.out)
    have S5 : Hid (w2.heap.size < w5.heap.size) := hid (by have := hb5.size; have := S4.out; omega)
    have E0 : Hid (nxV k n g z 0 = p4 k n g z) := by
      refine hid ?_
      unfold nxV
      rw [if_pos (show ((0 : Nat) : Int) < upI z g by omega), show ((0 : Nat) : Int) = 0 from rfl, Int.zero_mul, Int.add_zero]
    have ENX := hid fun j hj => nxV_step h j hj
    have ENE : Hid (nxV k n g z (upI z g).toNat = p5 k n g z) := by refine hid ?_; unfold nxV; rw [if_neg (by omega)]
    have ELT : Hid (∀ j : Nat, (j : Int) < upI z g → nxV k n g z j = p4 k n g z + (j : Int) * (g / k)) := hid fun j hj => by unfold nxV; rw [if_pos hj]
    have ELE := hid fun j => nxV_le h j
    have EBK := hid fun j => bkN_pos h j
    have q1 : ¬ p4 k n g z < 36 := by omega
    have q2 : ¬ 131072 ≤ p4 k n g z := by omega
    have q3 : ¬ 33554432 ≤ p5 k n g z := by omega
    obtain ⟨S, HSg⟩ : ∃ S : Nat, Hid (upI z g = (S : Int)) := ⟨(upI z g).toNat, hid (by omega)⟩
    clear hb5 C2 hpl hdt hp5
    go_wp2
    go_loopw [15, 16] (fun nx jj wr => ∃ j : Nat, (j : Int) ≤ upI z g ∧ nx = .int .i64 (nxV k n g z j) ∧ jj = .int .i64 (j : Int) ∧ Hid (wr.heap[w2.heap.size]? = some (.cells m 24 (0, 0))) ∧ Hid (w2.heap.size < wr.heap.size) ∧ Hid (Below w.heap.size w wr)) (fun _ jj _ => (upI z g).toNat - (intOf jj).toNat)
    case atStart => exact ⟨0, by omega, by rw [E0.out], rfl, H5, S5, B5⟩
    case round =>
      clear H5 S5 B5
      obtain ⟨j, hj, rfl, rfl, H5, S5, B5⟩ := hrel
      have c4 : wr.cell? ⟨w2.heap.size, 4, none⟩ = some (.int .i64 (upI z g)) := (cell_of_row _ _ _ _ _ _ H5.out).trans H4.out
      by_cases hlt : (j : Int) < upI z g
      · have hlt2 : ¬ upI z g ≤ (j : Int) := by omega
        have CP := C3.out wr j (HK.out.below B5.out)
        rw [show plV k n g z (j : Int) = nxV k n g z j from by rw [ELT.out j hlt]; exact if_pos ⟨by omega, hlt⟩, show plN2 k n g z (j : Int) = bkN k n g z j from if_pos ⟨by omega, hlt⟩, show plE z g (j : Int) = 0 from if_pos ⟨by omega, hlt⟩] at CP
        have CP := hid CP
        have hbk := EBK.out (j : Int)
        have hq : ¬ bkN k n g z (j : Int) < 1 := by omega
        go_wp2_with (first | (refine wpList_load_row rfl 24 _ rfl w2.heap.size rfl 24 m (0, 0) _ H5.out Tryd.underlying24 rfl HS.out ?_) | fail)
        refine CP.out.mono ?_
        rintro e w6 ⟨rfl, hb6⟩
        have B6 := hid (B5.out.trans (hb6.mono B5.out.size))
        have H6 := hid ((hb6.block w2.heap.size S5.out).trans H5.out)
        have S6 : Hid (w2.heap.size < w6.heap.size) := hid (by have := hb6.size; have := S5.out; omega)
        have CB := C4.out w6 j
        rw [show szV true (upI z g) (j : Int) (g / k) (upI (tlI z g) k) = bkN k n g z (j : Int) from by unfold szV bkN; rw [if_pos rfl, if_pos ⟨by omega, hlt⟩], show szE true (upI z g) (j : Int) = 0 from by unfold szE; rw [if_pos rfl, if_pos ⟨by omega, hlt⟩]] at CB
        have CB := hid CB
        have hn1 := ELE.out (j + 1)
        have hst := ENX.out j hlt
        rw [← ELT.out j hlt] at hst
        have hw : IntKind.i64.wrap (nxV k n g z j + bkN k n g z (j : Int)) = nxV k n g z (j + 1) := by rw [hst, IntKind.wrap_i64]; omega
        clear hb6 CP hst hn1 hbk
        go_wp2_with (first | (refine wpList_load_row rfl 24 _ rfl w2.heap.size rfl 24 m (0, 0) _ H6.out Tryd.underlying24 rfl HS.out ?_) | fail)
        refine CB.out.mono ?_
        rintro e w7 ⟨rfl, hb7⟩
        have B7 := hid (B6.out.trans (hb7.mono B6.out.size))
        have H7 := hid ((hb7.block w2.heap.size S6.out).trans H6.out)
        have S7 : Hid (w2.heap.size < w7.heap.size) := hid (by have := hb7.size; have := S6.out; omega)
        clear hb7 CB
        go_wp2
        exact ⟨⟨j + 1, by omega, rfl, by go_num, H7, S7, B7⟩, by simp [intOf]; omega⟩
      · have hje : (j : Int) = upI z g := by omega
        have CP := C3.out wr j (HK.out.below B5.out)
        rw [show plE z g (j : Int) = 2 from if_neg (by omega)] at CP
        obtain ⟨x1, hx1⟩ : ∃ x, plV k n g z (j : Int) = x := ⟨_, rfl⟩
        obtain ⟨x2, hx2⟩ : ∃ x, plN2 k n g z (j : Int) = x := ⟨_, rfl⟩
        rw [hx1, hx2, hje] at CP
        have CP := hid CP
        have hnx : nxV k n g z j = p5 k n g z := by rw [show j = (upI z g).toNat by omega]; exact ENE.out
        rw [hnx]
        clear hx1 hx2 hnx
        go_wp2_with (first | (refine wpList_load_row rfl 24 _ rfl w2.heap.size rfl 24 m (0, 0) _ H5.out Tryd.underlying24 rfl HS.out ?_) | fail)
        refine CP.out.mono ?_
        rintro e w6 ⟨rfl, hb6⟩
        have B6 := hid (B5.out.trans (hb6.mono B5.out.size))
        clear hb6 CP
        go_wp2
        go_ret
        exact ⟨rfl, B6.out⟩
  · rw [show agT k n g z = [0, 0, 0, 0, 0, 0, 0, 0] from if_neg h, show agE k n g z = 92 from if_neg h] at CA
    have hf : ftB 0 0 0 0 0 0 0 0 = false := by unfold ftB; exact decide_eq_false (fun q => by have := q.1.1; omega)
    have C1 := hid fun w => frontLen_bad w 0 0 0 0 0 0 0 0 hf
    have C2 := hid fun w => len_bad w 0 0 0 0 0 0 0 0 hf
    have HS := hid (shV_size [0, 0, 0, 0, 0, 0, 0, 0] rfl)
    have HO : Hid ((ints [0, 0, 0, 0, 0, 0, 0, 0]).all (·.oneCell') = true) := by refine hid ?_; simp [ints, Value.oneCell']
    unfold shV at CA C1 C2
    obtain ⟨m, Hm⟩ : ∃ m, Hid (ints [0, 0, 0, 0, 0, 0, 0, 0] = m) := ⟨_, rfl⟩
    rw [Hm.out] at CA C1 C2 HS HO
    have HS8 : Hid (m.size = 8) := by refine hid ?_; rw [← Hm.out]; rfl
    go_enter Tryd.func3, Tryd.ntmps3
    go_wp2_with fail
    refine C0.out.mono ?_
    rintro e w1 ⟨rfl, hb1⟩
    have B1 := hid hb1
    clear hb1 C0
    go_wp2_with fail
    refine (CA.out w1).mono ?_
    rintro e w2 ⟨rfl, hb2⟩
    have B2 := hid (B1.out.trans (hb2.mono B1.out.size))
    clear hb2 CA
    have Z3 := hid (heap_alloc_new w2 (.cells #[.int .i64 0, .int .i64 0, .int .i64 0, .int .i64 0, .int .i64 0, .int .i64 0, .int .i64 0, .int .i64 0] 24))
    obtain ⟨w3, HW3⟩ : ∃ x, Hid ((w2.alloc (.cells #[.int .i64 0, .int .i64 0, .int .i64 0, .int .i64 0, .int .i64 0, .int .i64 0, .int .i64 0, .int .i64 0] 24)).setRow w2.heap.size m = x) := ⟨_, rfl⟩
    have H3 : Hid (w3.heap[w2.heap.size]? = some (.cells m 24 (0, 0))) := by refine hid ?_; rw [← HW3.out]; exact setRow_heap _ _ _ _ _ _ Z3.out
    have B3 : Hid (Below w.heap.size w w3) := by refine hid ?_; rw [← HW3.out]; exact bel_setRow (B2.out.alloc B2.out.size _) B2.out.size _
    have S3 : Hid (w3.heap.size = w2.heap.size + 1) := by refine hid ?_; rw [← HW3.out]; simp [World.setRow]
    go_wp2_with (first | (refine wpList_store_row rfl 24 _ _ rfl w2.heap.size m rfl rfl 24 _ Z3.out HS.out (by rw [HS8.out]; rfl) HO.out ?_; rw [HW3.out]) | (refine wpList_load_row rfl 24 _ rfl w2.heap.size rfl 24 m (0, 0) _ H3.out Tryd.underlying24 rfl HS.out ?_) | fail)
    refine (C1.out w3).mono ?_
    rintro e w4 ⟨rfl, hb4⟩
    have B4 := hid (B3.out.trans (hb4.mono B3.out.size))
    have H4b := hid ((hb4.block w2.heap.size (by rw [S3.out]; omega)).trans H3.out)
    clear hb4 C1
    go_wp2_with (first | (refine wpList_load_row rfl 24 _ rfl w2.heap.size rfl 24 m (0, 0) _ H4b.out Tryd.underlying24 rfl HS.out ?_) | fail)
    refine (C2.out w4).mono ?_
    rintro e w5 ⟨rfl, hb5⟩
    have B5 := hid (B4.out.trans (hb5.mono B4.out.size))
    clear hb5 C2
    go_wp2
    go_ret
    exact ⟨rfl, B5.out⟩
end Go.Proofs.YtfaojnnpekpomaaDoor
