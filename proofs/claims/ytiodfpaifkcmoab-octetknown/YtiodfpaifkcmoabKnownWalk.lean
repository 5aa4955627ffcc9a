/- The law OctetKnown, walked: it answers true. -/
import Derived.Test.YtiodfpaifkcmoabUnframed
import Derived.Test.YtiodfpaifkcmoabLess
import Derived.Lib.SlBytesConst
namespace Go.Proofs.Ytiodfpaifkcmoab
open Go.RowKit

/-- A row of bytes that is written out. -/
theorem HB.lit (w : World) (l : List Int) (hx : ∀ x ∈ l, 0 ≤ x ∧ x < 256) (hl : l.length ≤ maxLen) : HB (w.alloc (.cells (l.map (Value.int .u8)).toArray 5)) (.slice (some ⟨w.heap.size, 0, none⟩) l.length l.length) l := by
  refine HB.of_own (B := w.heap.size) (e := 5) ?_ hx
  have := World.ownsRow_lit (base := w.heap.size) (e := 5) (size := 1) w (l.map (Value.int .u8)).toArray l.length (Nat.le_refl _) hl (by simp)
  simpa using this

/-- The same where the row bears a mark. -/
theorem HB.mark (w : World) (l : List Int) (fz : Nat × Nat) (hx : ∀ x ∈ l, 0 ≤ x ∧ x < 256) (hl : l.length ≤ maxLen) : HB (w.alloc (.cells (l.map (Value.int .u8)).toArray 5 fz)) (.slice (some ⟨w.heap.size, 0, none⟩) l.length l.length) l := by
  refine ⟨⟨_, _, rfl, Nat.le_refl _, hl, (fun e => by cases e), fun _ => ⟨w.heap.size, 0, rfl, fun j hj => ?_⟩⟩, hx⟩
  rw [Nat.zero_add]
  have : (w.alloc (.cells (l.map (Value.int .u8)).toArray 5 fz)).heap[w.heap.size]? = some (.cells (l.map (Value.int .u8)).toArray 5 fz) := heap_alloc_new w _
  simp only [World.cell?, this]
  simp [List.getD, List.getElem?_eq_getElem hj]

/-- A reader stays as it is while another is asked. -/
theorem RD.other {w w' : World} {g g' : Nat} {m f : Bool} {l : List Int} (h : RD w g' m f l) (hg : w.grownBy w' (some g)) (hb : BT w g 71) (hne : g' ≠ g) : RD w' g' m f l := by
  obtain ⟨v, hblk, hv⟩ := h
  refine ⟨v, ?_, hv.grown hg fun k e => ?_⟩
  · rw [hg.block g' (Array.getElem?_eq_some_iff.1 hblk).1 (by simpa using hne)]
    exact hblk
  · cases e
    obtain ⟨cur, fz, hh⟩ := hb
    exact ⟨cur, _, fz, hh, by decide⟩

theorem RD.lt {w : World} {g : Nat} {m f : Bool} {l : List Int} (h : RD w g m f l) : g < w.heap.size := by
  obtain ⟨v, hblk, _⟩ := h
  exact (Array.getElem?_eq_some_iff.1 hblk).1

theorem uans_no {w w' : World} {raw : List Int} {v : Value} {n : Int} (h : UAns w w' raw v n) (hn : ∀ bs, Ok bs → framed bs ≠ raw) : n = 13 ∧ v = .slice none 0 0 := by
  rcases h with ⟨_, ls, _, h1, h2⟩ | ⟨h1, h2, _⟩
  · exact absurd h2 (hn ls h1)
  · exact ⟨h1, h2⟩

theorem uans_nil {w w' : World} {v : Value} {n : Int} (h : UAns w w' [] v n) : n = 0 ∧ ∃ p c, v = .slice p 0 c := by
  rcases h with ⟨h0, ls, hO, h1, h2⟩ | ⟨_, _, h⟩
  · refine ⟨h0, ?_⟩
    have e : ls = [] := by
      have := framed_length ls
      rw [h2] at this
      simp at this
      exact List.length_eq_zero_iff.1 (by omega)
    subst e
    obtain ⟨xs, hrow, _⟩ := hO
    rcases hrow.2 with ⟨rfl, _⟩ | ⟨g, cap, cur, rfl, _⟩
    · exact ⟨_, _, rfl⟩
    · exact ⟨_, _, rfl⟩
  · exact absurd rfl (h [] (by intro l hl; simp at hl))

theorem HL.two (w : World) (u1 u2 : Value) (l1 l2 : List Int) (h1 : HB w u1 l1) (h2 : HB w u2 l2) : HL (w.alloc (.cells #[u1, u2] 23)) (.slice (some ⟨w.heap.size, 0, none⟩) 2 2) [l1, l2] := by
  have hal : Below w.heap.size w (w.alloc (.cells #[u1, u2] 23)) := (Below.refl _ _).alloc (Nat.le_refl _) _
  refine ⟨_, _, rfl, by simp, by decide, (fun e => by cases e), fun _ => ⟨w.heap.size, 0, rfl, fun j hj => ?_⟩⟩
  match j, hj with
  | 0, _ => exact ⟨u1, by simp, h1.below hal⟩
  | 1, _ => exact ⟨u2, by simp, h2.below hal⟩

set_option maxHeartbeats 4000000 in
theorem known_walk (w : World) : Calls Try.prog 6 #[] w fun e w' => e = .returned (.bool true) ∧ Below w.heap.size w w' := by
  obtain ⟨i0, hi, hz0, hz1, hz2⟩ := info_parts info_u8
  have kc := fun (w : World) (C : Array Value) (n c : Nat) => Lib.run_convert_bytes_const (P := Try.prog) w 23 5 C n c Try.underlying23 Try.underlying5
  have kc2 : ∀ (w : World) (o : Obj) (C : Array Value) (n c : Nat), (convert 23 23 (.slice (some ⟨w.heap.size + 1, 0, none⟩) n c)).run Try.prog ((w.alloc o).alloc (.cells C 5)) = .ok (.slice (some ⟨w.heap.size + 1, 0, none⟩) n c) ((w.alloc o).alloc (.cells C 5 (C.size, C.size + 1))) := fun w o C n c => by
    have := kc (w.alloc o) C n c
    rw [World.size_alloc] at this
    exact this
  go_enter Try.func6, Try.ntmps6
  go_wp2_with fail
  refine (big_uint16 258 (by omega) w).mono ?_
  rintro e w1 ⟨v1, rfl, hown, hB⟩
  have F1 := hid (HB.of_own (l := bigL 2 258) (by exact hown) (bigL_byt _ _))
  have B1 := hid hB
  obtain ⟨p1, c1, e1, _, _⟩ := F1.out.open
  clear hown hB
  subst e1
  go_wp2_with fail
  refine (sameBytes_any _ _ _ [1, 2] [1, 2] ?_ (HB.lit w1 [1, 2] (by decide) (by decide))).mono ?_
  · exact (show HB w1 _ [1, 2] from F1.out).below ((Below.refl _ _).alloc (Nat.le_refl _) _)
  rintro e w2 ⟨rfl, hD⟩
  have B2 := hid ((B1.out.alloc B1.out.size _).trans (hD.below _))
  clear hD B1 F1
  rw [decide_eq_true rfl]
  go_wp2_with fail
  refine (big_uint64 1 (by omega) w2).mono ?_
  rintro e w3 ⟨v3, rfl, hown, hB⟩
  have F3 := hid (HB.of_own (l := bigL 8 1) (by exact hown) (bigL_byt _ _))
  have B3 := hid (B2.out.trans (hB.mono B2.out.size))
  obtain ⟨p3, c3, e3, _, _⟩ := F3.out.open
  clear hown hB B2
  subst e3
  go_wp2_with fail
  refine (sameBytes_any _ _ _ [0, 0, 0, 0, 0, 0, 0, 1] [0, 0, 0, 0, 0, 0, 0, 1] ?_ (HB.lit w3 [0, 0, 0, 0, 0, 0, 0, 1] (by decide) (by decide))).mono ?_
  · exact (show HB w3 _ [0, 0, 0, 0, 0, 0, 0, 1] from F3.out).below ((Below.refl _ _).alloc (Nat.le_refl _) _)
  rintro e w4 ⟨rfl, hD⟩
  have B4 := hid ((B3.out.alloc B3.out.size _).trans (hD.below _))
  clear hD B3 F3
  rw [decide_eq_true rfl]
  go_wp2_with fail
  refine (small_uint32 _ _ [0, 0, 1, 0] (HB.lit w4 [0, 0, 1, 0] (by decide) (by decide))).mono ?_
  rintro e w5 ⟨rfl, hw⟩
  have B5 : Hid (Below w.heap.size w w5) := by rw [hw]; exact hid (B4.out.alloc B4.out.size _)
  clear hw B4
  rw [show smallNo 4 [0, 0, 1, 0] = 256 from rfl, show smallErr 4 [0, 0, 1, 0] = 0 from rfl]
  go_wp2_with fail
  refine (small_uint32 _ _ [1, 2, 3] (HB.lit w5 [1, 2, 3] (by decide) (by decide))).mono ?_
  rintro e w6 ⟨rfl, hw⟩
  have B6 : Hid (Below w.heap.size w w6) := by rw [hw]; exact hid (B5.out.alloc B5.out.size _)
  clear hw B5
  rw [show smallNo 4 [1, 2, 3] = 0 from rfl, show smallErr 4 [1, 2, 3] = 10 from rfl]
  go_wp2_with fail
  refine (small_uint32 _ _ [1, 2, 3, 4, 5] (HB.lit w6 [1, 2, 3, 4, 5] (by decide) (by decide))).mono ?_
  rintro e w7 ⟨rfl, hw⟩
  have B7 : Hid (Below w.heap.size w w7) := by rw [hw]; exact hid (B6.out.alloc B6.out.size _)
  clear hw B6
  rw [show smallNo 4 [1, 2, 3, 4, 5] = 0 from rfl, show smallErr 4 [1, 2, 3, 4, 5] = 11 from rfl]
  have hHL : HL ((w7.alloc (.cells #[.int .u8 97] 5 (1, 2))).alloc (.cells #[.slice (some ⟨w7.heap.size, 0, none⟩) 1 1, .slice none 0 0] 23)) (.slice (some ⟨w7.heap.size + 1, 0, none⟩) 2 2) [[97], []] := by
    have := HL.two (w7.alloc (.cells #[.int .u8 97] 5 (1, 2))) (.slice (some ⟨w7.heap.size, 0, none⟩) 1 1) (.slice none 0 0) [97] [] (HB.mark w7 [97] (1, 2) (by decide) (by decide)) (HB.nil _)
    rwa [World.size_alloc] at this
  have HHL := hid hHL
  have B8 := hid ((B7.out.alloc B7.out.size (.cells #[.int .u8 97] 5 (1, 2))).alloc (Nat.le_trans B7.out.size (by simp)) (.cells #[.slice (some ⟨w7.heap.size, 0, none⟩) 1 1, .slice none 0 0] 23))
  clear hHL
  go_wp2_with fail
  refine (framed_any _ _ [[97], []] HHL.out (by decide)).mono ?_
  rintro e w8 ⟨v8, rfl, _, hb8, hB⟩
  rw [show framed [[97], []] = [0, 0, 0, 0, 0, 0, 0, 1, 97, 0, 0, 0, 0, 0, 0, 0, 0] from rfl] at hb8
  have F8 := hid hb8
  have B9 := hid (B8.out.trans (hB.mono B8.out.size))
  obtain ⟨p8, c8, e8, _, _⟩ := hb8.open
  clear hb8 hB B8 HHL B7
  subst e8
  go_wp2_with fail
  refine (sameBytes_any _ _ _ [0, 0, 0, 0, 0, 0, 0, 1, 97, 0, 0, 0, 0, 0, 0, 0, 0] [0, 0, 0, 0, 0, 0, 0, 1, 97, 0, 0, 0, 0, 0, 0, 0, 0] ?_ (HB.lit w8 [0, 0, 0, 0, 0, 0, 0, 1, 97, 0, 0, 0, 0, 0, 0, 0, 0] (by decide) (by decide))).mono ?_
  · exact F8.out.below ((Below.refl _ _).alloc (Nat.le_refl _) _)
  rintro e w9 ⟨rfl, hD⟩
  have B10 := hid ((B9.out.alloc B9.out.size _).trans (hD.below _))
  clear hD B9 F8
  rw [decide_eq_true rfl]
  obtain ⟨w10, hmk, hown, hgr⟩ := run_make_full (P := Try.prog) w9 w9.heap.size 23 5 i0 (.int .u8 0) 1 Try.underlying23 hi hz0 hz1 .i64 .i64 7 (by rw [hz2]; omega) (by unfold maxLen; omega) (Nat.le_refl _)
  have hmk2 : (Instr.makeSlice 23 (.int .i64 7) (.int .i64 7)).run Try.prog w9 = .ok (.slice (some ⟨w9.heap.size, 0, none⟩) 7 7) w10 := hmk
  have F10 : Hid (HB w10 (.slice (some ⟨w9.heap.size, 0, none⟩) 7 7) [0, 0, 0, 0, 0, 0, 0]) := by
    refine HB.of_own (B := w9.heap.size) (e := 5) (l := [0, 0, 0, 0, 0, 0, 0]) ?_ (by decide)
    have e : (madeCells (Value.int IntKind.u8 0).cells (7 * 1)).toList = ([0, 0, 0, 0, 0, 0, 0] : List Int).map (Value.int .u8) := by
      rw [show (Value.int IntKind.u8 0).cells = #[Value.int .u8 0] from rfl, toList_madeCells_one]
      rfl
    rw [e] at hown
    exact hown
  have B11 := hid (B10.out.grown hgr B10.out.size (fun k e => by cases e))
  clear hmk hown hgr B10
  go_wp2_with fail
  refine (unframed_any w10 _ [0, 0, 0, 0, 0, 0, 0] F10.out (by decide)).mono ?_
  rintro e w11 ⟨v11, n11, rfl, hU, hB⟩
  have B12 := hid (B11.out.trans (hB.mono B11.out.size))
  obtain ⟨rfl, rfl⟩ := uans_no hU (no_frames_short (by decide) (by decide))
  clear hU hB hmk2 F10 B11
  go_wp2_with fail
  refine (unframed_any _ _ [0, 0, 0, 0, 0, 0, 0, 2, 97] (HB.lit w11 [0, 0, 0, 0, 0, 0, 0, 2, 97] (by decide) (by decide)) (by decide)).mono ?_
  rintro e w12 ⟨v12, n12, rfl, hU, hB⟩
  have B13 := hid ((B12.out.alloc B12.out.size (.cells (([0, 0, 0, 0, 0, 0, 0, 2, 97] : List Int).map (Value.int .u8)).toArray 5)).trans (hB.mono (Nat.le_trans B12.out.size (by simp))))
  obtain ⟨rfl, rfl⟩ := uans_no hU (no_frames_long (by decide) (by decide))
  clear hU hB B12
  go_wp2_with fail
  refine (unframed_any w12 _ [] (HB.nil _) (by decide)).mono ?_
  rintro e w13 ⟨v13, n13, rfl, hU, hB⟩
  have B14 := hid (B13.out.trans (hB.mono B13.out.size))
  obtain ⟨rfl, p13, c13, rfl⟩ := uans_nil hU
  clear hU hB B13
  have h97 : HB ((w13.alloc (.cells #[.int .u8 97] 5 (1, 2))).alloc (.cells #[.int .u8 97, .int .u8 98] 5 (2, 3))) (.slice (some ⟨w13.heap.size, 0, none⟩) 1 1) [97] := (HB.mark w13 [97] (1, 2) (by decide) (by decide)).below ((Below.refl _ _).alloc (Nat.le_refl _) _)
  have h98 : HB ((w13.alloc (.cells #[.int .u8 97] 5 (1, 2))).alloc (.cells #[.int .u8 97, .int .u8 98] 5 (2, 3))) (.slice (some ⟨w13.heap.size + 1, 0, none⟩) 2 2) [97, 98] := by
    have := HB.mark (w13.alloc (.cells #[.int .u8 97] 5 (1, 2))) [97, 98] (2, 3) (by decide) (by decide)
    rw [World.size_alloc] at this
    exact this
  have H97 := hid h97
  have H98 := hid h98
  have B15 := hid ((B14.out.alloc B14.out.size (.cells #[.int .u8 97] 5 (1, 2))).alloc (Nat.le_trans B14.out.size (by simp)) (.cells #[.int .u8 97, .int .u8 98] 5 (2, 3)))
  clear h97 h98
  go_wp2_with fail
  refine (less_any _ _ _ [97] [97, 98] H97.out H98.out).mono ?_
  rintro e w15 ⟨rfl, hw⟩
  rw [← hw] at B15
  clear hw H97 H98 B14
  rw [show ltL [97] [97, 98] = true from rfl]
  have h97 : HB ((w15.alloc (.cells #[.int .u8 98] 5 (1, 2))).alloc (.cells #[.int .u8 97, .int .u8 98] 5 (2, 3))) (.slice (some ⟨w15.heap.size, 0, none⟩) 1 1) [98] := (HB.mark w15 [98] (1, 2) (by decide) (by decide)).below ((Below.refl _ _).alloc (Nat.le_refl _) _)
  have h98 : HB ((w15.alloc (.cells #[.int .u8 98] 5 (1, 2))).alloc (.cells #[.int .u8 97, .int .u8 98] 5 (2, 3))) (.slice (some ⟨w15.heap.size + 1, 0, none⟩) 2 2) [97, 98] := by
    have := HB.mark (w15.alloc (.cells #[.int .u8 98] 5 (1, 2))) [97, 98] (2, 3) (by decide) (by decide)
    rw [World.size_alloc] at this
    exact this
  have H97 := hid h97
  have H98 := hid h98
  have B16 := hid ((B15.out.alloc B15.out.size (.cells #[.int .u8 98] 5 (1, 2))).alloc (Nat.le_trans B15.out.size (by simp)) (.cells #[.int .u8 97, .int .u8 98] 5 (2, 3)))
  clear h97 h98
  go_wp2_with fail
  refine (less_any _ _ _ [98] [97, 98] H97.out H98.out).mono ?_
  rintro e w16 ⟨rfl, hw⟩
  rw [← hw] at B16
  clear hw H97 H98 B15
  rw [show ltL [98] [97, 98] = false from rfl]
  go_wp2_with fail
  refine (less_any _ _ _ [] [] (HB.nil _) (HB.nil _)).mono ?_
  rintro e w17 ⟨rfl, hw⟩
  rw [← hw] at B16
  clear hw
  rw [show ltL [] [] = false from rfl]
  go_wp2_with fail
  refine (newReader_any _ _ [1, 2, 3] (HB.lit w17 [1, 2, 3] (by decide) (by decide)) (by decide)).mono ?_
  rintro e w18 ⟨g1, rfl, hr1, hg1, hB⟩
  have B18 := hid ((B16.out.alloc B16.out.size (.cells (([1, 2, 3] : List Int).map (Value.int .u8)).toArray 5)).trans (hB.mono (Nat.le_trans B16.out.size (by simp))))
  have R1 := hid hr1
  have hl1 := hr1.lt
  have G1 : Hid (w.heap.size ≤ g1) := by have := B16.out.size; simp at hg1; exact Nat.le_trans this (by omega)
  clear hB hr1 hg1 B16
  go_wp2_with fail
  refine (newReader_any _ _ [0, 0, 0, 9, 7] (HB.lit w18 [0, 0, 0, 9, 7] (by decide) (by decide)) (by decide)).mono ?_
  rintro e w19 ⟨g2, rfl, hr2, hg2, hB⟩
  have hB' := ((Below.refl w18.heap.size w18).alloc (Nat.le_refl _) (.cells (([0, 0, 0, 9, 7] : List Int).map (Value.int .u8)).toArray 5)).trans (hB.mono (by simp))
  have B19 := hid (B18.out.trans (hB'.mono B18.out.size))
  have R1' := hid (R1.out.grow hB')
  have R2 := hid hr2
  have hl2 := hr2.lt
  have hg12 : g2 ≠ g1 := by simp at hg2; omega
  have G2 : Hid (w.heap.size ≤ g2) := by have := B18.out.size; simp at hg2; exact Nat.le_trans this (by omega)
  clear hB hB' hr2 hg2 B18 R1
  go_wp2_with fail
  refine (newReader_any _ _ [1] (HB.lit w19 [1] (by decide) (by decide)) (by decide)).mono ?_
  rintro e w20 ⟨g3, rfl, hr3, hg3, hB⟩
  have hB' := ((Below.refl w19.heap.size w19).alloc (Nat.le_refl _) (.cells (([1] : List Int).map (Value.int .u8)).toArray 5)).trans (hB.mono (by simp))
  have B20 := hid (B19.out.trans (hB'.mono B19.out.size))
  have hl1' : g1 < w19.heap.size := R1'.out.lt
  have R1 := hid (R1'.out.grow hB')
  have R2' := hid (R2.out.grow hB')
  have R3 := hid hr3
  have hg13 : g3 ≠ g1 := by simp at hg3; omega
  have G3 : Hid (w.heap.size ≤ g3) := by have := B19.out.size; simp at hg3; exact Nat.le_trans this (by omega)
  have hg23 : g3 ≠ g2 := by simp at hg3; omega
  clear hB hB' hr3 hg3 B19 R2 R1' hl1' hl1 hl2
  have HG12 := hid hg12
  have HG13 := hid hg13
  have HG23 := hid hg23
  clear hg12 hg13 hg23
  go_wp2_with fail
  refine (byte_any w20 g1 false [1, 2, 3] R1.out).mono ?_
  rintro e w21 ⟨rfl, hr, hg⟩
  have hr' : RD w21 g1 true false [2, 3] := hr
  have R2 := hid (R2'.out.other hg R1.out.block HG12.out)
  have R3' := hid (R3.out.other hg R1.out.block HG13.out)
  have R1' := hid hr'
  have HG21 := hid hg
  rw [show smallNo 1 (taken [1, 2, 3] 1) = 1 from rfl]
  clear hr hr' hg R2' R3
  go_wp2_with fail
  refine (word_any w21 g1 false [2, 3] R1'.out).mono ?_
  rintro e w22 ⟨rfl, hr, hg⟩
  have hr' : RD w22 g1 true true [] := hr
  have R2' := hid (R2.out.other hg R1'.out.block HG12.out)
  have R3 := hid (R3'.out.other hg R1'.out.block HG13.out)
  have R1'' := hid hr'
  have HG22 := hid (grown_trans HG21.out hg)
  rw [show smallNo 4 (taken [2, 3] 4) = 0 from rfl]
  clear hr hr' hg R2 R3' HG21 R1'
  go_wp2_with fail
  refine (byte_any w22 g1 true [] R1''.out).mono ?_
  rintro e w23 ⟨rfl, hr, hg⟩
  have hr' : RD w23 g1 true true [] := hr
  have R2 := hid (R2'.out.other hg R1''.out.block HG12.out)
  have R3' := hid (R3.out.other hg R1''.out.block HG13.out)
  have R1' := hid hr'
  have HG23' := hid (grown_trans HG22.out hg)
  rw [show smallNo 1 (taken [] 1) = 0 from rfl]
  clear hr hr' hg R2' R3 HG22 R1''
  go_wp2_with fail
  refine (left_any w23 g1 _ _ [] R1'.out).mono ?_
  rintro e w23' ⟨rfl, hw⟩
  have hw' := hw.symm
  subst hw'
  clear hw
  rw [show (([] : List Int).length : Int) = 0 from rfl]
  go_wp2_with fail
  refine (end_any w23 g1 _ _ [] R1'.out).mono ?_
  rintro e w23' ⟨rfl, hw⟩
  have hw' := hw.symm
  subst hw'
  clear hw
  rw [show endNo true true [] = 10 from rfl]
  go_wp2_with fail
  refine (word_any w23 g2 false [0, 0, 0, 9, 7] R2.out).mono ?_
  rintro e w24 ⟨rfl, hr, hg⟩
  have hr' : RD w24 g2 true false [7] := hr
  have R3 := hid (R3'.out.other hg R2.out.block HG23.out)
  have R2' := hid hr'
  have HG24 := hid hg
  rw [show smallNo 4 (taken [0, 0, 0, 9, 7] 4) = 9 from rfl]
  clear hr hr' hg R3'
  go_wp2_with fail
  refine (left_any w24 g2 _ _ [7] R2'.out).mono ?_
  rintro e w24' ⟨rfl, hw⟩
  have hw' := hw.symm
  subst hw'
  clear hw
  rw [show (([7] : List Int).length : Int) = 1 from rfl]
  go_wp2_with fail
  refine (end_any w24 g2 _ _ [7] R2'.out).mono ?_
  rintro e w24' ⟨rfl, hw⟩
  have hw' := hw.symm
  subst hw'
  clear hw
  rw [show endNo true false [7] = 11 from rfl]
  go_wp2_with fail
  refine (bytes_any w24 g3 false [1] (-1) R3.out (by decide)).mono ?_
  rintro e w25 ⟨v25, B25, rfl, _, _, hb25, hr, hg⟩
  have hr' : RD w25 g3 true true [] := hr
  have R3' := hid hr'
  have HG25 := hid hg
  have hb25' : HB w25 v25 [] := hb25
  obtain ⟨p25, c25, e25, _, _⟩ := hb25'.open
  clear hr hr' hg hb25 hb25'
  subst e25
  go_wp2_with fail
  refine (byte_any w25 g3 true [] R3'.out).mono ?_
  rintro e w26 ⟨rfl, hr, hg⟩
  have hr' : RD w26 g3 true true [] := hr
  have R3'' := hid hr'
  have HG26 := hid (grown_trans HG25.out hg)
  rw [show smallNo 1 (taken [] 1) = 0 from rfl]
  clear hr hr' hg
  go_wp2_with fail
  refine (end_any w26 g3 _ _ [] R3''.out).mono ?_
  rintro e w26' ⟨rfl, hw⟩
  have hw' := hw.symm
  subst hw'
  clear hw
  rw [show endNo true true [] = 10 from rfl]
  go_wp2
  go_ret
  refine ⟨rfl, ?_⟩
  have b1 := B20.out.grown HG23'.out B20.out.size (fun k e => by cases e; exact G1.out)
  have b2 := b1.grown HG24.out b1.size (fun k e => by cases e; exact G2.out)
  exact b2.grown HG26.out b2.size (fun k e => by cases e; exact G3.out)
end Go.Proofs.Ytiodfpaifkcmoab
