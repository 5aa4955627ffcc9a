/- placeIn, FrontLen, Len and Place of share, walked. -/
import Derived.Test.YtfaojnnpekpomaaDoorShLay
set_option linter.unusedSimpArgs false
set_option linter.unusedVariables false
namespace Go.Proofs.YtfaojnnpekpomaaDoor
open Go Go.RowKit

theorem ft_of {k n g z : Int} (h : OkS k n g z) : ftB k n g z (upI z g) (tlI z g) (g / k) (upI (tlI z g) k) = true := by
  unfold ftB
  exact decide_eq_true ⟨h, rfl⟩
theorem run_idx6 (W : World) (f : Nat → Int) (i : Nat) (h : i < 6) : (Instr.index 51 (.agg (tab6 f)) (.int .i64 (i : Int))).run Tryd.prog W = .ok (.int .i64 (f i)) W := by
  match i, h with
  | 0, h => rfl
  | 1, h => rfl
  | 2, h => rfl
  | 3, h => rfl
  | 4, h => rfl
  | 5, h => rfl
theorem shV_size (l : List Int) (h : l.length = 8) : (Tryd.prog.info? 24).map (·.size) = some (ints l).size := by
  rw [show (ints l).size = 8 by simp [ints, h]]; exact size_shape
set_option maxRecDepth 100000 in
set_option maxHeartbeats 4000000 in
theorem placeIn_ok (w : World) (k n g z : Int) (h : OkS k n g z) (j : Nat) (hj : j < 6) (hkp : KP w) : Calls Tryd.prog 14 #[shV (shR k n g z), .int .i64 (j : Int)] w fun e w' => e = .returned (.tuple #[.int .i64 (plF k n g z j), .int .i64 0]) ∧ Below w.heap.size w w' := by
  have C1 := hid fun w => fits_any w k n g z (upI z g) (tlI z g) (g / k) (upI (tlI z g) k)
  rw [ft_of h, show [k, n, g, z, upI z g, tlI z g, g / k, upI (tlI z g) k] = shR k n g z from rfl] at C1
  have C2 := hid fun w => layout_any w k n g z h
  have HS := hid (shV_size (shR k n g z) rfl)
  have HX := hid fun W => run_idx6 W (plF k n g z) j hj
  unfold shV at C1 C2
  unfold shV
  obtain ⟨m, Hm⟩ : ∃ m, Hid (ints (shR k n g z) = m) := ⟨_, rfl⟩
  rw [Hm.out] at C1 C2 HS
  rw [Hm.out]
  obtain ⟨t, Ht⟩ : ∃ t, Hid (tab6 (plF k n g z) = t) := ⟨_, rfl⟩
  rw [Ht.out] at C2 HX
  have HK := hid hkp
  clear hkp
  have B0 := hid ((Below.refl w.heap.size w).alloc (Nat.le_refl _) (.cells m 24))
  obtain ⟨w0, HW0⟩ : ∃ x, Hid (w.alloc (.cells m 24) = x) := ⟨_, rfl⟩
  have H0 := hid (heap_alloc_new w (.cells m 24))
  have Z0 : Hid (w0.heap.size = w.heap.size + 1) := by refine hid ?_; rw [← HW0.out]; simp
  rw [HW0.out] at B0 H0
  go_enter Tryd.func14, Tryd.ntmps14
  go_wp2_with (first | (rw [HW0.out]; refine wpList_load_row rfl 24 _ rfl w.heap.size rfl 24 m (0, 0) _ H0.out Tryd.underlying24 rfl HS.out ?_) | fail)
  refine (C1.out w0).mono ?_
  rintro e w1 ⟨rfl, hb1⟩
  have B1 := hid hb1
  have H1 := hid ((hb1.block w.heap.size (by rw [Z0.out]; omega)).trans H0.out)
  have K1 := hid ((HK.out.below B0.out).below hb1)
  clear hb1 C1
  go_wp2_with (first | (refine wpList_load_row rfl 24 _ rfl w.heap.size rfl 24 m (0, 0) _ H1.out Tryd.underlying24 rfl HS.out ?_) | fail)
  refine (C2.out w1 K1.out).mono ?_
  rintro e w2 ⟨rfl, hb2⟩
  have B2 := hid (B0.out.trans ((B1.out.trans (hb2.mono B1.out.size)).mono B0.out.size))
  have hix := HX.out
  clear hb2 C2
  go_wp2
  go_ret2
  exact ⟨rfl, B2.out⟩
set_option maxRecDepth 100000 in
set_option maxHeartbeats 4000000 in
theorem placeIn_bad (w : World) (a b c d e f g h j : Int) (hf : ftB a b c d e f g h = false) : Calls Tryd.prog 14 #[shV [a, b, c, d, e, f, g, h], .int .i64 j] w fun r w' => r = .returned (.tuple #[.int .i64 0, .int .i64 3]) ∧ Below w.heap.size w w' := by
  have C1 := hid fun w => fits_any w a b c d e f g h
  rw [hf] at C1
  have HS := hid (shV_size [a, b, c, d, e, f, g, h] rfl)
  unfold shV at C1
  unfold shV
  obtain ⟨m, Hm⟩ : ∃ m, Hid (ints [a, b, c, d, e, f, g, h] = m) := ⟨_, rfl⟩
  rw [Hm.out] at C1 HS
  rw [Hm.out]
  have B0 := hid ((Below.refl w.heap.size w).alloc (Nat.le_refl _) (.cells m 24))
  obtain ⟨w0, HW0⟩ : ∃ x, Hid (w.alloc (.cells m 24) = x) := ⟨_, rfl⟩
  have H0 := hid (heap_alloc_new w (.cells m 24))
  rw [HW0.out] at B0 H0
  go_enter Tryd.func14, Tryd.ntmps14
  go_wp2_with (first | (rw [HW0.out]; refine wpList_load_row rfl 24 _ rfl w.heap.size rfl 24 m (0, 0) _ H0.out Tryd.underlying24 rfl HS.out ?_) | fail)
  refine (C1.out w0).mono ?_
  rintro e w1 ⟨rfl, hb1⟩
  have B1 := hid (B0.out.trans (hb1.mono B0.out.size))
  clear hb1 C1
  go_wp2
  go_ret2
  exact ⟨rfl, B1.out⟩
set_option maxRecDepth 100000 in
set_option maxHeartbeats 4000000 in
theorem frontLen_of (w : World) (m : Array Value) (hm : (Tryd.prog.info? 24).map (·.size) = some m.size) (x e : Int) (h : ∀ w', Below w.heap.size w w' → Calls Tryd.prog 14 #[.agg m, .int .i64 4] w' fun r w'' => r = .returned (.tuple #[.int .i64 x, .int .i64 e]) ∧ Below w'.heap.size w' w'') :
    Calls Tryd.prog 7 #[.agg m] w fun r w' => r = .returned (.tuple #[.int .i64 x, .int .i64 e]) ∧ Below w.heap.size w w' := by
  have C1 := hid h
  have HS := hid hm
  have B0 := hid ((Below.refl w.heap.size w).alloc (Nat.le_refl _) (.cells m 24))
  obtain ⟨w0, HW0⟩ : ∃ x, Hid (w.alloc (.cells m 24) = x) := ⟨_, rfl⟩
  have H0 := hid (heap_alloc_new w (.cells m 24))
  rw [HW0.out] at B0 H0
  clear h hm
  go_enter Tryd.func7, Tryd.ntmps7
  go_wp2_with (first | (rw [HW0.out]; refine wpList_load_row rfl 24 _ rfl w.heap.size rfl 24 m (0, 0) _ H0.out Tryd.underlying24 rfl HS.out ?_) | fail)
  refine (C1.out w0 B0.out).mono ?_
  rintro e w1 ⟨rfl, hb1⟩
  have B1 := hid (B0.out.trans (hb1.mono B0.out.size))
  clear hb1 C1
  go_wp2
  go_ret2
  exact ⟨rfl, B1.out⟩
theorem frontLen_ok (w : World) (k n g z : Int) (h : OkS k n g z) (hkp : KP w) : Calls Tryd.prog 7 #[shV (shR k n g z)] w fun e w' => e = .returned (.tuple #[.int .i64 (plF k n g z 4), .int .i64 0]) ∧ Below w.heap.size w w' :=
  frontLen_of w _ (shV_size (shR k n g z) rfl) _ _ fun w' hb => placeIn_ok w' k n g z h 4 (by omega) (hkp.below hb)
theorem frontLen_bad (w : World) (a b c d e f g h : Int) (hf : ftB a b c d e f g h = false) : Calls Tryd.prog 7 #[shV [a, b, c, d, e, f, g, h]] w fun r w' => r = .returned (.tuple #[.int .i64 0, .int .i64 3]) ∧ Below w.heap.size w w' :=
  frontLen_of w _ (shV_size _ rfl) _ _ fun w' _ => placeIn_bad w' a b c d e f g h 4 hf
set_option maxRecDepth 100000 in
set_option maxHeartbeats 4000000 in
theorem len_of (w : World) (m : Array Value) (hm : (Tryd.prog.info? 24).map (·.size) = some m.size) (x e : Int) (h : ∀ w', Below w.heap.size w w' → Calls Tryd.prog 14 #[.agg m, .int .i64 5] w' fun r w'' => r = .returned (.tuple #[.int .i64 x, .int .i64 e]) ∧ Below w'.heap.size w' w'') :
    Calls Tryd.prog 8 #[.agg m] w fun r w' => r = .returned (.tuple #[.int .i64 x, .int .i64 e]) ∧ Below w.heap.size w w' := by
  have C1 := hid h
  have HS := hid hm
  have B0 := hid ((Below.refl w.heap.size w).alloc (Nat.le_refl _) (.cells m 24))
  obtain ⟨w0, HW0⟩ : ∃ x, Hid (w.alloc (.cells m 24) = x) := ⟨_, rfl⟩
  have H0 := hid (heap_alloc_new w (.cells m 24))
  rw [HW0.out] at B0 H0
  clear h hm
  go_enter Tryd.func8, Tryd.ntmps8
  go_wp2_with (first | (rw [HW0.out]; refine wpList_load_row rfl 24 _ rfl w.heap.size rfl 24 m (0, 0) _ H0.out Tryd.underlying24 rfl HS.out ?_) | fail)
  refine (C1.out w0 B0.out).mono ?_
  rintro e w1 ⟨rfl, hb1⟩
  have B1 := hid (B0.out.trans (hb1.mono B0.out.size))
  clear hb1 C1
  go_wp2
  go_ret2
  exact ⟨rfl, B1.out⟩
theorem len_ok (w : World) (k n g z : Int) (h : OkS k n g z) (hkp : KP w) : Calls Tryd.prog 8 #[shV (shR k n g z)] w fun e w' => e = .returned (.tuple #[.int .i64 (plF k n g z 5), .int .i64 0]) ∧ Below w.heap.size w w' :=
  len_of w _ (shV_size (shR k n g z) rfl) _ _ fun w' hb => placeIn_ok w' k n g z h 5 (by omega) (hkp.below hb)
theorem len_bad (w : World) (a b c d e f g h : Int) (hf : ftB a b c d e f g h = false) : Calls Tryd.prog 8 #[shV [a, b, c, d, e, f, g, h]] w fun r w' => r = .returned (.tuple #[.int .i64 0, .int .i64 3]) ∧ Below w.heap.size w w' :=
  len_of w _ (shV_size _ rfl) _ _ fun w' _ => placeIn_bad w' a b c d e f g h 5 hf
/-- How many bytes the block of a segment has. -/
def bkN (k n g z j : Int) : Int := if j = upI z g - 1 then upI (tlI z g) k else g / k
def plE (z g j : Int) : Int := if 0 ≤ j ∧ j < upI z g then 0 else 2
def plV (k n g z j : Int) : Int := if 0 ≤ j ∧ j < upI z g then p4 k n g z + j * (g / k) else 0
def plN2 (k n g z j : Int) : Int := if 0 ≤ j ∧ j < upI z g then bkN k n g z j else 0
set_option maxRecDepth 100000 in
set_option maxHeartbeats 4000000 in
theorem place_ok (w : World) (k n g z : Int) (h : OkS k n g z) (j : Int) (hkp : KP w) : Calls Tryd.prog 9 #[shV (shR k n g z), .int .i64 j] w fun e w' => e = .returned (.tuple #[.int .i64 (plV k n g z j), .int .i64 (plN2 k n g z j), .int .i64 (plE z g j)]) ∧ Below w.heap.size w w' := by
  have hbl := h.blocks
  have hp4 := p_le k n g z
  have C1 := hid fun w => frontLen_ok w k n g z h
  have C2 := hid fun w => blocksize_any w k n g z (upI z g) (tlI z g) (g / k) (upI (tlI z g) k) j
  rw [ft_of h, show [k, n, g, z, upI z g, tlI z g, g / k, upI (tlI z g) k] = shR k n g z from rfl] at C2
  rw [show plF k n g z 4 = p4 k n g z from rfl] at C1
  have HS := hid (shV_size (shR k n g z) rfl)
  have H6 : Hid ((ints (shR k n g z))[6]? = some (.int .i64 (g / k))) := rfl
  unfold shV at C1 C2
  unfold shV
  obtain ⟨m, Hm⟩ : ∃ m, Hid (ints (shR k n g z) = m) := ⟨_, rfl⟩
  rw [Hm.out] at C1 C2 HS H6
  rw [Hm.out]
  have HK := hid hkp
  clear hkp
  have B0 := hid ((Below.refl w.heap.size w).alloc (Nat.le_refl _) (.cells m 24))
  obtain ⟨w0, HW0⟩ : ∃ x, Hid (w.alloc (.cells m 24) = x) := ⟨_, rfl⟩
  have H0 := hid (heap_alloc_new w (.cells m 24))
  have Z0 : Hid (w0.heap.size = w.heap.size + 1) := by refine hid ?_; rw [← HW0.out]; simp
  rw [HW0.out] at B0 H0
  go_enter Tryd.func9, Tryd.ntmps9
  go_wp2_with (first | (rw [HW0.out]; refine wpList_load_row rfl 24 _ rfl w.heap.size rfl 24 m (0, 0) _ H0.out Tryd.underlying24 rfl HS.out ?_) | fail)
  refine (C1.out w0 (HK.out.below B0.out)).mono ?_
  rintro e w1 ⟨rfl, hb1⟩
  have B1 := hid hb1
  have H1 := hid ((hb1.block w.heap.size (by rw [Z0.out]; omega)).trans H0.out)
  clear hb1 C1
  go_wp2_with (first | (refine wpList_load_row rfl 24 _ rfl w.heap.size rfl 24 m (0, 0) _ H1.out Tryd.underlying24 rfl HS.out ?_) | fail)
  refine (C2.out w1).mono ?_
  rintro e w2 ⟨rfl, hb2⟩
  have H2 := hid ((hb2.block w.heap.size (by have := B1.out.size; rw [Z0.out] at this; omega)).trans H1.out)
  have B2 := hid (B0.out.trans ((B1.out.trans (hb2.mono B1.out.size)).mono B0.out.size))
  have c6 : w2.cell? ⟨w.heap.size, 6, none⟩ = some (.int .i64 (g / k)) := (cell_of_row _ _ _ _ _ _ H2.out).trans H6.out
  unfold szE szV
  clear hb2 C2
  by_cases hj : 0 ≤ j ∧ j < upI z g
  · have E1 : Hid (plV k n g z j = p4 k n g z + j * (g / k)) := hid (if_pos hj)
    have E2 : Hid (plN2 k n g z j = bkN k n g z j) := hid (if_pos hj)
    have E3 : Hid (plE z g j = 0) := hid (if_pos hj)
    rw [if_pos rfl, if_pos rfl, if_pos hj, if_pos hj]
    have hm : 0 ≤ j * (g / k) := Int.mul_nonneg hj.1 (by omega)
    have hm2 : j * (g / k) ≤ (upI z g - 1) * (g / k) := Int.mul_le_mul_of_nonneg_right (by omega) (by omega)
    have k1 : IntKind.i64.wrap (j * (g / k)) = j * (g / k) := by rw [IntKind.wrap_i64]; omega
    have k2 : IntKind.i64.wrap (p4 k n g z + j * (g / k)) = p4 k n g z + j * (g / k) := by rw [IntKind.wrap_i64]; omega
    rw [show (if j = upI z g - 1 then upI (tlI z g) k else g / k) = bkN k n g z j from rfl]
    clear hbl hp4 hm hm2 hj
    go_wp2
    go_ret3
    exact ⟨by rw [E1.out, E2.out, E3.out]; rfl, B2.out⟩
  · have E1 : Hid (plV k n g z j = 0) := hid (if_neg hj)
    have E2 : Hid (plN2 k n g z j = 0) := hid (if_neg hj)
    have E3 : Hid (plE z g j = 2) := hid (if_neg hj)
    rw [if_pos rfl, if_pos rfl, if_neg hj, if_neg hj]
    clear hbl hp4 hj
    go_wp2
    go_ret3
    exact ⟨by rw [E1.out, E2.out, E3.out]; rfl, B2.out⟩
end Go.Proofs.YtfaojnnpekpomaaDoor
