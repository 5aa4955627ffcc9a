/- plain and lives of the laws of share, walked. -/
import Derived.Test.YtfaojnnpekpomaaDoorShPlace
set_option linter.unusedSimpArgs false
set_option linter.unusedVariables false
namespace Go.Proofs.YtfaojnnpekpomaaDoor
open Go Go.RowKit

theorem plain_ok : OkS 1 1 50 60 := by unfold OkS; decide
theorem plain_p : plF 1 1 50 60 4 = 228 + (uL 1 1 50 60 : Int) ∧ plF 1 1 50 60 5 = 288 + (uL 1 1 50 60 : Int) := by
  have e1 : plF 1 1 50 60 4 = 36 + (uL 1 1 50 60 : Int) + (lgN (1 : Int).toNat : Int) * 32 + ndN (upI 60 50) * 32 + ndN (upI 60 50) * 32 := rfl
  have e2 : plF 1 1 50 60 5 = plF 1 1 50 60 4 + dtN 1 1 50 60 := rfl
  have a1 : (lgN (1 : Int).toNat : Int) = 0 := by decide
  have a2 : ndN (upI 60 50) = 3 := by decide
  have a3 : dtN 1 1 50 60 = 60 := by decide
  rw [a1, a2] at e1
  rw [a3] at e2
  omega
theorem plain_pl : plV 1 1 50 60 1 = 278 + (uL 1 1 50 60 : Int) ∧ plN2 1 1 50 60 1 = 10 ∧ plE 60 50 1 = 0 := by
  have e1 : plV 1 1 50 60 1 = plF 1 1 50 60 4 + 1 * (50 / 1) := by unfold plV; rw [if_pos (by decide)]; rfl
  have e2 := plain_p.1
  refine ⟨by omega, by decide, by decide⟩
set_option maxRecDepth 100000 in
set_option maxHeartbeats 4000000 in
theorem plain_any (w : World) : Calls Tryd.prog 11 #[] w fun e w' => e = .returned (shV (shR 1 1 50 60)) ∧ Below w.heap.size w w' := by
  rw [show shV (shR 1 1 50 60) = .agg #[.int .i64 1, .int .i64 1, .int .i64 50, .int .i64 60, .int .i64 2, .int .i64 10, .int .i64 50, .int .i64 10] from by kernel_rfl]
  go_enter Tryd.func11, Tryd.ntmps11
  go_wp2
  refine bodyPost_ret (v := .agg #[.int .i64 1, .int .i64 1, .int .i64 50, .int .i64 60, .int .i64 2, .int .i64 10, .int .i64 50, .int .i64 10]) (results_cell_row (p := 0) (ty := 24) rfl _ _ w.heap.size 24 _ (0, 0) _ rfl (heap_alloc_new w _) Tryd.underlying24 rfl (by exact size_shape)) rfl ?_
  exact ⟨rfl, (Below.refl _ w).alloc (Nat.le_refl _) _⟩
set_option maxRecDepth 100000 in
set_option maxHeartbeats 4000000 in
theorem lives_any (w : World) (hkp : KP w) : Calls Tryd.prog 5 #[] w fun e w' => e = .returned (.bool true) ∧ Below w.heap.size w w' := by
  have CP := hid fun w => plain_any w
  have C1 := hid fun w => frontLen_ok w 1 1 50 60 plain_ok
  have C2 := hid fun w => len_ok w 1 1 50 60 plain_ok
  have C3 := hid fun w => place_ok w 1 1 50 60 plain_ok 1
  have C4 := hid fun w => length_any w (ubZ 1 1 50 60) (ubZ_ok 1 1 50 60)
  have e0 : chE (ubZ 1 1 50 60) = 0 := by unfold chE; rw [if_pos (show OkS (ubZ 1 1 50 60).k (ubZ 1 1 50 60).n (ubZ 1 1 50 60).g (ubZ 1 1 50 60).z from plain_ok)]
  rw [e0, show (wrL (ubZ 1 1 50 60)).length = uL 1 1 50 60 from rfl] at C4
  rw [plain_p.1] at C1
  rw [plain_p.2] at C2
  rw [plain_pl.1, plain_pl.2.1, plain_pl.2.2] at C3
  have hu := uL_le 1 1 50 60
  have SZ := hid (set_z 1 1 50 60)
  obtain ⟨U, HU⟩ : ∃ U, Hid (uL 1 1 50 60 = U) := ⟨_, rfl⟩
  rw [HU.out] at C1 C2 C3 C4 hu
  obtain ⟨m, Hm⟩ : ∃ m, Hid (shV (shR 1 1 50 60) = m) := ⟨_, rfl⟩
  rw [Hm.out] at C1 C2 C3 CP
  obtain ⟨y, Hy⟩ : ∃ y, Hid (ubA (ubZ 1 1 50 60) = y) := ⟨_, rfl⟩
  rw [Hy.out] at C4 SZ
  have HK := hid hkp
  clear hkp e0
  have k1 : IntKind.i64.wrap (228 + (U : Int)) = 228 + (U : Int) := by rw [IntKind.wrap_i64]; omega
  have k2 : IntKind.i64.wrap (288 + (U : Int)) = 288 + (U : Int) := by rw [IntKind.wrap_i64]; omega
  have k3 : IntKind.i64.wrap (278 + (U : Int)) = 278 + (U : Int) := by rw [IntKind.wrap_i64]; omega
  go_enter Tryd.func5, Tryd.ntmps5
  go_wp2_with fail
  refine (CP.out w).mono ?_
  rintro e w1 ⟨rfl, hb1⟩
  have B1 := hid hb1
  clear hb1
  go_wp2_with fail
  refine (C1.out w1 (HK.out.below B1.out)).mono ?_
  rintro e w2 ⟨rfl, hb2⟩
  have B2 := hid (B1.out.trans (hb2.mono B1.out.size))
  clear hb2
  go_wp2_with fail
  refine (CP.out w2).mono ?_
  rintro e w3 ⟨rfl, hb3⟩
  have B3 := hid (B2.out.trans (hb3.mono B2.out.size))
  clear hb3
  go_wp2_with fail
  refine (C2.out w3 (HK.out.below B3.out)).mono ?_
  rintro e w4 ⟨rfl, hb4⟩
  have B4 := hid (B3.out.trans (hb4.mono B3.out.size))
  clear hb4
  go_wp2_with fail
  refine (CP.out w4).mono ?_
  rintro e w5 ⟨rfl, hb5⟩
  have B5 := hid (B4.out.trans (hb5.mono B4.out.size))
  clear hb5
  go_wp2_with fail
  refine (C3.out w5 (HK.out.below B5.out)).mono ?_
  rintro e w6 ⟨rfl, hb6⟩
  have B6 := hid (B5.out.trans (hb6.mono B5.out.size))
  clear hb6
  go_wp2_with fail
  rw [SZ.out]
  refine (C4.out w6 (HK.out.below B6.out)).mono ?_
  rintro e w7 ⟨rfl, hb7⟩
  have B7 := hid (B6.out.trans (hb7.mono B6.out.size))
  clear hb7 hu
  go_wp2
  go_ret
  exact ⟨rfl, B7.out⟩
set_option maxRecDepth 100000 in
theorem shareNames_walk (w : World) (hkp : KP w) : Calls Tryd.prog 4 #[] w fun e w' => e = .returned (.bool true) ∧ Below w.heap.size w w' := by
  have C := hid (lives_any w hkp)
  go_enter Tryd.func4, Tryd.ntmps4
  go_wp2_with fail
  refine C.out.mono ?_
  rintro e w1 ⟨rfl, hb1⟩
  have B1 := hid hb1
  clear hb1
  go_wp2
  go_ret
  exact ⟨rfl, B1.out⟩
end Go.Proofs.YtfaojnnpekpomaaDoor
