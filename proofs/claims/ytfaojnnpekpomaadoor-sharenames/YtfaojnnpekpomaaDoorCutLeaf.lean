/- The small functions of cut, walked: the program's and the document's. -/
import Derived.Test.YtfaojnnpekpomaaDoorChecked
import Derived.Test.YtfaojnnpekpomaaDoorBase
import Derived.Test.YtfaojnnpekpomaaDoorCutMath
set_option linter.unusedSimpArgs false
set_option linter.unusedVariables false
namespace Go.Proofs.YtfaojnnpekpomaaDoor
open Go Go.RowKit

set_option maxRecDepth 100000 in
set_option maxHeartbeats 4000000 in
theorem upward_any (w : World) (x y : Int) (hx : 1 ≤ x) (hx2 : x ≤ 4611686018427387904) (hy : 1 ≤ y) : Calls Tryd.prog 42 #[.int .i64 x, .int .i64 y] w fun e w' => e = .returned (.int .i64 (upI x y)) ∧ w' = w := by
  have E := hid (upI_tdiv hx hy)
  have q1 := upI_pos hx hy
  have q2 := upI_le hx hy
  obtain ⟨d, Hd⟩ : ∃ d, Hid ((x - 1).tdiv y = d) := ⟨_, rfl⟩
  have hd : (x - 1).tdiv y = d := Hd.out
  have hdu : d + 1 = upI x y := by rw [← Hd.out]; exact E.out
  have k1 : IntKind.i64.wrap (x - 1) = x - 1 := by rw [IntKind.wrap_i64]; omega
  have k2 : IntKind.i64.wrap d = d := by rw [IntKind.wrap_i64]; omega
  have k3 : IntKind.i64.wrap (d + 1) = d + 1 := by rw [IntKind.wrap_i64]; omega
  have hy0 : ¬ y = 0 := by omega
  have HU := hid hdu
  clear hdu q1 q2
  go_enter Tryd.func42, Tryd.ntmps42
  go_wp2
  go_ret
  rw [← HU.out]
  exact ⟨rfl, rfl⟩
set_option maxRecDepth 100000 in
set_option maxHeartbeats 4000000 in
theorem most_any (w : World) (k : Int) (h1 : 1 ≤ k) (h2 : k ≤ 255) : Calls Tryd.prog 35 #[.int .i64 k] w fun e w' => e = .returned (.int .i64 (k * upI 65536 k)) ∧ w' = w := by
  have C := hid (upward_any w 65536 k (by decide) (by decide) h1)
  obtain ⟨m1, m2⟩ := most_lt h1 h2
  obtain ⟨m, Hm⟩ : ∃ m, Hid (k * upI 65536 k = m) := ⟨_, rfl⟩
  have hm : k * upI 65536 k = m := Hm.out
  have k1 : IntKind.i64.wrap m = m := by rw [IntKind.wrap_i64]; omega
  clear m1 m2
  go_enter Tryd.func35, Tryd.ntmps35
  go_wp2_with fail
  refine C.out.mono ?_
  rintro e w' ⟨rfl, rfl⟩
  go_wp2
  go_ret
  first | exact ⟨rfl, rfl⟩ | (rw [Hm.out]; exact ⟨rfl, rfl⟩)
/-- Whether K and N may be. -/
def cntB (k n : Int) : Bool := decide (1 ≤ k ∧ k ≤ n ∧ n ≤ 255)
set_option maxRecDepth 100000 in
set_option maxHeartbeats 4000000 in
theorem counts_any (w : World) (k n : Int) : Calls Tryd.prog 34 #[.int .i64 k, .int .i64 n] w fun e w' => e = .returned (.bool (cntB k n)) ∧ w' = w := by
  go_enter Tryd.func34, Tryd.ntmps34
  by_cases h1 : 1 ≤ k
  · by_cases h2 : k ≤ n
    · by_cases h3 : n ≤ 255
      · have F : Hid (cntB k n = true) := decide_eq_true ⟨h1, h2, h3⟩
        go_wp2; go_ret; rw [F.out]; exact ⟨rfl, rfl⟩
      · have F : Hid (cntB k n = false) := decide_eq_false fun h => h3 h.2.2
        go_wp2; go_ret; rw [F.out]; exact ⟨rfl, rfl⟩
    · have F : Hid (cntB k n = false) := decide_eq_false fun h => h2 h.2.1
      go_wp2; go_ret; rw [F.out]; exact ⟨rfl, rfl⟩
  · have F : Hid (cntB k n = false) := decide_eq_false fun h => h1 h.1
    go_wp2; go_ret; rw [F.out]; exact ⟨rfl, rfl⟩
def szB (z : Int) : Bool := decide (33 ≤ z ∧ z ≤ 16777216)
set_option maxRecDepth 100000 in
set_option maxHeartbeats 4000000 in
theorem shared_any (w : World) (z : Int) : Calls Tryd.prog 36 #[.int .i64 z] w fun e w' => e = .returned (.bool (szB z)) ∧ w' = w := by
  go_enter Tryd.func36, Tryd.ntmps36
  by_cases h1 : 32 < z
  · by_cases h2 : z ≤ 16777216
    · have F : Hid (szB z = true) := decide_eq_true ⟨by omega, h2⟩
      go_wp2; go_ret; rw [F.out]; exact ⟨rfl, rfl⟩
    · have F : Hid (szB z = false) := decide_eq_false fun h => h2 h.2
      go_wp2; go_ret; rw [F.out]; exact ⟨rfl, rfl⟩
  · have F : Hid (szB z = false) := decide_eq_false fun h => h1 (by have := h.1; omega)
    go_wp2; go_ret; rw [F.out]; exact ⟨rfl, rfl⟩
/-- Parameters as a value. -/
def prV (k n g h : Int) (s : Value) : Value := .agg #[.int .i64 k, .int .i64 n, .int .i64 g, .int .i64 h, s]
theorem below_alloc (w : World) (o : Obj) : Below w.heap.size w (w.alloc o) := (Below.refl _ w).alloc (Nat.le_refl _) o
theorem rup_tdiv {x y : Int} (hx : 0 ≤ x) (hy : 1 ≤ y) : x.tdiv y + (x.tmod y + y - 1).tdiv y = upI x y := by
  have h2 := Int.emod_nonneg x (show y ≠ 0 by omega)
  rw [Int.tdiv_eq_ediv_of_nonneg hx, Int.tmod_eq_emod_of_nonneg hx, Int.tdiv_eq_ediv_of_nonneg (by omega)]
  exact up_ref hx hy
end Go.Proofs.YtfaojnnpekpomaaDoor
