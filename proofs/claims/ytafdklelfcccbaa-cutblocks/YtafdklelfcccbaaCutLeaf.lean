/- The small functions of cut, walked: the program's and the document's. -/
import Derived.Test.YtafdklelfcccbaaChecked
import Derived.Test.YtafdklelfcccbaaBase
import Derived.Test.YtafdklelfcccbaaCutMath
set_option linter.unusedSimpArgs false
set_option linter.unusedVariables false
namespace Go.Proofs.Ytafdklelfcccbaa
open Go Go.RowKit

set_option maxRecDepth 100000 in
set_option maxHeartbeats 4000000 in
theorem upward_any (w : World) (x y : Int) (hx : 1 ≤ x) (hx2 : x ≤ 4611686018427387904) (hy : 1 ≤ y) : Calls Try.prog 41 #[.int .i64 x, .int .i64 y] w fun e w' => e = .returned (.int .i64 (upI x y)) ∧ w' = w := by
  have E := hid (upI_tdiv hx hy)
  have q1 := upI_pos hx hy
  have q2 := upI_le hx hy
  obtain ⟨d, Hd⟩ : ∃ d, Hid ((x - 1).tdiv y = d) := ⟨_, rfl⟩
  have hd : (x - 1).tdiv y = d := Hd.out
  have hdu : d + 1 = upI x y := by rw [← Hd.out]; exact E.out
  have k1 : IntKind.i64.wrap (x - 1) = x - 1 := by rw [IntKind.wrap_i64]; omega
  have k2 : IntKind.i64.wrap d = d := by rw [IntKind.wrap_i64]; omega
  have k3 : IntKind.i64.wrap (d + 1) = d + 1 := by rw [IntKind.wrap_i64]; omega
  have hy0 : ¬ y = 0 := by omega
  have HU := hid hdu
  clear hdu q1 q2
  go_enter Try.func41, Try.ntmps41
  go_wp2
  go_ret
  rw [← HU.out]
  exact ⟨rfl, rfl⟩
set_option maxRecDepth 100000 in
set_option maxHeartbeats 4000000 in
theorem most_any (w : World) (k : Int) (h1 : 1 ≤ k) (h2 : k ≤ 255) : Calls Try.prog 47 #[.int .i64 k] w fun e w' => e = .returned (.int .i64 (k * upI 65536 k)) ∧ w' = w := by
  have C := hid (upward_any w 65536 k (by decide) (by decide) h1)
  obtain ⟨m1, m2⟩ := most_lt h1 h2
  obtain ⟨m, Hm⟩ : ∃ m, Hid (k * upI 65536 k = m) := ⟨_, rfl⟩
  have hm : k * upI 65536 k = m := Hm.out
  have k1 : IntKind.i64.wrap m = m := by rw [IntKind.wrap_i64]; omega
  clear m1 m2
  go_enter Try.func47, Try.ntmps47
  go_wp2_with fail
  refine C.out.mono ?_
  rintro e w' ⟨rfl, rfl⟩
  go_wp2
  go_ret
  first | exact ⟨rfl, rfl⟩ | (rw [Hm.out]; exact ⟨rfl, rfl⟩)
/-- Whether K and N may be. -/
def cntB (k n : Int) : Bool := decide (1 ≤ k ∧ k ≤ n ∧ n ≤ 255)
set_option maxRecDepth 100000 in
set_option maxHeartbeats 4000000 in
theorem counts_any (w : World) (k n : Int) : Calls Try.prog 42 #[.int .i64 k, .int .i64 n] w fun e w' => e = .returned (.bool (cntB k n)) ∧ w' = w := by
  go_enter Try.func42, Try.ntmps42
  by_cases h1 : 1 ≤ k
  · by_cases h2 : k ≤ n
    · by_cases h3 : n ≤ 255
      · have F : Hid (cntB k n = true) := decide_eq_true ⟨h1, h2, h3⟩
        go_wp2; go_ret; rw [F.out]; exact ⟨rfl, rfl⟩
      · have F : Hid (cntB k n = false) := decide_eq_false fun h => h3 h.2.2
        go_wp2; go_ret; rw [F.out]; exact ⟨rfl, rfl⟩
    · have F : Hid (cntB k n = false) := decide_eq_false fun h => h2 h.2.1
      go_wp2; go_ret; rw [F.out]; exact ⟨rfl, rfl⟩
  · have F : Hid (cntB k n = false) := decide_eq_false fun h => h1 h.1
    go_wp2; go_ret; rw [F.out]; exact ⟨rfl, rfl⟩
def szB (z : Int) : Bool := decide (33 ≤ z ∧ z ≤ 16777216)
set_option maxRecDepth 100000 in
set_option maxHeartbeats 4000000 in
theorem shared_any (w : World) (z : Int) : Calls Try.prog 39 #[.int .i64 z] w fun e w' => e = .returned (.bool (szB z)) ∧ w' = w := by
  go_enter Try.func39, Try.ntmps39
  by_cases h1 : 32 < z
  · by_cases h2 : z ≤ 16777216
    · have F : Hid (szB z = true) := decide_eq_true ⟨by omega, h2⟩
      go_wp2; go_ret; rw [F.out]; exact ⟨rfl, rfl⟩
    · have F : Hid (szB z = false) := decide_eq_false fun h => h2 h.2
      go_wp2; go_ret; rw [F.out]; exact ⟨rfl, rfl⟩
  · have F : Hid (szB z = false) := decide_eq_false fun h => h1 (by have := h.1; omega)
    go_wp2; go_ret; rw [F.out]; exact ⟨rfl, rfl⟩
/-- Parameters as a value. -/
def prV (k n g h : Int) (s : Value) : Value := .agg #[.int .i64 k, .int .i64 n, .int .i64 g, .int .i64 h, s]
theorem below_alloc (w : World) (o : Obj) : Below w.heap.size w (w.alloc o) := (Below.refl _ w).alloc (Nat.le_refl _) o
set_option maxRecDepth 100000 in
set_option maxHeartbeats 8000000 in
theorem check_any (w : World) (k n g h : Int) (p : Option Addr) (l c : Nat) : Calls Try.prog 11 #[prV k n g h (.slice p l c)] w fun e w' => e = .returned (.int .i64 (chkE k n g l)) ∧ Below w.heap.size w w' := by
  have C := hid fun w => counts_any w k n
  unfold prV
  go_enter Try.func11, Try.ntmps11
  by_cases hc : 1 ≤ k ∧ k ≤ n ∧ n ≤ 255
  · have HC := hid hc
    have hb : cntB k n = true := decide_eq_true hc
    rw [hb] at C
    clear hb hc
    by_cases h1 : g < 1
    · have F : Hid (chkE k n g l = 3) := if_neg fun h => by have := h.2.2.2.1; omega
      go_wp2_with fail
      refine (C.out _).mono ?_
      rintro e w' ⟨rfl, rfl⟩
      go_wp2; go_ret; rw [F.out]; exact ⟨rfl, below_alloc _ _⟩
    · by_cases h2 : 65536 < g
      · have F : Hid (chkE k n g l = 3) := if_neg fun h => by have := h.2.2.2.2.1; omega
        go_wp2_with fail
        refine (C.out _).mono ?_
        rintro e w' ⟨rfl, rfl⟩
        go_wp2; go_ret; rw [F.out]; exact ⟨rfl, below_alloc _ _⟩
      · by_cases h3 : (64 : Int) < (l : Int)
        · have F : Hid (chkE k n g l = 3) := if_neg fun h => by have := h.2.2.2.2.2; omega
          go_wp2_with fail
          refine (C.out _).mono ?_
          rintro e w' ⟨rfl, rfl⟩
          go_wp2; go_ret; rw [F.out]; exact ⟨rfl, below_alloc _ _⟩
        · have F : Hid (chkE k n g l = 0) := if_pos ⟨HC.out.1, HC.out.2.1, HC.out.2.2, by omega, by omega, by omega⟩
          go_wp2_with fail
          refine (C.out _).mono ?_
          rintro e w' ⟨rfl, rfl⟩
          go_wp2; go_ret; rw [F.out]; exact ⟨rfl, below_alloc _ _⟩
  · have F : Hid (chkE k n g l = 3) := if_neg fun h => hc ⟨h.1, h.2.1, h.2.2.1⟩
    have hb : cntB k n = false := decide_eq_false hc
    rw [hb] at C
    clear hb hc
    go_wp2_with fail
    refine (C.out _).mono ?_
    rintro e w' ⟨rfl, rfl⟩
    go_wp2; go_ret; rw [F.out]; exact ⟨rfl, below_alloc _ _⟩
theorem rup_tdiv {x y : Int} (hx : 0 ≤ x) (hy : 1 ≤ y) : x.tdiv y + (x.tmod y + y - 1).tdiv y = upI x y := by
  have h2 := Int.emod_nonneg x (show y ≠ 0 by omega)
  rw [Int.tdiv_eq_ediv_of_nonneg hx, Int.tmod_eq_emod_of_nonneg hx, Int.tdiv_eq_ediv_of_nonneg (by omega)]
  exact up_ref hx hy
end Go.Proofs.Ytafdklelfcccbaa
