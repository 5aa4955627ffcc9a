/- gf.Exp, Log, Inv, Div, Pow, walked. -/
import Derived.Test.YtadpehidefbmhaaGfTab
set_option linter.unusedSimpArgs false
set_option linter.unusedVariables false
namespace Go.Proofs.Ytadpehidefbmhaa
open Go Go.RowKit

theorem tmod_cases (n : Int) : (n.tmod 255 < 0 ∧ n.tmod 255 + 255 = n % 255 ∧ -255 < n.tmod 255) ∨ (¬ n.tmod 255 < 0 ∧ n.tmod 255 = n % 255) := by
  have h := Int.tmod_eq_emod (a := n) (b := 255)
  have h1 : (if 0 ≤ n ∨ (255 : Int) ∣ n then 0 else Int.natAbs 255) = 0 ∨ (if 0 ≤ n ∨ (255 : Int) ∣ n then 0 else Int.natAbs 255) = 255 ∧ ¬ (255 : Int) ∣ n := by
    split
    · exact .inl rfl
    · rename_i q; exact .inr ⟨rfl, fun hd => q (.inr hd)⟩
  rcases h1 with h1 | ⟨h1, h2⟩
  · rw [h1] at h
    right
    omega
  · rw [h1] at h
    left
    have : n % 255 ≠ 0 := fun e => h2 (Int.dvd_of_emod_eq_zero e)
    omega
theorem powLit_length : powLit.length = 255 := by decide +kernel
theorem lgLit_length : lgLit.length = 256 := by decide +kernel
theorem powLit_get (i : Nat) (h : i < 255) : powLit.getD i 0 = pw i := by
  rw [← powL_lit]
  simp [powL, List.getD, h]

set_option maxHeartbeats 1000000 in
theorem exp_any (w : World) (n : Int) (h1 : -9223372036854775808 ≤ n) (h2 : n ≤ 9223372036854775807) : Calls Try.prog 59 #[.int .i64 n] w fun e w' => e = .returned (.int .u8 ((ex n : Nat) : Int)) ∧ Below w.heap.size w w' := by
  have C := hid (powers_any w)
  obtain ⟨m, HM⟩ : ∃ m, Hid (cells8 powLit = m) := ⟨_, rfl⟩
  obtain ⟨j, hj⟩ : ∃ j : Nat, (j : Int) = n % 255 := ⟨(n % 255).toNat, by omega⟩
  have hjl : j < 255 := by omega
  have HIX : Hid (∀ W, (Instr.index 104 (.agg m) (.int .i64 (j : Int))).run Try.prog W = .ok (.int .u8 ((ex n : Nat) : Int)) W) := fun W => by
    rw [← HM.out]
    have := run_index8 W Try.underlying104 powLit powLit_length j hjl .i64
    rw [powLit_get j hjl] at this
    rw [this]
    unfold ex
    rw [← hj, Int.toNat_natCast]
  obtain ⟨x, HX⟩ : ∃ x, Hid (ex n = x) := ⟨_, rfl⟩
  rw [HX.out]
  rw [HX.out] at HIX
  rcases tmod_cases n with ⟨q1, q2, q3⟩ | ⟨q1, q2⟩
  · obtain ⟨t, ht⟩ : ∃ t, n.tmod 255 = t := ⟨_, rfl⟩
    rw [ht] at q1 q2 q3
    have e : t + 255 = (j : Int) := by omega
    have hix := HIX.out
    clear q2 hj
    go_enter Try.func59, Try.ntmps59
    go_wp2_with fail
    refine C.out.mono ?_
    rintro e w' ⟨rfl, hB⟩
    rw [HM.out]
    have B := hid hB
    clear hB C
    go_wp2
    go_ret
    exact ⟨rfl, B.out⟩
  · obtain ⟨t, ht⟩ : ∃ t, n.tmod 255 = t := ⟨_, rfl⟩
    rw [ht] at q1 q2
    have e : t = (j : Int) := by omega
    have hix := HIX.out
    clear q2 hj
    rw [e] at ht q1
    clear e
    go_enter Try.func59, Try.ntmps59
    go_wp2_with fail
    refine C.out.mono ?_
    rintro e w' ⟨rfl, hB⟩
    rw [HM.out]
    have B := hid hB
    clear hB C
    go_wp2
    go_ret
    exact ⟨rfl, B.out⟩

set_option maxHeartbeats 1000000 in
theorem log_any (w : World) (a : Nat) (ha : a < 256) (h0 : a ≠ 0) : Calls Try.prog 58 #[.int .u8 (a : Int)] w fun e w' => e = .returned (.tuple #[.int .i64 ((lg a : Nat) : Int), .int .i64 0]) ∧ Below w.heap.size w w' := by
  have C := hid (exponents_any w)
  obtain ⟨m, HM⟩ : ∃ m, Hid (cells8 lgLit = m) := ⟨_, rfl⟩
  have hx := lg_lt a ha
  have hix : ∀ W, (Instr.index 80 (.agg m) (.int .u8 (a : Int))).run Try.prog W = .ok (.int .u8 ((lg a : Nat) : Int)) W := fun W => by
    rw [← HM.out]
    exact run_index8 W Try.underlying80 lgLit lgLit_length a ha .u8
  obtain ⟨x, HX⟩ : ∃ x, Hid (lg a = x) := ⟨_, rfl⟩
  rw [HX.out]
  rw [HX.out] at hix hx
  go_enter Try.func58, Try.ntmps58
  go_wp2_with fail
  refine C.out.mono ?_
  rintro e w' ⟨rfl, hB⟩
  rw [HM.out]
  have B := hid hB
  clear hB C
  go_wp2
  go_ret2
  exact ⟨rfl, B.out⟩
set_option maxHeartbeats 1000000 in
theorem log_none (w : World) : Calls Try.prog 58 #[.int .u8 0] w fun e w' => e = .returned (.tuple #[.int .i64 0, .int .i64 60]) ∧ Below w.heap.size w w' := by
  go_enter Try.func58, Try.ntmps58
  go_wp2
  go_ret2
  exact ⟨rfl, Below.refl _ _⟩
set_option maxHeartbeats 1000000 in
theorem inv_any (w : World) (a : Nat) (ha : a < 256) (h0 : a ≠ 0) : Calls Try.prog 40 #[.int .u8 (a : Int)] w fun e w' => e = .returned (.tuple #[.int .u8 ((inv a : Nat) : Int), .int .i64 0]) ∧ Below w.heap.size w w' := by
  have C := hid (log_any w a ha h0)
  have hx := lg_lt a ha
  have E : Hid (∀ W, Calls Try.prog 59 #[.int .i64 (-((lg a : Nat) : Int))] W fun e w' => e = .returned (.int .u8 ((inv a : Nat) : Int)) ∧ Below W.heap.size W w') := fun W => by
    rw [inv, if_neg h0]
    exact exp_any W (-((lg a : Nat) : Int)) (by omega) (by omega)
  obtain ⟨x, HX⟩ : ∃ x, Hid (lg a = x) := ⟨_, rfl⟩
  rw [HX.out] at hx C E
  go_enter Try.func40, Try.ntmps40
  go_wp2_with fail
  refine C.out.mono ?_
  rintro e w1 ⟨rfl, hB⟩
  have B := hid hB
  clear hB C
  go_wp2_with fail
  refine (E.out _).mono ?_
  rintro e w2 ⟨rfl, hB2⟩
  have B2 := hid (B.out.trans (hB2.mono B.out.size))
  clear hB2 E B
  go_wp2
  go_ret2
  exact ⟨rfl, B2.out⟩
set_option maxHeartbeats 1000000 in
theorem inv_none (w : World) : Calls Try.prog 40 #[.int .u8 0] w fun e w' => e = .returned (.tuple #[.int .u8 0, .int .i64 60]) ∧ Below w.heap.size w w' := by
  have C := hid (log_none w)
  go_enter Try.func40, Try.ntmps40
  go_wp2_with fail
  refine C.out.mono ?_
  rintro e w1 ⟨rfl, hB⟩
  have B := hid hB
  clear hB C
  go_wp2
  go_ret2
  exact ⟨rfl, B.out⟩
/-- A power, and the error's number. -/
def powV (a : Nat) (n : Int) : Nat × Int := if n = 0 then (1, 0) else if a = 0 then (if 0 < n then (0, 0) else (0, 60)) else (powA a (n % 255).toNat, 0)
theorem powV_lt (a : Nat) (n : Int) : (powV a n).1 < 256 := by
  unfold powV
  split
  · show 1 < 256; decide
  · split
    · split <;> (show 0 < 256; decide)
    · exact powA_lt _ _
theorem ex_pow (a : Nat) (n : Int) (ha : a < 256) (h0 : a ≠ 0) : ex ((lg a : Int) * n.tmod 255) = powA a (n % 255).toNat := by
  rw [powA_lg a ha h0, ← ex_nat]
  have e1 : ex ((lg a : Int) * n.tmod 255) = ex ((lg a : Int) * (n % 255)) := by
    rcases tmod_cases n with ⟨q1, q2, q3⟩ | ⟨q1, q2⟩
    · rw [← q2]
      unfold ex
      rw [Int.mul_add, show ((lg a : Int) * n.tmod 255 + (lg a : Int) * 255) % 255 = ((lg a : Int) * n.tmod 255) % 255 by omega]
    · rw [q2]
  rw [e1]
  congr 1
  rw [Int.natCast_mul, Int.toNat_of_nonneg (by omega)]
end Go.Proofs.Ytadpehidefbmhaa
