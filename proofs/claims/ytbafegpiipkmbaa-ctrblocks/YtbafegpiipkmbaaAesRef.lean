/- The document's Inverse, Sub, Unsub, walked. -/
import Derived.Test.YtbafegpiipkmbaaAesSub
namespace Go.Proofs.Ytbafegpiipkmbaa
open Go.RowKit

set_option maxHeartbeats 1000000 in
theorem rinverse_any (w : World) (a : Nat) (ha : a < 256) : Calls Try.prog 76 #[.int .u8 (a : Int)] w fun e w' => e = .returned (.int .u8 ((rinv a : Nat) : Int)) ∧ w' = w := by
  obtain ⟨R, HR⟩ : ∃ R, Hid (rinv a = R) := ⟨_, rfl⟩
  rw [HR.out]
  go_enter Try.func76, Try.ntmps76
  go_wp2
  go_loopw [0, 3, 4] (fun x p i wr => ∃ I X P : Nat, I ≤ 7 ∧ X < 256 ∧ P < 256 ∧ x = .int .u8 (X : Int) ∧ p = .int .u8 (P : Int) ∧ i = .int .i64 (I : Int) ∧ Hid (powF (7 - I) X P = R) ∧ wr = w) (fun _ _ i _ => 7 - (intOf i).toNat)
  case atStart => exact ⟨0, a, 1, by decide, ha, by decide, rfl, rfl, rfl, HR, rfl⟩
  case round =>
    obtain ⟨I, X, P, hI, hX, hP, rfl, rfl, rfl, HF, hw⟩ := hrel
    subst hw
    by_cases hlt : I < 7
    · have C1 := hid (rproduct_any wr X X hX hX)
      have C2 := hid (rproduct_any wr P (prod X X) hP (prod_lt _ hX))
      have HQ : Hid (powF (7 - (I + 1)) (prod X X) (prod P (prod X X)) = R) := by
        have := HF.out
        rw [show 7 - I = (7 - (I + 1)) + 1 by omega, powF] at this
        exact this
      have L1 := hid (prod_lt X hX)
      have L2 := hid (prod_lt (prod X X) hP)
      clear HF
      go_wp2_with fail
      refine C1.out.mono ?_
      rintro e w1 ⟨rfl, hw⟩
      subst hw
      go_wp2_with fail
      refine C2.out.mono ?_
      rintro e w1 ⟨rfl, hw⟩
      subst hw
      go_wp2_with fail
      exact ⟨⟨I + 1, prod X X, prod P (prod X X), by omega, L1.out, L2.out, rfl, rfl, by go_num, HQ, by trivial⟩, by simp [intOf]; omega⟩
    · have HE : Hid (P = R) := by rw [← HF.out, show 7 - I = 0 by omega]; exact rfl
      clear HF
      go_wp2
      go_ret
      rw [← HE.out]
      exact ⟨rfl, rfl⟩

theorem rbit_bits (b n : Nat) (h : b < 256) : bits .and .u8 ((b : Int) / 2 ^ n) 1 = ((b / 2 ^ n % 2 : Nat) : Int) := by
  rw [show (b : Int) / 2 ^ n = ((b / 2 ^ n : Nat) : Int) by rw [Int.natCast_ediv, Int.natCast_pow]; rfl]
  exact and_one _ (Nat.lt_of_le_of_lt (Nat.div_le_self _ _) h)
set_option maxRecDepth 100000 in
set_option maxHeartbeats 1000000 in
theorem rbit_0 (w : World) (b : Nat) (h : b < 256) : Calls Try.prog 77 #[.int .u8 (b : Int), .int .i64 0] w fun e w' => e = .returned (.int .u8 ((rbit b 0 : Nat) : Int)) ∧ w' = w := by
  have HR := hid (rbit_bits b 0 h)
  go_enter Try.func77, Try.ntmps77
  go_wp2
  go_ret
  refine ⟨?_, rfl⟩
  have e : (rbit b 0 : Nat) = b / 2 ^ 0 % 2 := rfl
  rw [e, ← HR.out]
  first | rfl | (simp; done) | (simp; rfl)

set_option maxRecDepth 100000 in
set_option maxHeartbeats 1000000 in
theorem rbit_1 (w : World) (b : Nat) (h : b < 256) : Calls Try.prog 77 #[.int .u8 (b : Int), .int .i64 1] w fun e w' => e = .returned (.int .u8 ((rbit b 1 : Nat) : Int)) ∧ w' = w := by
  have HR := hid (rbit_bits b 1 h)
  go_enter Try.func77, Try.ntmps77
  go_wp2
  go_ret
  refine ⟨?_, rfl⟩
  have e : (rbit b 1 : Nat) = b / 2 ^ 1 % 2 := rfl
  rw [e, ← HR.out]
  first | rfl | (simp; done) | (simp; rfl)

set_option maxRecDepth 100000 in
set_option maxHeartbeats 1000000 in
theorem rbit_2 (w : World) (b : Nat) (h : b < 256) : Calls Try.prog 77 #[.int .u8 (b : Int), .int .i64 2] w fun e w' => e = .returned (.int .u8 ((rbit b 2 : Nat) : Int)) ∧ w' = w := by
  have HR := hid (rbit_bits b 2 h)
  go_enter Try.func77, Try.ntmps77
  go_wp2
  go_ret
  refine ⟨?_, rfl⟩
  have e : (rbit b 2 : Nat) = b / 2 ^ 2 % 2 := rfl
  rw [e, ← HR.out]
  first | rfl | (simp; done) | (simp; rfl)

set_option maxRecDepth 100000 in
set_option maxHeartbeats 1000000 in
theorem rbit_3 (w : World) (b : Nat) (h : b < 256) : Calls Try.prog 77 #[.int .u8 (b : Int), .int .i64 3] w fun e w' => e = .returned (.int .u8 ((rbit b 3 : Nat) : Int)) ∧ w' = w := by
  have HR := hid (rbit_bits b 3 h)
  go_enter Try.func77, Try.ntmps77
  go_wp2
  go_ret
  refine ⟨?_, rfl⟩
  have e : (rbit b 3 : Nat) = b / 2 ^ 3 % 2 := rfl
  rw [e, ← HR.out]
  first | rfl | (simp; done) | (simp; rfl)

set_option maxRecDepth 100000 in
set_option maxHeartbeats 1000000 in
theorem rbit_4 (w : World) (b : Nat) (h : b < 256) : Calls Try.prog 77 #[.int .u8 (b : Int), .int .i64 4] w fun e w' => e = .returned (.int .u8 ((rbit b 4 : Nat) : Int)) ∧ w' = w := by
  have HR := hid (rbit_bits b 4 h)
  go_enter Try.func77, Try.ntmps77
  go_wp2
  go_ret
  refine ⟨?_, rfl⟩
  have e : (rbit b 4 : Nat) = b / 2 ^ 4 % 2 := rfl
  rw [e, ← HR.out]
  first | rfl | (simp; done) | (simp; rfl)

set_option maxRecDepth 100000 in
set_option maxHeartbeats 1000000 in
theorem rbit_5 (w : World) (b : Nat) (h : b < 256) : Calls Try.prog 77 #[.int .u8 (b : Int), .int .i64 5] w fun e w' => e = .returned (.int .u8 ((rbit b 5 : Nat) : Int)) ∧ w' = w := by
  have HR := hid (rbit_bits b 5 h)
  go_enter Try.func77, Try.ntmps77
  go_wp2
  go_ret
  refine ⟨?_, rfl⟩
  have e : (rbit b 5 : Nat) = b / 2 ^ 5 % 2 := rfl
  rw [e, ← HR.out]
  first | rfl | (simp; done) | (simp; rfl)

set_option maxRecDepth 100000 in
set_option maxHeartbeats 1000000 in
theorem rbit_6 (w : World) (b : Nat) (h : b < 256) : Calls Try.prog 77 #[.int .u8 (b : Int), .int .i64 6] w fun e w' => e = .returned (.int .u8 ((rbit b 6 : Nat) : Int)) ∧ w' = w := by
  have HR := hid (rbit_bits b 6 h)
  go_enter Try.func77, Try.ntmps77
  go_wp2
  go_ret
  refine ⟨?_, rfl⟩
  have e : (rbit b 6 : Nat) = b / 2 ^ 6 % 2 := rfl
  rw [e, ← HR.out]
  first | rfl | (simp; done) | (simp; rfl)

set_option maxRecDepth 100000 in
set_option maxHeartbeats 1000000 in
theorem rbit_7 (w : World) (b : Nat) (h : b < 256) : Calls Try.prog 77 #[.int .u8 (b : Int), .int .i64 7] w fun e w' => e = .returned (.int .u8 ((rbit b 7 : Nat) : Int)) ∧ w' = w := by
  have HR := hid (rbit_bits b 7 h)
  go_enter Try.func77, Try.ntmps77
  go_wp2
  go_ret
  refine ⟨?_, rfl⟩
  have e : (rbit b 7 : Nat) = b / 2 ^ 7 % 2 := rfl
  rw [e, ← HR.out]
  first | rfl | (simp; done) | (simp; rfl)

set_option maxRecDepth 100000 in
set_option maxHeartbeats 1000000 in
theorem rbit_8 (w : World) (b : Nat) (h : b < 256) : Calls Try.prog 77 #[.int .u8 (b : Int), .int .i64 8] w fun e w' => e = .returned (.int .u8 ((rbit b 8 : Nat) : Int)) ∧ w' = w := by
  have HR := hid (rbit_bits b 0 h)
  go_enter Try.func77, Try.ntmps77
  go_wp2
  go_ret
  refine ⟨?_, rfl⟩
  have e : (rbit b 8 : Nat) = b / 2 ^ 0 % 2 := rfl
  rw [e, ← HR.out]
  first | rfl | (simp; done) | (simp; rfl)

set_option maxRecDepth 100000 in
set_option maxHeartbeats 1000000 in
theorem rbit_9 (w : World) (b : Nat) (h : b < 256) : Calls Try.prog 77 #[.int .u8 (b : Int), .int .i64 9] w fun e w' => e = .returned (.int .u8 ((rbit b 9 : Nat) : Int)) ∧ w' = w := by
  have HR := hid (rbit_bits b 1 h)
  go_enter Try.func77, Try.ntmps77
  go_wp2
  go_ret
  refine ⟨?_, rfl⟩
  have e : (rbit b 9 : Nat) = b / 2 ^ 1 % 2 := rfl
  rw [e, ← HR.out]
  first | rfl | (simp; done) | (simp; rfl)

set_option maxRecDepth 100000 in
set_option maxHeartbeats 1000000 in
theorem rbit_10 (w : World) (b : Nat) (h : b < 256) : Calls Try.prog 77 #[.int .u8 (b : Int), .int .i64 10] w fun e w' => e = .returned (.int .u8 ((rbit b 10 : Nat) : Int)) ∧ w' = w := by
  have HR := hid (rbit_bits b 2 h)
  go_enter Try.func77, Try.ntmps77
  go_wp2
  go_ret
  refine ⟨?_, rfl⟩
  have e : (rbit b 10 : Nat) = b / 2 ^ 2 % 2 := rfl
  rw [e, ← HR.out]
  first | rfl | (simp; done) | (simp; rfl)

set_option maxRecDepth 100000 in
set_option maxHeartbeats 1000000 in
theorem rbit_11 (w : World) (b : Nat) (h : b < 256) : Calls Try.prog 77 #[.int .u8 (b : Int), .int .i64 11] w fun e w' => e = .returned (.int .u8 ((rbit b 11 : Nat) : Int)) ∧ w' = w := by
  have HR := hid (rbit_bits b 3 h)
  go_enter Try.func77, Try.ntmps77
  go_wp2
  go_ret
  refine ⟨?_, rfl⟩
  have e : (rbit b 11 : Nat) = b / 2 ^ 3 % 2 := rfl
  rw [e, ← HR.out]
  first | rfl | (simp; done) | (simp; rfl)

set_option maxRecDepth 100000 in
set_option maxHeartbeats 1000000 in
theorem rbit_12 (w : World) (b : Nat) (h : b < 256) : Calls Try.prog 77 #[.int .u8 (b : Int), .int .i64 12] w fun e w' => e = .returned (.int .u8 ((rbit b 12 : Nat) : Int)) ∧ w' = w := by
  have HR := hid (rbit_bits b 4 h)
  go_enter Try.func77, Try.ntmps77
  go_wp2
  go_ret
  refine ⟨?_, rfl⟩
  have e : (rbit b 12 : Nat) = b / 2 ^ 4 % 2 := rfl
  rw [e, ← HR.out]
  first | rfl | (simp; done) | (simp; rfl)

set_option maxRecDepth 100000 in
set_option maxHeartbeats 1000000 in
theorem rbit_13 (w : World) (b : Nat) (h : b < 256) : Calls Try.prog 77 #[.int .u8 (b : Int), .int .i64 13] w fun e w' => e = .returned (.int .u8 ((rbit b 13 : Nat) : Int)) ∧ w' = w := by
  have HR := hid (rbit_bits b 5 h)
  go_enter Try.func77, Try.ntmps77
  go_wp2
  go_ret
  refine ⟨?_, rfl⟩
  have e : (rbit b 13 : Nat) = b / 2 ^ 5 % 2 := rfl
  rw [e, ← HR.out]
  first | rfl | (simp; done) | (simp; rfl)

set_option maxRecDepth 100000 in
set_option maxHeartbeats 1000000 in
theorem rbit_14 (w : World) (b : Nat) (h : b < 256) : Calls Try.prog 77 #[.int .u8 (b : Int), .int .i64 14] w fun e w' => e = .returned (.int .u8 ((rbit b 14 : Nat) : Int)) ∧ w' = w := by
  have HR := hid (rbit_bits b 6 h)
  go_enter Try.func77, Try.ntmps77
  go_wp2
  go_ret
  refine ⟨?_, rfl⟩
  have e : (rbit b 14 : Nat) = b / 2 ^ 6 % 2 := rfl
  rw [e, ← HR.out]
  first | rfl | (simp; done) | (simp; rfl)

theorem rbit_any (w : World) (b i : Nat) (h : b < 256) (hi : i < 15) : Calls Try.prog 77 #[.int .u8 (b : Int), .int .i64 (i : Int)] w fun e w' => e = .returned (.int .u8 ((rbit b i : Nat) : Int)) ∧ w' = w := by
  have c : i = 0 ∨ i = 1 ∨ i = 2 ∨ i = 3 ∨ i = 4 ∨ i = 5 ∨ i = 6 ∨ i = 7 ∨ i = 8 ∨ i = 9 ∨ i = 10 ∨ i = 11 ∨ i = 12 ∨ i = 13 ∨ i = 14 := by omega
  rcases c with rfl | rfl | rfl | rfl | rfl | rfl | rfl | rfl | rfl | rfl | rfl | rfl | rfl | rfl | rfl
  · exact rbit_0 w b h
  · exact rbit_1 w b h
  · exact rbit_2 w b h
  · exact rbit_3 w b h
  · exact rbit_4 w b h
  · exact rbit_5 w b h
  · exact rbit_6 w b h
  · exact rbit_7 w b h
  · exact rbit_8 w b h
  · exact rbit_9 w b h
  · exact rbit_10 w b h
  · exact rbit_11 w b h
  · exact rbit_12 w b h
  · exact rbit_13 w b h
  · exact rbit_14 w b h

theorem rsubF_lt (b : Nat) : ∀ i, i ≤ 8 → rsubF b i < 256
  | 0, _ => by show 0 < 256; decide
  | i + 1, h => by
    refine or8 (rsubF_lt b i (by omega)) ?_
    have h1 := xbit_lt b i
    have h2 : 2 ^ i ≤ 2 ^ 7 := Nat.pow_le_pow_right (by decide) (by omega)
    have h3 : xbit b i * 2 ^ i ≤ 1 * 2 ^ 7 := Nat.mul_le_mul (by omega) h2
    omega

set_option maxRecDepth 100000 in
set_option maxHeartbeats 4000000 in
theorem rsub_any (w : World) (a : Nat) (ha : a < 256) : Calls Try.prog 73 #[.int .u8 (a : Int)] w fun e w' => e = .returned (.int .u8 ((rsub a : Nat) : Int)) ∧ w' = w := by
  have CI := hid (rinverse_any w a ha)
  have HBL : rinv a < 256 := by rw [← inv_rinv a ha]; exact inv_lt a
  have HRS : Hid (rsubF (rinv a) 8 = rsub a) := rfl
  obtain ⟨b, HB⟩ : ∃ b, Hid (rinv a = b) := ⟨_, rfl⟩
  rw [HB.out] at CI HBL HRS
  rw [← HRS.out]
  go_enter Try.func73, Try.ntmps73
  go_wp2_with fail
  refine CI.out.mono ?_
  rintro e w1 ⟨rfl, hw⟩
  subst hw
  go_wp2
  go_loopw [4, 5] (fun o i wr => ∃ I O : Nat, I ≤ 8 ∧ O < 256 ∧ Hid (O = rsubF b I) ∧ o = .int .u8 (O : Int) ∧ i = .int .i64 (I : Int) ∧ wr = w1) (fun _ i _ => 8 - (intOf i).toNat)
  case atStart => exact ⟨0, 0, by decide, by decide, rfl, rfl, rfl, rfl⟩
  case round =>
    obtain ⟨I, O, hI, hO, HO, rfl, rfl, hw⟩ := hrel
    subst hw
    by_cases hlt : I < 8
    · have C0 := hid (rbit_any wr b I HBL (by omega))
      have C4 : Hid (Calls Try.prog 77 #[.int .u8 (b : Int), .int .i64 ((I : Int) + 4)] wr fun e w' => e = .returned (.int .u8 ((rbit b (I + 4) : Nat) : Int)) ∧ w' = wr) := rbit_any wr b (I + 4) HBL (by omega)
      have C5 : Hid (Calls Try.prog 77 #[.int .u8 (b : Int), .int .i64 ((I : Int) + 5)] wr fun e w' => e = .returned (.int .u8 ((rbit b (I + 5) : Nat) : Int)) ∧ w' = wr) := rbit_any wr b (I + 5) HBL (by omega)
      have C6 : Hid (Calls Try.prog 77 #[.int .u8 (b : Int), .int .i64 ((I : Int) + 6)] wr fun e w' => e = .returned (.int .u8 ((rbit b (I + 6) : Nat) : Int)) ∧ w' = wr) := rbit_any wr b (I + 6) HBL (by omega)
      have C7 : Hid (Calls Try.prog 77 #[.int .u8 (b : Int), .int .i64 ((I : Int) + 7)] wr fun e w' => e = .returned (.int .u8 ((rbit b (I + 7) : Nat) : Int)) ∧ w' = wr) := rbit_any wr b (I + 7) HBL (by omega)
      have C9 := hid (rbit_any wr 99 I (by decide) (by omega))
      have HXB : Hid (rbit b I ^^^ rbit b (I + 4) ^^^ rbit b (I + 5) ^^^ rbit b (I + 6) ^^^ rbit b (I + 7) ^^^ rbit 99 I = xbit b I) := rfl
      obtain ⟨x0, X0⟩ : ∃ x, Hid (rbit b I = x) := ⟨_, rfl⟩
      obtain ⟨x4, X4⟩ : ∃ x, Hid (rbit b (I + 4) = x) := ⟨_, rfl⟩
      obtain ⟨x5, X5⟩ : ∃ x, Hid (rbit b (I + 5) = x) := ⟨_, rfl⟩
      obtain ⟨x6, X6⟩ : ∃ x, Hid (rbit b (I + 6) = x) := ⟨_, rfl⟩
      obtain ⟨x7, X7⟩ : ∃ x, Hid (rbit b (I + 7) = x) := ⟨_, rfl⟩
      obtain ⟨x9, X9⟩ : ∃ x, Hid (rbit 99 I = x) := ⟨_, rfl⟩
      have b0 : x0 < 2 := by rw [← X0.out]; exact rbit_lt _ _
      have b4 : x4 < 2 := by rw [← X4.out]; exact rbit_lt _ _
      have b5 : x5 < 2 := by rw [← X5.out]; exact rbit_lt _ _
      have b6 : x6 < 2 := by rw [← X6.out]; exact rbit_lt _ _
      have b7 : x7 < 2 := by rw [← X7.out]; exact rbit_lt _ _
      have b9 : x9 < 2 := by rw [← X9.out]; exact rbit_lt _ _
      rw [X0.out] at C0 HXB
      rw [X4.out] at C4 HXB
      rw [X5.out] at C5 HXB
      rw [X6.out] at C6 HXB
      rw [X7.out] at C7 HXB
      rw [X9.out] at C9 HXB
      have q1 := xor1 b0 b4
      have q2 := xor1 q1 b5
      have q3 := xor1 q2 b6
      have q4 := xor1 q3 b7
      have q5 := xor1 q4 b9
      have e1 := u8_xor_nat x0 x4 (by omega) (by omega)
      have e2 := u8_xor_nat _ x5 (show x0 ^^^ x4 < 256 by omega) (by omega)
      have e3 := u8_xor_nat _ x6 (show x0 ^^^ x4 ^^^ x5 < 256 by omega) (by omega)
      have e4 := u8_xor_nat _ x7 (show x0 ^^^ x4 ^^^ x5 ^^^ x6 < 256 by omega) (by omega)
      have e5 := u8_xor_nat _ x9 (show x0 ^^^ x4 ^^^ x5 ^^^ x6 ^^^ x7 < 256 by omega) (by omega)
      obtain ⟨x, HX⟩ : ∃ x, Hid (x0 ^^^ x4 ^^^ x5 ^^^ x6 ^^^ x7 ^^^ x9 = x) := ⟨_, rfl⟩
      rw [HX.out] at e5 q5 HXB
      clear q1 q2 q3 q4 X0 X4 X5 X6 X7 X9
      go_wp2_with fail
      refine C0.out.mono ?_
      rintro e w2 ⟨rfl, hw⟩
      subst hw
      go_wp2_with fail
      refine C4.out.mono ?_
      rintro e w2 ⟨rfl, hw⟩
      subst hw
      go_wp2_with fail
      refine C5.out.mono ?_
      rintro e w2 ⟨rfl, hw⟩
      subst hw
      go_wp2_with fail
      refine C6.out.mono ?_
      rintro e w2 ⟨rfl, hw⟩
      subst hw
      go_wp2_with fail
      refine C7.out.mono ?_
      rintro e w2 ⟨rfl, hw⟩
      subst hw
      go_wp2_with fail
      refine C9.out.mono ?_
      rintro e w2 ⟨rfl, hw⟩
      subst hw
      go_wp2_with fail
      have hp : 2 ^ I ≤ 2 ^ 7 := Nat.pow_le_pow_right (by decide) (by omega)
      have hm : x * 2 ^ I ≤ 1 * 2 ^ 7 := Nat.mul_le_mul (by omega) hp
      have ho : bits .or .u8 (O : Int) ((x : Int) * 2 ^ I % 256) = ((O ||| x * 2 ^ I : Nat) : Int) := by
        rw [show (x : Int) * 2 ^ I % 256 = ((x * 2 ^ I : Nat) : Int) by
          rw [show (x : Int) * 2 ^ I = ((x * 2 ^ I : Nat) : Int) by rw [Int.natCast_mul, Int.natCast_pow]; rfl]
          omega]
        exact u8_or_nat _ _ hO (by omega)
      refine ⟨⟨I + 1, O ||| x * 2 ^ I, by omega, or8 hO (by omega), ?_, by rw [ho], by go_num, trivial⟩, by simp [intOf]; omega⟩
      show _ = _
      rw [rsubF, ← HO.out, ← HXB.out]
    · have HE : Hid (O = rsubF b 8) := by rw [HO.out, show I = 8 by omega]; exact rfl
      clear HO HRS
      go_wp2
      go_ret
      rw [← HE.out]
      exact ⟨rfl, rfl⟩

end Go.Proofs.Ytbafegpiipkmbaa
