/- aes.double and the two Products, walked. -/
import Derived.Test.YtbafegpiipkmbaaBase
import Derived.Test.YtbafegpiipkmbaaChecked
import Derived.Laws.BitsAllLaws
import Derived.BigRegion
namespace Go.Proofs.Ytbafegpiipkmbaa
open Go.RowKit

/-- A byte twice, in the cipher's field. -/
def dbl (a : Nat) : Nat := (a * 2 % 256) ^^^ (a / 128 * 27)
/-- A product of at most k bits of b, added to s. -/
def prodF : Nat → Nat → Nat → Nat → Nat
  | 0, _, _, s => s
  | k + 1, a, b, s => prodF k (dbl a) (b / 2) (if b % 2 = 1 then s ^^^ a else s)
/-- The product in the cipher's field. -/
def prod (a b : Nat) : Nat := prodF 8 a b 0
theorem xor8 {x y : Nat} (hx : x < 256) (hy : y < 256) : x ^^^ y < 256 := Nat.xor_lt_two_pow (n := 8) hx hy
theorem dbl_lt {a : Nat} (h : a < 256) : dbl a < 256 := xor8 (Nat.mod_lt _ (by decide)) (by omega)
theorem prodF_lt : ∀ (k a b s : Nat), a < 256 → s < 256 → prodF k a b s < 256
  | 0, _, _, s, _, hs => hs
  | k + 1, a, b, s, ha, hs => prodF_lt k _ _ _ (dbl_lt ha) (by split; exact xor8 hs ha; exact hs)
theorem prod_lt {a : Nat} (b : Nat) (h : a < 256) : prod a b < 256 := prodF_lt 8 a b 0 h (by decide)
theorem prodF_zero : ∀ (k a s : Nat), prodF k a 0 s = s
  | 0, _, _ => rfl
  | k + 1, a, s => by
    rw [prodF, if_neg (by decide)]
    exact prodF_zero k _ _

theorem dbl_bits (a : Nat) (h : a < 256) : bits .xor .u8 (((a : Int) * 2) % 256) ((a : Int) / 128 * 27) = ((dbl a : Nat) : Int) := by
  rw [show ((a : Int) * 2) % 256 = ((a * 2 % 256 : Nat) : Int) by omega, show (a : Int) / 128 * 27 = ((a / 128 * 27 : Nat) : Int) by omega, u8_xor_nat _ _ (Nat.mod_lt _ (by decide)) (by omega)]
  rfl

theorem and_one (y : Nat) (h : y < 256) : bits .and .u8 (y : Int) 1 = ((y % 2 : Nat) : Int) := by
  rw [show (1 : Int) = ((1 : Nat) : Int) from rfl, u8_and_nat y 1 h (by decide), Nat.and_one_is_mod]

set_option maxHeartbeats 1000000 in
theorem double_any (w : World) (a : Nat) (h : a < 256) : Calls Try.prog 48 #[.int .u8 (a : Int)] w fun e w' => e = .returned (.int .u8 ((dbl a : Nat) : Int)) ∧ w' = w := by
  have HD := hid (dbl_bits a h)
  go_enter Try.func48, Try.ntmps48
  go_wp2
  go_ret
  rw [HD.out]
  exact ⟨rfl, rfl⟩

theorem dbl_small {a : Nat} (h : a < 128) : dbl a = a * 2 := by
  unfold dbl
  rw [show a / 128 = 0 by omega, Nat.zero_mul, Nat.xor_zero]
  omega
theorem dbl_large {a : Nat} (h : ¬ a < 128) (h2 : a < 256) : dbl a = (a * 2 % 256) ^^^ 27 := by
  unfold dbl
  rw [show a / 128 = 1 by omega]

set_option maxRecDepth 100000 in
set_option maxHeartbeats 1000000 in
theorem rproduct_any (w : World) (a b : Nat) (ha : a < 256) (hb : b < 256) : Calls Try.prog 74 #[.int .u8 (a : Int), .int .u8 (b : Int)] w fun e w' => e = .returned (.int .u8 ((prod a b : Nat) : Int)) ∧ w' = w := by
  go_enter Try.func74, Try.ntmps74
  go_wp2
  go_loopw [0, 1, 5, 6] (fun x y s i wr => ∃ I X Y S : Nat, I ≤ 8 ∧ X < 256 ∧ Y < 256 ∧ S < 256 ∧ x = .int .u8 (X : Int) ∧ y = .int .u8 (Y : Int) ∧ s = .int .u8 (S : Int) ∧ i = .int .i64 (I : Int) ∧ Hid (prodF (8 - I) X Y S = prod a b) ∧ wr = w) (fun _ _ _ i _ => 8 - (intOf i).toNat)
  case atStart => exact ⟨0, a, b, 0, by decide, ha, hb, by decide, rfl, rfl, rfl, rfl, rfl, rfl⟩
  case round =>
    obtain ⟨I, X, Y, S, hI, hX, hY, hS, rfl, rfl, rfl, rfl, HP, hw⟩ := hrel
    subst hw
    by_cases h0 : I < 8
    · have HQ : Hid (prodF (8 - (I + 1)) (dbl X) (Y / 2) (if Y % 2 = 1 then S ^^^ X else S) = prod a b) := by
        have := HP.out
        rw [show 8 - I = (8 - (I + 1)) + 1 by omega, prodF] at this
        exact this
      have hx := u8_xor_nat S X hS hX
      have HXS := hid (xor8 hS hX)
      have HDL := hid (dbl_lt hX)
      have fin : ∀ (S' X' : Nat), Hid (S' = (if Y % 2 = 1 then S ^^^ X else S)) → Hid (X' = dbl X) → S' < 256 ∧ X' < 256 ∧ Hid (prodF (8 - (I + 1)) X' (Y / 2) S' = prod a b) := fun S' X' e1 e2 => by
        rw [e1.out, e2.out]
        refine ⟨?_, HDL.out, HQ⟩
        split
        · exact HXS.out
        · exact hS
      have FIN := hid fin
      clear HP HQ fin
      by_cases h1 : Y % 2 = 1
      · have HN : Hid (Y % 2 = 1) := h1
        by_cases h2 : X < 128
        · have F := hid (FIN.out (S ^^^ X) (X * 2) (by rw [if_pos HN.out]; exact rfl) (dbl_small h2).symm)
          clear HDL HXS FIN
          go_wp2
          exact ⟨⟨I + 1, X * 2, Y / 2, S ^^^ X, by omega, F.out.2.1, by omega, F.out.1, by go_num, by go_num, rfl, by go_num, F.out.2.2, by trivial⟩, by simp [intOf]; omega⟩
        · have hx2 := u8_xor_nat (X * 2 % 256) 27 (Nat.mod_lt _ (by decide)) (by decide)
          rw [show ((X * 2 % 256 : Nat) : Int) = ((X : Int) * 2) % 256 by omega] at hx2
          have F := hid (FIN.out (S ^^^ X) ((X * 2 % 256) ^^^ 27) (by rw [if_pos HN.out]; exact rfl) (dbl_large h2 hX).symm)
          clear HDL HXS FIN
          go_wp2
          exact ⟨⟨I + 1, (X * 2 % 256) ^^^ 27, Y / 2, S ^^^ X, by omega, F.out.2.1, by omega, F.out.1, by rw [← hx2]; rfl, by go_num, rfl, by go_num, F.out.2.2, by trivial⟩, by simp [intOf]; omega⟩
      · have HN : Hid (¬ Y % 2 = 1) := h1
        have h1' : ((Y : Int) % 2) = 0 := by omega
        clear h1
        by_cases h2 : X < 128
        · have F := hid (FIN.out S (X * 2) (by rw [if_neg HN.out]; exact rfl) (dbl_small h2).symm)
          clear HDL HXS FIN
          go_wp2
          exact ⟨⟨I + 1, X * 2, Y / 2, S, by omega, F.out.2.1, by omega, F.out.1, by go_num, by go_num, rfl, by go_num, F.out.2.2, by trivial⟩, by simp [intOf]; omega⟩
        · have hx2 := u8_xor_nat (X * 2 % 256) 27 (Nat.mod_lt _ (by decide)) (by decide)
          rw [show ((X * 2 % 256 : Nat) : Int) = ((X : Int) * 2) % 256 by omega] at hx2
          have F := hid (FIN.out S ((X * 2 % 256) ^^^ 27) (by rw [if_neg HN.out]; exact rfl) (dbl_large h2 hX).symm)
          clear HDL HXS FIN
          go_wp2
          exact ⟨⟨I + 1, (X * 2 % 256) ^^^ 27, Y / 2, S, by omega, F.out.2.1, by omega, F.out.1, by rw [← hx2]; rfl, by go_num, rfl, by go_num, F.out.2.2, by trivial⟩, by simp [intOf]; omega⟩
    · have hI8 : I = 8 := by omega
      have HE : Hid (S = prod a b) := by rw [← HP.out, hI8]; exact rfl
      clear HP
      go_wp2
      go_ret
      rw [← HE.out]
      exact ⟨rfl, rfl⟩
end Go.Proofs.Ytbafegpiipkmbaa
