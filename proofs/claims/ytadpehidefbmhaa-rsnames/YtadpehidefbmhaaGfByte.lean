/- gf.double, gf.Mul and the document's Mul, walked. -/
import Derived.Test.YtadpehidefbmhaaBase
import Derived.Test.YtadpehidefbmhaaChecked
import Derived.Laws.BitsAllLaws
import Derived.BigRegion
namespace Go.Proofs.Ytadpehidefbmhaa
open Go.RowKit

/-- A byte twice, in the field. -/
def dbl (a : Nat) : Nat := (a * 2 % 256) ^^^ (a / 128 * 29)
/-- A product of at most k bits of b, added to s. -/
def prodF : Nat → Nat → Nat → Nat → Nat
  | 0, _, _, s => s
  | k + 1, a, b, s => prodF k (dbl a) (b / 2) (if b % 2 = 1 then s ^^^ a else s)
/-- The product in the field. -/
def prod (a b : Nat) : Nat := prodF 8 a b 0
theorem xor8 {x y : Nat} (hx : x < 256) (hy : y < 256) : x ^^^ y < 256 := Nat.xor_lt_two_pow (n := 8) hx hy
theorem dbl_lt {a : Nat} (h : a < 256) : dbl a < 256 := xor8 (Nat.mod_lt _ (by decide)) (by omega)
theorem prodF_lt : ∀ (k a b s : Nat), a < 256 → s < 256 → prodF k a b s < 256
  | 0, _, _, s, _, hs => hs
  | k + 1, a, b, s, ha, hs => prodF_lt k _ _ _ (dbl_lt ha) (by split; exact xor8 hs ha; exact hs)
theorem prod_lt {a : Nat} (b : Nat) (h : a < 256) : prod a b < 256 := prodF_lt 8 a b 0 h (by decide)
theorem prodF_zero : ∀ (k a s : Nat), prodF k a 0 s = s
  | 0, _, _ => rfl
  | k + 1, a, s => by
    rw [prodF, if_neg (by decide)]
    exact prodF_zero k _ _

theorem dbl_bits (a : Nat) (h : a < 256) : bits .xor .u8 (((a : Int) * 2) % 256) ((a : Int) / 128 * 29) = ((dbl a : Nat) : Int) := by
  rw [show ((a : Int) * 2) % 256 = ((a * 2 % 256 : Nat) : Int) by omega, show (a : Int) / 128 * 29 = ((a / 128 * 29 : Nat) : Int) by omega, u8_xor_nat _ _ (Nat.mod_lt _ (by decide)) (by omega)]
  rfl

theorem and_one (y : Nat) (h : y < 256) : bits .and .u8 (y : Int) 1 = ((y % 2 : Nat) : Int) := by
  rw [show (1 : Int) = ((1 : Nat) : Int) from rfl, u8_and_nat y 1 h (by decide), Nat.and_one_is_mod]

set_option maxHeartbeats 1000000 in
theorem double_any (w : World) (a : Nat) (h : a < 256) : Calls Try.prog 70 #[.int .u8 (a : Int)] w fun e w' => e = .returned (.int .u8 ((dbl a : Nat) : Int)) ∧ w' = w := by
  have HD := hid (dbl_bits a h)
  go_enter Try.func70, Try.ntmps70
  go_wp2
  go_ret
  rw [HD.out]
  exact ⟨rfl, rfl⟩

theorem and_ones (x : Nat) (h : x < 256) : bits .and .u8 (x : Int) 255 = (x : Int) := by
  rw [show (255 : Int) = ((255 : Nat) : Int) from rfl, u8_and_nat x 255 h (by decide), show (255 : Nat) = 2 ^ 8 - 1 from rfl, Nat.and_two_pow_sub_one_eq_mod, Nat.mod_eq_of_lt h]
theorem and_none (x : Nat) (h : x < 256) : bits .and .u8 (x : Int) 0 = 0 := by
  rw [show (0 : Int) = ((0 : Nat) : Int) from rfl, u8_and_nat x 0 h (by decide), Nat.and_zero]
theorem xor_none (x : Nat) (h : x < 256) : bits .xor .u8 (x : Int) 0 = (x : Int) := by
  rw [show (0 : Int) = ((0 : Nat) : Int) from rfl, u8_xor_nat x 0 h (by decide), Nat.xor_zero]

set_option maxHeartbeats 1000000 in
theorem mul_any (w : World) (a b : Nat) (ha : a < 256) (hb : b < 256) : Calls Try.prog 100 #[.int .u8 (a : Int), .int .u8 (b : Int)] w fun e w' => e = .returned (.int .u8 ((prod a b : Nat) : Int)) ∧ w' = w := by
  go_enter Try.func100, Try.ntmps100
  go_wp2
  go_loopw [0, 1, 5] (fun x y s wr => ∃ k X Y S : Nat, X < 256 ∧ Hid (Y < 2 ^ k) ∧ Y < 256 ∧ S < 256 ∧ x = .int .u8 (X : Int) ∧ y = .int .u8 (Y : Int) ∧ s = .int .u8 (S : Int) ∧ Hid (prodF k X Y S = prod a b) ∧ wr = w) (fun _ y _ _ => (intOf y).toNat)
  case atStart => exact ⟨8, a, b, 0, ha, hb, hb, by decide, rfl, rfl, rfl, rfl, rfl⟩
  case round =>
    obtain ⟨k, X, Y, S, hX, HYk, hY, hS, rfl, rfl, rfl, HP, hw⟩ := hrel
    subst hw
    by_cases h0 : 0 < Y
    · have HK : Hid (∃ j, k = j + 1) := by
        cases k with
        | zero => exact absurd HYk.out (by simp; omega)
        | succ j => exact ⟨j, rfl⟩
      obtain ⟨j, hj⟩ := HK.out
      subst hj
      have HY2 : Hid (Y / 2 < 2 ^ j) := by
        have := HYk.out
        rw [Nat.pow_succ] at this
        show _ < _
        omega
      have hx := u8_xor_nat S X hS hX
      have hx0 := xor_none S hS
      have hD := double_any wr X hX
      have HXS := hid (xor8 hS hX)
      have HDL := hid (dbl_lt hX)
      have HQ : Hid (prodF j (dbl X) (Y / 2) (if Y % 2 = 1 then S ^^^ X else S) = prod a b) := HP
      have HA := hid (and_one Y hY)
      have hA1 := and_ones X hX
      have hA0 := and_none X hX
      clear HYk HP
      by_cases h1 : Y % 2 = 1
      · have ha1 : bits .and .u8 (Y : Int) 1 = 1 := by rw [HA.out, h1]; rfl
        have HN : Hid (Y % 2 = 1) := h1
        clear h1
        go_wp2_with fail
        refine hD.mono ?_
        rintro e w' ⟨rfl, hw⟩
        subst hw
        go_wp2_with fail
        refine ⟨⟨j, dbl X, Y / 2, S ^^^ X, HDL.out, HY2, by omega, HXS.out, rfl, by go_num, rfl, ?_, by trivial⟩, by simp [intOf]; omega⟩
        have := HQ.out
        rw [if_pos HN.out] at this
        exact this
      · have ha1 : bits .and .u8 (Y : Int) 1 = 0 := by rw [HA.out, show Y % 2 = 0 by omega]; rfl
        have HN : Hid (¬ Y % 2 = 1) := h1
        clear h1
        go_wp2_with fail
        refine hD.mono ?_
        rintro e w' ⟨rfl, hw⟩
        subst hw
        go_wp2_with fail
        refine ⟨⟨j, dbl X, Y / 2, S, HDL.out, HY2, by omega, hS, rfl, by go_num, rfl, ?_, by trivial⟩, by simp [intOf]; omega⟩
        have := HQ.out
        rw [if_neg HN.out] at this
        exact this
    · have hY0 : Y = 0 := by omega
      subst hY0
      have HE : Hid (S = prod a b) := by rw [← HP.out, prodF_zero]; exact rfl
      clear HP HYk
      go_wp2
      go_ret
      rw [← HE.out]
      exact ⟨rfl, rfl⟩

theorem dbl_small {a : Nat} (h : a < 128) : dbl a = a * 2 := by
  unfold dbl
  rw [show a / 128 = 0 by omega, Nat.zero_mul, Nat.xor_zero]
  omega
theorem dbl_large {a : Nat} (h : ¬ a < 128) (h2 : a < 256) : dbl a = (a * 2 % 256) ^^^ 29 := by
  unfold dbl
  rw [show a / 128 = 1 by omega]

end Go.Proofs.Ytadpehidefbmhaa
