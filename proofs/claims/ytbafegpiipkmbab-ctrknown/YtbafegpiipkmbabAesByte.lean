/- aes.double and the two Products, walked. -/
import Derived.Test.YtbafegpiipkmbabBase
import Derived.Test.YtbafegpiipkmbabChecked
import Derived.Laws.BitsAllLaws
import Derived.BigRegion
namespace Go.Proofs.Ytbafegpiipkmbab
open Go.RowKit

/-- A byte twice, in the cipher's field. -/
def dbl (a : Nat) : Nat := (a * 2 % 256) ^^^ (a / 128 * 27)
/-- A product of at most k bits of b, added to s. -/
def prodF : Nat → Nat → Nat → Nat → Nat
  | 0, _, _, s => s
  | k + 1, a, b, s => prodF k (dbl a) (b / 2) (if b % 2 = 1 then s ^^^ a else s)
/-- The product in the cipher's field. -/
def prod (a b : Nat) : Nat := prodF 8 a b 0
theorem xor8 {x y : Nat} (hx : x < 256) (hy : y < 256) : x ^^^ y < 256 := Nat.xor_lt_two_pow (n := 8) hx hy
theorem dbl_lt {a : Nat} (h : a < 256) : dbl a < 256 := xor8 (Nat.mod_lt _ (by decide)) (by omega)
theorem prodF_lt : ∀ (k a b s : Nat), a < 256 → s < 256 → prodF k a b s < 256
  | 0, _, _, s, _, hs => hs
  | k + 1, a, b, s, ha, hs => prodF_lt k _ _ _ (dbl_lt ha) (by split; exact xor8 hs ha; exact hs)
theorem prod_lt {a : Nat} (b : Nat) (h : a < 256) : prod a b < 256 := prodF_lt 8 a b 0 h (by decide)
theorem prodF_zero : ∀ (k a s : Nat), prodF k a 0 s = s
  | 0, _, _ => rfl
  | k + 1, a, s => by
    rw [prodF, if_neg (by decide)]
    exact prodF_zero k _ _

theorem dbl_bits (a : Nat) (h : a < 256) : bits .xor .u8 (((a : Int) * 2) % 256) ((a : Int) / 128 * 27) = ((dbl a : Nat) : Int) := by
  rw [show ((a : Int) * 2) % 256 = ((a * 2 % 256 : Nat) : Int) by omega, show (a : Int) / 128 * 27 = ((a / 128 * 27 : Nat) : Int) by omega, u8_xor_nat _ _ (Nat.mod_lt _ (by decide)) (by omega)]
  rfl

theorem and_one (y : Nat) (h : y < 256) : bits .and .u8 (y : Int) 1 = ((y % 2 : Nat) : Int) := by
  rw [show (1 : Int) = ((1 : Nat) : Int) from rfl, u8_and_nat y 1 h (by decide), Nat.and_one_is_mod]

set_option maxHeartbeats 1000000 in
theorem double_any (w : World) (a : Nat) (h : a < 256) : Calls Try.prog 32 #[.int .u8 (a : Int)] w fun e w' => e = .returned (.int .u8 ((dbl a : Nat) : Int)) ∧ w' = w := by
  have HD := hid (dbl_bits a h)
  go_enter Try.func32, Try.ntmps32
  go_wp2
  go_ret
  rw [HD.out]
  exact ⟨rfl, rfl⟩

theorem dbl_small {a : Nat} (h : a < 128) : dbl a = a * 2 := by
  unfold dbl
  rw [show a / 128 = 0 by omega, Nat.zero_mul, Nat.xor_zero]
  omega
theorem dbl_large {a : Nat} (h : ¬ a < 128) (h2 : a < 256) : dbl a = (a * 2 % 256) ^^^ 27 := by
  unfold dbl
  rw [show a / 128 = 1 by omega]

end Go.Proofs.Ytbafegpiipkmbab
