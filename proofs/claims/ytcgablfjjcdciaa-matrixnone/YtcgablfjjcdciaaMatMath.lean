/- Numbers modulo another: powers by squaring, and what a prime is. -/
import Derived.Test.YtcgablfjjcdciaaBase
set_option linter.unusedSimpArgs false
set_option linter.unusedVariables false
namespace Go.Proofs.Ytcgablfjjcdciaa
open Go

/-- x times y to the power n, modulo p, by squaring. -/
def pwm (p x y n : Nat) : Nat := if n = 0 then x else pwm p (if n % 2 = 1 then x * y % p else x) (y * y % p) (n / 2)
termination_by n
decreasing_by omega
theorem pwm_zero (p x y : Nat) : pwm p x y 0 = x := by rw [pwm]; rfl
theorem pwm_next (p x y : Nat) {n : Nat} (h : n ≠ 0) : pwm p x y n = pwm p (if n % 2 = 1 then x * y % p else x) (y * y % p) (n / 2) := by rw [pwm, if_neg h]
theorem pwm_mod (p x y n : Nat) : pwm p x (y % p) n = pwm p x y n := by
  by_cases h : n = 0
  · rw [h, pwm_zero, pwm_zero]
  · rw [pwm_next _ _ _ h, pwm_next _ _ _ h, Nat.mul_mod_mod, ← Nat.mul_mod]
theorem pwm_lt {p : Nat} (hp : 0 < p) : ∀ (n x y : Nat), x < p → pwm p x y n < p := by
  intro n
  induction n using Nat.strongRecOn with
  | ind n ih =>
    intro x y hx
    by_cases h : n = 0
    · rw [h, pwm_zero]; exact hx
    · rw [pwm_next _ _ _ h]
      refine ih _ (by omega) _ _ ?_
      split
      · exact Nat.mod_lt _ hp
      · exact hx
/-- A prime. -/
def IsP (p : Nat) : Prop := 1 < p ∧ ∀ d, 2 ≤ d → d * d ≤ p → p % d ≠ 0
open Classical in
noncomputable def prB (p : Nat) : Bool := decide (IsP p)
theorem prB_true {p : Nat} (h : IsP p) : prB p = true := by simp [prB, h]
theorem prB_false {p : Nat} (h : ¬ IsP p) : prB p = false := by simp [prB, h]
theorem prB_is {p : Nat} (h : prB p = true) : IsP p := by simpa [prB] using h
theorem sq_mono {a b : Nat} (h : a ≤ b) : a * a ≤ b * b := Nat.mul_le_mul h h
end Go.Proofs.Ytcgablfjjcdciaa
