/- The document's numbers modulo a prime, walked. -/
import Derived.Test.YtcgablfjjcdciaaMatInv
set_option linter.unusedSimpArgs false
set_option linter.unusedVariables false
namespace Go.Proofs.Ytcgablfjjcdciaa
open Go Go.RowKit

theorem rown_any (w : World) (p a r : Nat) (hp : 0 < p) (hp2 : p < 4294967296) (ha : a < 4294967296) (hr : a % p = r) :
    Calls Try.prog 42 #[.int .u32 (p : Int), .int .u32 (a : Int)] w fun e w' => e = .returned (.int .u32 (r : Int)) ∧ w' = w := by
  have hri : (a : Int) % (p : Int) = (r : Int) := by rw [← hr]; rfl
  have hz : ((p : Int) == 0) = false := by simp; omega
  clear hr
  go_enter Try.func42, Try.ntmps42
  go_wp2
  go_ret
  exact ⟨by show Ending.returned (.int .u32 ((a : Int) % (p : Int))) = _; rw [hri], rfl⟩
theorem radd_any (w : World) (p a b r : Nat) (hp : 0 < p) (hp2 : p < 4294967296) (ha : a < 4294967296) (hb : b < 4294967296) (hr : (a + b) % p = r) :
    Calls Try.prog 13 #[.int .u32 (p : Int), .int .u32 (a : Int), .int .u32 (b : Int)] w fun e w' => e = .returned (.int .u32 (r : Int)) ∧ Dr w w' := by
  obtain ⟨x, hx⟩ : ∃ x, a % p = x := ⟨_, rfl⟩
  obtain ⟨y, hy⟩ : ∃ y, b % p = y := ⟨_, rfl⟩
  have hxp : x < p := by rw [← hx]; exact Nat.mod_lt _ hp
  have hyp : y < p := by rw [← hy]; exact Nat.mod_lt _ hp
  have hxi : (a : Int) % (p : Int) = (x : Int) := by rw [← hx]; rfl
  have hyi : (b : Int) % (p : Int) = (y : Int) := by rw [← hy]; rfl
  obtain ⟨s, hs⟩ : ∃ s, s = x + y := ⟨_, rfl⟩
  have hsi : (x : Int) + (y : Int) = (s : Int) := by rw [hs]; rfl
  have hsl : s < 18446744073709551616 := by rw [hs]; first | omega | exact mul_lt (by omega) (by omega)
  have hsr : s % p = r := by rw [hs, ← hx, ← hy, ← hr]; first | exact (Nat.add_mod _ _ _).symm | exact (Nat.mul_mod _ _ _).symm
  have hri : (s : Int) % (p : Int) = (r : Int) := by rw [← hsr]; rfl
  have hrp : r < p := by rw [← hsr]; exact Nat.mod_lt _ hp
  have hz : ((p : Int) == 0) = false := by simp; omega
  clear hr hx hy hs hsr
  go_enter Try.func13, Try.ntmps13
  go_wp2_with fail
  go_quiet (fail)
  go_wp2
  go_ret
  exact ⟨rfl, Dr.refl _ |>.drewN _⟩
theorem rmul_any (w : World) (p a b r : Nat) (hp : 0 < p) (hp2 : p < 4294967296) (ha : a < 4294967296) (hb : b < 4294967296) (hr : (a * b) % p = r) :
    Calls Try.prog 17 #[.int .u32 (p : Int), .int .u32 (a : Int), .int .u32 (b : Int)] w fun e w' => e = .returned (.int .u32 (r : Int)) ∧ Dr w w' := by
  obtain ⟨x, hx⟩ : ∃ x, a % p = x := ⟨_, rfl⟩
  obtain ⟨y, hy⟩ : ∃ y, b % p = y := ⟨_, rfl⟩
  have hxp : x < p := by rw [← hx]; exact Nat.mod_lt _ hp
  have hyp : y < p := by rw [← hy]; exact Nat.mod_lt _ hp
  have hxi : (a : Int) % (p : Int) = (x : Int) := by rw [← hx]; rfl
  have hyi : (b : Int) % (p : Int) = (y : Int) := by rw [← hy]; rfl
  obtain ⟨s, hs⟩ : ∃ s, s = x * y := ⟨_, rfl⟩
  have hsi : (x : Int) * (y : Int) = (s : Int) := by rw [hs]; rfl
  have hsl : s < 18446744073709551616 := by rw [hs]; first | omega | exact mul_lt (by omega) (by omega)
  have hsr : s % p = r := by rw [hs, ← hx, ← hy, ← hr]; first | exact (Nat.add_mod _ _ _).symm | exact (Nat.mul_mod _ _ _).symm
  have hri : (s : Int) % (p : Int) = (r : Int) := by rw [← hsr]; rfl
  have hrp : r < p := by rw [← hsr]; exact Nat.mod_lt _ hp
  have hz : ((p : Int) == 0) = false := by simp; omega
  clear hr hx hy hs hsr
  go_enter Try.func17, Try.ntmps17
  go_wp2_with fail
  go_quiet (fail)
  go_wp2
  go_ret
  exact ⟨rfl, Dr.refl _ |>.drewN _⟩
theorem rsub_any (w : World) (p a b r : Nat) (hp : 0 < p) (hp2 : p < 4294967296) (ha : a < 4294967296) (hb : b < 4294967296) (hr : (a + (p - b % p)) % p = r) :
    Calls Try.prog 15 #[.int .u32 (p : Int), .int .u32 (a : Int), .int .u32 (b : Int)] w fun e w' => e = .returned (.int .u32 (r : Int)) ∧ Dr w w' := by
  obtain ⟨x, hx⟩ : ∃ x, a % p = x := ⟨_, rfl⟩
  obtain ⟨y, hy⟩ : ∃ y, b % p = y := ⟨_, rfl⟩
  have hxp : x < p := by rw [← hx]; exact Nat.mod_lt _ hp
  have hyp : y < p := by rw [← hy]; exact Nat.mod_lt _ hp
  have hxi : (a : Int) % (p : Int) = (x : Int) := by rw [← hx]; rfl
  have hyi : (b : Int) % (p : Int) = (y : Int) := by rw [← hy]; rfl
  obtain ⟨s, hs⟩ : ∃ s, s = x + p - y := ⟨_, rfl⟩
  have hsi : (x : Int) + (p : Int) - (y : Int) = (s : Int) := by omega
  have hsl : s < 18446744073709551616 := by omega
  have hsr : s % p = r := by
    rw [hy] at hr
    rw [hs, ← hr, ← hx, Nat.add_sub_assoc (by omega), Nat.add_mod, Nat.mod_mod, ← Nat.add_mod]
  have hri : (s : Int) % (p : Int) = (r : Int) := by rw [← hsr]; rfl
  have hrp : r < p := by rw [← hsr]; exact Nat.mod_lt _ hp
  have hz : ((p : Int) == 0) = false := by simp; omega
  clear hr hx hy hs hsr
  go_enter Try.func15, Try.ntmps15
  go_wp2_with fail
  go_quiet (fail)
  go_wp2
  go_ret
  exact ⟨rfl, Dr.refl _ |>.drewN _⟩
theorem invV_mod (p a : Nat) (hp : 2 ≤ p) : invV p (a % p) = invV p a := by
  unfold invV
  rw [Nat.mod_mod, pwm_mod]
set_option maxRecDepth 100000 in
set_option maxHeartbeats 4000000 in
theorem rinv_any (w : World) (p a x : Nat) (b : Bool) (hp : 2 ≤ p) (hp2 : p < 4294967296) (ha : a < 4294967296) (hv : invV p a = (x, b)) :
    Calls Try.prog 11 #[.int .u32 (p : Int), .int .u32 (a : Int)] w fun e w' => e = .returned (.tuple #[.int .u32 (x : Int), .bool b]) ∧ Dr w w' := by
  obtain ⟨d, hd⟩ : ∃ d, a % p = d := ⟨_, rfl⟩
  have C1 := hid (rown_any w p a d (by omega) hp2 ha hd)
  have hz : ((p : Int) == 0) = false := by simp; omega
  have hdi : (a : Int) % (p : Int) = (d : Int) := by rw [← hd]; rfl
  have hdp : d < p := by rw [← hd]; exact Nat.mod_lt _ (by omega)
  rw [← invV_mod p a hp, hd] at hv
  unfold invV at hv
  rw [Nat.mod_eq_of_lt hdp] at hv
  clear hd
  go_enter Try.func11, Try.ntmps11
  by_cases h0 : d = 0
  · rw [if_pos h0] at hv
    cases hv
    subst h0
    go_wp2_with fail
    refine C1.out.mono ?_
    rintro e w' ⟨rfl, rfl⟩
    go_wp2
    go_ret2
    exact ⟨rfl, Dr.refl _⟩
  · rw [if_neg h0] at hv
    simp only [Prod.mk.injEq] at hv
    obtain ⟨hx, rfl⟩ := hv
    have HX := hid hx
    have h0' : ((d : Int) == 0) = false := by simp; exact h0
    have hxp : x < p := by rw [← hx]; exact pwm_lt (by omega) _ _ _ (by omega)
    have hxi : (x : Int) % (p : Int) = (x : Int) := Int.emod_eq_of_lt (by omega) (by omega)
    clear hx
    go_wp2_with fail
    refine C1.out.mono ?_
    rintro e w' ⟨rfl, rfl⟩
    have HDI := hid hdi
    have HXI := hid hxi
    clear C1 hdi hxi
    go_wp2
    go_loopw [7, 8, 9] (fun vo va vn wr => ∃ A O N : Nat, va = .int .u32 (A : Int) ∧ vo = .int .u32 (O : Int) ∧ vn = .int .u32 (N : Int) ∧ A < 4294967296 ∧ O < p ∧ N < 4294967296 ∧ Hid (pwm p O A N = x) ∧ Hid (Dr w' wr)) (fun _ _ vn _ => (intOf vn).toNat)
    case atStart => exact ⟨d, 1, p - 2, by rw [HDI.out], rfl, by congr 1; omega, by omega, by omega, by omega, HX.out, Dr.refl _⟩
    case round =>
      obtain ⟨A, O, N, rfl, rfl, rfl, hA, hO, hN, HI, D⟩ := hrel
      by_cases hzn : N = 0
      · have e : O = x := by rw [← HI.out, hzn, pwm_zero]
        subst hzn
        subst e
        go_wp2
        go_ret2
        exact ⟨by show Ending.returned (.tuple #[.int .u32 ((O : Int) % (p : Int)), .bool true]) = _; rw [HXI.out], D.out⟩
      · obtain ⟨r, Hr⟩ : ∃ r, Hid (A * A % p = r) := ⟨_, rfl⟩
        obtain ⟨s, Hs⟩ : ∃ s, Hid (O * A % p = s) := ⟨_, rfl⟩
        have CA : Hid (∀ W, Calls Try.prog 17 #[.int .u32 (p : Int), .int .u32 (A : Int), .int .u32 (A : Int)] W fun e w' => e = .returned (.int .u32 (r : Int)) ∧ Dr W w') := fun W => rmul_any W p A A r (by omega) hp2 hA hA Hr.out
        have CO : Hid (∀ W, Calls Try.prog 17 #[.int .u32 (p : Int), .int .u32 (O : Int), .int .u32 (A : Int)] W fun e w' => e = .returned (.int .u32 (s : Int)) ∧ Dr W w') := fun W => rmul_any W p O A s (by omega) hp2 (by omega) hA Hs.out
        have hr : r < p := by rw [← Hr.out]; exact Nat.mod_lt _ (by omega)
        have hs : s < p := by rw [← Hs.out]; exact Nat.mod_lt _ (by omega)
        by_cases ho : N % 2 = 1
        · have NX := hid (odd_next HI.out hzn ho Hr.out Hs.out)
          have ho' : (N : Int) % 2 = 1 := by omega
          go_wp2_with fail
          refine (CO.out _).mono ?_
          rintro e w2 ⟨rfl, h2⟩
          go_wp2_with fail
          refine (CA.out _).mono ?_
          rintro e w3 ⟨rfl, h3⟩
          have D3 := hid ((D.out.trans h2).trans h3)
          clear h2 h3
          go_wp2
          exact ⟨⟨r, s, N / 2, rfl, rfl, by go_num, by omega, hs, by omega, NX, D3⟩, by simp only [intOf]; omega⟩
        · have NX := hid (even_next HI.out hzn ho Hr.out)
          have ho' : (N : Int) % 2 = 0 := by omega
          go_wp2_with fail
          refine (CA.out _).mono ?_
          rintro e w3 ⟨rfl, h3⟩
          have D3 := hid (D.out.trans h3)
          clear h3
          go_wp2
          exact ⟨⟨r, O, N / 2, rfl, rfl, by go_num, by omega, hO, by omega, NX, D3⟩, by simp only [intOf]; omega⟩
end Go.Proofs.Ytcgablfjjcdciaa
