/- The numbers modulo a prime: the program's and the document's, walked. -/
import Derived.Test.YtcgablfjjcdciaaMatMath
import Derived.Test.YtcgablfjjcdciaaU8
set_option linter.unusedSimpArgs false
set_option linter.unusedVariables false
namespace Go.Proofs.Ytcgablfjjcdciaa
open Go Go.RowKit

theorem div_out {p D q : Nat} (h : q = D * D) (hle : q ≤ p) (h2 : 2 ≤ D) (hr : p % D = 0) : prB p = false := prB_false fun h3 => h3.2 D h2 (by omega) hr
theorem div_all {p D q : Nat} (h : q = D * D) (hle : ¬ q ≤ p) (hk : ∀ k, 2 ≤ k → k < D → k * k ≤ p → p % k ≠ 0) : prB p = decide ((1 : Int) < (p : Int)) := by
  by_cases h1 : 1 < p
  · rw [decide_eq_true (show (1 : Int) < (p : Int) by omega)]
    refine prB_true ⟨h1, fun d h4 h5 => hk d h4 ?_ h5⟩
    apply Classical.byContradiction
    intro hh
    have : D * D ≤ d * d := sq_mono (by omega)
    omega
  · rw [decide_eq_false (show ¬ (1 : Int) < (p : Int) by omega)]
    exact prB_false fun h => h1 h.1
theorem div_next {p D r : Nat} (hk : ∀ k, 2 ≤ k → k < D → k * k ≤ p → p % k ≠ 0) (h : p % D = r) (hr : ¬ r = 0) : ∀ k, 2 ≤ k → k < D + 1 → k * k ≤ p → p % k ≠ 0 := fun k h1 h2 h3 => by
  by_cases e : k = D
  · subst e; omega
  · exact hk k h1 (by omega) h3
theorem small_root {D q p : Nat} (h : q = D * D) (hle : q ≤ p) (hp : p < 4294967296) : D ≤ 65535 := by
  apply Classical.byContradiction
  intro hh
  have : 65536 * 65536 ≤ D * D := sq_mono (by omega)
  omega

set_option maxRecDepth 100000 in
set_option maxHeartbeats 4000000 in
theorem isPrime_any (w : World) (p : Nat) (hp : p < 4294967296) :
    Calls Try.prog 40 #[.int .u64 (p : Int)] w fun e w' => e = .returned (.bool (prB p)) ∧ w' = w := by
  go_enter Try.func40, Try.ntmps40
  go_wp2
  go_loop [3] (fun d => ∃ D : Nat, d = .int .u64 (D : Int) ∧ 2 ≤ D ∧ D ≤ 65537 ∧ Hid (∀ k, 2 ≤ k → k < D → k * k ≤ p → p % k ≠ 0)) (fun d => 65537 - (intOf d).toNat)
  case atStart => exact ⟨2, rfl, Nat.le_refl _, by decide, fun k h1 h2 => by omega⟩
  case round =>
    obtain ⟨D, rfl, h2, h3, HK⟩ := hrel
    obtain ⟨q, Hq⟩ : ∃ q, Hid (q = D * D) := ⟨_, rfl⟩
    have hq2 : q ≤ 4295098369 := by rw [Hq.out]; exact sq_mono h3
    have hqi : (D : Int) * (D : Int) = (q : Int) := by rw [Hq.out]; rfl
    by_cases hle : q ≤ p
    · have hD := small_root Hq.out hle hp
      obtain ⟨r, Hr⟩ : ∃ r, Hid (p % D = r) := ⟨_, rfl⟩
      have hri : (p : Int) % (D : Int) = (r : Int) := by rw [← Hr.out]; rfl
      by_cases hr : r = 0
      · have FIN := hid (div_out Hq.out hle h2 (Hr.out.trans hr))
        subst hr
        go_wp2
        go_ret
        rw [FIN.out]
        exact ⟨rfl, rfl⟩
      · have NX := hid (div_next HK.out Hr.out hr)
        go_wp2
        exact ⟨⟨D + 1, rfl, by omega, by omega, NX.out⟩, by simp only [intOf]; omega⟩
    · have FIN := hid (div_all Hq.out hle HK.out)
      go_wp2
      go_ret
      rw [FIN.out]
      exact ⟨rfl, rfl⟩
set_option maxRecDepth 100000 in
set_option maxHeartbeats 4000000 in
theorem rprime_any (w : World) (p : Nat) (hp : p < 4294967296) :
    Calls Try.prog 7 #[.int .u32 (p : Int)] w fun e w' => e = .returned (.bool (decide (p ≤ 2147483648) && prB p)) ∧ w' = w := by
  go_enter Try.func7, Try.ntmps7
  by_cases hlo : p < 2
  · have e : prB p = false := prB_false fun h => by have := h.1; omega
    rw [e, Bool.and_false]
    have HE := hid e
    clear e
    go_wp2
    go_ret
    exact ⟨rfl, rfl⟩
  by_cases hbig : 2147483648 < p
  · have e : decide (p ≤ 2147483648) = false := decide_eq_false (by omega)
    rw [e, Bool.false_and]
    have HE := hid e
    clear e
    go_wp2
    go_ret
    exact ⟨rfl, rfl⟩
  have e : decide (p ≤ 2147483648) = true := decide_eq_true (by omega)
  rw [e, Bool.true_and]
  clear e
  go_wp2
  go_loop [3] (fun d => ∃ D : Nat, d = .int .u32 (D : Int) ∧ 2 ≤ D ∧ D ≤ 65537 ∧ Hid (∀ k, 2 ≤ k → k < D → k * k ≤ p → p % k ≠ 0)) (fun d => 65537 - (intOf d).toNat)
  case atStart => exact ⟨2, rfl, Nat.le_refl _, by decide, fun k h1 h2 => by omega⟩
  case round =>
    obtain ⟨D, rfl, h2, h3, HK⟩ := hrel
    obtain ⟨q, Hq⟩ : ∃ q, Hid (q = D * D) := ⟨_, rfl⟩
    have hq2 : q ≤ 4295098369 := by rw [Hq.out]; exact sq_mono h3
    have hqi : (D : Int) * (D : Int) = (q : Int) := by rw [Hq.out]; rfl
    by_cases hle : q ≤ p
    · have hD := small_root Hq.out hle hp
      obtain ⟨r, Hr⟩ : ∃ r, Hid (p % D = r) := ⟨_, rfl⟩
      have hri : (p : Int) % (D : Int) = (r : Int) := by rw [← Hr.out]; rfl
      by_cases hr : r = 0
      · have FIN := hid (div_out Hq.out hle h2 (Hr.out.trans hr))
        subst hr
        go_wp2
        go_ret
        rw [FIN.out]
        exact ⟨rfl, rfl⟩
      · have NX := hid (div_next HK.out Hr.out hr)
        go_wp2
        exact ⟨⟨D + 1, rfl, by omega, by omega, NX.out⟩, by simp only [intOf]; omega⟩
    · have FIN := hid ((div_all Hq.out hle HK.out).trans (decide_eq_true (by omega)))
      go_wp2
      go_ret
      rw [FIN.out]
      exact ⟨rfl, rfl⟩
/-- Whether there is a field of that modulus. -/
noncomputable def okP (p : Nat) : Bool := decide (p ≤ 2147483648) && prB p
theorem okP_is {p : Nat} (h : okP p = true) : p ≤ 2147483648 ∧ 2 ≤ p := by
  unfold okP at h
  rw [Bool.and_eq_true] at h
  exact ⟨of_decide_eq_true h.1, (prB_is h.2).1⟩
set_option maxRecDepth 100000 in
set_option maxHeartbeats 4000000 in
theorem newMod_any (w : World) (p : Nat) (hp : p < 4294967296) :
    Calls Try.prog 6 #[.int .u32 (p : Int)] w fun e w' => (okP p = true → e = .returned (.tuple #[.pointer (some ⟨w.heap.size, 0, none⟩), .int .i64 0]) ∧ w' = w.alloc (.cells #[.int .u32 (p : Int)] 43)) ∧ (okP p = false → e = .returned (.tuple #[.pointer none, .int .i64 73]) ∧ w' = w) := by
  have C := hid (isPrime_any w p hp)
  go_enter Try.func6, Try.ntmps6
  by_cases hbig : 2147483648 < p
  · have FIN : Hid (okP p = false) := by
      show (decide (p ≤ 2147483648) && prB p) = false
      rw [decide_eq_false (by omega), Bool.false_and]
    go_wp2
    go_ret2
    exact ⟨fun h => absurd (FIN.out.symm.trans h) (by decide), fun _ => ⟨rfl, rfl⟩⟩
  · have FIN : Hid (okP p = prB p) := by
      show (decide (p ≤ 2147483648) && prB p) = prB p
      rw [decide_eq_true (by omega), Bool.true_and]
    cases hb : prB p with
    | false =>
      rw [hb] at FIN C
      go_wp2_with fail
      refine C.out.mono ?_
      rintro e w' ⟨rfl, rfl⟩
      go_wp2
      go_ret2
      exact ⟨fun h => absurd (FIN.out.symm.trans h) (by decide), fun _ => ⟨rfl, rfl⟩⟩
    | true =>
      rw [hb] at FIN C
      go_wp2_with fail
      refine C.out.mono ?_
      rintro e w' ⟨rfl, rfl⟩
      go_wp2
      go_ret2
      exact ⟨fun _ => ⟨rfl, rfl⟩, fun h => absurd (FIN.out.symm.trans h) (by decide)⟩
/-- The field of p, at f. -/
def HMod (w : World) (f p : Nat) : Prop := w.cell? ⟨f, 0, none⟩ = some (.int .u32 (p : Int))
theorem rest_any (w : World) (f p x r : Nat) (h : HMod w f p) (hp : 0 < p) (hp2 : p < 4294967296) (hx : x < 18446744073709551616) (hr : x % p = r) :
    Calls Try.prog 41 #[.pointer (some ⟨f, 0, none⟩), .int .u64 (x : Int)] w fun e w' => e = .returned (.int .u32 (r : Int)) ∧ w' = w := by
  have hc : w.cell? ⟨f, 0, none⟩ = some (.int .u32 (p : Int)) := h
  have hri : (x : Int) % (p : Int) = (r : Int) := by rw [← hr]; rfl
  have hrl : r < 4294967296 := by have := Nat.mod_lt x hp; omega
  clear hr h
  go_enter Try.func41, Try.ntmps41
  go_wp2
  go_ret
  exact ⟨rfl, rfl⟩
theorem one_any (w : World) (f p : Nat) (h : HMod w f p) (hp : 2 ≤ p) (hp2 : p < 4294967296) :
    Calls Try.prog 9 #[.pointer (some ⟨f, 0, none⟩)] w fun e w' => e = .returned (.int .u32 1) ∧ w' = w := by
  have C := hid (rest_any w f p 1 1 h (by omega) hp2 (by decide) (Nat.mod_eq_of_lt (by omega)))
  go_enter Try.func9, Try.ntmps9
  go_wp2_with fail
  refine C.out.mono ?_
  rintro e w' ⟨rfl, rfl⟩
  go_wp2
  go_ret
  exact ⟨rfl, rfl⟩
theorem zero_any (w : World) (f : Nat) : Calls Try.prog 8 #[.pointer (some ⟨f, 0, none⟩)] w fun e w' => e = .returned (.int .u32 0) ∧ w' = w := by
  go_enter Try.func8, Try.ntmps8
  go_wp2
  go_ret
  exact ⟨rfl, rfl⟩
theorem madd_any (w : World) (f p a b r : Nat) (h : HMod w f p) (hp : 0 < p) (hp2 : p < 4294967296) (ha : a < 4294967296) (hb : b < 4294967296) (hr : (a + b) % p = r) :
    Calls Try.prog 12 #[.pointer (some ⟨f, 0, none⟩), .int .u32 (a : Int), .int .u32 (b : Int)] w fun e w' => e = .returned (.int .u32 (r : Int)) ∧ w' = w := by
  obtain ⟨s, hs⟩ : ∃ s, s = a + b := ⟨_, rfl⟩
  rw [← hs] at hr
  have hsi : (a : Int) + (b : Int) = (s : Int) := by rw [hs]; rfl
  have hsl : s < 18446744073709551616 := by omega
  have C := hid (rest_any w f p s r h hp hp2 hsl hr)
  clear hs hr
  go_enter Try.func12, Try.ntmps12
  go_wp2_with fail
  refine C.out.mono ?_
  rintro e w' ⟨rfl, rfl⟩
  go_wp2
  go_ret
  exact ⟨rfl, rfl⟩
theorem mul_lt {a b : Nat} (ha : a < 4294967296) (hb : b < 4294967296) : a * b < 18446744073709551616 := by
  have : a * b ≤ 4294967295 * 4294967295 := Nat.mul_le_mul (by omega) (by omega)
  omega
theorem mmul_any (w : World) (f p a b r : Nat) (h : HMod w f p) (hp : 0 < p) (hp2 : p < 4294967296) (ha : a < 4294967296) (hb : b < 4294967296) (hr : a * b % p = r) :
    Calls Try.prog 16 #[.pointer (some ⟨f, 0, none⟩), .int .u32 (a : Int), .int .u32 (b : Int)] w fun e w' => e = .returned (.int .u32 (r : Int)) ∧ w' = w := by
  obtain ⟨s, hs⟩ : ∃ s, s = a * b := ⟨_, rfl⟩
  rw [← hs] at hr
  have hsi : (a : Int) * (b : Int) = (s : Int) := by rw [hs]; rfl
  have hsl : s < 18446744073709551616 := by rw [hs]; exact mul_lt ha hb
  have C := hid (rest_any w f p s r h hp hp2 hsl hr)
  clear hs hr
  go_enter Try.func16, Try.ntmps16
  go_wp2_with fail
  refine C.out.mono ?_
  rintro e w' ⟨rfl, rfl⟩
  go_wp2
  go_ret
  exact ⟨rfl, rfl⟩
theorem msub_any (w : World) (f p a b r : Nat) (h : HMod w f p) (hp : 0 < p) (hp2 : p < 4294967296) (ha : a < 4294967296) (hb : b < 4294967296) (hr : (a + (p - b % p)) % p = r) :
    Calls Try.prog 14 #[.pointer (some ⟨f, 0, none⟩), .int .u32 (a : Int), .int .u32 (b : Int)] w fun e w' => e = .returned (.int .u32 (r : Int)) ∧ w' = w := by
  obtain ⟨d, hd⟩ : ∃ d, b % p = d := ⟨_, rfl⟩
  have hdp : d < p := by rw [← hd]; exact Nat.mod_lt _ hp
  rw [hd] at hr
  have C1 := hid (rest_any w f p b d h hp hp2 (by omega) hd)
  have hc : w.cell? ⟨f, 0, none⟩ = some (.int .u32 (p : Int)) := h
  by_cases h0 : d = 0
  · have hr2 : a % p = r := by rw [← hr, h0, Nat.sub_zero, Nat.add_mod_right]
    have C2 := hid (rest_any w f p a r h hp hp2 (by omega) hr2)
    subst h0
    clear hr hd h hc hr2
    go_enter Try.func14, Try.ntmps14
    go_wp2_with fail
    refine C1.out.mono ?_
    rintro e w' ⟨rfl, rfl⟩
    go_wp2_with fail
    refine C2.out.mono ?_
    rintro e w' ⟨rfl, rfl⟩
    go_wp2
    go_ret
    exact ⟨rfl, rfl⟩
  · obtain ⟨s, hs⟩ : ∃ s, s = a + (p - d) := ⟨_, rfl⟩
    rw [← hs] at hr
    have hsi : (a : Int) + ((p : Int) - (d : Int)) = (s : Int) := by omega
    have C2 := hid (rest_any w f p s r h hp hp2 (by omega) hr)
    clear hr hd h hs
    go_enter Try.func14, Try.ntmps14
    go_wp2_with fail
    refine C1.out.mono ?_
    rintro e w' ⟨rfl, rfl⟩
    go_wp2_with fail
    refine C2.out.mono ?_
    rintro e w' ⟨rfl, rfl⟩
    go_wp2
    go_ret
    exact ⟨rfl, rfl⟩
end Go.Proofs.Ytcgablfjjcdciaa
