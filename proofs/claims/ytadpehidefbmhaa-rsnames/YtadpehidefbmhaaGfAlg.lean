/- The field of 256 elements: its laws, the generator's powers and their exponents. -/
import Derived.Test.YtadpehidefbmhaaGfArr
set_option linter.unusedSimpArgs false
set_option linter.unusedVariables false
namespace Go.Proofs.Ytadpehidefbmhaa
open Go Go.RowKit

theorem byte_all {p : Nat → Bool} (h : (List.range 256).all p = true) (a : Nat) (ha : a < 256) : p a = true := List.all_eq_true.1 h a (List.mem_range.2 ha)
theorem two_bytes {p : Nat → Nat → Bool} (h : ((List.range 256).all fun a => (List.range 256).all (p a)) = true) (a b : Nat) (ha : a < 256) (hb : b < 256) : p a b = true :=
  List.all_eq_true.1 (List.all_eq_true.1 h a (List.mem_range.2 ha)) b (List.mem_range.2 hb)
theorem dbl_xor (a b : Nat) (ha : a < 256) (hb : b < 256) : dbl (a ^^^ b) = dbl a ^^^ dbl b := by
  have h : ((List.range 256).all fun a => (List.range 256).all fun b => dbl (a ^^^ b) == dbl a ^^^ dbl b) = true := by decide +kernel
  simpa using two_bytes h a b ha hb
theorem xor_left_self (x y : Nat) : x ^^^ (x ^^^ y) = y := by rw [← Nat.xor_assoc, Nat.xor_self, Nat.zero_xor]
theorem xlc (x y z : Nat) : x ^^^ (y ^^^ z) = y ^^^ (x ^^^ z) := by rw [← Nat.xor_assoc, Nat.xor_comm x y, Nat.xor_assoc]
theorem xor_mod2 (b c : Nat) : (b ^^^ c) % 2 = (b % 2 + c % 2) % 2 := by
  have h := Nat.xor_mod_two_pow (a := b) (b := c) (n := 1)
  have hb : b % 2 = 0 ∨ b % 2 = 1 := by omega
  have hc : c % 2 = 0 ∨ c % 2 = 1 := by omega
  simp only [Nat.pow_one] at h
  rw [h]
  rcases hb with hb | hb <;> rcases hc with hc | hc <;> rw [hb, hc] <;> rfl
theorem xor_div2 (b c : Nat) : (b ^^^ c) / 2 = b / 2 ^^^ c / 2 := by
  have h := Nat.xor_div_two_pow (a := b) (b := c) (n := 1)
  simpa using h
theorem prodF_right : ∀ (k a b c s t : Nat), prodF k a (b ^^^ c) (s ^^^ t) = prodF k a b s ^^^ prodF k a c t
  | 0, _, _, _, _, _ => rfl
  | k + 1, a, b, c, s, t => by
    simp only [prodF]
    rw [xor_div2, ← prodF_right k (dbl a) (b / 2) (c / 2)]
    congr 1
    rw [xor_mod2]
    have hb : b % 2 = 0 ∨ b % 2 = 1 := by omega
    have hc : c % 2 = 0 ∨ c % 2 = 1 := by omega
    rcases hb with hb | hb <;> rcases hc with hc | hc <;> simp only [hb, hc, Nat.zero_add, Nat.add_zero, Nat.reduceAdd, Nat.reduceMod, if_true, if_false, Nat.zero_ne_one, reduceIte]
    all_goals simp only [Nat.xor_assoc, Nat.xor_comm, xlc, xor_left_self, Nat.xor_self, Nat.xor_zero, Nat.zero_xor]
theorem prod_right (a b c : Nat) : prod a (b ^^^ c) = prod a b ^^^ prod a c := by
  have := prodF_right 8 a b c 0 0
  rwa [Nat.xor_self] at this
theorem prodF_left : ∀ (k a a' b s t : Nat), a < 256 → a' < 256 → prodF k (a ^^^ a') b (s ^^^ t) = prodF k a b s ^^^ prodF k a' b t
  | 0, _, _, _, _, _, _, _ => rfl
  | k + 1, a, a', b, s, t, ha, ha' => by
    simp only [prodF]
    rw [dbl_xor a a' ha ha', ← prodF_left k (dbl a) (dbl a') (b / 2) _ _ (dbl_lt ha) (dbl_lt ha')]
    congr 1
    split
    · simp only [Nat.xor_assoc, Nat.xor_comm, xlc]
    · rfl
theorem prod_left (a a' b : Nat) (ha : a < 256) (ha' : a' < 256) : prod (a ^^^ a') b = prod a b ^^^ prod a' b := by
  have := prodF_left 8 a a' b 0 0 ha ha'
  rwa [Nat.xor_self] at this
/-- What agrees on the bits agrees on all bytes. -/
theorem by_bits {f g : Nat → Nat} (hf : ∀ x y, x < 256 → y < 256 → f (x ^^^ y) = f x ^^^ f y) (hg : ∀ x y, x < 256 → y < 256 → g (x ^^^ y) = g x ^^^ g y) (h : ∀ i, i < 8 → f (2 ^ i) = g (2 ^ i)) (x : Nat) (hx : x < 256) : f x = g x := by
  have f0 : f 0 = 0 := by have := hf 0 0 (by decide) (by decide); rw [Nat.xor_self] at this; rw [this, Nat.xor_self]
  have g0 : g 0 = 0 := by have := hg 0 0 (by decide) (by decide); rw [Nat.xor_self] at this; rw [this, Nat.xor_self]
  have key : ∀ n, n ≤ 8 → f (x % 2 ^ n) = g (x % 2 ^ n) := by
    intro n
    induction n with
    | zero => intro _; rw [Nat.pow_zero, Nat.mod_one, f0, g0]
    | succ n ih =>
      intro hn
      have hs : (List.range 256).all (fun x => (List.range 8).all fun n => x % 2 ^ (n + 1) == (x % 2 ^ n) ^^^ (if x / 2 ^ n % 2 = 1 then 2 ^ n else 0)) = true := by decide +kernel
      have h1 := List.all_eq_true.1 (List.all_eq_true.1 hs x (List.mem_range.2 hx)) n (List.mem_range.2 (by omega))
      simp only [beq_iff_eq] at h1
      have l1 : x % 2 ^ n < 256 := Nat.lt_of_le_of_lt (Nat.mod_le _ _) hx
      have l2 : (2 : Nat) ^ n < 256 := Nat.lt_of_lt_of_le (Nat.pow_lt_pow_right (by decide) (by omega : n < 8)) (by decide)
      rw [h1]
      split
      · rw [hf _ _ l1 l2, hg _ _ l1 l2, ih (by omega), h n (by omega)]
      · rw [Nat.xor_zero]; exact ih (by omega)
  have := key 8 (Nat.le_refl _)
  rwa [Nat.mod_eq_of_lt hx] at this
theorem pow_lt (i : Nat) (hi : i < 8) : 2 ^ i < 256 := Nat.lt_of_lt_of_le (Nat.pow_lt_pow_right (by decide) hi) (by decide)
theorem prod_comm (a b : Nat) (ha : a < 256) (hb : b < 256) : prod a b = prod b a := by
  refine by_bits (f := fun b => prod a b) (g := fun b => prod b a) (fun x y _ _ => prod_right a x y) (fun x y hx hy => prod_left x y a hx hy) (fun j hj => ?_) b hb
  refine by_bits (f := fun a => prod a (2 ^ j)) (g := fun a => prod (2 ^ j) a) (fun x y hx hy => prod_left x y _ hx hy) (fun x y _ _ => prod_right _ x y) (fun i hi => ?_) a ha
  have h : (List.range 8).all (fun i => (List.range 8).all fun j => prod (2 ^ i) (2 ^ j) == prod (2 ^ j) (2 ^ i)) = true := by decide +kernel
  simpa using List.all_eq_true.1 (List.all_eq_true.1 h i (List.mem_range.2 hi)) j (List.mem_range.2 hj)
theorem prod_assoc (a b c : Nat) (ha : a < 256) (hb : b < 256) (hc : c < 256) : prod a (prod b c) = prod (prod a b) c := by
  refine by_bits (f := fun c => prod a (prod b c)) (g := fun c => prod (prod a b) c) (fun x y _ _ => by simp only [prod_right]) (fun x y _ _ => prod_right _ x y) (fun k hk => ?_) c hc
  refine by_bits (f := fun b => prod a (prod b (2 ^ k))) (g := fun b => prod (prod a b) (2 ^ k)) (fun x y hx hy => by simp only [prod_left x y _ hx hy, prod_right]) (fun x y hx hy => by simp only [prod_right]; exact prod_left _ _ _ (prod_lt _ ha) (prod_lt _ ha)) (fun j hj => ?_) b hb
  refine by_bits (f := fun a => prod a (prod (2 ^ j) (2 ^ k))) (g := fun a => prod (prod a (2 ^ j)) (2 ^ k)) (fun x y hx hy => prod_left x y _ hx hy) (fun x y hx hy => by simp only [prod_left x y _ hx hy]; exact prod_left _ _ _ (prod_lt _ hx) (prod_lt _ hy)) (fun i hi => ?_) a ha
  have h : (List.range 8).all (fun i => (List.range 8).all fun j => (List.range 8).all fun k => prod (2 ^ i) (prod (2 ^ j) (2 ^ k)) == prod (prod (2 ^ i) (2 ^ j)) (2 ^ k)) = true := by decide +kernel
  simpa using List.all_eq_true.1 (List.all_eq_true.1 (List.all_eq_true.1 h i (List.mem_range.2 hi)) j (List.mem_range.2 hj)) k (List.mem_range.2 hk)
theorem prod_one (a : Nat) (ha : a < 256) : prod a 1 = a := by
  have h : (List.range 256).all (fun a => prod a 1 == a) = true := by decide +kernel
  simpa using byte_all h a ha

theorem prod_zero (a : Nat) : prod a 0 = 0 := prodF_zero 8 a 0
theorem zero_prod (a : Nat) (ha : a < 256) : prod 0 a = 0 := by rw [prod_comm 0 a (by decide) ha, prod_zero]
theorem one_prod (a : Nat) (ha : a < 256) : prod 1 a = a := by rw [prod_comm 1 a (by decide) ha, prod_one a ha]
theorem prod_two (a : Nat) (ha : a < 256) : prod a 2 = dbl a := by
  have h : (List.range 256).all (fun a => prod a 2 == dbl a) = true := by decide +kernel
  simpa using byte_all h a ha

/-- The powers of the generator. -/
def pw : Nat → Nat
  | 0 => 1
  | n + 1 => dbl (pw n)
theorem pw_lt : ∀ n, pw n < 256
  | 0 => by decide
  | n + 1 => dbl_lt (pw_lt n)
def powL : List Nat := (List.range 255).map pw
def powLit : List Nat := [1, 2, 4, 8, 16, 32, 64, 128, 29, 58, 116, 232, 205, 135, 19, 38, 76, 152, 45, 90, 180, 117, 234, 201, 143, 3, 6, 12, 24, 48, 96, 192, 157, 39, 78, 156, 37, 74, 148, 53, 106, 212, 181, 119, 238, 193, 159, 35, 70, 140, 5, 10, 20, 40, 80, 160, 93, 186, 105, 210, 185, 111, 222, 161, 95, 190, 97, 194, 153, 47, 94, 188, 101, 202, 137, 15, 30, 60, 120, 240, 253, 231, 211, 187, 107, 214, 177, 127, 254, 225, 223, 163, 91, 182, 113, 226, 217, 175, 67, 134, 17, 34, 68, 136, 13, 26, 52, 104, 208, 189, 103, 206, 129, 31, 62, 124, 248, 237, 199, 147, 59, 118, 236, 197, 151, 51, 102, 204, 133, 23, 46, 92, 184, 109, 218, 169, 79, 158, 33, 66, 132, 21, 42, 84, 168, 77, 154, 41, 82, 164, 85, 170, 73, 146, 57, 114, 228, 213, 183, 115, 230, 209, 191, 99, 198, 145, 63, 126, 252, 229, 215, 179, 123, 246, 241, 255, 227, 219, 171, 75, 150, 49, 98, 196, 149, 55, 110, 220, 165, 87, 174, 65, 130, 25, 50, 100, 200, 141, 7, 14, 28, 56, 112, 224, 221, 167, 83, 166, 81, 162, 89, 178, 121, 242, 249, 239, 195, 155, 43, 86, 172, 69, 138, 9, 18, 36, 72, 144, 61, 122, 244, 245, 247, 243, 251, 235, 203, 139, 11, 22, 44, 88, 176, 125, 250, 233, 207, 131, 27, 54, 108, 216, 173, 71, 142]
def lgLit : List Nat := [0, 0, 1, 25, 2, 50, 26, 198, 3, 223, 51, 238, 27, 104, 199, 75, 4, 100, 224, 14, 52, 141, 239, 129, 28, 193, 105, 248, 200, 8, 76, 113, 5, 138, 101, 47, 225, 36, 15, 33, 53, 147, 142, 218, 240, 18, 130, 69, 29, 181, 194, 125, 106, 39, 249, 185, 201, 154, 9, 120, 77, 228, 114, 166, 6, 191, 139, 98, 102, 221, 48, 253, 226, 152, 37, 179, 16, 145, 34, 136, 54, 208, 148, 206, 143, 150, 219, 189, 241, 210, 19, 92, 131, 56, 70, 64, 30, 66, 182, 163, 195, 72, 126, 110, 107, 58, 40, 84, 250, 133, 186, 61, 202, 94, 155, 159, 10, 21, 121, 43, 78, 212, 229, 172, 115, 243, 167, 87, 7, 112, 192, 247, 140, 128, 99, 13, 103, 74, 222, 237, 49, 197, 254, 24, 227, 165, 153, 119, 38, 184, 180, 124, 17, 68, 146, 217, 35, 32, 137, 46, 55, 63, 209, 91, 149, 188, 207, 205, 144, 135, 151, 178, 220, 252, 190, 97, 242, 86, 211, 171, 20, 42, 93, 158, 132, 60, 57, 83, 71, 109, 65, 162, 31, 45, 67, 216, 183, 123, 164, 118, 196, 23, 73, 236, 127, 12, 111, 246, 108, 161, 59, 82, 41, 157, 85, 170, 251, 96, 134, 177, 187, 204, 62, 90, 203, 89, 95, 176, 156, 169, 160, 81, 11, 245, 22, 235, 122, 117, 44, 215, 79, 174, 213, 233, 230, 231, 173, 232, 116, 214, 244, 234, 168, 80, 88, 175]
theorem powL_lit : powL = powLit := by decide +kernel
/-- The exponent of an element. -/
def lg (a : Nat) : Nat := lgLit.getD a 0
theorem lg_lt (a : Nat) (ha : a < 256) : lg a < 255 := by
  have h : (List.range 256).all (fun a => decide (lg a < 255)) = true := by decide +kernel
  simpa using byte_all h a ha
theorem pw_lg (a : Nat) (ha : a < 256) (h0 : a ≠ 0) : pw (lg a) = a := by
  have h : (List.range 256).all (fun a => a == 0 || pw (lg a) == a) = true := by decide +kernel
  have := byte_all h a ha
  simp only [Bool.or_eq_true, beq_iff_eq] at this
  rcases this with h | h
  · exact absurd h h0
  · exact h
theorem lg_pw (n : Nat) (hn : n < 255) : lg (pw n) = n := by
  have h : (List.range 255).all (fun n => lg (pw n) == n) = true := by decide +kernel
  simpa using List.all_eq_true.1 h n (List.mem_range.2 hn)
theorem pw_255 : pw 255 = 1 := by decide +kernel
theorem pw_add (i : Nat) : ∀ j, prod (pw i) (pw j) = pw (i + j)
  | 0 => prod_one _ (pw_lt i)
  | j + 1 => by
    rw [pw, ← prod_two _ (pw_lt j), prod_assoc _ _ _ (pw_lt i) (pw_lt j) (by decide), pw_add i j, prod_two _ (pw_lt _)]
    rfl
theorem pw_period (n : Nat) : pw (n + 255) = pw n := by rw [← pw_add, pw_255, prod_one _ (pw_lt n)]
theorem pw_periods (n : Nat) : ∀ k, pw (n + 255 * k) = pw n
  | 0 => rfl
  | k + 1 => by rw [Nat.mul_succ, ← Nat.add_assoc, pw_period, pw_periods n k]
theorem pw_mod (n : Nat) : pw (n % 255) = pw n := by
  have := pw_periods (n % 255) (n / 255)
  rw [Nat.mod_add_div] at this
  exact this.symm
theorem pw_pos (n : Nat) : pw n ≠ 0 := by
  rw [← pw_mod]
  have h : (List.range 255).all (fun n => decide (pw n ≠ 0)) = true := by decide +kernel
  simpa using List.all_eq_true.1 h (n % 255) (List.mem_range.2 (Nat.mod_lt _ (by decide)))
theorem prod_lg (a b : Nat) (ha : a < 256) (hb : b < 256) (h0 : a ≠ 0) (h1 : b ≠ 0) : prod a b = pw (lg a + lg b) := by
  rw [← pw_add, pw_lg a ha h0, pw_lg b hb h1]
theorem prod_nought (a b : Nat) (ha : a < 256) (hb : b < 256) : prod a b = 0 ↔ a = 0 ∨ b = 0 := by
  constructor
  · intro h
    by_cases h0 : a = 0
    · exact .inl h0
    · by_cases h1 : b = 0
      · exact .inr h1
      · rw [prod_lg a b ha hb h0 h1] at h
        exact absurd h (pw_pos _)
  · rintro (rfl | rfl)
    · exact zero_prod b hb
    · exact prod_zero a
/-- The generator's power of any whole number. -/
def ex (n : Int) : Nat := pw (n % 255).toNat
theorem ex_lt (n : Int) : ex n < 256 := pw_lt _
theorem ex_nat (n : Nat) : ex (n : Int) = pw n := by
  unfold ex
  rw [show ((n : Int) % 255).toNat = n % 255 by omega, pw_mod]
theorem ex_mod (n : Int) : ex (n % 255) = ex n := by unfold ex; rw [Int.emod_emod_of_dvd n (Int.dvd_refl 255)]
theorem ex_add (m n : Int) : prod (ex m) (ex n) = ex (m + n) := by
  unfold ex
  rw [pw_add, ← pw_mod]
  congr 1
  omega
theorem ex_more (n : Int) : ex (n + 255) = ex n := by
  unfold ex
  congr 1
  omega
theorem ex_zero : ex 0 = 1 := rfl
theorem ex_lg (a : Nat) (ha : a < 256) (h0 : a ≠ 0) : ex (lg a : Int) = a := by rw [ex_nat, pw_lg a ha h0]
/-- The element whose product with a is 1; 0 of 0. -/
def inv (a : Nat) : Nat := if a = 0 then 0 else ex (-(lg a : Int))
theorem inv_lt (a : Nat) : inv a < 256 := by unfold inv; split; decide; exact ex_lt _
theorem prod_inv (a : Nat) (ha : a < 256) (h0 : a ≠ 0) : prod a (inv a) = 1 := by
  rw [inv, if_neg h0]
  have := ex_add (lg a : Int) (-(lg a : Int))
  rw [ex_lg a ha h0, Int.add_right_neg, ex_zero] at this
  exact this
theorem inv_unique (a b : Nat) (ha : a < 256) (hb : b < 256) (h0 : a ≠ 0) (h : prod a b = 1) : b = inv a := by
  have h1 := prod_assoc (inv a) a b (inv_lt a) ha hb
  rw [h, prod_comm (inv a) a (inv_lt a) ha, prod_inv a ha h0, one_prod b hb, prod_one _ (inv_lt a)] at h1
  exact h1.symm
theorem prod_div (a b : Nat) (ha : a < 256) (hb : b < 256) (h0 : a ≠ 0) : prod (prod b (inv a)) a = b := by
  rw [← prod_assoc b (inv a) a hb (inv_lt a) ha, prod_comm (inv a) a (inv_lt a) ha, prod_inv a ha h0, prod_one b hb]
/-- A power of an element, of a number that is not below 0. -/
def powA (a : Nat) : Nat → Nat
  | 0 => 1
  | n + 1 => prod (powA a n) a
theorem powA_lt (a : Nat) : ∀ n, powA a n < 256
  | 0 => by show 1 < 256; decide
  | n + 1 => prod_lt _ (powA_lt a n)
theorem powA_lg (a : Nat) (ha : a < 256) (h0 : a ≠ 0) : ∀ n, powA a n = pw (lg a * n)
  | 0 => rfl
  | n + 1 => by
    rw [powA, powA_lg a ha h0 n]
    have h := pw_add (lg a * n) (lg a)
    rw [pw_lg a ha h0] at h
    rw [h, Nat.mul_succ]
/-- The document's inverse: k squares. -/
def rinvF : Nat → Nat → Nat → Nat
  | 0, _, p => p
  | k + 1, a, p => rinvF k (prod a a) (prod p (prod a a))
theorem rinv_inv (a : Nat) (ha : a < 256) : rinvF 7 a 1 = inv a := by
  by_cases h0 : a = 0
  · subst h0; decide +kernel
  · refine inv_unique a _ ha ?_ h0 ?_
    · have h : (List.range 256).all (fun a => decide (rinvF 7 a 1 < 256)) = true := by decide +kernel
      simpa using byte_all h a ha
    · have h : (List.range 256).all (fun a => a == 0 || prod a (rinvF 7 a 1) == 1) = true := by decide +kernel
      have := byte_all h a ha
      simp only [Bool.or_eq_true, beq_iff_eq] at this
      rcases this with h | h
      · exact absurd h h0
      · exact h
end Go.Proofs.Ytadpehidefbmhaa
