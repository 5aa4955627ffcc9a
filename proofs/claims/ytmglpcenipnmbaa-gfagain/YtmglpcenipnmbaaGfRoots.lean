/- A polynomial that is nought at as many places as it has coefficients is nought. -/
import Derived.Test.YtmglpcenipnmbaaGfPoly
set_option linter.unusedSimpArgs false
set_option linter.unusedVariables false
namespace Go.Proofs.Ytmglpcenipnmbaa
open Go Go.RowKit

/-- f k + f (k + 1) x + .. : m coefficients from the k-th on. -/
def hor (f : Nat → Nat) (x : Nat) : Nat → Nat → Nat
  | _, 0 => 0
  | k, m + 1 => f k ^^^ prod x (hor f x (k + 1) m)
theorem hor_lt {f : Nat → Nat} (hf : ∀ i, f i < 256) {x : Nat} (hx : x < 256) : ∀ m k, hor f x k m < 256
  | 0, _ => by show 0 < 256; decide
  | m + 1, k => xor8 (hf k) (prod_lt _ hx)
theorem evS_prod {f : Nat → Nat} (hf : ∀ i, f i < 256) {c : Nat} (hc : c < 256) (y : Nat) : ∀ n, evS (fun k => prod c (f k)) y n = prod c (evS f y n)
  | 0 => by rw [evS, evS, prod_zero]
  | n + 1 => by rw [evS, evS, evS_prod hf hc y n, prod_right, prod_assoc c _ _ hc (hf n) (powA_lt y n)]
/-- One place further up. -/
def upF (g : Nat → Nat) (k : Nat) : Nat := if k = 0 then 0 else g (k - 1)
theorem evS_up {g : Nat → Nat} (hg : ∀ i, g i < 256) {y : Nat} (hy : y < 256) : ∀ n, evS (upF g) y (n + 1) = prod y (evS g y n)
  | 0 => by rw [evS, evS, evS, prod_zero, upF, if_pos rfl, zero_prod _ (powA_lt y 0)]; rfl
  | n + 1 => by
    rw [evS, evS_up hg hy n, evS, prod_right, upF, if_neg (by omega), Nat.add_sub_cancel, powA, prod_comm (powA y n) y (powA_lt y n) hy, prod_assoc (g n) y _ (hg n) hy (powA_lt y n), prod_comm (g n) y (hg n) hy, ← prod_assoc y (g n) _ hy (hg n) (powA_lt y n)]
theorem evS_const (c y : Nat) (hc : c < 256) : ∀ n, evS (fun k => if k = 0 then c else 0) y (n + 1) = c
  | 0 => by rw [evS, evS, if_pos rfl, Nat.zero_xor, powA, prod_one c hc]
  | n + 1 => by rw [evS, evS_const c y hc n, if_neg (by omega), zero_prod _ (powA_lt y _), Nat.xor_zero]
/-- A polynomial over (z + x): quotient and rest, as values. -/
theorem evS_div {f : Nat → Nat} (hf : ∀ i, f i < 256) {x y : Nat} (hx : x < 256) (hy : y < 256) (n : Nat) : evS f y (n + 1) = hor f x 0 (n + 1) ^^^ prod (y ^^^ x) (evS (fun k => hor f x (k + 1) (n - k)) y n) := by
  obtain ⟨g, hg⟩ : ∃ g : Nat → Nat, g = fun k => hor f x (k + 1) (n - k) := ⟨_, rfl⟩
  rw [← hg]
  have lg : ∀ i, g i < 256 := fun i => by rw [hg]; exact hor_lt hf hx _ _
  have lc := hor_lt hf hx (n + 1) 0
  have gn : g n = 0 := by rw [hg]; show hor f x (n + 1) (n - n) = 0; rw [Nat.sub_self]; rfl
  have lu : ∀ i, upF g i < 256 := fun i => by unfold upF; split; decide; exact lg _
  have e : evS f y (n + 1) = evS (fun k => (if k = 0 then hor f x 0 (n + 1) else 0) ^^^ (upF g k ^^^ prod x (g k))) y (n + 1) := by
    refine evS_congr y _ fun k hk => ?_
    cases k with
    | zero =>
      show f 0 = _
      rw [if_pos rfl, upF, if_pos rfl, Nat.zero_xor, hg]
      show f 0 = hor f x 0 (n + 1) ^^^ prod x (hor f x (0 + 1) (n - 0))
      rw [hor, Nat.sub_zero, Nat.xor_assoc, Nat.xor_self, Nat.xor_zero]
    | succ k =>
      rw [if_neg (by omega), Nat.zero_xor, upF, if_neg (by omega), Nat.add_sub_cancel, hg]
      show f (k + 1) = hor f x (k + 1) (n - k) ^^^ prod x (hor f x (k + 1 + 1) (n - (k + 1)))
      rw [show n - k = (n - (k + 1)) + 1 by omega, hor, Nat.xor_assoc, Nat.xor_self, Nat.xor_zero]
  rw [e, evS_xor (fun i => by show (if i = 0 then _ else 0) < 256; split; exact lc; decide) (fun i => xor8 (lu i) (prod_lt _ hx)), evS_const _ _ lc, evS_xor lu (fun i => prod_lt _ hx), evS_up lg hy, evS_prod lg hx, prod_left _ _ _ hy hx]
  congr 2
  rw [evS, gn, zero_prod _ (powA_lt y n), Nat.xor_zero]
theorem hor_evS {f : Nat → Nat} (hf : ∀ i, f i < 256) {x : Nat} (hx : x < 256) (n : Nat) : hor f x 0 (n + 1) = evS f x (n + 1) := by
  rw [evS_div hf hx hx n, Nat.xor_self, zero_prod _ (evS_lt (fun i => hor_lt hf hx _ _) x n), Nat.xor_zero]
theorem evS_roots : ∀ (n : Nat) (f : Nat → Nat) (xs : List Nat), (∀ i, f i < 256) → xs.length = n → xs.Nodup → (∀ x ∈ xs, x < 256) → (∀ x ∈ xs, evS f x n = 0) → ∀ k, k < n → f k = 0
  | 0, _, _, _, _, _, _, _, k, hk => absurd hk (by omega)
  | n + 1, f, [], _, h, _, _, _, _, _ => by cases h
  | n + 1, f, x :: xs, hf, hl, hd, hb, hr, k, hk => by
    have hx := hb x (by simp)
    have h0 : hor f x 0 (n + 1) = 0 := by rw [hor_evS hf hx n]; exact hr x (by simp)
    have lg : ∀ i, hor f x (i + 1) (n - i) < 256 := fun i => hor_lt hf hx _ _
    have ih := evS_roots n (fun k => hor f x (k + 1) (n - k)) xs lg (by simpa using hl) (List.nodup_cons.1 hd).2 (fun y hy => hb y (by simp [hy])) (fun y hy => by
      have := evS_div hf hx (hb y (by simp [hy])) n
      rw [hr y (by simp [hy]), h0, Nat.zero_xor] at this
      rcases (prod_nought _ _ (xor8 (hb y (by simp [hy])) hx) (evS_lt lg y n)).1 this.symm with q | q
      · have : y = x := by
          have e2 := congrArg (fun z => z ^^^ x) q
          simpa [Nat.xor_assoc] using e2
        subst this
        exact absurd hy (List.nodup_cons.1 hd).1
      · exact q)
    have hz : ∀ m, m ≤ n → hor f x (n - m + 1) m = 0 := fun m hm => by
      cases m with
      | zero => rfl
      | succ m =>
        have := ih (n - (m + 1)) (by omega)
        rwa [show n - (n - (m + 1)) = m + 1 by omega] at this
    cases k with
    | zero =>
      rw [hor, show hor f x (0 + 1) n = 0 by have := hz n (Nat.le_refl _); rwa [Nat.sub_self] at this, prod_zero, Nat.xor_zero] at h0
      exact h0
    | succ k =>
      have a := hz (n - k) (by omega)
      rw [show n - (n - k) = k by omega, show n - k = (n - (k + 1)) + 1 by omega, hor] at a
      have b := hz (n - (k + 1)) (by omega)
      rw [show n - (n - (k + 1)) = k + 1 by omega] at b
      rwa [b, prod_zero, Nat.xor_zero] at a
/-- Two polynomials that agree at as many places as they have coefficients are one. -/
theorem evS_unique {n : Nat} {f g : Nat → Nat} {xs : List Nat} (hf : ∀ i, f i < 256) (hg : ∀ i, g i < 256) (hl : xs.length = n) (hd : xs.Nodup) (hb : ∀ x ∈ xs, x < 256) (h : ∀ x ∈ xs, evS f x n = evS g x n) : ∀ k, k < n → f k = g k := fun k hk => by
  have := evS_roots n (fun i => f i ^^^ g i) xs (fun i => xor8 (hf i) (hg i)) hl hd hb (fun x hx => by rw [evS_xor hf hg, h x hx, Nat.xor_self]) k hk
  have e2 := congrArg (fun z => z ^^^ g k) this
  simpa [Nat.xor_assoc] using e2
end Go.Proofs.Ytmglpcenipnmbaa
