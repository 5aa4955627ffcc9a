/- Values of sums, products and quotients of polynomials. -/
import Derived.Test.YtmglpcenipnmbaaGfOver
import Derived.Test.YtmglpcenipnmbaaGfEval
set_option linter.unusedSimpArgs false
set_option linter.unusedVariables false
namespace Go.Proofs.Ytmglpcenipnmbaa
open Go Go.RowKit

/-- The value of the first n coefficients. -/
def evS (f : Nat → Nat) (x : Nat) : Nat → Nat
  | 0 => 0
  | n + 1 => evS f x n ^^^ prod (f n) (powA x n)
theorem evTo_evS (l : List Int) (x : Nat) : ∀ n, evTo l x n = evS (gN l) x n
  | 0 => rfl
  | n + 1 => by rw [evTo, evS, evTo_evS l x n]
theorem evS_lt {f : Nat → Nat} (hf : ∀ i, f i < 256) (x : Nat) : ∀ n, evS f x n < 256
  | 0 => by show 0 < 256; decide
  | n + 1 => xor8 (evS_lt hf x n) (prod_lt _ (hf n))
theorem evS_congr {f g : Nat → Nat} (x : Nat) : ∀ n, (∀ k, k < n → f k = g k) → evS f x n = evS g x n
  | 0, _ => rfl
  | n + 1, h => by rw [evS, evS, evS_congr x n fun k hk => h k (by omega), h n (by omega)]
theorem evS_xor {f g : Nat → Nat} (hf : ∀ i, f i < 256) (hg : ∀ i, g i < 256) (x : Nat) : ∀ n, evS (fun i => f i ^^^ g i) x n = evS f x n ^^^ evS g x n
  | 0 => by simp only [evS, Nat.xor_self]
  | n + 1 => by
    rw [evS, evS, evS, evS_xor hf hg x n, prod_left _ _ _ (hf n) (hg n)]
    simp only [Nat.xor_assoc, Nat.xor_comm, xlc]
theorem evS_more {f : Nat → Nat} (x n : Nat) : ∀ k, (∀ i, n ≤ i → f i = 0) → evS f x (n + k) = evS f x n
  | 0, _ => rfl
  | k + 1, h => by rw [← Nat.add_assoc, evS, evS_more x n k h, h (n + k) (by omega), zero_prod _ (powA_lt x _), Nat.xor_zero]
theorem powA_add (x : Nat) (hx : x < 256) (s : Nat) : ∀ k, powA x (s + k) = prod (powA x s) (powA x k)
  | 0 => (prod_one _ (powA_lt x s)).symm
  | k + 1 => by rw [← Nat.add_assoc, powA, powA, powA_add x hx s k, prod_assoc _ _ _ (powA_lt x s) (powA_lt x k) hx]
theorem evS_sh {P : List Int} (hP : ∀ k, gN P k < 256) (c s x : Nat) (hc : c < 256) (hx : x < 256) : ∀ k, evS (sh P c s) x (s + k) = prod (prod c (powA x s)) (evS (gN P) x k)
  | 0 => by
    have : ∀ n, n ≤ s → evS (sh P c s) x n = 0 := by
      intro n
      induction n with
      | zero => intro _; rfl
      | succ n ih => intro h; rw [evS, ih (by omega), sh, if_neg (by omega), zero_prod _ (powA_lt x n), Nat.xor_zero]
    rw [Nat.add_zero, this s (Nat.le_refl _), evS, prod_zero]
  | k + 1 => by
    rw [← Nat.add_assoc, evS, evS_sh hP c s x hc hx k, evS, prod_right, sh, if_pos (by omega), Nat.add_sub_cancel_left, powA_add x hx s k]
    congr 1
    have lp := hP k
    have ls := powA_lt x s
    have lk := powA_lt x k
    rw [prod_comm (gN P k) c lp hc, prod_assoc (prod c (gN P k)) _ _ (prod_lt _ hc) ls lk, ← prod_assoc c (gN P k) _ hc lp ls, prod_comm (gN P k) (powA x s) lp ls, prod_assoc c _ _ hc ls lp, ← prod_assoc (prod c (powA x s)) _ _ (prod_lt _ hc) lp lk]
theorem evS_cvF {f : Nat → Nat} (hf : ∀ i, f i < 256) {P : List Int} (hP : ∀ k, gN P k < 256) (x : Nat) (hx : x < 256) : ∀ (n N : Nat), n + P.length ≤ N → evS (cvF f P n) x N = prod (evS f x n) (evS (gN P) x P.length)
  | 0, N, _ => by
    have : ∀ N, evS (cvF f P 0) x N = 0 := by
      intro N
      induction N with
      | zero => rfl
      | succ N ih => rw [evS, ih, cvF, zero_prod _ (powA_lt x N), Nat.xor_zero]
    rw [this N, evS, zero_prod _ (evS_lt hP x _)]
  | n + 1, N, h => by
    rw [evS_congr x N (f := cvF f P (n + 1)) (g := fun i => cvF f P n i ^^^ sh P (f n) n i) fun k _ => rfl, evS_xor (fun i => cvF_lt hP n i) (fun i => sh_lt hP _ _ i), evS_cvF hf hP x hx n N (by omega), evS, prod_left _ _ _ (evS_lt hf x n) (prod_lt _ (hf n))]
    congr 1
    rw [show N = n + P.length + (N - (n + P.length)) by omega, evS_more x (n + P.length) _ fun i hi => by rw [sh, if_pos (by omega), gN_out P _ (by omega), zero_prod _ (hf n)]]
    exact evS_sh hP (f n) n x (hf n) hx P.length
theorem cv_cvF (A P : List Int) (i : Nat) : ∀ j, j ≤ A.length → cv A P j i ^^^ cvF (gN A) P (A.length - j) i = cvF (gN A) P A.length i
  | 0, _ => by rw [cv, Nat.zero_xor, Nat.sub_zero]
  | j + 1, h => by
    rw [← cv_cvF A P i j (by omega), cv, show A.length - j = (A.length - (j + 1)) + 1 by omega, cvF, Nat.xor_assoc, Nat.xor_comm (sh P _ _ i)]
theorem cv_all (A P : List Int) (i : Nat) : cv A P A.length i = cvF (gN A) P A.length i := by
  have := cv_cvF A P i A.length (Nat.le_refl _)
  rwa [Nat.sub_self, cvF, Nat.xor_zero] at this
theorem cutN_stop (l : List Int) : ∀ k i, cutN l k ≤ i → i < k → gN l i = 0
  | 0, _, _, h => absurd h (by omega)
  | k + 1, i, h1, h2 => by
    unfold cutN at h1
    split at h1
    · rename_i h0
      by_cases e : i = k
      · rw [e]; exact h0
      · exact cutN_stop l k i h1 (by omega)
    · omega
theorem gN_cut (l : List Int) (k : Nat) : gN (cutL l) k = gN l k := by
  by_cases h : k < cutN l l.length
  · unfold cutL gN
    simp only [List.getD, List.getElem?_take, if_pos h]
  · rw [gN_out (cutL l) k (by rw [cutL_length]; omega)]
    by_cases h2 : k < l.length
    · exact (cutN_stop l l.length k (by omega) h2).symm
    · exact (gN_out l k (by omega)).symm
theorem gN_lt {l : List Int} (hl : ∀ c ∈ l, 0 ≤ c ∧ c < 256) (k : Nat) : gN l k < 256 := by
  unfold gN
  by_cases hk : k < l.length
  · have := hl l[k] (List.getElem_mem hk)
    simp only [List.getD, List.getElem?_eq_getElem hk, Option.getD_some]
    omega
  · simp [List.getD, List.getElem?_eq_none (by omega : l.length ≤ k)]
theorem cutL_byt {l : List Int} (hl : ∀ c ∈ l, 0 ≤ c ∧ c < 256) : ∀ c ∈ cutL l, 0 ≤ c ∧ c < 256 := fun c hc => hl c (List.mem_of_mem_take hc)
theorem horn_evS (l : List Int) (x : Nat) (hx : x < 256) (hl : ∀ c ∈ l, 0 ≤ c ∧ c < 256) : horn x l = evS (gN l) x l.length := by rw [← ev_horn l x hx hl, evTo_evS]
theorem horn_cut (l : List Int) (x : Nat) (hx : x < 256) (hl : ∀ c ∈ l, 0 ≤ c ∧ c < 256) : horn x (cutL l) = horn x l := by
  rw [horn_evS _ x hx (cutL_byt hl), horn_evS l x hx hl, evS_congr x _ (g := gN l) fun k _ => gN_cut l k, cutL_length]
  have hle := cutN_le l l.length
  have := evS_more (f := gN l) x (cutN l l.length) (l.length - cutN l l.length) (fun i hi => by
    by_cases h2 : i < l.length
    · exact cutN_stop l l.length i hi h2
    · exact gN_out l i (by omega))
  rw [show cutN l l.length + (l.length - cutN l l.length) = l.length by omega] at this
  exact this.symm
theorem horn_tab (n : Nat) {f : Nat → Nat} (hf : ∀ i, f i < 256) (x : Nat) (hx : x < 256) : horn x (tabL n f) = evS f x n := by
  rw [horn_evS _ x hx (tabL_byt n hf), tabL_length]
  exact evS_congr x n fun k hk => gN_tabL n f k hk
theorem horn_times (A P : List Int) (x : Nat) (hx : x < 256) (hA : ∀ c ∈ A, 0 ≤ c ∧ c < 256) (hP : ∀ c ∈ P, 0 ≤ c ∧ c < 256) : horn x (timesL A P) = prod (horn x A) (horn x P) := by
  have lP := gN_lt hP
  unfold timesL
  rw [horn_cut _ x hx (tabL_byt _ fun i => cv_lt lP _ i), horn_tab _ (fun i => cv_lt lP _ i) x hx, evS_congr x _ fun k _ => cv_all A P k, evS_cvF (gN_lt hA) lP x hx A.length _ (Nat.le_refl _), horn_evS A x hx hA, horn_evS P x hx hP]
theorem cutN_small (l : List Int) (t : Nat) (h : ∀ i, t ≤ i → gN l i = 0) : ∀ k, cutN l k ≤ t
  | 0 => Nat.zero_le _
  | k + 1 => by
    unfold cutN
    split
    · exact cutN_small l t h k
    · rename_i h0
      refine Decidable.byContradiction fun hn => h0 (h k (by omega))
/-- What a quotient and a rest say of the values. -/
theorem horn_over (A P : List Int) (x : Nat) (hx : x < 256) (hA : ∀ c ∈ A, 0 ≤ c ∧ c < 256) (hP : ∀ c ∈ P, 0 ≤ c ∧ c < 256) (hm : P.length ≠ 0) {fq fr : Nat → Nat} (hfq : ∀ i, fq i < 256) (hfr : ∀ i, fr i < 256)
    (h1 : ∀ i, gN A i = fr i ^^^ cvF fq P A.length i) (h2 : ∀ i, P.length - 1 ≤ i → fr i = 0) (h3 : ∀ k, A.length < k + P.length → fq k = 0) :
    horn x A = prod (horn x (cutL (tabL A.length fq))) (horn x P) ^^^ horn x (cutL (tabL A.length fr)) ∧ (cutL (tabL A.length fr)).length < P.length := by
  have lP := gN_lt hP
  have hz : ∀ i, A.length ≤ i → fr i = 0 := fun i hi => by
    by_cases ht : P.length - 1 ≤ i
    · exact h2 i ht
    · have := h1 i
      rw [gN_out A i hi, cvF_congr P A.length i (g := fun _ => 0) fun k _ => h3 k (by omega), cvF_none, Nat.xor_zero] at this
      exact this.symm
  constructor
  · rw [horn_cut _ x hx (tabL_byt _ hfq), horn_cut _ x hx (tabL_byt _ hfr), horn_tab _ hfq x hx, horn_tab _ hfr x hx, horn_evS A x hx hA, horn_evS P x hx hP, ← evS_cvF hfq lP x hx A.length (A.length + P.length) (Nat.le_refl _), ← evS_more (f := gN A) x A.length P.length (fun i hi => gN_out A i hi), ← evS_more (f := fr) x A.length P.length hz, Nat.xor_comm, ← evS_xor hfr (fun i => cvF_lt lP _ i)]
    exact evS_congr x _ fun k _ => h1 k
  · rw [cutL_length]
    have := cutN_small (tabL A.length fr) (P.length - 1) (fun i hi => by
      by_cases h : i < A.length
      · rw [gN_tabL _ _ _ h]; exact h2 i hi
      · exact gN_out _ i (by rw [tabL_length]; omega)) (tabL A.length fr).length
    omega
end Go.Proofs.Ytmglpcenipnmbaa
