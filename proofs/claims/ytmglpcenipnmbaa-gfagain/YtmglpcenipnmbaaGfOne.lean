/- A quotient and a rest are but one. -/
import Derived.Test.YtmglpcenipnmbaaGfRefOver
set_option linter.unusedSimpArgs false
set_option linter.unusedVariables false
namespace Go.Proofs.Ytmglpcenipnmbaa
open Go Go.RowKit

theorem sh_xor (P : List Int) (a b s i : Nat) : sh P (a ^^^ b) s i = sh P a s i ^^^ sh P b s i := by
  unfold sh
  split
  · exact prod_right _ _ _
  · rfl
theorem cvF_xor (f g : Nat → Nat) (P : List Int) : ∀ n i, cvF (fun k => f k ^^^ g k) P n i = cvF f P n i ^^^ cvF g P n i
  | 0, _ => by rw [cvF, cvF, cvF]; rfl
  | n + 1, i => by
    rw [cvF, cvF, cvF, cvF_xor f g P n i, sh_xor]
    simp only [Nat.xor_assoc]
    congr 1
    rw [xlc]
theorem cvF_less (f : Nat → Nat) (P : List Int) (m i : Nat) : ∀ n, m ≤ n → (∀ k, m ≤ k → f k = 0) → cvF f P n i = cvF f P m i
  | 0, h, _ => by rw [show m = 0 by omega]
  | n + 1, h, h0 => by
    by_cases e : m = n + 1
    · rw [e]
    · rw [cvF, cvF_less f P m i n (by omega) h0, h0 n (by omega), sh_zero, Nat.xor_zero]
theorem cvF_top (f : Nat → Nat) (hf : ∀ i, f i < 256) (P : List Int) (hm : P.length ≠ 0) (m n : Nat) (h : m < n) (h0 : ∀ k, m + 1 ≤ k → f k = 0) : cvF f P n (m + (P.length - 1)) = prod (gN P (P.length - 1)) (f m) := by
  rw [cvF_less f P (m + 1) _ n h h0, cvF, cvF_far f hf P m _ (by omega), Nat.zero_xor, sh, if_pos (by omega)]
  congr 2
  omega
theorem over_one {A P : List Int} (hP : ∀ k, gN P k < 256) (hm : P.length ≠ 0) (hl : gN P (P.length - 1) ≠ 0) {fq fr gq gr : Nat → Nat} (hfq : ∀ i, fq i < 256) (hgq : ∀ i, gq i < 256)
    (h1 : ∀ i, gN A i = fr i ^^^ cvF fq P A.length i) (h2 : ∀ i, P.length - 1 ≤ i → fr i = 0) (h3 : ∀ k, A.length < k + P.length → fq k = 0)
    (k1 : ∀ i, gN A i = gr i ^^^ cvF gq P A.length i) (k2 : ∀ i, P.length - 1 ≤ i → gr i = 0) (k3 : ∀ k, A.length < k + P.length → gq k = 0) : fq = gq ∧ fr = gr := by
  have hd : ∀ i, fq i ^^^ gq i < 256 := fun i => xor8 (hfq i) (hgq i)
  have hz : ∀ i, P.length - 1 ≤ i → cvF (fun k => fq k ^^^ gq k) P A.length i = 0 := fun i hi => by
    have a := h1 i
    have b := k1 i
    rw [h2 i hi, Nat.zero_xor] at a
    rw [k2 i hi, Nat.zero_xor] at b
    rw [cvF_xor, ← a, ← b, Nat.xor_self]
  have key : ∀ j, ∀ k, A.length - j ≤ k → fq k ^^^ gq k = 0 := by
    intro j
    induction j with
    | zero => intro k hk; rw [h3 k (by omega), k3 k (by omega)]; rfl
    | succ j ih =>
      intro k hk
      by_cases e : A.length - j ≤ k
      · exact ih k e
      · have t := cvF_top (fun k => fq k ^^^ gq k) hd P hm k A.length (by omega) (fun l hlk => ih l (by omega))
        rw [hz _ (by omega)] at t
        rcases (prod_nought _ _ (hP _) (hd k)).1 t.symm with q | q
        · exact absurd q hl
        · exact q
  have eq : fq = gq := funext fun k => by
    have := key A.length k (by omega)
    have e2 := congrArg (fun y => y ^^^ gq k) this
    simpa [Nat.xor_assoc] using e2
  refine ⟨eq, funext fun i => ?_⟩
  have a := h1 i
  rw [k1 i, eq] at a
  have e2 := congrArg (fun y => y ^^^ cvF gq P A.length i) a
  simpa [Nat.xor_assoc] using e2.symm
end Go.Proofs.Ytmglpcenipnmbaa
