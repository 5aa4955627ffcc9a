/- What CutWhole says, of lists and numbers alone. -/
import Derived.Test.YtdmdcnikhnoclabCutJn
set_option linter.unusedVariables false
set_option linter.unusedSimpArgs false
namespace Go.Proofs.Ytdmdcnikhnoclab
open Go Go.RowKit

theorem pcP_take (l : List Int) (s j : Nat) : l.take (j * s) ++ pcP l s j = l.take ((j + 1) * s) := by
  unfold pcP pcAt
  rw [Nat.add_mul, Nat.one_mul]
  by_cases h : j * s ≤ l.length
  · have e1 : (l.take (j * s + min s (l.length - j * s))).take (j * s) = l.take (j * s) := by rw [List.take_take, Nat.min_eq_left (by omega)]
    have e2 := List.take_append_drop (j * s) (l.take (j * s + min s (l.length - j * s)))
    rw [e1] at e2
    rw [e2]
    by_cases h2 : s ≤ l.length - j * s
    · rw [Nat.min_eq_left h2]
    · rw [Nat.min_eq_right (by omega), List.take_of_length_le (show l.length ≤ j * s + (l.length - j * s) by omega), List.take_of_length_le (show l.length ≤ j * s + s by omega)]
  · rw [show l.length - j * s = 0 by omega, Nat.min_zero, Nat.add_zero, List.take_of_length_le (show l.length ≤ j * s by omega), List.drop_of_length_le (show l.length ≤ j * s by omega), List.take_of_length_le (show l.length ≤ j * s + s by omega)]
    simp
theorem blL_flat (l : List Int) (k : Nat) : ∀ i, (blL l k i).flatten = (padL l (k * blU l k)).take (i * blU l k)
  | 0 => by simp [blL]
  | i + 1 => by rw [blL_succ, List.flatten_append, blL_flat l k i]; simp only [List.flatten_cons, List.flatten_nil, List.append_nil]; exact pcP_take _ _ _
theorem blL_join {l : List Int} {k : Nat} (hk : 1 ≤ k) (hl : 1 ≤ l.length) : (blL l k k).flatten.take l.length = l := by
  have h := blU_ge hk hl
  have e : (padL l (k * blU l k)).take (k * blU l k) = padL l (k * blU l k) := List.take_of_length_le (by rw [padL_length h]; exact Nat.le_refl _)
  rw [blL_flat, e]
  simp [padL]
theorem blL_get {l : List Int} {k j : Nat} (hj : j < k) : (blL l k k).getD j [] = pcP (padL l (k * blU l k)) (blU l k) j := by
  simp [blL, List.getD, hj]
theorem blL_len {l : List Int} {k : Nat} (hk : 1 ≤ k) (hl : 1 ≤ l.length) {j : Nat} (hj : j < k) : ((blL l k k).getD j []).length = blU l k := by
  rw [blL_get hj, pcP_length, padL_length (blU_ge hk hl)]
  unfold pcAt
  have h1 : (j + 1) * blU l k ≤ k * blU l k := Nat.mul_le_mul_right _ hj
  rw [Nat.add_mul] at h1
  omega
theorem blL_byt {l : List Int} {k : Nat} (h : ∀ x ∈ l, 0 ≤ x ∧ x < 256) {j : Nat} (hj : j < k) : BytI ((blL l k k).getD j []) := by
  rw [blL_get hj]
  exact pcP_byt (padL_byt h) _ _
/-- Of a shape and its bytes: how many segments, each one's size and its blocks' size. -/
theorem seg_facts {k n c z : Int} {l : List Int} {s kk : Nat} (hok : OkS k n c z) (hc : c = (s : Int)) (hk : k = (kk : Int)) (hz : (l.length : Int) = z) :
    1 ≤ s ∧ s ≤ 65790 ∧ 1 ≤ kk ∧ kk ≤ 255 ∧ 33 ≤ l.length ∧ l.length ≤ 16777216 ∧ upI z c = (pcN l.length s : Nat) ∧ pcN l.length s ≤ 512 ∧
      ∀ j : Nat, j < pcN l.length s → 1 ≤ (pcP l s j).length ∧ ((pcP l s j).length : Int) ≤ (kk : Int) * upI 65536 kk ∧ szV true (upI z c) j c (tlI z c) = ((pcP l s j).length : Nat) ∧ szE true (upI z c) j = 0 ∧ szV true (upI z c) j (c / k) (upI (tlI z c) k) = (blU (pcP l s j) kk : Nat) := by
  obtain ⟨h1, h2, h3, h4, h5, h6, h7, h8, h9⟩ := hok
  have ml := most_lt h1 (show k ≤ 255 by omega)
  have hs1 : 1 ≤ s := by omega
  have hl1 : 1 ≤ l.length := by omega
  have hN : upI z c = ((pcN l.length s : Nat) : Int) := by rw [← hz, hc]; exact pcN_up hl1
  refine ⟨hs1, by omega, by omega, by omega, by omega, by omega, hN, by omega, fun j hj => ?_⟩
  have hat := (pcN_iff hs1 hl1).1 hj
  have hm := pcP_length l s j
  have us := up_split z c
  have tp := tlI_pos (x := z) h4
  have tl := tlI_le (x := z) h4
  have hjj : 0 ≤ (j : Int) ∧ (j : Int) < upI z c := by rw [hN]; omega
  have hjs : ((pcAt s j : Nat) : Int) = (j : Int) * c := by rw [hc]; unfold pcAt; simp
  have sz0 : ∀ x y : Int, szV true (upI z c) j x y = if (j : Int) = upI z c - 1 then y else x := fun x y => by unfold szV; rw [if_pos rfl, if_pos hjj]
  have se0 : szE true (upI z c) j = 0 := by unfold szE; rw [if_pos rfl, if_pos hjj]
  have hm1 : 1 ≤ (pcP l s j).length := by rw [hm]; omega
  have hup : ((blU (pcP l s j) kk : Nat) : Int) = upI ((pcP l s j).length : Int) k := by rw [hk]; exact (pcN_up hm1).symm
  by_cases hl : (j : Int) = upI z c - 1
  · have hlen : ((pcP l s j).length : Int) = tlI z c := by
      rw [← hl] at us
      rw [hm]
      omega
    refine ⟨hm1, by rw [hlen, ← hk]; omega, by rw [sz0, if_pos hl, hlen], se0, ?_⟩
    rw [sz0, if_pos hl, hup, hlen]
  · have hle : ((j : Int) + 1) * c ≤ (upI z c - 1) * c := Int.mul_le_mul_of_nonneg_right (by omega) (by omega)
    rw [Int.add_mul] at hle
    have hlen : ((pcP l s j).length : Int) = c := by rw [hm]; omega
    refine ⟨hm1, by rw [hlen, ← hk]; omega, by rw [sz0, if_neg hl, hlen], se0, ?_⟩
    rw [sz0, if_neg hl, hup, hlen]
    have e := up_mult h1 h6
    rw [← e] at *
    rw [Int.mul_ediv_cancel_left _ (by omega)]
    have e2 : k * upI (k * upI c k) k = k * upI c k := up_mult h1 (Int.mul_emod_right _ _)
    have := Int.eq_of_mul_eq_mul_left (show k ≠ 0 by omega) e2
    exact this.symm
end Go.Proofs.Ytdmdcnikhnoclab
