/- Where two trees differ: what follows of a root that is the same. -/
import Derived.Test.YtnafbchemcggpaaDoorTrDiff
import Derived.Test.YtnafbchemcggpaaDoorTrInj
set_option linter.unusedVariables false
namespace Go.Proofs.YtnafbchemcggpaaDoor

theorem pow_pos {W : Nat} (h : Pow W) : 1 ≤ W ∧ W ≤ 512 := by rcases h with rfl | rfl | rfl | rfl | rfl | rfl | rfl | rfl | rfl | rfl <;> omega
/-- One root and no node where they part: all nodes are the same. -/
theorem all_same {N M : List (List Int)} {W : Nat} (h0 : N.getD 0 [] = M.getD 0 []) (hno : ∀ y, 1 ≤ y → y < W → ¬ DfAt N M y) : ∀ x, 1 ≤ x → x < 2 * W → N.getD (x - 1) [] = M.getD (x - 1) [] := by
  intro x
  induction x using Nat.strongRecOn with
  | ind x ih =>
    intro h1 h2
    by_cases hx : x = 1
    · subst hx; exact h0
    · have hp := ih (x / 2) (by omega) (by omega) (by omega)
      have hn := hno (x / 2) (by omega) (by omega)
      have hc : N.getD (2 * (x / 2) - 1) [] = M.getD (2 * (x / 2) - 1) [] ∧ N.getD (2 * (x / 2)) [] = M.getD (2 * (x / 2)) [] := by
        apply Classical.byContradiction
        intro hc
        exact hn ⟨hp, hc⟩
      rcases Nat.mod_two_eq_zero_or_one x with h3 | h3
      · rw [show x - 1 = 2 * (x / 2) - 1 by omega]; exact hc.1
      · rw [show x - 1 = 2 * (x / 2) by omega]; exact hc.2
theorem leaves_same {ls ms N M : List (List Int)} {W : Nat} (hN : IsT ls W N) (hM : IsT ms W M) (hl : ls.length = ms.length) (hlW : ls.length ≤ W) (h0 : N.getD 0 [] = M.getD 0 []) (hno : ∀ y, 1 ≤ y → y < W → ¬ DfAt N M y) : ls = ms := by
  refine List.ext_getElem hl fun i h1 h2 => ?_
  have h3 := all_same h0 hno (W + i) (by omega) (by omega)
  rw [show W + i - 1 = W - 1 + i by omega, hN.leaf i (by omega), hM.leaf i (by omega)] at h3
  unfold lf at h3
  rw [if_pos h1, if_pos h2] at h3
  simpa [List.getD, List.getElem?_eq_getElem h1, List.getElem?_eq_getElem h2] using h3
theorem clash_of {N M : List (List Int)} {x : Nat} (h1 : InR N x) (h2 : InR M x) (hd : DfAt N M x) (ha : D32 (N.getD (2 * x - 1) [])) (hb : D32 (N.getD (2 * x) [])) (hc : D32 (M.getD (2 * x - 1) [])) (hd' : D32 (M.getD (2 * x) [])) :
    ndB (N.getD (2 * x - 1) []) (N.getD (2 * x) []) ≠ ndB (M.getD (2 * x - 1) []) (M.getD (2 * x) []) ∧ digL (ndB (N.getD (2 * x - 1) []) (N.getD (2 * x) [])) = digL (ndB (M.getD (2 * x - 1) []) (M.getD (2 * x) [])) := by
  refine ⟨fun e => hd.2 (ndB_inj ha.1 hb.1 hc.1 hd'.1 e), ?_⟩
  have h3 := hd.1
  rw [h1, h2] at h3
  exact h3
end Go.Proofs.YtnafbchemcggpaaDoor
