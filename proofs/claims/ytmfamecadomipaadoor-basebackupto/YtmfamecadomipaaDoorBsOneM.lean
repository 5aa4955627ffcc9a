/- A text that is read is the one text of what it is read as: lists alone. -/
import Derived.Test.YtmfamecadomipaaDoorBsBytesM
import Derived.Test.YtmfamecadomipaaDoorBsEscM
set_option linter.unusedSimpArgs false
set_option linter.unusedVariables false
namespace Go.Proofs.YtmfamecadomipaaDoor
open Go.RowKit

theorem one_letters (s : List Int) (h : byE s = 0) : lettersL (byL s) = s := by
  by_cases hb : bad s < s.length
  · unfold byE at h
    rw [if_pos hb] at h
    omega
  · have hg : ∀ j, j < s.length → 0 ≤ val (s.getD j 0) := by
      intro j hj
      apply Classical.byContradiction
      intro hn
      apply hb
      unfold bad
      apply List.findIdx_lt_length_of_exists
      exact ⟨s.getD j 0, by rw [getD_of_lt hj]; exact List.getElem_mem hj, by simp; rw [← List.getD_eq_getElem?_getD]; omega⟩
    by_cases hk : heldL s s.length = 0 ∧ lenL (5 * s.length / 8) = s.length
    · obtain ⟨e1, _, _⟩ := by_ok s hg hk
      rw [e1]
      exact (letters_outL s (good_of s hg) hk.2).2 hk.1
    · obtain ⟨_, _, e3⟩ := by_spare s hg hk
      rw [e3] at h
      omega
theorem esc1_un {s : List Int} (hb : Byt8 s) {p : Nat} (hp : p < s.length) (hk : unOk s p) : s.take (p + unN s p) = s.take p ++ esc1 (unB s p) := by
  have hc := getD_byt hb p
  by_cases hpl : plN (s.getD p 0).toNat
  · have e1 : unN s p = 1 := by unfold unN; rw [if_pos hpl]
    have e2 : unB s p = s.getD p 0 := by unfold unB; rw [if_pos hpl]
    rw [e1, e2, List.take_succ_eq_append_getElem hp, ← getD_of_lt hp]
    unfold esc1
    rw [if_pos hpl]
  · rcases hk with h | ⟨h37, h2, h3, h4, h5⟩
    · exact absurd h hpl
    · have e1 : unN s p = 3 := by unfold unN; rw [if_neg hpl]
      have e2 : unB s p = 16 * hx (s.getD (p + 1) 0) + hx (s.getD (p + 2) 0) := by unfold unB; rw [if_neg hpl]
      have a := hx_lt (s.getD (p + 1) 0)
      have b := hx_lt (s.getD (p + 2) 0)
      have t3 : s.take (p + 3) = s.take p ++ [s.getD p 0, s.getD (p + 1) 0, s.getD (p + 2) 0] := by
        rw [show p + 3 = p + 1 + 1 + 1 by omega, List.take_succ_eq_append_getElem (by omega), List.take_succ_eq_append_getElem (by omega), List.take_succ_eq_append_getElem hp, ← getD_of_lt hp, ← getD_of_lt (by omega : p + 1 < s.length), ← getD_of_lt (by omega : p + 1 + 1 < s.length)]
        simp
      rw [e1, e2, t3, h37]
      unfold esc1
      rw [if_neg h5]
      have d1 : (16 * hx (s.getD (p + 1) 0) + hx (s.getD (p + 2) 0)).toNat / 16 = (hx (s.getD (p + 1) 0)).toNat := by omega
      have d2 : (16 * hx (s.getD (p + 1) 0) + hx (s.getD (p + 2) 0)).toNat % 16 = (hx (s.getD (p + 2) 0)).toNat := by omega
      rw [d1, d2, hexL_hx _ h3, hexL_hx _ h4]
theorem unN_le {s : List Int} {p : Nat} (hp : p < s.length) (hk : unOk s p) : p + unN s p ≤ s.length := by
  unfold unN
  split
  · omega
  · rename_i h
    rcases hk with h2 | ⟨_, h2, _⟩
    · exact absurd h2 h
    · omega
theorem unG_one {s : List Int} (hb : Byt8 s) : ∀ (f p : Nat) (acc : List Int), s.length - p < f → p ≤ s.length → escB acc = s.take p → (unG f s p acc).2.2 = 0 → escB (unG f s p acc).1 = s := by
  intro f
  induction f with
  | zero => intro p acc h; omega
  | succ f ih =>
    intro p acc hf hp he h
    unfold unG at h ⊢
    by_cases hlt : p < s.length
    · rw [if_pos hlt] at h ⊢
      by_cases hk : unOk s p
      · rw [if_pos hk] at h ⊢
        have hn := unN_pos s p
        refine ih (p + unN s p) (acc ++ [unB s p]) (by omega) (unN_le hlt hk) ?_ h
        rw [esc1_un hb hlt hk, ← he]
        unfold escB
        rw [List.flatMap_append]
        simp
      · rw [if_neg hk] at h
        exact absurd (show (103 : Int) = 0 from h) (by decide)
    · rw [if_neg hlt]
      show escB acc = s
      rw [he, List.take_of_length_le (by omega)]
theorem one_escape {s : List Int} (hb : Byt8 s) (h : (unA s).2.2 = 0) : escL (unA s).1 = s := by
  unfold unA at h ⊢
  by_cases h0 : s = []
  · rw [if_pos h0] at h
    exact absurd h (by decide)
  · rw [if_neg h0] at h ⊢
    by_cases h37 : s = [37]
    · rw [if_pos h37, h37]
      rfl
    · rw [if_neg h37] at h ⊢
      have e := unG_one hb (s.length + 1) 0 [] (by omega) (Nat.zero_le _) rfl h
      unfold escL
      rw [if_neg ?_]
      · exact e
      · intro q
        rw [q] at e
        exact h0 e.symm
theorem one_escape_len {s : List Int} (hb : Byt8 s) (h : (unA s).2.2 = 0) : (escB (unA s).1).length ≤ s.length := by
  by_cases hq : (unA s).1 = []
  · rw [hq]; simp [escB]
  · have := one_escape hb h
    unfold escL at this
    rw [if_neg hq] at this
    rw [this]
    exact Nat.le_refl _
theorem unG_len (s : List Int) : ∀ (f p : Nat) (acc : List Int), (Byt8 s → Byt8 acc → Byt8 (unG f s p acc).1) ∧ (unG f s p acc).1.length ≤ acc.length + f := by
  intro f
  induction f with
  | zero => intro p acc; exact ⟨fun _ h => h, Nat.le_refl _⟩
  | succ f ih =>
    intro p acc
    unfold unG
    by_cases hp : p < s.length
    · rw [if_pos hp]
      by_cases hk : unOk s p
      · rw [if_pos hk]
        obtain ⟨h2, h3⟩ := ih (p + unN s p) (acc ++ [unB s p])
        refine ⟨fun hb ha => h2 hb ?_, ?_⟩
        · intro x hx
          rcases List.mem_append.1 hx with hx | hx
          · exact ha x hx
          · rw [List.mem_singleton.1 hx]; exact unB_byt hb hk
        · rw [List.length_append] at h3
          simp at h3
          omega
      · rw [if_neg hk]
        exact ⟨fun _ _ x hx => by simp at hx, by simp⟩
    · rw [if_neg hp]
      exact ⟨fun _ h => h, by show acc.length ≤ _; omega⟩
theorem unA_byt {s : List Int} (h : Byt8 s) : Byt8 (unA s).1 := by
  unfold unA
  split
  · intro x hx; simp at hx
  · split
    · intro x hx; simp at hx
    · exact (unG_len s _ _ _).1 h (fun x hx => by simp at hx)
theorem unA_len (s : List Int) : (unA s).1.length ≤ s.length + 1 := by
  unfold unA
  split
  · simp
  · split
    · simp
    · have := (unG_len s (s.length + 1) 0 []).2
      simpa using this

end Go.Proofs.YtmfamecadomipaaDoor
