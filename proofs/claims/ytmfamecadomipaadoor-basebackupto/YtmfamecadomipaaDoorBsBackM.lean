/- There and back: lists alone. -/
import Derived.Test.YtmfamecadomipaaDoorBsOneM
set_option linter.unusedSimpArgs false
set_option linter.unusedVariables false
namespace Go.Proofs.YtmfamecadomipaaDoor
open Go.RowKit

theorem val_letters (l : List Int) (j : Nat) (h : j < lenL l.length) : val ((lettersL l).getD j 0) = lv l j := by
  have h1 := lv_lt l j
  rw [lettersL_get l j h, val_alph _ (by omega)]
  omega
theorem bitV_letters (l : List Int) (m : Nat) (h : m < 5 * lenL l.length) : bitV (vL (lettersL l)) m = bitL l m := by
  have hq : m / 5 < lenL l.length := by omega
  rw [bitV_at _ m (m / 5) (m % 5) (by omega) (by omega), vL_get _ _ (by rw [lettersL_length]; exact hq), val_letters l _ hq, lv_nF, show 4 - m % 5 = 5 - 1 - m % 5 by omega, nF_bit _ (bitL_01 l) _ _ _ (by omega)]
  congr 1
  omega
theorem lenL_back (n : Nat) : 5 * lenL n / 8 = n := by unfold lenL; omega
theorem back_letters (l : List Int) (hb : Byt8 l) : byL (lettersL l) = l ∧ byP (lettersL l) = 0 ∧ byE (lettersL l) = 0 := by
  have hlen := lettersL_length l
  have hg : ∀ j, j < (lettersL l).length → 0 ≤ val ((lettersL l).getD j 0) := fun j hj => by
    rw [hlen] at hj
    rw [val_letters l j hj]
    exact (lv_lt l j).1
  have hout : outL (lettersL l) = l := by
    apply List.ext_getElem
    · rw [outL_length, hlen, lenL_back]
    · intro i h1 h2
      rw [← getD_of_lt h1, ← getD_of_lt h2, outL_get _ _ (by rw [hlen, lenL_back]; exact h2), ← eight_of l hb i]
      apply nF_congr
      intro j hj
      exact bitV_letters l _ (by unfold lenL; omega)
  have hheld : heldL (lettersL l) (lettersL l).length = 0 := by
    unfold heldL
    rw [hlen, lenL_back, nF_zero _ (bitV_01 _)]
    intro j hj
    rw [bitV_letters l _ (by have := lenL_back l.length; omega)]
    unfold bitL
    have : l.getD ((8 * l.length + j) / 8) 0 = 0 := by simp [List.getD, List.getElem?_eq_none (by omega : l.length ≤ (8 * l.length + j) / 8)]
    rw [this]
    simp
  obtain ⟨e1, e2, e3⟩ := by_ok (lettersL l) hg ⟨hheld, by rw [hlen, lenL_back]⟩
  exact ⟨by rw [e1, hout], e2, e3⟩
theorem getD_app (a b : List Int) (k : Nat) : (a ++ b).getD (a.length + k) 0 = b.getD k 0 := by
  rw [List.getD_eq_getElem?_getD, List.getD_eq_getElem?_getD, List.getElem?_append_right (by omega), Nat.add_sub_cancel_left]
theorem not37 : ¬ plN 37 := by decide
theorem un_at {l : List Int} (hb : Byt8 l) {i : Nat} (hi : i < l.length) : unOk (escB l) (escB (l.take i)).length ∧ unB (escB l) (escB (l.take i)).length = l.getD i 0 ∧ (escB (l.take i)).length + unN (escB l) (escB (l.take i)).length = (escB (l.take (i + 1))).length := by
  have hc := getD_byt hb i
  have e : escB l = escB (l.take i) ++ (esc1 (l.getD i 0) ++ escB (l.drop (i + 1))) := by
    have h1 : l = l.take i ++ l.getD i 0 :: l.drop (i + 1) := by
      conv => lhs; rw [← List.take_append_drop i l]
      rw [List.drop_eq_getElem_cons hi, getD_of_lt hi]
    conv => lhs; rw [h1]
    unfold escB
    rw [List.flatMap_append, List.flatMap_cons]
  have g : ∀ k, (escB l).getD ((escB (l.take i)).length + k) 0 = (esc1 (l.getD i 0) ++ escB (l.drop (i + 1))).getD k 0 := fun k => by rw [e]; exact getD_app _ _ k
  have g0 := g 0
  rw [Nat.add_zero] at g0
  rw [escB_take l i hi, List.length_append]
  obtain ⟨P, hP⟩ : ∃ P, (escB (l.take i)).length = P := ⟨_, rfl⟩
  rw [hP] at g g0 ⊢
  have hlen : (escB l).length = P + ((esc1 (l.getD i 0)).length + (escB (l.drop (i + 1))).length) := by rw [e, List.length_append, List.length_append, hP]
  obtain ⟨c, hcn⟩ : ∃ c : Nat, l.getD i 0 = (c : Int) := ⟨(l.getD i 0).toNat, by omega⟩
  rw [hcn] at hc g g0 hlen ⊢
  by_cases hpl : plN c
  · have e1 : esc1 (c : Int) = [(c : Int)] := by unfold esc1; rw [Int.toNat_natCast, if_pos hpl]
    rw [e1] at g0 ⊢
    have g0' : (escB l).getD P 0 = (c : Int) := g0
    have hp2 : plN ((escB l).getD P 0).toNat := by rw [g0', Int.toNat_natCast]; exact hpl
    refine ⟨Or.inl hp2, by unfold unB; rw [if_pos hp2, g0'], by unfold unN; rw [if_pos hp2]; rfl⟩
  · have e1 : esc1 (c : Int) = [37, hexL.getD (c / 16) 0, hexL.getD (c % 16) 0] := by unfold esc1; rw [Int.toNat_natCast, if_neg hpl]
    have g1 := g 1
    have g2 := g 2
    rw [e1] at g0 g1 g2 hlen ⊢
    have g0' : (escB l).getD P 0 = 37 := g0
    have g1' : (escB l).getD (P + 1) 0 = hexL.getD (c / 16) 0 := g1
    have g2' : (escB l).getD (P + 2) 0 = hexL.getD (c % 16) 0 := g2
    have hp2 : ¬ plN ((escB l).getD P 0).toNat := by rw [g0']; exact not37
    have x1 := hx_hexL (c / 16) (by omega)
    have x2 := hx_hexL (c % 16) (by omega)
    have hs : 16 * (((c / 16 : Nat) : Int)) + ((c % 16 : Nat) : Int) = (c : Int) := by omega
    refine ⟨Or.inr ⟨g0', by simp at hlen; omega, by rw [g1', x1]; omega, by rw [g2', x2]; omega, by rw [g1', g2', x1, x2, hs, Int.toNat_natCast]; exact hpl⟩, by unfold unB; rw [if_neg hp2, g1', g2', x1, x2, hs], by unfold unN; rw [if_neg hp2]; rfl⟩
theorem unG_esc {l : List Int} (hb : Byt8 l) : ∀ (f i : Nat), i ≤ l.length → (escB l).length - (escB (l.take i)).length < f → unG f (escB l) (escB (l.take i)).length (l.take i) = (l, 0, 0) := by
  intro f
  induction f with
  | zero => intro i _ h; omega
  | succ f ih =>
    intro i hi hf
    have hle := escB_take_le l i
    unfold unG
    by_cases hlt : i < l.length
    · have hst := escB_take l i hlt
      have h1 := esc1_pos (l.getD i 0)
      have hle2 := escB_take_le l (i + 1)
      have hl2 : (escB (l.take (i + 1))).length = (escB (l.take i)).length + (esc1 (l.getD i 0)).length := by rw [hst, List.length_append]
      obtain ⟨a1, a2, a3⟩ := un_at hb hlt
      rw [if_pos (by omega), if_pos a1, a2, a3, show l.take i ++ [l.getD i 0] = l.take (i + 1) by rw [List.take_succ_eq_append_getElem hlt, getD_of_lt hlt]]
      exact ih (i + 1) (by omega) (by omega)
    · have e : l.take i = l := List.take_of_length_le (by omega)
      rw [e, if_neg (by omega)]
theorem back_escape {l : List Int} (hb : Byt8 l) : unA (escL l) = (l, 0, 0) := by
  by_cases h0 : l = []
  · subst h0
    rfl
  · have e : escL l = escB l := by unfold escL; rw [if_neg h0]
    rw [e]
    have hge := escB_ge l
    have hpos : 0 < l.length := by
      cases l with
      | nil => exact absurd rfl h0
      | cons a b => simp
    have n1 : escB l ≠ [] := fun q => by rw [q] at hge; simp at hge; exact h0 hge
    have n2 : escB l ≠ [37] := fun q => by
      rw [q] at hge
      have hl1 : l.length = 1 := by simp at hge; omega
      obtain ⟨c, rfl⟩ := List.length_eq_one_iff.1 hl1
      have hc := hb c (by simp)
      have e2 : escB [c] = esc1 c := by rw [escB_cons]; simp [escB]
      rw [e2] at q
      unfold esc1 at q
      by_cases hp : plN c.toNat
      · rw [if_pos hp] at q
        simp at q
        rw [q] at hp
        exact not37 hp
      · rw [if_neg hp] at q
        simp at q
    unfold unA
    rw [if_neg n1, if_neg n2]
    have := unG_esc hb ((escB l).length + 1) 0 (Nat.zero_le _) (by omega)
    simpa [escB] using this
def Cln (l : List Int) : Prop := ∀ c ∈ l, c ≠ 58 ∧ c ≠ 47
theorem cln_letters (l : List Int) : Cln (lettersL l) := by
  intro c hc
  obtain ⟨i, _, rfl⟩ := List.mem_map.1 hc
  have h := lv_lt l i
  rw [alph_form _ (by omega)]
  split <;> omega
theorem cln_escape {l : List Int} (hb : Byt8 l) : Cln (escL l) := by
  unfold escL
  split
  · intro c hc; simp at hc; omega
  · intro x hx
    obtain ⟨c, hc, hx⟩ := List.mem_flatMap.1 hx
    have h := hb c hc
    unfold esc1 at hx
    split at hx
    · rename_i hp
      simp at hx
      subst hx
      unfold plN at hp
      omega
    · simp only [List.mem_cons, List.not_mem_nil, or_false] at hx
      rcases hx with rfl | rfl | rfl
      · omega
      · rw [hexL_form _ (by omega)]; split <;> omega
      · rw [hexL_form _ (by omega)]; split <;> omega
theorem escL_ne (l : List Int) : escL l ≠ [] := by
  unfold escL
  split
  · simp
  · rename_i h
    intro q
    have := escB_ge l
    rw [q] at this
    simp at this
    exact h this
end Go.Proofs.YtmfamecadomipaaDoor
