/- gf.trimmed and the document's Cut, walked. -/
import Derived.Test.YtmglpcenipnmbaaGfDot
set_option linter.unusedSimpArgs false
set_option linter.unusedVariables false
namespace Go.Proofs.Ytmglpcenipnmbaa
open Go Go.RowKit

/-- How long the first k are without the noughts behind. -/
def cutN (l : List Int) : Nat → Nat
  | 0 => 0
  | k + 1 => if gN l k = 0 then cutN l k else k + 1
theorem cutN_le (l : List Int) : ∀ k, cutN l k ≤ k
  | 0 => Nat.le_refl _
  | k + 1 => by
    unfold cutN
    split
    · exact Nat.le_succ_of_le (cutN_le l k)
    · exact Nat.le_refl _
/-- A polynomial without the noughts behind. -/
def cutL (l : List Int) : List Int := l.take (cutN l l.length)
theorem cutL_length (l : List Int) : (cutL l).length = cutN l l.length := by
  unfold cutL
  rw [List.length_take]
  have := cutN_le l l.length
  omega
theorem cutN_last (l : List Int) : ∀ k, cutN l k ≠ 0 → gN l (cutN l k - 1) ≠ 0
  | 0, h => absurd rfl h
  | k + 1, h => by
    unfold cutN at h ⊢
    split
    · rename_i h0
      rw [if_pos h0] at h
      exact cutN_last l k h
    · rename_i h0
      exact h0
theorem cutL_last (l : List Int) : (cutL l).length ≠ 0 → gN (cutL l) ((cutL l).length - 1) ≠ 0 := by
  intro h
  rw [cutL_length] at h ⊢
  have := cutN_last l l.length h
  have hle := cutN_le l l.length
  unfold gN at this ⊢
  unfold cutL
  rw [show (l.take (cutN l l.length)).getD (cutN l l.length - 1) 0 = l.getD (cutN l l.length - 1) 0 by simp only [List.getD, List.getElem?_take]; rw [if_pos (by omega)]]
  exact this
set_option maxRecDepth 100000 in
set_option maxHeartbeats 4000000 in
theorem trimmed_any (w : World) (p : Option Addr) (c : Nat) (l : List Int) (h : HB w (.slice p l.length c) l) :
    Calls Try.prog 54 #[.slice p l.length c] w fun e w' => e = .returned (.slice p (cutN l l.length) c) ∧ w' = w := by
  have HA := hid h
  have sz := size_u8
  have HP : Hid (l.length ≤ c ∧ (p = none → c = 0)) := by
    obtain ⟨⟨q, c', e, h1, h2, h3, _⟩, _⟩ := h
    simp only [Value.slice.injEq, true_and] at e
    obtain ⟨rfl, rfl⟩ := e
    exact ⟨h1, h3⟩
  have hc : c ≤ maxLen := by
    obtain ⟨q, c', e, h1, h2⟩ := h.open
    simp only [Value.slice.injEq, true_and] at e
    obtain ⟨rfl, rfl⟩ := e
    exact h2
  clear h
  unfold maxLen at hc
  have hlc : l.length ≤ c := HP.out.1
  obtain ⟨V, HV⟩ : ∃ V, Hid (cutN l l.length = V) := ⟨_, rfl⟩
  rw [HV.out]
  go_enter Try.func54, Try.ntmps54
  go_wp2
  go_loopw [3] (fun n wr => ∃ k : Nat, k ≤ l.length ∧ n = .int .i64 (k : Int) ∧ Hid (cutN l k = V) ∧ wr = w) (fun n _ => (intOf n).toNat)
  case atStart => exact ⟨l.length, Nat.le_refl _, rfl, HV, rfl⟩
  case round =>
    obtain ⟨k, hk, rfl, HK, hw⟩ := hrel
    subst hw
    cases k with
    | zero =>
      have HE : Hid (V = 0) := HK.out.symm
      clear HK
      go_wp2
      go_ret
      rw [HE.out]
      exact ⟨rfl, rfl⟩
    | succ j =>
      obtain ⟨b1, o1, c1, e1, _, _, hc1⟩ := HA.out.ne (by omega)
      simp only [Value.slice.injEq, true_and] at e1
      obtain ⟨rfl, rfl⟩ := e1
      have q1 := hc1 j (by omega)
      obtain ⟨g1, l1⟩ := HA.out.gN j
      rw [g1] at q1
      have hj : ((j + 1 : Nat) : Int) - 1 = (j : Int) := by omega
      have hjl : j < l.length := by omega
      clear hc1 g1
      by_cases h0 : gN l j = 0
      · have HN : Hid (cutN l j = V) := by
          have := HK.out
          rw [cutN, if_pos h0] at this
          exact this
        rw [h0] at q1
        clear HK
        go_wp2
        exact ⟨⟨j, by omega, by go_num, HN, by trivial⟩, by simp [intOf]⟩
      · have HN : Hid (V = j + 1) := by
          have := HK.out
          rw [cutN, if_neg h0] at this
          exact this.symm
        have h0' : (((gN l j : Nat) : Int) == 0) = false := by simpa using h0
        clear HK
        go_wp2
        go_ret
        rw [HN.out]
        exact ⟨rfl, rfl⟩
set_option maxRecDepth 100000 in
set_option maxHeartbeats 4000000 in
theorem rcut_any (w : World) (p : Option Addr) (c : Nat) (l : List Int) (h : HB w (.slice p l.length c) l) :
    Calls Try.prog 59 #[.slice p l.length c] w fun e w' => e = .returned (.slice p (cutN l l.length) c) ∧ w' = w := by
  have HA := hid h
  have sz := size_u8
  have HP : Hid (l.length ≤ c ∧ (p = none → c = 0)) := by
    obtain ⟨⟨q, c', e, h1, h2, h3, _⟩, _⟩ := h
    simp only [Value.slice.injEq, true_and] at e
    obtain ⟨rfl, rfl⟩ := e
    exact ⟨h1, h3⟩
  have hc : c ≤ maxLen := by
    obtain ⟨q, c', e, h1, h2⟩ := h.open
    simp only [Value.slice.injEq, true_and] at e
    obtain ⟨rfl, rfl⟩ := e
    exact h2
  clear h
  unfold maxLen at hc
  have hlc : l.length ≤ c := HP.out.1
  obtain ⟨V, HV⟩ : ∃ V, Hid (cutN l l.length = V) := ⟨_, rfl⟩
  rw [HV.out]
  go_enter Try.func59, Try.ntmps59
  go_wp2
  go_loopw [3] (fun n wr => ∃ k : Nat, k ≤ l.length ∧ n = .int .i64 (k : Int) ∧ Hid (cutN l k = V) ∧ wr = w) (fun n _ => (intOf n).toNat)
  case atStart => exact ⟨l.length, Nat.le_refl _, rfl, HV, rfl⟩
  case round =>
    obtain ⟨k, hk, rfl, HK, hw⟩ := hrel
    subst hw
    cases k with
    | zero =>
      have HE : Hid (V = 0) := HK.out.symm
      clear HK
      go_wp2
      go_ret
      rw [HE.out]
      exact ⟨rfl, rfl⟩
    | succ j =>
      obtain ⟨b1, o1, c1, e1, _, _, hc1⟩ := HA.out.ne (by omega)
      simp only [Value.slice.injEq, true_and] at e1
      obtain ⟨rfl, rfl⟩ := e1
      have q1 := hc1 j (by omega)
      obtain ⟨g1, l1⟩ := HA.out.gN j
      rw [g1] at q1
      have hj : ((j + 1 : Nat) : Int) - 1 = (j : Int) := by omega
      have hjl : j < l.length := by omega
      clear hc1 g1
      by_cases h0 : gN l j = 0
      · have HN : Hid (cutN l j = V) := by
          have := HK.out
          rw [cutN, if_pos h0] at this
          exact this
        rw [h0] at q1
        clear HK
        go_wp2
        exact ⟨⟨j, by omega, by go_num, HN, by trivial⟩, by simp [intOf]⟩
      · have HN : Hid (V = j + 1) := by
          have := HK.out
          rw [cutN, if_neg h0] at this
          exact this.symm
        have h0' : (((gN l j : Nat) : Int) == 0) = false := by simpa using h0
        clear HK
        go_wp2
        go_ret
        rw [HN.out]
        exact ⟨rfl, rfl⟩
end Go.Proofs.Ytmglpcenipnmbaa
