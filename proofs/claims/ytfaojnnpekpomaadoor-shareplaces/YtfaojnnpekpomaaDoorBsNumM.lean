/- Numbers and their decimal digits: lists alone. -/
import Derived.Test.YtfaojnnpekpomaaDoorChecked
import Derived.Lib.AtoiAll
import Derived.Lib.ItoaNum
set_option linter.unusedSimpArgs false
set_option linter.unusedVariables false
namespace Go.Proofs.YtfaojnnpekpomaaDoor
open Go

def dig (c : UInt8) : Prop := 48 ≤ c.toNat ∧ c.toNat ≤ 57
instance (c : UInt8) : Decidable (dig c) := by unfold dig; infer_instance
/-- What digits spell, on from a number. -/
def stp (a : Nat) (c : UInt8) : Nat := a * 10 + (c.toNat - 48)
def fD (a : Nat) (l : List UInt8) : Nat := l.foldl stp a
def valD (l : List UInt8) : Nat := fD 0 l
theorem fD_cons (a : Nat) (c : UInt8) (r : List UInt8) : fD a (c :: r) = fD (a * 10 + (c.toNat - 48)) r := by
  unfold fD
  rw [List.foldl_cons]
  unfold stp
  rfl
theorem fD_nil (a : Nat) : fD a [] = a := by unfold fD; rw [List.foldl_nil]
theorem fD_append (l m : List UInt8) (a : Nat) : fD a (l ++ m) = fD (fD a l) m := by
  induction l generalizing a with
  | nil => rw [List.nil_append, fD_nil]
  | cons c r ih => rw [List.cons_append, fD_cons, fD_cons, ih]
theorem fD_snoc (l : List UInt8) (a : Nat) (c : UInt8) : fD a (l ++ [c]) = fD a l * 10 + (c.toNat - 48) := by rw [fD_append, fD_cons, fD_nil]
theorem pow10_cons (c : UInt8) (r : List UInt8) : (10 : Nat) ^ (c :: r).length = 10 * 10 ^ r.length := by rw [List.length_cons, Nat.pow_succ, Nat.mul_comm]
theorem fD_ge (l : List UInt8) : ∀ (a : Nat), a * 10 ^ l.length ≤ fD a l := by
  induction l with
  | nil => intro a; rw [List.length_nil, Nat.pow_zero, Nat.mul_one]; exact Nat.le_refl _
  | cons c r ih =>
    intro a
    have h := ih (a * 10 + (c.toNat - 48))
    rw [fD_cons, pow10_cons, ← Nat.mul_assoc]
    generalize (10 : Nat) ^ r.length = P at *
    exact Nat.le_trans (Nat.mul_le_mul_right P (Nat.le_add_right _ _)) h
theorem fD_le (l : List UInt8) (a : Nat) : a ≤ fD a l := by
  have := fD_ge l a
  have h2 : a * 1 ≤ a * 10 ^ l.length := Nat.mul_le_mul_left _ (Nat.pow_pos (by decide))
  rw [Nat.mul_one] at h2
  exact Nat.le_trans h2 this
theorem fD_lt (l : List UInt8) (hd : ∀ c ∈ l, dig c) : ∀ (a : Nat), fD a l < (a + 1) * 10 ^ l.length := by
  induction l with
  | nil => intro a; rw [List.length_nil, Nat.pow_zero, Nat.mul_one]; exact Nat.lt_succ_self _
  | cons c r ih =>
    intro a
    have hc := hd c (List.mem_cons_self ..)
    have h := ih (fun x hx => hd x (List.mem_cons_of_mem _ hx)) (a * 10 + (c.toNat - 48))
    unfold dig at hc
    rw [fD_cons, pow10_cons, ← Nat.mul_assoc]
    generalize (10 : Nat) ^ r.length = P at *
    exact Nat.lt_of_lt_of_le h (Nat.mul_le_mul_right P (by omega))
def Canon (l : List UInt8) : Prop := l ≠ [] ∧ (∀ c ∈ l, dig c) ∧ (1 < l.length → l.head? ≠ some 48)
instance (l : List UInt8) : Decidable (Canon l) := by unfold Canon; infer_instance
theorem ofNat_dig {d : Nat} (h : d < 10) : (UInt8.ofNat (48 + d)).toNat = 48 + d := by
  rw [UInt8.toNat_ofNat']; omega
theorem dec_canon (n : Nat) : Canon (Lib.decDigits n) ∧ valD (Lib.decDigits n) = n ∧ (0 < n → (Lib.decDigits n).head? ≠ some 48) := by
  induction n using Nat.strongRecOn with
  | ind n ih =>
    by_cases h : n < 10
    · rw [Lib.decDigits, dif_pos h]
      refine ⟨⟨by simp, fun c hc => ?_, by simp⟩, ?_, fun h0 => ?_⟩
      · have hc := List.mem_singleton.1 hc
        subst hc
        unfold dig
        rw [ofNat_dig h]
        omega
      · unfold valD
        rw [fD_cons, fD_nil, ofNat_dig h]
        omega
      · simp only [List.head?_cons, ne_eq, Option.some.injEq]
        intro e
        have := congrArg UInt8.toNat e
        rw [ofNat_dig h] at this
        have h48 : (48 : UInt8).toNat = 48 := rfl
        omega
    · obtain ⟨⟨h1, h2, h3⟩, h4, h5⟩ := ih (n / 10) (by omega)
      rw [Lib.decDigits, dif_neg h]
      have hh : (Lib.decDigits (n / 10) ++ [UInt8.ofNat (48 + n % 10)]).head? = (Lib.decDigits (n / 10)).head? := by
        cases hl : Lib.decDigits (n / 10) with
        | nil => exact absurd hl h1
        | cons a b => rfl
      have hne := h5 (by omega)
      refine ⟨⟨by simp, fun c hc => ?_, fun _ => by rw [hh]; exact hne⟩, ?_, fun _ => by rw [hh]; exact hne⟩
      · rcases List.mem_append.1 hc with hc | hc
        · exact h2 c hc
        · have hc := List.mem_singleton.1 hc
          subst hc
          unfold dig
          rw [ofNat_dig (by omega)]
          omega
      · unfold valD at *
        rw [fD_snoc, h4, ofNat_dig (by omega)]
        omega
theorem snoc_cases (l : List UInt8) (h : l ≠ []) : ∃ m c, l = m ++ [c] := ⟨l.dropLast, l.getLast h, (List.dropLast_concat_getLast h).symm⟩
theorem valD_pos {l : List UInt8} (h : Canon l) (hl : 1 < l.length ∨ l.head? ≠ some 48) : 10 ^ (l.length - 1) ≤ valD l := by
  obtain ⟨h1, h2, h3⟩ := h
  have hne : l.head? ≠ some 48 := by rcases hl with hl | hl; exact h3 hl; exact hl
  cases l with
  | nil => exact absurd rfl h1
  | cons c r =>
    have hc := h2 c (List.mem_cons_self ..)
    have hc2 : c.toNat ≠ 48 := fun e => hne (by
      have : c = 48 := UInt8.toNat_inj.1 (by rw [e]; rfl)
      rw [this]; rfl)
    unfold dig at hc
    have := fD_ge r (0 * 10 + (c.toNat - 48))
    have h4 : 1 * 10 ^ r.length ≤ (0 * 10 + (c.toNat - 48)) * 10 ^ r.length := Nat.mul_le_mul_right _ (by omega)
    unfold valD
    rw [fD_cons, List.length_cons, Nat.add_sub_cancel]
    rw [Nat.one_mul] at h4
    exact Nat.le_trans h4 this
theorem canon_dec : ∀ (n : Nat) (l : List UInt8), l.length = n → Canon l → Lib.decDigits (valD l) = l := by
  intro n
  induction n with
  | zero => intro l hl h; exact absurd (List.length_eq_zero_iff.1 hl) h.1
  | succ n ih =>
    intro l hl h
    obtain ⟨m, c, rfl⟩ := snoc_cases l h.1
    have hc := h.2.1 c (by simp)
    have hc' : UInt8.ofNat (48 + (c.toNat - 48)) = c := by
      apply UInt8.toNat_inj.1
      unfold dig at hc
      rw [ofNat_dig (by omega)]
      omega
    have hv : valD (m ++ [c]) = valD m * 10 + (c.toNat - 48) := fD_snoc m 0 c
    have hd : c.toNat - 48 < 10 := by unfold dig at hc; omega
    by_cases hm : m = []
    · subst hm
      have hv0 : valD [] = 0 := by unfold valD; rw [fD_nil]
      rw [hv, hv0, Nat.zero_mul, Nat.zero_add, Lib.decDigits, dif_pos hd, hc']
      rfl
    · have hh : (m ++ [c]).head? = m.head? := by cases m with | nil => exact absurd rfl hm | cons a b => rfl
      have hlm : 1 ≤ m.length := by cases m with | nil => exact absurd rfl hm | cons a b => simp
      have hne := h.2.2 (by simp; omega)
      rw [hh] at hne
      have hcm : Canon m := ⟨hm, fun x hx => h.2.1 x (by simp [hx]), fun _ => hne⟩
      have hp := valD_pos hcm (Or.inr hne)
      have hp1 : 1 ≤ valD m := Nat.le_trans (Nat.pow_pos (by decide)) hp
      rw [hv, Lib.decDigits, dif_neg (by omega), show (valD m * 10 + (c.toNat - 48)) / 10 = valD m by omega, show (valD m * 10 + (c.toNat - 48)) % 10 = c.toNat - 48 by omega, ih m (by simp at hl; exact hl) hcm, hc']
theorem parse_ok (l : List UInt8) (a : Nat) (hd : ∀ c ∈ l, dig c) (h : fD a l < 18446744073709551616) : Lib.parseUint10 a l = .ok (fD a l) := by
  induction l generalizing a with
  | nil => rw [fD_nil]; unfold Lib.parseUint10; rfl
  | cons c r ih =>
    have hc := hd c (List.mem_cons_self ..)
    have h2 := fD_le r (a * 10 + (c.toNat - 48))
    have h3 := fD_cons a c r
    unfold Lib.parseUint10
    unfold dig at hc
    rw [if_pos hc, if_neg (by omega), if_neg (by omega), h3]
    exact ih _ (fun x hx => hd x (List.mem_cons_of_mem _ hx)) (by omega)
theorem atoi_canon (l : List UInt8) (h : Canon l) (hv : valD l < 9223372036854775808) : Lib.atoiAll l = .ok (valD l) := by
  obtain ⟨h1, h2, _⟩ := h
  cases l with
  | nil => exact absurd rfl h1
  | cons c r =>
    have hc := h2 c (List.mem_cons_self ..)
    unfold dig at hc
    have hp : Lib.parseMag (c :: r) = .ok (valD (c :: r)) := by
      unfold Lib.parseMag
      rw [if_neg (by simp)]
      exact parse_ok _ 0 h2 (by unfold valD at hv; omega)
    unfold Lib.atoiAll
    simp only []
    rw [if_neg (by omega), hp]
    simp only []
    rw [if_neg (by omega), if_neg (by omega), if_neg (by omega)]
/-- What ReadNumber answers. -/
def rdOk (l : List UInt8) (most : Int) : Prop := Canon l ∧ (valD l : Int) ≤ most
instance (l : List UInt8) (m : Int) : Decidable (rdOk l m) := by unfold rdOk; infer_instance
def rdV (l : List UInt8) (most : Int) : Int := if rdOk l most then valD l else 0
def rdE (l : List UInt8) (most : Int) : Int := if rdOk l most then 0 else 102
theorem rd_ok {l : List UInt8} {most : Int} (h : rdOk l most) : rdV l most = valD l ∧ rdE l most = 0 := by unfold rdV rdE; rw [if_pos h, if_pos h]; exact ⟨rfl, rfl⟩
theorem rd_no {l : List UInt8} {most : Int} (h : ¬ rdOk l most) : rdV l most = 0 ∧ rdE l most = 102 := by unfold rdV rdE; rw [if_neg h, if_neg h]; exact ⟨rfl, rfl⟩
end Go.Proofs.YtfaojnnpekpomaaDoor
