/- Names: lists alone. -/
import Derived.Test.YtmfamecadomipaaDoorBsKinds
import Derived.Test.YtmfamecadomipaaDoorBsIdx
import Derived.Test.YtmfamecadomipaaDoorBsMath
import Derived.Lib.Bytealg
import Derived.Lib.Bytes
set_option linter.unusedSimpArgs false
set_option linter.unusedVariables false
namespace Go.Proofs.YtmfamecadomipaaDoor
open Go.RowKit

def hexL : List Int := [48, 49, 50, 51, 52, 53, 54, 55, 56, 57, 97, 98, 99, 100, 101, 102]
/-- A hexadecimal digit's number; -1: it is none. -/
def hx (c : Int) : Int := if 48 ≤ c ∧ c ≤ 57 then c - 48 else if 97 ≤ c ∧ c ≤ 102 then c - 87 else -1
theorem hx_lt (c : Int) : -1 ≤ hx c ∧ hx c < 16 := by
  unfold hx
  split
  · omega
  · split <;> omega
theorem hexL_form (i : Nat) (h : i < 16) : hexL.getD i 0 = if i < 10 then (48 + i : Int) else 87 + i := by
  have : ∀ i : Fin 16, hexL.getD i.val 0 = if i.val < 10 then (48 + i.val : Int) else 87 + i.val := by decide
  exact this ⟨i, h⟩
theorem hx_hexL (i : Nat) (h : i < 16) : hx (hexL.getD i 0) = i := by
  rw [hexL_form i h]
  unfold hx
  by_cases h1 : i < 10
  · rw [if_pos h1, if_pos (by omega)]; omega
  · rw [if_neg h1, if_neg (by omega), if_pos (by omega)]; omega
theorem hexL_hx (c : Int) (h : 0 ≤ hx c) : hexL.getD (hx c).toNat 0 = c := by
  have h2 := hx_lt c
  rw [hexL_form _ (by omega)]
  revert h
  unfold hx
  by_cases h1 : 48 ≤ c ∧ c ≤ 57
  · rw [if_pos h1]; intro h; rw [if_pos (by omega)]; omega
  · rw [if_neg h1]
    by_cases h3 : 97 ≤ c ∧ c ≤ 102
    · rw [if_pos h3]; intro h; rw [if_neg (by omega)]; omega
    · rw [if_neg h3]; intro h; omega
theorem hexL_byt (i : Nat) (h : i < 16) : 0 ≤ hexL.getD i 0 ∧ hexL.getD i 0 < 256 := by
  rw [hexL_form i h]
  split <;> omega
def esc1 (c : Int) : List Int := if plN c.toNat then [c] else [37, hexL.getD (c.toNat / 16) 0, hexL.getD (c.toNat % 16) 0]
def escB (l : List Int) : List Int := l.flatMap esc1
def escL (l : List Int) : List Int := if l = [] then [37] else escB l
theorem esc1_len (c : Int) : (esc1 c).length ≤ 3 := by unfold esc1; split <;> simp
theorem esc1_byt (c : Int) (h : 0 ≤ c ∧ c < 256) : Byt8 (esc1 c) := by
  unfold esc1
  split
  · intro x hx; simp at hx; subst hx; exact h
  · intro x hx
    simp only [List.mem_cons, List.not_mem_nil, or_false] at hx
    rcases hx with rfl | rfl | rfl
    · omega
    · exact hexL_byt _ (by omega)
    · exact hexL_byt _ (by omega)
theorem escB_len (l : List Int) : (escB l).length ≤ 3 * l.length := by
  induction l with
  | nil => simp [escB]
  | cons c r ih =>
    have := esc1_len c
    unfold escB at *
    rw [List.flatMap_cons, List.length_append, List.length_cons]
    omega
theorem escB_byt {l : List Int} (h : Byt8 l) : Byt8 (escB l) := by
  intro x hx
  obtain ⟨c, hc, hx⟩ := List.mem_flatMap.1 hx
  exact esc1_byt c (h c hc) x hx
theorem escL_byt {l : List Int} (h : Byt8 l) : Byt8 (escL l) := by
  unfold escL
  split
  · intro x hx; simp at hx; omega
  · exact escB_byt h
theorem escB_take (l : List Int) (i : Nat) (h : i < l.length) : escB (l.take (i + 1)) = escB (l.take i) ++ esc1 (l.getD i 0) := by
  unfold escB
  rw [List.take_succ_eq_append_getElem h, List.flatMap_append, getD_of_lt h]
  simp
theorem esc1_pos (c : Int) : 1 ≤ (esc1 c).length := by unfold esc1; split <;> simp
theorem escB_cons (c : Int) (r : List Int) : escB (c :: r) = esc1 c ++ escB r := by unfold escB; rw [List.flatMap_cons]
theorem escB_ge (l : List Int) : l.length ≤ (escB l).length := by
  induction l with
  | nil => simp
  | cons c r ih =>
    have := esc1_pos c
    rw [escB_cons, List.length_append, List.length_cons]
    omega
theorem escB_take_le (l : List Int) : ∀ i, (escB (l.take i)).length ≤ (escB l).length := by
  induction l with
  | nil => intro i; simp
  | cons c r ih =>
    intro i
    cases i with
    | zero => simp [escB]
    | succ i =>
      have := ih i
      rw [List.take_succ_cons, escB_cons, escB_cons, List.length_append, List.length_append]
      omega
/-- The next byte of a text, and how many bytes it takes. -/
def unB (s : List Int) (p : Nat) : Int := if plN (s.getD p 0).toNat then s.getD p 0 else 16 * hx (s.getD (p + 1) 0) + hx (s.getD (p + 2) 0)
def unN (s : List Int) (p : Nat) : Nat := if plN (s.getD p 0).toNat then 1 else 3
def unOk (s : List Int) (p : Nat) : Prop := plN (s.getD p 0).toNat ∨ (s.getD p 0 = 37 ∧ p + 2 < s.length ∧ 0 ≤ hx (s.getD (p + 1) 0) ∧ 0 ≤ hx (s.getD (p + 2) 0) ∧ ¬ plN (16 * hx (s.getD (p + 1) 0) + hx (s.getD (p + 2) 0)).toNat)
instance (s : List Int) (p : Nat) : Decidable (unOk s p) := by unfold unOk; infer_instance
def unG : Nat → List Int → Nat → List Int → List Int × Int × Int
  | 0, _, _, acc => (acc, 0, 0)
  | f + 1, s, p, acc => if p < s.length then (if unOk s p then unG f s (p + unN s p) (acc ++ [unB s p]) else ([], (p : Int), 103)) else (acc, 0, 0)
def unA (s : List Int) : List Int × Int × Int := if s = [] then ([], 0, 103) else if s = [37] then ([], 0, 0) else unG (s.length + 1) s 0 []
/-- So far gone, with so much taken. -/
def UnI (s : List Int) (p : Nat) (acc : List Int) : Prop := ∃ f, s.length - p < f ∧ unG f s p acc = unA s
theorem UnI.start {s : List Int} (h1 : s ≠ []) (h2 : s ≠ [37]) : UnI s 0 [] := ⟨s.length + 1, by omega, by unfold unA; rw [if_neg h1, if_neg h2]⟩
theorem unN_pos (s : List Int) (p : Nat) : 1 ≤ unN s p := by unfold unN; split <;> omega
theorem UnI.step {s : List Int} {p : Nat} {acc : List Int} (h : UnI s p acc) (hp : p < s.length) (hk : unOk s p) : UnI s (p + unN s p) (acc ++ [unB s p]) := by
  obtain ⟨f, hf, e⟩ := h
  cases f with
  | zero => omega
  | succ f =>
    have := unN_pos s p
    refine ⟨f, by omega, ?_⟩
    rw [← e]
    conv => rhs; unfold unG
    rw [if_pos hp, if_pos hk]
theorem UnI.bad {s : List Int} {p : Nat} {acc : List Int} (h : UnI s p acc) (hp : p < s.length) (hk : ¬ unOk s p) : unA s = ([], (p : Int), 103) := by
  obtain ⟨f, hf, e⟩ := h
  cases f with
  | zero => omega
  | succ f =>
    rw [← e]
    unfold unG
    rw [if_pos hp, if_neg hk]
theorem UnI.done {s : List Int} {p : Nat} {acc : List Int} (h : UnI s p acc) (hp : ¬ p < s.length) : unA s = (acc, 0, 0) := by
  obtain ⟨f, hf, e⟩ := h
  cases f with
  | zero => omega
  | succ f =>
    rw [← e]
    unfold unG
    rw [if_neg hp]
theorem unB_byt {s : List Int} (hb : Byt8 s) {p : Nat} (hk : unOk s p) : 0 ≤ unB s p ∧ unB s p < 256 := by
  unfold unB
  split
  · exact getD_byt hb p
  · rename_i h
    rcases hk with h2 | ⟨_, _, h3, h4, _⟩
    · exact absurd h2 h
    · have a := hx_lt (s.getD (p + 1) 0)
      have b := hx_lt (s.getD (p + 2) 0)
      omega
theorem index_hx (c : Nat) (h : c < 256) : Lib.indexByte [48, 49, 50, 51, 52, 53, 54, 55, 56, 57, 97, 98, 99, 100, 101, 102] (((c : Int).toNat).toUInt8) = hx c := by
  have : ∀ c : Fin 256, Lib.indexByte [48, 49, 50, 51, 52, 53, 54, 55, 56, 57, 97, 98, 99, 100, 101, 102] (((c.val : Int).toNat).toUInt8) = hx c.val := by decide +kernel
  exact this ⟨c, h⟩
end Go.Proofs.YtmfamecadomipaaDoor
