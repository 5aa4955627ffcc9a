/- A text cut at its colons: lists alone. -/
import Derived.Test.YtcgecflebplgaaaBsStr
set_option linter.unusedSimpArgs false
set_option linter.unusedVariables false
namespace Go.Proofs.Ytcgecflebplgaaa
open Go.RowKit

def fieldsL : List Int → List (List Int)
  | [] => [[]]
  | c :: r => if c = 58 then [] :: fieldsL r else (fun g : List (List Int) => (c :: g.headD []) :: g.tail) (fieldsL r)
theorem fieldsL_none : ∀ (p : List Int), 58 ∉ p → fieldsL p = [p]
  | [], _ => rfl
  | c :: p, h => by
    have h1 : c ≠ 58 := fun e => h (by simp [e])
    have h2 := fieldsL_none p (fun e => h (List.mem_cons_of_mem _ e))
    simp [fieldsL, h1, h2]
theorem fieldsL_cut : ∀ (p r : List Int), 58 ∉ p → fieldsL (p ++ 58 :: r) = p :: fieldsL r
  | [], r, _ => by simp [fieldsL]
  | c :: p, r, h => by
    have h1 : c ≠ 58 := fun e => h (by simp [e])
    have h2 := fieldsL_cut p r (fun e => h (List.mem_cons_of_mem _ e))
    rw [List.cons_append]
    simp [fieldsL, h1, h2]
theorem fieldsL_pos (l : List Int) : 0 < (fieldsL l).length := by
  cases l with
  | nil => simp [fieldsL]
  | cons c r => unfold fieldsL; split <;> simp
theorem fieldsL_len (l : List Int) : (fieldsL l).length ≤ l.length + 1 := by
  induction l with
  | nil => simp [fieldsL]
  | cons c r ih =>
    unfold fieldsL
    split
    · simp; omega
    · simp
      have := fieldsL_pos r
      omega
theorem fieldsL_no (l : List Int) : ∀ f ∈ fieldsL l, 58 ∉ f := by
  induction l with
  | nil => simp [fieldsL]
  | cons c r ih =>
    unfold fieldsL
    split
    · intro f hf
      rcases List.mem_cons.1 hf with rfl | hf
      · simp
      · exact ih f hf
    · rename_i h1
      intro f hf
      rcases List.mem_cons.1 hf with rfl | hf
      · intro h
        rcases List.mem_cons.1 h with e | h
        · exact h1 e.symm
        · revert h
          cases he : fieldsL r with
          | nil => simp
          | cons a b =>
            simp only [List.headD_cons]
            exact ih a (by simp [he])
      · exact ih f (List.mem_of_mem_tail hf)
/-- With a colon between each two. -/
def joinC : List (List Int) → List Int
  | [] => []
  | [a] => a
  | a :: b :: r => a ++ 58 :: joinC (b :: r)
theorem joinC_cons (a : List Int) (g : List (List Int)) (h : g ≠ []) : joinC (a :: g) = a ++ 58 :: joinC g := by
  cases g with
  | nil => exact absurd rfl h
  | cons b r => rfl
theorem join_fields (l : List Int) : joinC (fieldsL l) = l := by
  induction l with
  | nil => rfl
  | cons c r ih =>
    unfold fieldsL
    split
    · rename_i h1
      have hp := fieldsL_pos r
      rw [joinC_cons _ _ (by intro e; rw [e] at hp; simp at hp), ih, h1]
      rfl
    · have hp := fieldsL_pos r
      cases he : fieldsL r with
      | nil => rw [he] at hp; simp at hp
      | cons a b =>
        simp only [List.headD_cons, List.tail_cons]
        cases b with
        | nil =>
          rw [he] at ih
          simp only [joinC] at ih ⊢
          rw [ih]
        | cons x y =>
          rw [he] at ih
          simp only [joinC] at ih ⊢
          rw [← ih]
          rfl
theorem joinC_snoc (g : List (List Int)) (a : List Int) (h : g ≠ []) : joinC (g ++ [a]) = joinC g ++ 58 :: a := by
  induction g with
  | nil => exact absurd rfl h
  | cons b r ih =>
    cases r with
    | nil => rfl
    | cons x y =>
      have e1 : joinC (b :: x :: y) = b ++ 58 :: joinC (x :: y) := rfl
      have e2 : joinC ((b :: x :: y) ++ [a]) = b ++ 58 :: joinC ((x :: y) ++ [a]) := rfl
      rw [e2, ih (by simp), e1]
      simp
theorem joinC_take (g : List (List Int)) (i : Nat) (h : i < g.length) : joinC (g.take (i + 1)) = (if 0 < i then joinC (g.take i) ++ [58] else []) ++ g.getD i [] := by
  have e : g.getD i [] = g[i] := by simp [List.getD, List.getElem?_eq_getElem h]
  rw [e, List.take_succ_eq_append_getElem h]
  by_cases h0 : 0 < i
  · rw [if_pos h0, joinC_snoc _ _ (by intro e; have := congrArg List.length e; simp at this; rcases this with rfl | rfl <;> simp at h h0), List.append_assoc]
    rfl
  · have : i = 0 := by omega
    subst this
    simp [joinC]
theorem joinC_le (g : List (List Int)) (i : Nat) (h : i < g.length) : (joinC (g.take (i + 1))).length ≤ (joinC g).length := by
  induction g generalizing i with
  | nil => simp at h
  | cons a r ih =>
    cases r with
    | nil => simp
    | cons b s =>
      cases i with
      | zero => rw [joinC_cons a (b :: s) (by simp)]; simp [joinC]
      | succ i =>
        have := ih i (by simp at h ⊢; omega)
        rw [List.take_succ_cons, joinC_cons a (b :: s) (by simp), joinC_cons a _ (by simp)]
        simp at this ⊢
        omega
theorem joinC_take_le (g : List (List Int)) (i : Nat) (h : i ≤ g.length) : (joinC (g.take i)).length ≤ (joinC g).length := by
  cases i with
  | zero => simp [joinC]
  | succ i => exact joinC_le g i (by omega)
/-- The text of a list of bytes, as a value. -/
def strV (l : List Int) : Value := .string (bS l)
end Go.Proofs.Ytcgecflebplgaaa
