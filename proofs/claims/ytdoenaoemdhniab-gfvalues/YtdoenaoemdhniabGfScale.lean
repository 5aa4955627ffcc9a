/- gf.Scale and the document's, walked. -/
import Derived.Test.YtdoenaoemdhniabGfDot
set_option linter.unusedSimpArgs false
set_option linter.unusedVariables false
namespace Go.Proofs.Ytdoenaoemdhniab
open Go Go.RowKit

/-- A list times an element. -/
def scL (l : List Int) (b : Nat) : List Int := l.map fun x => ((prod x.toNat b : Nat) : Int)
theorem scL_length (l : List Int) (b : Nat) : (scL l b).length = l.length := by simp [scL]
theorem scL_get (l : List Int) (b k : Nat) (h : k < l.length) : (scL l b).getD k 0 = ((prod (gN l k) b : Nat) : Int) := by
  simp [scL, gN, List.getD, List.getElem?_eq_getElem h]
theorem scL_byt {l : List Int} (hl : ∀ x ∈ l, 0 ≤ x ∧ x < 256) (b : Nat) : ∀ x ∈ scL l b, 0 ≤ x ∧ x < 256 := by
  intro x hx
  obtain ⟨y, hy, rfl⟩ := List.mem_map.1 hx
  have := prod_lt (a := y.toNat) b (by have := hl y hy; omega)
  omega
/-- The first k of a list, and noughts. -/
def partTo (L : List Int) (k : Nat) : List Int := L.take k ++ List.replicate (L.length - k) 0
theorem partTo_length (L : List Int) (k : Nat) (h : k ≤ L.length) : (partTo L k).length = L.length := by simp [partTo]; omega
theorem partTo_step (L : List Int) (k : Nat) (h : k < L.length) : (partTo L k).set k (L.getD k 0) = partTo L (k + 1) := by
  unfold partTo
  rw [List.set_append_right _ _ (by rw [List.length_take]; omega), List.length_take, Nat.min_eq_left (Nat.le_of_lt h), Nat.sub_self, show L.length - k = (L.length - (k + 1)) + 1 by omega, List.replicate_succ, List.set_cons_zero, List.take_succ_eq_append_getElem h, getD_of_lt h, List.append_assoc]
  rfl
theorem partTo_all (L : List Int) : partTo L L.length = L := by simp [partTo]
theorem partTo_none (L : List Int) : partTo L 0 = List.replicate L.length 0 := by simp [partTo]

end Go.Proofs.Ytdoenaoemdhniab
