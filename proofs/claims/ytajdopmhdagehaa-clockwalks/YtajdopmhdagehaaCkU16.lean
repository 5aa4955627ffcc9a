/- Rows of numbers of sixteen bits. -/
import Derived.Test.YtajdopmhdagehaaBase
set_option linter.unusedVariables false
namespace Go.Proofs.Ytajdopmhdagehaa
open Go Go.RowKit

/-- v is a slice of the numbers l, of sixteen bits each. -/
def H16 (w : World) (v : Value) (l : List Int) : Prop :=
  (∃ (p : Option Addr) (c : Nat), v = .slice p l.length c ∧ l.length ≤ c ∧ c ≤ maxLen ∧ (p = none → c = 0) ∧
    (l ≠ [] → ∃ b off, p = some ⟨b, off, none⟩ ∧ ∀ j, j < l.length → w.cell? ⟨b, off + j, none⟩ = some (.int .u16 (l.getD j 0)))) ∧ ∀ x ∈ l, 0 ≤ x ∧ x < 65536
theorem H16.at {l : List Int} (h : ∀ x ∈ l, 0 ≤ x ∧ x < 65536) (i : Nat) : 0 ≤ l.getD i 0 ∧ l.getD i 0 < 65536 := by
  by_cases hi : i < l.length
  · have e : l.getD i 0 = l[i] := by simp [hi]
    rw [e]
    exact h _ (List.getElem_mem hi)
  · have e : l.getD i 0 = 0 := by simp; rw [List.getElem?_eq_none (by omega)]; rfl
    rw [e]
    omega
end Go.Proofs.Ytajdopmhdagehaa
