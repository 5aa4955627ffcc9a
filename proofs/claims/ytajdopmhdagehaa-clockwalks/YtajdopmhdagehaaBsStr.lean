/- Strings as lists of bytes. -/
import Derived.Test.YtajdopmhdagehaaU8
import Derived.Laws.IdiomStrings
import Derived.Laws.Strings
import Derived.Laws.Strings2
import Derived.Laws.Concat
import Derived.Lib.Strings
set_option linter.unusedSimpArgs false
set_option linter.unusedVariables false
namespace Go.Proofs.Ytajdopmhdagehaa
open Go.RowKit

/-- The text of a list of bytes. -/
def bS (l : List Int) : ByteArray := ⟨(l.map fun x => UInt8.ofNat x.toNat).toArray⟩
/-- The bytes of a text. -/
def sB (s : ByteArray) : List Int := s.data.toList.map fun b => (b.toNat : Int)
def Byt8 (l : List Int) : Prop := ∀ x ∈ l, 0 ≤ x ∧ x < 256
theorem sB_bS {l : List Int} (h : Byt8 l) : sB (bS l) = l := by
  unfold sB bS
  simp only [List.map_map]
  have : ∀ x ∈ l, ((fun b : UInt8 => (b.toNat : Int)) ∘ fun x : Int => UInt8.ofNat x.toNat) x = x := by
    intro x hx
    have := h x hx
    simp only [Function.comp, UInt8.toNat_ofNat']
    omega
  rw [List.map_congr_left this, List.map_id']
theorem bS_sB (s : ByteArray) : bS (sB s) = s := by
  unfold sB bS
  simp only [List.map_map]
  have : ∀ x ∈ s.data.toList, ((fun x : Int => UInt8.ofNat x.toNat) ∘ fun b : UInt8 => (b.toNat : Int)) x = x := by
    intro x hx
    simp
  rw [List.map_congr_left this, List.map_id']
theorem sB_byt (s : ByteArray) : Byt8 (sB s) := by
  intro x hx
  obtain ⟨b, _, rfl⟩ := List.mem_map.1 hx
  have := b.toNat_lt
  omega
theorem sB_length (s : ByteArray) : (sB s).length = s.size := by
  unfold sB
  rw [List.length_map]
  exact (Lib.size_eq s).symm
theorem bS_size (l : List Int) : (bS l).size = l.length := by
  simp [bS, ByteArray.size]
theorem sB_inj {a b : ByteArray} (h : sB a = sB b) : a = b := by rw [← bS_sB a, h, bS_sB]
theorem sB_get (s : ByteArray) (i : Nat) (h : i < s.size) : (s[i].toNat : Int) = (sB s).getD i 0 := by
  have h2 : i < (sB s).length := by rw [sB_length]; exact h
  rw [getD_of_lt h2]
  simp [sB]
  rfl
theorem sB_cut (s : ByteArray) (a b : Nat) : sB (s.extract a b) = ((sB s).drop a).take (b - a) := by
  unfold sB
  rw [Lib.extract_data, List.map_take, List.map_drop]
theorem sB_app (a b : ByteArray) : sB (a ++ b) = sB a ++ sB b := by
  unfold sB
  rw [← List.map_append]
  congr 1
theorem eq_iff_sB (a b : ByteArray) : (a.toList == b.toList) = decide (sB a = sB b) := by
  rw [ByteArray.toList_eq, ByteArray.toList_eq]
  by_cases h : a = b
  · subst h; simp
  · have h2 : ¬ sB a = sB b := fun e => h (sB_inj e)
    have h3 : ¬ a.data.toList = b.data.toList := by
      intro e
      apply h2
      unfold sB
      rw [e]
    simp [h2, h3]
    intro e
    exact h3 (by rw [e])
end Go.Proofs.Ytajdopmhdagehaa
