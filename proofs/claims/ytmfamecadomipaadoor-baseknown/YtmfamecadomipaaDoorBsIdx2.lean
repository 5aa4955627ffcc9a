/- A text's bytes, one and two places on; a text held against a constant. -/
import Derived.Test.YtmfamecadomipaaDoorBsIdx
set_option linter.unusedSimpArgs false
set_option linter.unusedVariables false
namespace Go.Proofs.YtmfamecadomipaaDoor
open Go Go.RowKit

theorem idx_str1 (w : World) (s : ByteArray) (i : Nat) (h : i + 1 < s.size) : (Instr.index 9 (.string s) (.int .i64 ((i : Int) + 1))).run Tryd.prog w = .ok (.int .u8 ((sB s).getD (i + 1) 0)) w := by
  have := idx_str w s (i + 1) h
  rwa [Int.natCast_add] at this
theorem idx_str2 (w : World) (s : ByteArray) (i : Nat) (h : i + 2 < s.size) : (Instr.index 9 (.string s) (.int .i64 ((i : Int) + 2))).run Tryd.prog w = .ok (.int .u8 ((sB s).getD (i + 2) 0)) w := by
  have := idx_str w s (i + 2) h
  rwa [Int.natCast_add] at this
theorem s_nil {s : ByteArray} (h : s.size = 0) : sB s = [] := List.length_eq_zero_iff.1 (by rw [sB_length]; exact h)
/-- A text held against a constant. -/
theorem eq_const (s : ByteArray) (l : List UInt8) : (s.toList == l) = decide (sB s = l.map fun b => (b.toNat : Int)) := by
  have := eq_iff_sB s ⟨l.toArray⟩
  have e : (⟨l.toArray⟩ : ByteArray).toList = l := by rw [ByteArray.toList_eq]
  rw [e] at this
  rw [this]
  congr 1

end Go.Proofs.YtmfamecadomipaaDoor
