/- A text's bytes and its parts. -/
import Derived.Test.YtajdopmhdagehaaBsStr
import Derived.WalkKit
set_option linter.unusedSimpArgs false
set_option linter.unusedVariables false
namespace Go.Proofs.Ytajdopmhdagehaa
open Go Go.RowKit

theorem idx_str (w : World) (s : ByteArray) (i : Nat) (h : i < s.size) : (Instr.index 9 (.string s) (.int .i64 (i : Int))).run Try.prog w = .ok (.int .u8 ((sB s).getD i 0)) w := by
  rw [run_index_string w 9 s .i64 i Try.underlying9, dif_pos (by omega)]
  congr 2
  rw [← sB_get s i h]
  congr
theorem cut_str (w : World) (s : ByteArray) (i j : Nat) (h : i ≤ j) (hj : j ≤ s.size) : (Instr.slice 9 (.string s) (some (.int .i64 (i : Int))) (some (.int .i64 (j : Int))) none).run Try.prog w = .ok (.string (bS (((sB s).drop i).take (j - i)))) w := by
  rw [run_slice_string w 9 s .i64 .i64 i j Try.underlying9 (by omega) (by omega) (by omega), ← sB_cut, bS_sB]
  congr
theorem cut_str_end (w : World) (s : ByteArray) (i : Nat) (h : i ≤ s.size) : (Instr.slice 9 (.string s) (some (.int .i64 (i : Int))) none none).run Try.prog w = .ok (.string (bS ((sB s).drop i))) w := by
  have e : bS ((sB s).drop i) = s.extract i s.size := by
    apply sB_inj
    rw [sB_cut, sB_bS (fun x hx => sB_byt s x (List.mem_of_mem_drop hx)), List.take_of_length_le (by rw [List.length_drop, sB_length]; exact Nat.le_refl _)]
  rw [e]
  simp [Instr.slice, Instr.sliceBounds, Instr.sliceBound, asIntOf, run_underlying Try.underlying9, h]
/-- 'string(b)', b a slice of the bytes l. -/
theorem conv_str {w : World} {v : Value} {l : List Int} (h : HB w v l) : (convert 46 9 v).run Try.prog w = .ok (.string (bS l)) w := by
  have hby : Byt8 l := h.2
  by_cases h0 : 0 < l.length
  · obtain ⟨b, off, c, rfl, _, _, hc⟩ := h.ne h0
    obtain ⟨u, Hu⟩ : ∃ u : List UInt8, l.map (fun x => UInt8.ofNat x.toNat) = u := ⟨_, rfl⟩
    have hul : u.length = l.length := by rw [← Hu]; simp
    have := run_convert_bytes_back (P := Try.prog) w 46 9 5 ⟨b, off, none⟩ c u Try.underlying46 Try.underlying5 Try.underlying9 (by
      intro j hj
      rw [Go.WideShapes.add_plain, hc j (by omega)]
      subst Hu
      simp only [List.getElem_map, UInt8.toNat_ofNat']
      rw [getD_of_lt (by omega)]
      have := hby _ (List.getElem_mem (by omega : j < l.length))
      congr 2
      omega)
    rw [hul] at this
    rw [this]
    unfold bS
    rw [Hu]
  · have e : l = [] := List.length_eq_zero_iff.1 (by omega)
    subst e
    obtain ⟨p, c, rfl, _, _⟩ := h.open
    cases p with
    | none =>
      rw [List.length_nil, run_convert_bytes_string w 46 9 5 none 0 c Try.underlying46 Try.underlying5 Try.underlying9]
      simp [Conv.bytesToString, loadCells, bS]
      rfl
    | some a =>
      exact run_convert_bytes_back (P := Try.prog) w 46 9 5 a c [] Try.underlying46 Try.underlying5 Try.underlying9 (by intro j hj; simp at hj)
end Go.Proofs.Ytajdopmhdagehaa
