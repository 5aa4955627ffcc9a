/- base.Letters, walked. -/
import Derived.Test.YtcgecflebplgaaaBsLen
import Derived.Test.YtcgecflebplgaaaBsArr
set_option linter.unusedSimpArgs false
set_option linter.unusedVariables false
namespace Go.Proofs.Ytcgecflebplgaaa
open Go Go.RowKit

def alphN : List Nat := [97, 98, 99, 100, 101, 102, 103, 104, 105, 106, 107, 108, 109, 110, 111, 112, 113, 114, 115, 116, 117, 118, 119, 120, 121, 122, 50, 51, 52, 53, 54, 55]
theorem alphN_alph (v : Nat) (h : v < 32) : ((alphN.getD v 0 : Nat) : Int) = alph.getD v 0 := by
  have : ∀ v : Fin 32, ((alphN.getD v.val 0 : Nat) : Int) = alph.getD v.val 0 := by decide
  exact this ⟨v, h⟩
set_option maxRecDepth 100000 in
set_option maxHeartbeats 4000000 in
theorem alphabet_any (w : World) : Calls Try.prog 29 #[] w fun e w' => e = .returned (.agg (cells8 alphN)) ∧ Below w.heap.size w w' := by
  obtain ⟨z, HZ⟩ : ∃ z, Hid (cells8 (zeros8 32) = z) := ⟨_, rfl⟩
  have hz := zero_b32
  rw [HZ.out] at hz
  have HZ0 := hid hz
  clear hz
  obtain ⟨m, Hm⟩ : ∃ m, Hid (cells8 alphN = m) := ⟨_, rfl⟩
  have HmL : Hid (Value.agg #[.int .u8 97, .int .u8 98, .int .u8 99, .int .u8 100, .int .u8 101, .int .u8 102, .int .u8 103, .int .u8 104, .int .u8 105, .int .u8 106, .int .u8 107, .int .u8 108, .int .u8 109, .int .u8 110, .int .u8 111, .int .u8 112, .int .u8 113, .int .u8 114, .int .u8 115, .int .u8 116, .int .u8 117, .int .u8 118, .int .u8 119, .int .u8 120, .int .u8 121, .int .u8 122, .int .u8 50, .int .u8 51, .int .u8 52, .int .u8 53, .int .u8 54, .int .u8 55] = Value.agg m) := by rw [← Hm.out]; exact rfl
  have hms : m.size = 32 := by rw [← Hm.out, cells8_size]; rfl
  have HIm : Hid ((Try.prog.info? 44).map (·.size) = some m.size) := by rw [hms]; exact size_b32
  have H1m : Hid (m.all (·.oneCell') = true) := by rw [← Hm.out]; exact cells8_one _
  have HZM : Hid (z.size = m.size) := by rw [hms, ← HZ.out, cells8_size, zeros8_length]; exact rfl
  have H0q : Hid ((w.alloc (.cells z 44)).heap[w.heap.size]? = some (.cells z 44 (0, 0))) := heap_alloc_new w _
  have HBF := hid (below_setRow ((Below.refl w.heap.size w).alloc (Nat.le_refl _) (.cells z 44)) (g := w.heap.size) (Nat.le_refl _) m)
  rw [Hm.out]
  go_enter Try.func29, Try.ntmps29
  go_wp2_with (first | (refine wpList_alloc_agg HZ0.out rfl rfl ?_) | (refine wpList_store_row rfl 44 _ _ rfl w.heap.size m rfl (by exact HmL.out) 44 _ H0q.out HIm.out HZM.out H1m.out ?_))
  refine bodyPost_ret (v := .agg m) (results_cell_row (p := 0) (ty := 44) rfl _ _ w.heap.size 44 m (0, 0) _ rfl (setRow_heap _ _ _ _ _ _ H0q.out) Try.underlying44 rfl HIm.out) rfl ?_
  exact ⟨rfl, HBF.out⟩
/-- 'string(b)', b a slice of the bytes l. -/
theorem conv_str {w : World} {v : Value} {l : List Int} (h : HB w v l) : (convert 22 9 v).run Try.prog w = .ok (.string (bS l)) w := by
  have hby : Byt8 l := h.2
  by_cases h0 : 0 < l.length
  · obtain ⟨b, off, c, rfl, _, _, hc⟩ := h.ne h0
    obtain ⟨u, Hu⟩ : ∃ u : List UInt8, l.map (fun x => UInt8.ofNat x.toNat) = u := ⟨_, rfl⟩
    have hul : u.length = l.length := by rw [← Hu]; simp
    have := run_convert_bytes_back (P := Try.prog) w 22 9 5 ⟨b, off, none⟩ c u Try.underlying22 Try.underlying5 Try.underlying9 (by
      intro j hj
      rw [Go.WideShapes.add_plain, hc j (by omega)]
      subst Hu
      simp only [List.getElem_map, UInt8.toNat_ofNat']
      rw [getD_of_lt (by omega)]
      have := hby _ (List.getElem_mem (by omega : j < l.length))
      congr 2
      omega)
    rw [hul] at this
    rw [this]
    unfold bS
    rw [Hu]
  · have e : l = [] := List.length_eq_zero_iff.1 (by omega)
    subst e
    obtain ⟨p, c, rfl, _, _⟩ := h.open
    cases p with
    | none =>
      rw [List.length_nil, run_convert_bytes_string w 22 9 5 none 0 c Try.underlying22 Try.underlying5 Try.underlying9]
      simp [Conv.bytesToString, loadCells, bS]
      rfl
    | some a =>
      exact run_convert_bytes_back (P := Try.prog) w 22 9 5 a c [] Try.underlying22 Try.underlying5 Try.underlying9 (by intro j hj; simp at hj)
end Go.Proofs.Ytcgecflebplgaaa
