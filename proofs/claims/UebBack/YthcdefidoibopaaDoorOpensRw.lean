/- What a reading of an argument that is a row of a table's rows gives. -/
import Derived.Test.YthcdefidoibopaaDoorOpens
import Derived.Test.YthcdefidoibopaaDoorUbRow
set_option linter.unusedSimpArgs false
set_option linter.unusedVariables false
namespace Go.Proofs.YthcdefidoibopaaDoor
open Go.ChangeShapes Go.WideShapes Go.ChangeAt Go.RowKit
variable {H : Type} {enc : TypeId × Value → H} {W : World}

theorem Opn.cells_row : Tryd.prog.cellsOf 58 = 2 := by kernel_rfl
theorem Opn.cells_strR : Tryd.prog.cellsOf 9 = 1 := by kernel_rfl
theorem Opn.cells_bytesR : Tryd.prog.cellsOf 27 = 1 := by kernel_rfl
theorem open_rw {base fuel : Nat} {cs : List Value} {x : DataW H × List MemPlace} (h : DataW.trod enc Tryd.prog W base (fun _ => true) true fuel 58 cs = some x) : ∃ (r : Rw) (u : Value), HB W u r.2 ∧ cs = [.string r.1, u] := by
  obtain ⟨y0, y1, k, _, hlen, t0, t1⟩ := trod_struct2 Tryd.underlying58 h
  rw [Opn.cells_row] at hlen
  dsimp only at t0 t1
  rw [Opn.cells_strR] at t0
  rw [Opn.cells_bytesR] at t1
  obtain ⟨s, e1, _⟩ := DataW.trod_string Tryd.underlying9 t0
  obtain ⟨q, c', l, e2, k1, k2, k3, k4, k5, k6⟩ := open_row (d := y1.1) (p := y1.2) Tryd.underlying27 Tryd.underlying5 Opn.cells_u8 t1
  refine ⟨(s, l), _, ⟨⟨q, c', rfl, k1, k2, k3, k4⟩, byte_wf k5⟩, ?_⟩
  have h1 : cs = cs.take 1 ++ (cs.drop 1).take 1 := by
    rw [List.take_of_length_le (l := cs.drop 1) (by rw [List.length_drop, hlen]; omega), List.take_append_drop]
  rw [h1, e2]
  have e3 : cs.take 1 = [.string s] := e1
  rw [e3]
  rfl
theorem open_HRw {base : Nat} {v : Value} {d : DataW H} {p : List MemPlace} (h : DataW.Trod enc Tryd.prog W base (fun _ => true) true 22 v d p) (hv : ∃ a n c, v = .slice a n c) : ∃ rs, HRw W v rs := by
  obtain ⟨a, n, c, rfl⟩ := hv
  obtain ⟨fuel, hf⟩ := h
  rcases Go.Deep.open_slice Tryd.underlying22 hf with ⟨hcs, hx⟩ | ⟨a, len, cap, m, n, D, Pl, hcs, hb, hl, hm, hmm, hx, hel⟩
  · simp only [Value.cells, List.cons.injEq, and_true] at hcs
    rw [hcs]
    exact ⟨[], HRw.nil _⟩
  · simp only [Value.cells, List.cons.injEq, and_true] at hcs
    rw [hcs]
    simp only [if_true] at hmm
    subst hmm
    have each : ∀ i, i < len → ∃ t : Rw × Value, HB W t.2 t.1.2 ∧ ∀ j u, [Value.string t.1.1, t.2][j]? = some u → W.cell? ((a.add (i * 2)).add j) = some u := by
      intro i hi
      obtain ⟨cs', h1, h2⟩ := hel i (by omega)
      rw [Opn.cells_row] at h1
      obtain ⟨r, u, d1, d2⟩ := open_rw h2
      obtain ⟨_, _, hc⟩ := World.cells?_some h1
      refine ⟨(r, u), d1, fun j u' hj => ?_⟩
      have hj2 : j < 2 := by
        have := (List.getElem?_eq_some_iff.1 hj).1
        simpa using this
      rw [hc j hj2, d2]
      exact hj
    have hch : ∃ T : Nat → Rw × Value, ∀ i, i < len → HB W (T i).2 (T i).1.2 ∧ ∀ j u, [Value.string (T i).1.1, (T i).2][j]? = some u → W.cell? ((a.add (i * 2)).add j) = some u := by
      refine ⟨fun i => if hi : i < len then Classical.choose (each i hi) else (rw0, .bool false), fun i hi => ?_⟩
      simp only [hi, dif_pos]
      exact Classical.choose_spec (each i hi)
    obtain ⟨T, hT⟩ := hch
    have hlen : ((List.range len).map fun i => (T i).1).length = len := by simp
    refine ⟨(List.range len).map fun i => (T i).1, some a, m, by rw [hlen], by rw [hlen]; omega, hm, fun hne => ?_⟩
    obtain ⟨b, off, sp⟩ := a
    have h0 : 0 < len := by
      apply Classical.byContradiction
      intro h
      exact hne (by rw [show len = 0 by omega]; rfl)
    have hsp : sp = none := by
      have := (hT 0 h0).2 0 _ rfl
      simpa [Addr.add] using World.cell?_spot this
    subst hsp
    refine ⟨b, off, rfl, fun i hi => ⟨(T i).2, fun j u hj => ?_, ?_⟩⟩
    · rw [hlen] at hi
      have e : ((List.range len).map fun i => (T i).1).getD i rw0 = (T i).1 := by simp [List.getD, hi]
      rw [e] at hj
      have := (hT i hi).2 j u hj
      simpa only [Go.WideShapes.add_plain] using this
    · rw [hlen] at hi
      have e : ((List.range len).map fun i => (T i).1).getD i rw0 = (T i).1 := by simp [List.getD, hi]
      rw [e]
      exact (hT i hi).1
end Go.Proofs.YthcdefidoibopaaDoor
