/- Texts laid together: OpensNd, OpensNL. -/
import Derived.Test.YtjmlpkemjafifaaDoorOpensDig
import Derived.Test.YtjmlpkemjafifaaDoorGrPfA
import Derived.Test.YtjmlpkemjafifaaDoorGrPfD

/- What a reading of an argument that is a row of nodes, or a digest, gives. -/
set_option linter.unusedSimpArgs false
set_option linter.unusedVariables false
namespace Go.Proofs.YtjmlpkemjafifaaDoor
open Go.ChangeShapes Go.WideShapes Go.ChangeAt Go.RowKit
variable {H : Type} {enc : TypeId × Value → H} {W : World}

theorem Opn.cells_node : Tryd.prog.cellsOf 60 = 33 := by kernel_rfl
theorem Opn.cells_intN : Tryd.prog.cellsOf 3 = 1 := by kernel_rfl
theorem open_nd {base fuel : Nat} {cs : List Value} {x : DataW H × List MemPlace} (h : DataW.trod enc Tryd.prog W base (fun _ => true) true fuel 60 cs = some x) : ∃ n : NdT, Nd n ∧ cs = nc n := by
  obtain ⟨y0, y1, k, _, hlen, t0, t1⟩ := trod_struct2 Tryd.underlying60 h
  rw [Opn.cells_node] at hlen
  dsimp only at t0 t1
  rw [Opn.cells_intN] at t0
  rw [Opn.cells_dig] at t1
  obtain ⟨z, e1, _, w1⟩ := DataW.trod_int Tryd.underlying3 t0
  obtain ⟨d, d1, d2⟩ := open_dig t1
  have hb := bounds_i64 w1
  refine ⟨(z, d), ⟨d1, by show _ ≤ z; omega, by show z < _; omega⟩, ?_⟩
  have h1 : cs = cs.take 1 ++ (cs.drop 1).take 32 := by
    rw [List.take_of_length_le (l := cs.drop 1) (by rw [List.length_drop, hlen]; omega), List.take_append_drop]
  rw [h1, d2]
  have e2 : cs.take 1 = [.int .i64 z] := e1
  rw [e2]
  rfl
theorem open_HNd {base : Nat} {v : Value} {d : DataW H} {p : List MemPlace} (h : DataW.Trod enc Tryd.prog W base (fun _ => true) true 53 v d p) (hv : ∃ a n c, v = .slice a n c) : ∃ ns, HNd W v ns := by
  obtain ⟨a, n, c, rfl⟩ := hv
  obtain ⟨fuel, hf⟩ := h
  rcases Go.Deep.open_slice Tryd.underlying53 hf with ⟨hcs, hx⟩ | ⟨a, len, cap, m, n, D, Pl, hcs, hb, hl, hm, hmm, hx, hel⟩
  · simp only [Value.cells, List.cons.injEq, and_true] at hcs
    rw [hcs]
    exact ⟨[], ⟨none, 0, rfl, Nat.le_refl _, Nat.zero_le _, fun h => absurd rfl h⟩, fun d hd => by cases hd⟩
  · simp only [Value.cells, List.cons.injEq, and_true] at hcs
    rw [hcs]
    simp only [if_true] at hmm
    subst hmm
    have each : ∀ i, i < len → ∃ t : NdT, Nd t ∧ ∀ j u, (nc t)[j]? = some u → W.cell? ((a.add (i * 33)).add j) = some u := by
      intro i hi
      obtain ⟨cs', h1, h2⟩ := hel i (by omega)
      rw [Opn.cells_node] at h1
      obtain ⟨dd, d1, d2⟩ := open_nd h2
      obtain ⟨_, _, hc⟩ := World.cells?_some h1
      refine ⟨dd, d1, fun j u hj => ?_⟩
      have hj2 : j < 33 := by
        have := (List.getElem?_eq_some_iff.1 hj).1
        rwa [nc_length d1] at this
      rw [hc j hj2, d2]
      exact hj
    have hch : ∃ T : Nat → NdT, ∀ i, i < len → Nd (T i) ∧ ∀ j u, (nc (T i))[j]? = some u → W.cell? ((a.add (i * 33)).add j) = some u := by
      refine ⟨fun i => if hi : i < len then Classical.choose (each i hi) else (0, []), fun i hi => ?_⟩
      simp only [hi, dif_pos]
      exact Classical.choose_spec (each i hi)
    obtain ⟨T, hT⟩ := hch
    have hlen : ((List.range len).map T).length = len := by simp
    refine ⟨(List.range len).map T, ⟨some a, m, by rw [hlen], by rw [hlen]; omega, hm, fun hne => ?_⟩, fun d hd => ?_⟩
    · obtain ⟨b, off, sp⟩ := a
      have h0 : 0 < len := by
        apply Classical.byContradiction
        intro h
        exact hne (by rw [show len = 0 by omega]; rfl)
      have hsp : sp = none := by
        have := (hT 0 h0).2 0 _ (List.getElem?_eq_getElem (by rw [nc_length (hT 0 h0).1]; omega))
        simpa [Addr.add] using World.cell?_spot this
      subst hsp
      refine ⟨b, off, rfl, fun i hi j u hj => ?_⟩
      rw [hlen] at hi
      have e : ((List.range len).map T).getD i (0, []) = T i := by simp [List.getD, hi]
      rw [e] at hj
      have := (hT i hi).2 j u hj
      simpa only [Go.WideShapes.add_plain] using this
    · obtain ⟨i, hi, rfl⟩ := List.mem_map.1 hd
      exact (hT i (List.mem_range.1 hi)).1
set_option maxRecDepth 100000 in
theorem open_digV {base : Nat} {v : Value} {d : DataW H} {p : List MemPlace} (hv : Value.okWide Tryd.prog W .any base 28 v) (h : DataW.Trod enc Tryd.prog W 0 (fun _ => true) true 28 v d p) : ∃ l : List Int, D32 l ∧ v = .agg (cellsB l) := by
  simp only [Value.okWide, Tryd.underlying28] at hv
  obtain ⟨cs, rfl, _⟩ := hv
  obtain ⟨m, hm⟩ := h
  obtain ⟨l, h1, h2⟩ := open_dig hm
  refine ⟨l, h1, ?_⟩
  congr 1
  have h3 : cs.toList = dc l := h2
  rw [← dc_arr, ← h3]
end Go.Proofs.YtjmlpkemjafifaaDoor

/- What a reading of an argument that is a row of rows of nodes gives. -/
set_option linter.unusedSimpArgs false
set_option linter.unusedVariables false
namespace Go.Proofs.YtjmlpkemjafifaaDoor
open Go.ChangeShapes Go.WideShapes Go.ChangeAt Go.RowKit
variable {H : Type} {enc : TypeId × Value → H} {W : World}

theorem Opn.cells_nds : Tryd.prog.cellsOf 53 = 1 := by kernel_rfl
theorem open_nds {base fuel : Nat} {cs : List Value} {x : DataW H × List MemPlace} (h : DataW.trod enc Tryd.prog W base (fun _ => true) true fuel 53 cs = some x) : ∃ v ns, cs = [v] ∧ HNd W v ns := by
  have hv : ∃ a n c, cs = (Value.slice a n c).cells.toList := by
    rcases Go.Deep.open_slice Tryd.underlying53 h with ⟨hcs, hx⟩ | ⟨a, len, cap, m, n, D, Pl, hcs, hb, hl, hm, hmm, hx, hel⟩
    · exact ⟨none, 0, 0, by rw [hcs]; rfl⟩
    · exact ⟨some a, len, cap, by rw [hcs]; rfl⟩
  obtain ⟨a, n, c, rfl⟩ := hv
  obtain ⟨ns, hn⟩ := open_HNd (v := .slice a n c) (d := x.1) (p := x.2) ⟨fuel, h⟩ ⟨a, n, c, rfl⟩
  exact ⟨_, ns, rfl, hn⟩
theorem open_HNL {base : Nat} {v : Value} {d : DataW H} {p : List MemPlace} (h : DataW.Trod enc Tryd.prog W base (fun _ => true) true 67 v d p) (hv : ∃ a n c, v = .slice a n c) : ∃ ls, HNL W v ls := by
  obtain ⟨a, n, c, rfl⟩ := hv
  obtain ⟨fuel, hf⟩ := h
  rcases Go.Deep.open_slice Tryd.underlying67 hf with ⟨hcs, hx⟩ | ⟨a, len, cap, m, n, D, Pl, hcs, hb, hl, hm, hmm, hx, hel⟩
  · simp only [Value.cells, List.cons.injEq, and_true] at hcs
    rw [hcs]
    exact ⟨[], none, 0, rfl, Nat.le_refl _, Nat.zero_le _, fun h => absurd rfl h⟩
  · simp only [Value.cells, List.cons.injEq, and_true] at hcs
    rw [hcs]
    simp only [if_true] at hmm
    subst hmm
    have each : ∀ i, i < len → ∃ t : List NdT, ∃ u, W.cell? (a.add i) = some u ∧ HNd W u t := by
      intro i hi
      obtain ⟨cs', h1, h2⟩ := hel i (by omega)
      rw [Opn.cells_nds] at h1
      obtain ⟨u, ns, e1, e2⟩ := open_nds h2
      subst e1
      obtain ⟨_, _, hc⟩ := World.cells?_some h1
      have := hc 0 (by omega)
      refine ⟨ns, u, ?_, e2⟩
      have e3 : (a.add (i * 1)).add 0 = a.add i := by simp [Addr.add]
      rw [e3] at this
      exact this
    have hch : ∃ T : Nat → List NdT, ∀ i, i < len → ∃ u, W.cell? (a.add i) = some u ∧ HNd W u (T i) := by
      refine ⟨fun i => if hi : i < len then Classical.choose (each i hi) else [], fun i hi => ?_⟩
      simp only [hi, dif_pos]
      exact Classical.choose_spec (each i hi)
    obtain ⟨T, hT⟩ := hch
    have hlen : ((List.range len).map T).length = len := by simp
    refine ⟨(List.range len).map T, some a, m, by rw [hlen], by rw [hlen]; omega, hm, fun hne => ?_⟩
    obtain ⟨b, off, sp⟩ := a
    have h0 : 0 < len := by
      apply Classical.byContradiction
      intro h
      exact hne (by rw [show len = 0 by omega]; rfl)
    have hsp : sp = none := by
      obtain ⟨u, hu, _⟩ := hT 0 h0
      simpa [Addr.add] using World.cell?_spot hu
    subst hsp
    refine ⟨b, off, rfl, fun i hi => ?_⟩
    rw [hlen] at hi
    have e : ((List.range len).map T).getD i [] = T i := by simp [List.getD, hi]
    rw [e]
    obtain ⟨u, hu, hn⟩ := hT i hi
    refine ⟨u, ?_, hn⟩
    simpa only [Go.WideShapes.add_plain] using hu
end Go.Proofs.YtjmlpkemjafifaaDoor
