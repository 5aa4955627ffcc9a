/- What a reading of a request, and of a reply, gives: its fields, and what its slices hold. -/
import Derived.Test.YtmegeogfpkdodaaOpens
import Derived.Test.YtmegeogfpkdodaaWrAsksWalk
import Derived.Test.YtmegeogfpkdodaaWrTellsWalk
import Derived.ChangeArms
set_option linter.unusedSimpArgs false
set_option linter.unusedVariables false
namespace Go.Proofs.Ytmegeogfpkdodaa
open Go.ChangeShapes Go.WideShapes Go.ChangeAt Go.RowKit
variable {H : Type} {enc : TypeId × Value → H} {W : World}

theorem Opn.cells_kind : Try.prog.cellsOf 30 = 1 := by kernel_rfl
theorem Opn.cells_rkind : Try.prog.cellsOf 39 = 1 := by kernel_rfl
theorem Opn.cells_u32 : Try.prog.cellsOf 33 = 1 := by kernel_rfl
theorem Opn.cells_ix : Try.prog.cellsOf 32 = 16 := by kernel_rfl
theorem Opn.cells_lease : Try.prog.cellsOf 35 = 2 := by kernel_rfl
theorem Opn.cells_ints : Try.prog.cellsOf 40 = 1 := by kernel_rfl
theorem Opn.cells_req : Try.prog.cellsOf 38 = 23 := by kernel_rfl
theorem Opn.cells_rep : Try.prog.cellsOf 42 = 3 := by kernel_rfl
theorem open_ixQ {base fuel : Nat} {cs : List Value} {x : DataW H × List MemPlace} (h : DataW.trod enc Try.prog W base (fun _ => true) true fuel 32 cs = some x) : ∃ d : List Int, (d.length = 16 ∧ ∀ x ∈ d, 0 ≤ x ∧ x < 256) ∧ cs = d.map (Value.int .u8) := by
  obtain ⟨xs, m, rfl, rfl, hl, hxl, hx⟩ := DataW.trod_array Try.underlying32 h
  rw [Opn.cells_ix] at hl
  have each : ∀ j, j < 16 → ∃ k : Int, (0 ≤ k ∧ k < 256) ∧ cs[j]? = some (.int .u8 k) := fun j hj => by
    have hj2 := hx j hj
    rw [Opn.cells_u8, List.getElem?_eq_getElem (by omega)] at hj2
    obtain ⟨z, e1, _, w1⟩ := DataW.trod_int Try.underlying5 hj2
    refine ⟨z, by have := bounds_u8 w1; omega, ?_⟩
    have e2 : ((cs.drop (j * 1)).take 1)[0]? = some (.int .u8 z) := by rw [e1]; rfl
    rw [List.getElem?_take, if_pos (by decide), List.getElem?_drop] at e2
    simpa using e2
  refine ⟨(List.range 16).map fun j => if hj : j < 16 then Classical.choose (each j hj) else 0, ⟨by simp, fun y hy => ?_⟩, ?_⟩
  · obtain ⟨j, hj, rfl⟩ := List.mem_map.1 hy
    have hj' := List.mem_range.1 hj
    simp only [hj', dif_pos]
    exact (Classical.choose_spec (each j hj')).1
  · rw [List.map_map]
    refine List.ext_getElem? fun j => ?_
    by_cases hj : j < 16
    · rw [(Classical.choose_spec (each j hj)).2]
      simp [hj]
    · rw [List.getElem?_eq_none (by omega), List.getElem?_eq_none (by simp; omega)]
theorem open_intQ {base fuel : Nat} {cs : List Value} {x : DataW H × List MemPlace} (h : DataW.trod enc Try.prog W base (fun _ => true) true fuel 3 cs = some x) : ∃ z : Int, cs = [.int .i64 z] := by
  obtain ⟨z, e1, _, w1⟩ := DataW.trod_int Try.underlying3 h
  exact ⟨z, e1⟩
theorem open_bytQ {base fuel : Nat} {cs : List Value} {x : DataW H × List MemPlace} (h : DataW.trod enc Try.prog W base (fun _ => true) true fuel 36 cs = some x) : ∃ v l, cs = [v] ∧ HB W v l := by
  obtain ⟨d, p⟩ := x
  obtain ⟨q, c', l, hcs, h1, h2, h3, h4, h5, h6⟩ := open_row Try.underlying36 Try.underlying5 Opn.cells_u8 h
  exact ⟨_, l, hcs, ⟨⟨q, c', rfl, h1, h2, h3, h4⟩, byte_wf h5⟩⟩
theorem open_intsQ {base fuel : Nat} {cs : List Value} {x : DataW H × List MemPlace} (h : DataW.trod enc Try.prog W base (fun _ => true) true fuel 40 cs = some x) : ∃ v l, cs = [v] ∧ I.HB W v l := by
  obtain ⟨d, p⟩ := x
  obtain ⟨q, c', l, hcs, h1, h2, h3, h4, h5, h6⟩ := open_row Try.underlying40 Try.underlying3 Opn.cells_int h
  exact ⟨_, l, hcs, ⟨⟨q, c', rfl, h1, h2, h3, h4⟩, fun x hx => by have := bounds_i64 (h5 x hx); omega⟩⟩
theorem part_ofQ {cs : List Value} {o n : Nat} {l : List Value} (h : (cs.drop o).take n = l) (hn : l.length = n) (m : List Value) (hm : cs.drop (o + n) = m) : cs.drop o = l ++ m := by
  rw [← List.take_append_drop n (cs.drop o), h, List.drop_drop, hm]
theorem wf_u32 {n : Int} (h : (Lit.int .u32 n).wf = true) : 0 ≤ n ∧ n < 4294967296 := by
  simp [Lit.wf, IntKind.min, IntKind.max, IntKind.signed, IntKind.bits] at h
  omega
theorem open_leaseQ {base fuel : Nat} {cs : List Value} {x : DataW H × List MemPlace} (hm : DataW.trod enc Try.prog W base (fun _ => true) true fuel 35 cs = some x) : ∃ who til : Int, (0 ≤ who ∧ who < 4294967296) ∧ cs = [.int .u32 who, .int .i64 til] := by
  obtain ⟨xs, n, rfl, _, hl, hxl, g⟩ := DataW.trod_struct Try.underlying35 hm
  rw [Opn.cells_lease] at hl
  have hx : ∀ i, i < 2 → ∃ x, xs[i]? = some x := fun i hi => ⟨_, List.getElem?_eq_getElem (by rw [hxl]; exact hi)⟩
  obtain ⟨x0, e0⟩ := hx 0 (by omega)
  obtain ⟨x1, e1⟩ := hx 1 (by omega)
  have f0 : DataW.trod enc Try.prog W base (fun _ => true) true n 33 ((cs.drop 0).take (Try.prog.cellsOf 33)) = xs[0]? := g 0 _ rfl
  have f1 : DataW.trod enc Try.prog W base (fun _ => true) true n 3 ((cs.drop 1).take (Try.prog.cellsOf 3)) = xs[1]? := g 1 _ rfl
  rw [e0, Opn.cells_u32] at f0
  rw [e1, Opn.cells_int] at f1
  obtain ⟨who, q0, _, w0⟩ := DataW.trod_int Try.underlying33 f0
  obtain ⟨til, q1⟩ := open_intQ f1
  refine ⟨who, til, wf_u32 w0, ?_⟩
  have h2 : cs.drop 2 = [] := List.drop_eq_nil_of_le (by omega)
  have h1 := part_ofQ q1 rfl _ h2
  have h0 := part_ofQ q0 rfl _ h1
  rw [List.drop_zero] at h0
  rw [h0]
  rfl
set_option maxRecDepth 100000 in
theorem open_reqV {base b0 : Nat} {v : Value} {d : DataW H} {p : List MemPlace} (hv : Value.okWide Try.prog W .any b0 38 v) (h : DataW.Trod enc Try.prog W base (fun _ => true) true 38 v d p) :
    ∃ (r : Rq) (u : Value) (l : List Int), r.ok ∧ (0 ≤ r.k ∧ r.k < 256) ∧ (0 ≤ r.who ∧ r.who < 4294967296) ∧ HB W u l ∧ v = .agg (rqA r u) := by
  simp only [Value.okWide, Try.underlying38] at hv
  obtain ⟨ca, rfl, _⟩ := hv
  obtain ⟨m, hm⟩ := h
  obtain ⟨xs, n, rfl, _, hl, hxl, hf⟩ := DataW.trod_struct Try.underlying38 hm
  rw [Opn.cells_req] at hl
  obtain ⟨cs, hcs⟩ : ∃ cs : List Value, ca.toList = cs := ⟨_, rfl⟩
  have hl : cs.length = 23 := by rw [← hcs]; exact hl
  have g : ∀ (i : Nat) (f : Field), _ → DataW.trod enc Try.prog W base (fun _ => true) true n f.type ((cs.drop f.offset).take (Try.prog.cellsOf f.type)) = xs[i]? := fun i f hi => by rw [← hcs]; exact hf i f hi
  have hx : ∀ i, i < 7 → ∃ x, xs[i]? = some x := fun i hi => ⟨_, List.getElem?_eq_getElem (by rw [hxl]; exact hi)⟩
  obtain ⟨x0, e0⟩ := hx 0 (by omega)
  have f0 : DataW.trod enc Try.prog W base (fun _ => true) true n 30 ((cs.drop 0).take (Try.prog.cellsOf 30)) = xs[0]? := g 0 _ rfl
  obtain ⟨x1, e1⟩ := hx 1 (by omega)
  have f1 : DataW.trod enc Try.prog W base (fun _ => true) true n 32 ((cs.drop 1).take (Try.prog.cellsOf 32)) = xs[1]? := g 1 _ rfl
  obtain ⟨x2, e2⟩ := hx 2 (by omega)
  have f2 : DataW.trod enc Try.prog W base (fun _ => true) true n 3 ((cs.drop 17).take (Try.prog.cellsOf 3)) = xs[2]? := g 2 _ rfl
  obtain ⟨x3, e3⟩ := hx 3 (by omega)
  have f3 : DataW.trod enc Try.prog W base (fun _ => true) true n 3 ((cs.drop 18).take (Try.prog.cellsOf 3)) = xs[3]? := g 3 _ rfl
  obtain ⟨x4, e4⟩ := hx 4 (by omega)
  have f4 : DataW.trod enc Try.prog W base (fun _ => true) true n 3 ((cs.drop 19).take (Try.prog.cellsOf 3)) = xs[4]? := g 4 _ rfl
  obtain ⟨x5, e5⟩ := hx 5 (by omega)
  have f5 : DataW.trod enc Try.prog W base (fun _ => true) true n 35 ((cs.drop 20).take (Try.prog.cellsOf 35)) = xs[5]? := g 5 _ rfl
  obtain ⟨x6, e6⟩ := hx 6 (by omega)
  have f6 : DataW.trod enc Try.prog W base (fun _ => true) true n 36 ((cs.drop 22).take (Try.prog.cellsOf 36)) = xs[6]? := g 6 _ rfl
  rw [e0, Opn.cells_kind] at f0
  rw [e1, Opn.cells_ix] at f1
  rw [e2, Opn.cells_int] at f2
  rw [e3, Opn.cells_int] at f3
  rw [e4, Opn.cells_int] at f4
  rw [e5, Opn.cells_lease] at f5
  rw [e6, Opn.cells_bytes] at f6
  obtain ⟨k, q0, _, w0⟩ := DataW.trod_int Try.underlying30 f0
  obtain ⟨ix, hix, q1⟩ := open_ixQ f1
  obtain ⟨nb, q2⟩ := open_intQ f2
  obtain ⟨pl, q3⟩ := open_intQ f3
  obtain ⟨ln, q4⟩ := open_intQ f4
  obtain ⟨who, til, hw, q5⟩ := open_leaseQ f5
  obtain ⟨u, l, q6, hu⟩ := open_bytQ f6
  refine ⟨⟨k, ix, nb, pl, ln, who, til⟩, u, l, hix, by have := bounds_u8 w0; simp only; omega, hw, hu, ?_⟩
  have h7 : cs.drop 23 = [] := List.drop_eq_nil_of_le (by omega)
  have h6 := part_ofQ q6 rfl _ h7
  have h5 := part_ofQ q5 rfl _ h6
  have h4 := part_ofQ q4 rfl _ h5
  have h3 := part_ofQ q3 rfl _ h4
  have h2 := part_ofQ q2 rfl _ h3
  have h1 := part_ofQ q1 (by simp [hix.1]) _ h2
  have h0 := part_ofQ q0 rfl _ h1
  rw [List.drop_zero] at h0
  congr 1
  apply Array.ext'
  rw [hcs, h0]
  simp [rqA, rqL]
set_option maxRecDepth 100000 in
theorem open_repV {base b0 : Nat} {v : Value} {d : DataW H} {p : List MemPlace} (hv : Value.okWide Try.prog W .any b0 42 v) (h : DataW.Trod enc Try.prog W base (fun _ => true) true 42 v d p) :
    ∃ (k : Int) (un u : Value) (ns l : List Int), (0 ≤ k ∧ k < 256) ∧ I.HB W un ns ∧ HB W u l ∧ v = .agg (rpA k un u) := by
  simp only [Value.okWide, Try.underlying42] at hv
  obtain ⟨ca, rfl, _⟩ := hv
  obtain ⟨m, hm⟩ := h
  obtain ⟨xs, n, rfl, _, hl, hxl, hf⟩ := DataW.trod_struct Try.underlying42 hm
  rw [Opn.cells_rep] at hl
  obtain ⟨cs, hcs⟩ : ∃ cs : List Value, ca.toList = cs := ⟨_, rfl⟩
  have hl : cs.length = 3 := by rw [← hcs]; exact hl
  have g : ∀ (i : Nat) (f : Field), _ → DataW.trod enc Try.prog W base (fun _ => true) true n f.type ((cs.drop f.offset).take (Try.prog.cellsOf f.type)) = xs[i]? := fun i f hi => by rw [← hcs]; exact hf i f hi
  have hx : ∀ i, i < 3 → ∃ x, xs[i]? = some x := fun i hi => ⟨_, List.getElem?_eq_getElem (by rw [hxl]; exact hi)⟩
  obtain ⟨x0, e0⟩ := hx 0 (by omega)
  have f0 : DataW.trod enc Try.prog W base (fun _ => true) true n 39 ((cs.drop 0).take (Try.prog.cellsOf 39)) = xs[0]? := g 0 _ rfl
  obtain ⟨x1, e1⟩ := hx 1 (by omega)
  have f1 : DataW.trod enc Try.prog W base (fun _ => true) true n 40 ((cs.drop 1).take (Try.prog.cellsOf 40)) = xs[1]? := g 1 _ rfl
  obtain ⟨x2, e2⟩ := hx 2 (by omega)
  have f2 : DataW.trod enc Try.prog W base (fun _ => true) true n 36 ((cs.drop 2).take (Try.prog.cellsOf 36)) = xs[2]? := g 2 _ rfl
  rw [e0, Opn.cells_rkind] at f0
  rw [e1, Opn.cells_ints] at f1
  rw [e2, Opn.cells_bytes] at f2
  obtain ⟨k, q0, _, w0⟩ := DataW.trod_int Try.underlying39 f0
  obtain ⟨un, ns, q1, hn⟩ := open_intsQ f1
  obtain ⟨u, l, q2, hu⟩ := open_bytQ f2
  refine ⟨k, un, u, ns, l, by have := bounds_u8 w0; omega, hn, hu, ?_⟩
  have h3 : cs.drop 3 = [] := List.drop_eq_nil_of_le (by omega)
  have h2 := part_ofQ q2 rfl _ h3
  have h1 := part_ofQ q1 rfl _ h2
  have h0 := part_ofQ q0 rfl _ h1
  rw [List.drop_zero] at h0
  congr 1
  apply Array.ext'
  rw [hcs, h0]
  simp [rpA]
end Go.Proofs.Ytmegeogfpkdodaa
