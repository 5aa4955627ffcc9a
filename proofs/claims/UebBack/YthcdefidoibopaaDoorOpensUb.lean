/- What a reading of an argument that is a Ueb gives. -/
import Derived.Test.YthcdefidoibopaaDoorOpensRw
import Derived.Test.YthcdefidoibopaaDoorUbChk
import Derived.ChangeArms
set_option linter.unusedSimpArgs false
set_option linter.unusedVariables false
namespace Go.Proofs.YthcdefidoibopaaDoor
open Go.ChangeShapes Go.WideShapes Go.ChangeAt Go.RowKit
variable {H : Type} {enc : TypeId × Value → H} {W : World}

theorem Opn.cells_digU : Tryd.prog.cellsOf 42 = 32 := by kernel_rfl
theorem Opn.cells_intU : Tryd.prog.cellsOf 3 = 1 := by kernel_rfl
theorem Opn.cells_ueb : Tryd.prog.cellsOf 44 = 68 := by kernel_rfl
theorem open_digU {base fuel : Nat} {cs : List Value} {x : DataW H × List MemPlace} (h : DataW.trod enc Tryd.prog W base (fun _ => true) true fuel 42 cs = some x) : ∃ d : List Int, (d.length = 32 ∧ Byt8 d) ∧ cs = d.map (Value.int .u8) := by
  obtain ⟨xs, m, rfl, rfl, hl, hxl, hx⟩ := DataW.trod_array Tryd.underlying42 h
  rw [Opn.cells_digU] at hl
  have each : ∀ j, j < 32 → ∃ k : Int, (0 ≤ k ∧ k < 256) ∧ cs[j]? = some (.int .u8 k) := fun j hj => by
    have hj2 := hx j hj
    rw [Opn.cells_u8, List.getElem?_eq_getElem (by omega)] at hj2
    obtain ⟨z, e1, _, w1⟩ := DataW.trod_int Tryd.underlying5 hj2
    refine ⟨z, by have := bounds_u8 w1; omega, ?_⟩
    have e2 : ((cs.drop (j * 1)).take 1)[0]? = some (.int .u8 z) := by rw [e1]; rfl
    rw [List.getElem?_take, if_pos (by decide), List.getElem?_drop] at e2
    simpa using e2
  refine ⟨(List.range 32).map fun j => if hj : j < 32 then Classical.choose (each j hj) else 0, ⟨by simp, fun y hy => ?_⟩, ?_⟩
  · obtain ⟨j, hj, rfl⟩ := List.mem_map.1 hy
    have hj' := List.mem_range.1 hj
    simp only [hj', dif_pos]
    exact (Classical.choose_spec (each j hj')).1
  · rw [List.map_map]
    refine List.ext_getElem? fun j => ?_
    by_cases hj : j < 32
    · rw [(Classical.choose_spec (each j hj)).2]
      simp [hj]
    · rw [List.getElem?_eq_none (by omega), List.getElem?_eq_none (by simp; omega)]
theorem open_intU {base fuel : Nat} {cs : List Value} {x : DataW H × List MemPlace} (h : DataW.trod enc Tryd.prog W base (fun _ => true) true fuel 3 cs = some x) : ∃ z : Int, cs = [.int .i64 z] := by
  obtain ⟨z, e1, _, w1⟩ := DataW.trod_int Tryd.underlying3 h
  exact ⟨z, e1⟩
theorem part_of {cs : List Value} {o n : Nat} {l : List Value} (h : (cs.drop o).take n = l) (hn : l.length = n) (m : List Value) (hm : cs.drop (o + n) = m) : cs.drop o = l ++ m := by
  rw [← List.take_append_drop n (cs.drop o), h, List.drop_drop, hm]
set_option maxRecDepth 100000 in
theorem open_ubV {base : Nat} {v : Value} {d : DataW H} {p : List MemPlace} (hv : Value.okWide Tryd.prog W .any base 44 v) (h : DataW.Trod enc Tryd.prog W 0 (fun _ => true) true 44 v d p) : ∃ u : Ub, u.ok ∧ v = .agg (ubA u) := by
  simp only [Value.okWide, Tryd.underlying44] at hv
  obtain ⟨ca, rfl, _⟩ := hv
  obtain ⟨m, hm⟩ := h
  obtain ⟨xs, n, rfl, _, hl, hxl, hf⟩ := DataW.trod_struct Tryd.underlying44 hm
  rw [Opn.cells_ueb] at hl
  obtain ⟨cs, hcs⟩ : ∃ cs : List Value, ca.toList = cs := ⟨_, rfl⟩
  have hl : cs.length = 68 := by rw [← hcs]; exact hl
  have g : ∀ (i : Nat) (f : Field), _ → DataW.trod enc Tryd.prog W 0 (fun _ => true) true n f.type ((cs.drop f.offset).take (Tryd.prog.cellsOf f.type)) = xs[i]? := fun i f hi => by rw [← hcs]; exact hf i f hi
  have hx : ∀ i, i < 6 → ∃ x, xs[i]? = some x := fun i hi => ⟨_, List.getElem?_eq_getElem (by rw [hxl]; exact hi)⟩
  obtain ⟨x0, e0⟩ := hx 0 (by omega)
  obtain ⟨x1, e1⟩ := hx 1 (by omega)
  obtain ⟨x2, e2⟩ := hx 2 (by omega)
  obtain ⟨x3, e3⟩ := hx 3 (by omega)
  obtain ⟨x4, e4⟩ := hx 4 (by omega)
  obtain ⟨x5, e5⟩ := hx 5 (by omega)
  have f0 : DataW.trod enc Tryd.prog W 0 (fun _ => true) true n 3 ((cs.drop 0).take (Tryd.prog.cellsOf 3)) = xs[0]? := g 0 _ rfl
  have f1 : DataW.trod enc Tryd.prog W 0 (fun _ => true) true n 3 ((cs.drop 1).take (Tryd.prog.cellsOf 3)) = xs[1]? := g 1 _ rfl
  have f2 : DataW.trod enc Tryd.prog W 0 (fun _ => true) true n 3 ((cs.drop 2).take (Tryd.prog.cellsOf 3)) = xs[2]? := g 2 _ rfl
  have f3 : DataW.trod enc Tryd.prog W 0 (fun _ => true) true n 3 ((cs.drop 3).take (Tryd.prog.cellsOf 3)) = xs[3]? := g 3 _ rfl
  have f4 : DataW.trod enc Tryd.prog W 0 (fun _ => true) true n 42 ((cs.drop 4).take (Tryd.prog.cellsOf 42)) = xs[4]? := g 4 _ rfl
  have f5 : DataW.trod enc Tryd.prog W 0 (fun _ => true) true n 42 ((cs.drop 36).take (Tryd.prog.cellsOf 42)) = xs[5]? := g 5 _ rfl
  rw [e0, Opn.cells_intU] at f0
  rw [e1, Opn.cells_intU] at f1
  rw [e2, Opn.cells_intU] at f2
  rw [e3, Opn.cells_intU] at f3
  rw [e4, Opn.cells_digU] at f4
  rw [e5, Opn.cells_digU] at f5
  obtain ⟨k, q0⟩ := open_intU f0
  obtain ⟨nn, q1⟩ := open_intU f1
  obtain ⟨gg, q2⟩ := open_intU f2
  obtain ⟨z, q3⟩ := open_intU f3
  obtain ⟨a, a1, q4⟩ := open_digU f4
  obtain ⟨b, b1, q5⟩ := open_digU f5
  refine ⟨⟨k, nn, gg, z, a, b⟩, ⟨a1, b1⟩, ?_⟩
  have h6 : cs.drop 68 = [] := List.drop_eq_nil_of_le (by omega)
  have h5 := part_of q5 (by simp [b1.1]) _ h6
  have h4 := part_of q4 (by simp [a1.1]) _ h5
  have h3 := part_of q3 rfl _ h4
  have h2 := part_of q2 rfl _ h3
  have h1 := part_of q1 rfl _ h2
  have h0 := part_of q0 rfl _ h1
  rw [List.drop_zero] at h0
  congr 1
  apply Array.ext'
  rw [hcs, h0]
  simp [ubA, ubL]
end Go.Proofs.YthcdefidoibopaaDoor
