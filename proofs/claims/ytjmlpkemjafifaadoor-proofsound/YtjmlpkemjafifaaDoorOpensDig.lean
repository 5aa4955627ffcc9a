/- What a reading of an argument that is a row of digests, or one digest, gives. -/
import Derived.Test.YtjmlpkemjafifaaDoorOpensAes
import Derived.Test.YtjmlpkemjafifaaDoorTrDig
import Derived.Deep.Strs
import Derived.ChangeArms
set_option linter.unusedSimpArgs false
set_option linter.unusedVariables false
namespace Go.Proofs.YtjmlpkemjafifaaDoor
open Go.ChangeShapes Go.WideShapes Go.ChangeAt Go.RowKit
variable {H : Type} {enc : TypeId × Value → H} {W : World}

theorem Opn.cells_dig : Tryd.prog.cellsOf 28 = 32 := by kernel_rfl
theorem Opn.cells_u8d : Tryd.prog.cellsOf 5 = 1 := by kernel_rfl
theorem open_dig {base fuel : Nat} {cs : List Value} {x : DataW H × List MemPlace} (h : DataW.trod enc Tryd.prog W base (fun _ => true) true fuel 28 cs = some x) : ∃ d : List Int, D32 d ∧ cs = dc d := by
  obtain ⟨xs, m, rfl, rfl, hl, hxl, hx⟩ := DataW.trod_array Tryd.underlying28 h
  rw [Opn.cells_dig] at hl
  have each : ∀ j, j < 32 → ∃ k : Int, (0 ≤ k ∧ k < 256) ∧ cs[j]? = some (.int .u8 k) := fun j hj => by
    have hj2 := hx j hj
    rw [Opn.cells_u8d, List.getElem?_eq_getElem (by omega)] at hj2
    obtain ⟨z, e1, _, w1⟩ := DataW.trod_int Tryd.underlying5 hj2
    refine ⟨z, by have := bounds_u8 w1; omega, ?_⟩
    have e2 : ((cs.drop (j * 1)).take 1)[0]? = some (.int .u8 z) := by rw [e1]; rfl
    rw [List.getElem?_take, if_pos (by decide), List.getElem?_drop] at e2
    simpa using e2
  refine ⟨(List.range 32).map fun j => if hj : j < 32 then Classical.choose (each j hj) else 0, ⟨by simp, fun y hy => ?_⟩, ?_⟩
  · obtain ⟨j, hj, rfl⟩ := List.mem_map.1 hy
    have hj' := List.mem_range.1 hj
    simp only [hj', dif_pos]
    exact (Classical.choose_spec (each j hj')).1
  · unfold dc
    rw [List.map_map]
    refine List.ext_getElem? fun j => ?_
    by_cases hj : j < 32
    · rw [(Classical.choose_spec (each j hj)).2]
      simp [hj]
    · rw [List.getElem?_eq_none (by omega), List.getElem?_eq_none (by simp; omega)]
theorem open_HDs {base : Nat} {v : Value} {d : DataW H} {p : List MemPlace} (h : DataW.Trod enc Tryd.prog W base (fun _ => true) true 22 v d p) (hv : ∃ a n c, v = .slice a n c) : ∃ ds, HDs W v ds := by
  obtain ⟨a, n, c, rfl⟩ := hv
  obtain ⟨fuel, hf⟩ := h
  rcases Go.Deep.open_slice Tryd.underlying22 hf with ⟨hcs, hx⟩ | ⟨a, len, cap, m, n, D, Pl, hcs, hb, hl, hm, hmm, hx, hel⟩
  · simp only [Value.cells, List.cons.injEq, and_true] at hcs
    rw [hcs]
    exact ⟨[], ⟨none, 0, rfl, Nat.le_refl _, Nat.zero_le _, fun _ => rfl, fun h => absurd rfl h⟩, fun d hd => by cases hd⟩
  · simp only [Value.cells, List.cons.injEq, and_true] at hcs
    rw [hcs]
    simp only [if_true] at hmm
    subst hmm
    have each : ∀ i, i < len → ∃ t : List Int, D32 t ∧ ∀ j u, (dc t)[j]? = some u → W.cell? ((a.add (i * 32)).add j) = some u := by
      intro i hi
      obtain ⟨cs', h1, h2⟩ := hel i (by omega)
      rw [Opn.cells_dig] at h1
      obtain ⟨dd, d1, d2⟩ := open_dig h2
      obtain ⟨_, _, hc⟩ := World.cells?_some h1
      refine ⟨dd, d1, fun j u hj => ?_⟩
      have hj2 : j < 32 := by
        have := (List.getElem?_eq_some_iff.1 hj).1
        rwa [dc_length, d1.1] at this
      rw [hc j hj2, d2]
      exact hj
    have hch : ∃ T : Nat → List Int, ∀ i, i < len → D32 (T i) ∧ ∀ j u, (dc (T i))[j]? = some u → W.cell? ((a.add (i * 32)).add j) = some u := by
      refine ⟨fun i => if hi : i < len then Classical.choose (each i hi) else [], fun i hi => ?_⟩
      simp only [hi, dif_pos]
      exact Classical.choose_spec (each i hi)
    obtain ⟨T, hT⟩ := hch
    have hlen : ((List.range len).map T).length = len := by simp
    refine ⟨(List.range len).map T, ⟨some a, m, by rw [hlen], by rw [hlen]; omega, hm, (fun e => by cases e), fun hne => ?_⟩, fun d hd => ?_⟩
    · obtain ⟨b, off, sp⟩ := a
      have h0 : 0 < len := by
        apply Classical.byContradiction
        intro h
        exact hne (by rw [show len = 0 by omega]; rfl)
      have hsp : sp = none := by
        have := (hT 0 h0).2 0 _ (List.getElem?_eq_getElem (by rw [dc_length, (hT 0 h0).1.1]; omega))
        simpa [Addr.add] using World.cell?_spot this
      subst hsp
      refine ⟨b, off, rfl, fun i hi j u hj => ?_⟩
      rw [hlen] at hi
      have e : ((List.range len).map T).getD i [] = T i := by simp [List.getD, hi]
      rw [e] at hj
      have := (hT i hi).2 j u hj
      simpa only [Go.WideShapes.add_plain] using this
    · obtain ⟨i, hi, rfl⟩ := List.mem_map.1 hd
      exact (hT i (List.mem_range.1 hi)).1
end Go.Proofs.YtjmlpkemjafifaaDoor
