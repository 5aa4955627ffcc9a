/- What a reading of the arguments gives the walk of the law of two ciphers. -/
import Derived.Test.YtlmidjgjijmiiaaOpensArr
import Derived.Test.YtlmidjgjijmiiaaAesCiphersMain
import Derived.Deep.Strs
import Derived.ChangeArms
set_option linter.unusedSimpArgs false
set_option linter.unusedVariables false
namespace Go.Proofs.Ytlmidjgjijmiiaa
open Go.ChangeShapes Go.WideShapes Go.ChangeAt Go.RowKit
variable {H : Type} {enc : TypeId × Value → H} {W : World}

theorem Opn.cells_step : Try.prog.cellsOf 48 = 18 := by kernel_rfl
theorem Opn.cells_bool : Try.prog.cellsOf 4 = 1 := by kernel_rfl
theorem Opn.cells_blk : Try.prog.cellsOf 29 = 16 := by kernel_rfl
theorem Opn.cells_u8' : Try.prog.cellsOf 5 = 1 := by kernel_rfl
theorem open_blk {base fuel : Nat} {cs : List Value} {x : DataW H × List MemPlace} (h : DataW.trod enc Try.prog W base (fun _ => true) true fuel 29 cs = some x) : ∃ d : List Nat, d.length = 16 ∧ Byt d ∧ ∀ j, j < 16 → cs[j]? = some (.int .u8 (at8 d j : Int)) := by
  obtain ⟨xs, m, rfl, rfl, hl, hxl, hx⟩ := DataW.trod_array Try.underlying29 h
  rw [Opn.cells_blk] at hl
  have each : ∀ j, j < 16 → ∃ k : Nat, k < 256 ∧ cs[j]? = some (.int .u8 (k : Int)) := fun j hj => by
    have hj2 := hx j hj
    rw [Opn.cells_u8', List.getElem?_eq_getElem (by omega)] at hj2
    obtain ⟨z, e1, _, w1⟩ := DataW.trod_int Try.underlying5 hj2
    have b1 := bounds_u8 w1
    obtain ⟨k, rfl⟩ := Int.eq_ofNat_of_zero_le b1.1
    refine ⟨k, by omega, ?_⟩
    have e2 : ((cs.drop (j * 1)).take 1)[0]? = some (.int .u8 (k : Int)) := by rw [e1]; rfl
    rw [List.getElem?_take, if_pos (by decide), List.getElem?_drop] at e2
    simpa using e2
  refine ⟨(List.range 16).map fun j => if hj : j < 16 then Classical.choose (each j hj) else 0, by simp, fun y hy => ?_, fun j hj => ?_⟩
  · obtain ⟨j, hj, rfl⟩ := List.mem_map.1 hy
    have hj' := List.mem_range.1 hj
    simp only [hj', dif_pos]
    exact (Classical.choose_spec (each j hj')).1
  · have e : at8 ((List.range 16).map fun j => if hj : j < 16 then Classical.choose (each j hj) else 0) j = Classical.choose (each j hj) := by
      simp [at8, List.getD, hj]
    rw [e]
    exact (Classical.choose_spec (each j hj)).2
theorem open_HSt {base : Nat} {v : Value} {d : DataW H} {p : List MemPlace} (h : DataW.Trod enc Try.prog W base (fun _ => true) true 44 v d p) (hv : ∃ a n c, v = .slice a n c) : ∃ n S K D, HSt W v n S K D := by
  obtain ⟨a, n, c, rfl⟩ := hv
  obtain ⟨fuel, hf⟩ := h
  have hz : (zeros8 16).length = 16 ∧ Byt (zeros8 16) := ⟨zeros8_length 16, fun x hx => by have := (List.mem_replicate.1 hx).2; omega⟩
  rcases Go.Deep.open_slice Try.underlying44 hf with ⟨hcs, hx⟩ | ⟨a, len, cap, m, n, D, Pl, hcs, hb, hl, hm, hmm, hx, hel⟩
  · simp only [Value.cells, List.cons.injEq, and_true] at hcs
    rw [hcs]
    exact ⟨0, fun _ => false, fun _ => false, fun _ => zeros8 16, none, 0, rfl, by decide, fun _ => ⟨rfl, rfl⟩, fun _ => hz, fun i hi => absurd hi (by omega)⟩
  · simp only [Value.cells, List.cons.injEq, and_true] at hcs
    rw [hcs]
    simp only [if_true] at hmm
    subst hmm
    have each : ∀ i, i < len → ∃ t : Bool × Bool × List Nat, (t.2.2.length = 16 ∧ Byt t.2.2) ∧ W.cell? ((a.add (i * 18)).add 0) = some (.bool t.1) ∧ W.cell? ((a.add (i * 18)).add 1) = some (.bool t.2.1) ∧ ∀ j, j < 16 → W.cell? ((a.add (i * 18)).add (2 + j)) = some (.int .u8 (at8 t.2.2 j : Int)) := by
      intro i hi
      obtain ⟨cs', h1, h2⟩ := hel i (by omega)
      rw [Opn.cells_step] at h1
      obtain ⟨y0, y1, y2, k, _, hlen, t0, t1, t2⟩ := Go.Deep.trod_struct3 Try.underlying48 h2
      rw [Opn.cells_step] at hlen
      obtain ⟨_, _, hc⟩ := World.cells?_some h1
      obtain ⟨x0, e0, _⟩ := DataW.trod_bool Try.underlying4 t0
      obtain ⟨x1, e1, _⟩ := DataW.trod_bool Try.underlying4 t1
      obtain ⟨dd, d1, d2, d3⟩ := open_blk t2
      have cb : Try.prog.cellsOf 4 = 1 := Opn.cells_bool
      have ck : Try.prog.cellsOf 29 = 16 := Opn.cells_blk
      have g0 : cs'[0]? = some (.bool x0) := by
        have e2 : ((cs'.drop 0).take (Try.prog.cellsOf 4))[0]? = some (.bool x0) := by rw [e0]; rfl
        rw [cb, List.getElem?_take, if_pos (by decide), List.getElem?_drop] at e2
        simpa using e2
      have g1 : cs'[1]? = some (.bool x1) := by
        have e2 : ((cs'.drop 1).take (Try.prog.cellsOf 4))[0]? = some (.bool x1) := by rw [e1]; rfl
        rw [cb, List.getElem?_take, if_pos (by decide), List.getElem?_drop] at e2
        simpa using e2
      refine ⟨(x0, x1, dd), ⟨d1, d2⟩, (hc 0 (by omega)).trans g0, (hc 1 (by omega)).trans g1, fun j hj => (hc (2 + j) (by omega)).trans ?_⟩
      have e2 : ((cs'.drop 2).take (Try.prog.cellsOf 29))[j]? = some (.int .u8 (at8 dd j : Int)) := d3 j hj
      rw [ck, List.getElem?_take, if_pos hj, List.getElem?_drop] at e2
      exact e2
    have hch : ∃ T : Nat → Bool × Bool × List Nat, (∀ i, (T i).2.2.length = 16 ∧ Byt (T i).2.2) ∧ ∀ i, i < len → W.cell? ((a.add (i * 18)).add 0) = some (.bool (T i).1) ∧ W.cell? ((a.add (i * 18)).add 1) = some (.bool (T i).2.1) ∧ ∀ j, j < 16 → W.cell? ((a.add (i * 18)).add (2 + j)) = some (.int .u8 (at8 (T i).2.2 j : Int)) := by
      refine ⟨fun i => if hi : i < len then Classical.choose (each i hi) else (false, false, zeros8 16), fun i => ?_, fun i hi => ?_⟩
      · by_cases hi : i < len
        · simp only [hi, dif_pos]; exact (Classical.choose_spec (each i hi)).1
        · simp only [hi, dif_neg, not_false_eq_true]; exact hz
      · simp only [hi, dif_pos]; exact (Classical.choose_spec (each i hi)).2
    obtain ⟨T, hT1, hT⟩ := hch
    unfold maxLen at hm
    refine ⟨len, fun i => (T i).1, fun i => (T i).2.1, fun i => (T i).2.2, some a, m, rfl, by omega, (fun e => by cases e), hT1, fun i hi => ?_⟩
    · obtain ⟨b, off, sp⟩ := a
      obtain ⟨c0, c1, c2⟩ := hT i hi
      have hsp : sp = none := by simpa [Addr.add] using World.cell?_spot (hT 0 (by omega)).1
      subst hsp
      simp only [Go.WideShapes.add_plain, Nat.add_zero] at c0 c1 c2
      exact ⟨b, off, rfl, c0, c1, fun j hj => by rw [show off + i * 18 + 2 + j = off + i * 18 + (2 + j) by omega]; exact c2 j hj⟩
theorem ciphers_w (w : World) (k1 k2 : List Nat) (v : Value) (n : Nat) (S K : Nat → Bool) (D : Nat → List Nat) (h1 : k1.length = 16) (b1 : Byt k1) (h2 : k2.length = 16) (b2 : Byt k2) (h : HSt w v n S K D) :
    Calls Try.prog 7 #[.agg (cells8 k1), .agg (cells8 k2), v] w fun e w' => e = .returned (.bool true) ∧ Below w.heap.size w w' := ciphers_walk w v n S K D k1 k2 h h1 b1 h2 b2
end Go.Proofs.Ytlmidjgjijmiiaa
