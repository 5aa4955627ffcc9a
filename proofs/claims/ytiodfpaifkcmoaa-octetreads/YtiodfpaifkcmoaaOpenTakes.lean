/- What a reading of a script of calls gives the walks. -/
import Derived.Test.YtiodfpaifkcmoaaOpens
import Derived.Test.YtiodfpaifkcmoaaNoneWalk
import Derived.Deep.Strs
namespace Go.Proofs.Ytiodfpaifkcmoaa
open Go.ChangeShapes Go.WideShapes Go.ChangeAt Go.RowKit
variable {H : Type} {enc : TypeId × Value → H} {W : World}
theorem Opn.cells_take : Try.prog.cellsOf 69 = 3 := by kernel_rfl

theorem three_of {α : Type} {l : List α} (h : l.length = 3) : ∃ a b c, l = [a, b, c] := by
  match l, h with
  | [a, b, c], _ => exact ⟨a, b, c, rfl⟩

theorem open_HT {base : Nat} {v : Value} {d : DataW H} {p : List MemPlace} (h : DataW.Trod enc Try.prog W base (fun _ => true) true 61 v d p) (hv : ∃ a n c, v = .slice a n c) : ∃ ts, HT W v ts ∧ ts.length + 1 ≤ Rows.uptoBulk d := by
  obtain ⟨a, n, c, rfl⟩ := hv
  obtain ⟨fuel, hf⟩ := h
  rcases Go.Deep.open_slice Try.underlying61 hf with ⟨hcs, hx⟩ | ⟨a, len, cap, m, n, D, Pl, hcs, hb, hl, hm, hmm, hx, hel⟩
  · simp only [Value.cells, List.cons.injEq, and_true] at hcs
    cases hx
    rw [hcs]
    exact ⟨[], ⟨none, 0, rfl, Nat.le_refl _, Nat.zero_le _, fun h => absurd rfl h⟩, by simp [Rows.uptoBulk]⟩
  · simp only [Value.cells, List.cons.injEq, and_true] at hcs
    rw [hcs]
    simp only [if_true] at hmm
    subst hmm
    simp only [Prod.mk.injEq] at hx
    obtain ⟨rfl, _⟩ := hx
    have each : ∀ i, i < len → ∃ t : Int × Int × Int, W.cell? ((a.add (i * 3)).add 0) = some (.int .i64 t.1) ∧ W.cell? ((a.add (i * 3)).add 1) = some (.int .i64 t.2.1) ∧ W.cell? ((a.add (i * 3)).add 2) = some (.int .i64 t.2.2) := by
      intro i hi
      obtain ⟨cs', h1, h2⟩ := hel i (by omega)
      rw [Opn.cells_take] at h1
      obtain ⟨y0, y1, y2, k, _, hlen, t0, t1, t2⟩ := Go.Deep.trod_struct3 Try.underlying69 h2
      rw [Opn.cells_take] at hlen
      obtain ⟨_, _, hc⟩ := World.cells?_some h1
      obtain ⟨x0, e0, _, _⟩ := DataW.trod_int (k := .i64) Try.underlying3 t0
      obtain ⟨x1, e1, _, _⟩ := DataW.trod_int (k := .i64) Try.underlying3 t1
      obtain ⟨x2, e2, _, _⟩ := DataW.trod_int (k := .i64) Try.underlying3 t2
      obtain ⟨c0, c1, c2, rfl⟩ := three_of hlen
      have ci := Opn.cells_int
      simp only [ci, List.drop_zero, List.drop_succ_cons, List.take_succ_cons, List.take_zero, List.cons.injEq, and_true] at e0 e1 e2
      subst e0 e1 e2
      exact ⟨(x0, x1, x2), hc 0 (by omega), hc 1 (by omega), hc 2 (by omega)⟩
    have hch : ∃ T : Nat → Int × Int × Int, ∀ i, i < len → W.cell? ((a.add (i * 3)).add 0) = some (.int .i64 (T i).1) ∧ W.cell? ((a.add (i * 3)).add 1) = some (.int .i64 (T i).2.1) ∧ W.cell? ((a.add (i * 3)).add 2) = some (.int .i64 (T i).2.2) :=
      ⟨fun i => if hi : i < len then Classical.choose (each i hi) else (0, 0, 0), fun i hi => by simp only [hi, dif_pos]; exact Classical.choose_spec (each i hi)⟩
    obtain ⟨T, hT⟩ := hch
    have hlen : ((List.range len).map T).length = len := by simp
    refine ⟨(List.range len).map T, ⟨some a, m, by rw [hlen], by omega, hm, fun hne => ?_⟩, ?_⟩
    · have h0 : 0 < len := by
        apply Classical.byContradiction
        intro h
        exact hne (List.length_eq_zero_iff.1 (by omega))
      obtain ⟨b, off, sp⟩ := a
      have hsp : sp = none := by
        have := (hT 0 h0).1
        simpa [Addr.add] using World.cell?_spot this
      subst hsp
      refine ⟨b, off, rfl, fun j hj => ?_⟩
      rw [hlen] at hj
      have e : ((List.range len).map T).getD j (0, 0, 0) = T j := by simp [List.getD, hj]
      rw [e]
      have := hT j hj
      simp only [Go.WideShapes.add_plain] at this
      exact this
    · rw [hlen]
      have := bulk_slice ((List.range len).map D) ((List.range (m - len)).map fun j => D (len + j))
      simp only [List.length_map, List.length_range] at this
      omega

theorem Opn.bytes_take : Try.prog.bytesOf 69 = 24 := by kernel_rfl

/-- The reach's own bound on a script that came in. -/
theorem takes_reach {ts : List TypeId} {ds : List (DataW H)} {j base : Nat} {v : Value} {d : DataW H} {p : List MemPlace} {l : List (Int × Int × Int)} (h : (DataW.weightsEach Try.prog ts ds).all (· ≤ reachBytes) = true) (ht : ts[j]? = some 61) (hd : ds[j]? = some d)
    (hT : DataW.Trod enc Try.prog W base (fun _ => true) true 61 v d p) (hb : HT W v l) : l.length ≤ 5864062014634 := by
  obtain ⟨q, c, rfl, _, _⟩ := hb
  obtain ⟨fuel, hf⟩ := hT
  rcases Go.Deep.open_slice Try.underlying61 hf with ⟨hcs, hx⟩ | ⟨a, len, cap, m, n, D, Pl, hcs, hb, hl, hm, hmm, hx, hel⟩
  · simp only [Value.cells, List.cons.injEq, and_true, Value.slice.injEq] at hcs
    omega
  · simp only [Value.cells, List.cons.injEq, and_true, Value.slice.injEq] at hcs
    simp only [Prod.mk.injEq] at hx
    obtain ⟨rfl, _⟩ := hx
    have := sized_slice h ht hd Try.underlying61
    rw [Opn.bytes_take] at this
    simp only [List.length_map, List.length_range, reachBytes, if_true] at this hmm
    omega
end Go.Proofs.Ytiodfpaifkcmoaa
