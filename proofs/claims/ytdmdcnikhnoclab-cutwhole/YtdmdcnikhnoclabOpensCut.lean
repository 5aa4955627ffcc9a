/- What a reading of parameters, or of a shape, gives. -/
import Derived.Test.YtdmdcnikhnoclabOpens
import Derived.Test.YtdmdcnikhnoclabCutShp
set_option linter.unusedSimpArgs false
set_option linter.unusedVariables false
namespace Go.Proofs.Ytdmdcnikhnoclab
open Go.ChangeShapes Go.WideShapes Go.ChangeAt Go.RowKit

theorem Opn.shp_types : Try.prog.cellTypes Try.prog.depth 37 = some [3, 3, 3, 3, 3, 3, 3, 3] := by kernel_rfl
theorem Opn.shp_cells : Try.prog.cellsOf 37 = 8 := by kernel_rfl
set_option maxRecDepth 100000 in
theorem open_shp {W : World} {base : Nat} {v : Value} (h : Value.okWide Try.prog W .any base 37 v) :
    ∃ a b c d e f g h : Int, v = shV [a, b, c, d, e, f, g, h] := by
  simp only [Value.okWide, Try.underlying37] at h
  obtain ⟨cs, rfl, h1, ts, h2, _, h3⟩ := h
  rw [Opn.shp_types] at h2
  cases h2
  have hs : cs.size = 8 := by rw [← Opn.shp_cells]; exact h1
  have there : ∀ i, i < 8 → ∃ v, cs[i]? = some v := fun i hi => ⟨cs[i]'(by omega), Array.getElem?_eq_getElem (by omega)⟩
  have num : ∀ i, i < 8 → ∃ k : Int, cs[i]? = some (.int .i64 k) := fun i hi => by
    obtain ⟨v, hv⟩ := there i (by omega)
    obtain ⟨u, h4, h5⟩ := h3 i v hv
    have hu : u = 3 := by
      rcases (by omega : i = 0 ∨ i = 1 ∨ i = 2 ∨ i = 3 ∨ i = 4 ∨ i = 5 ∨ i = 6 ∨ i = 7) with rfl | rfl | rfl | rfl | rfl | rfl | rfl | rfl <;> (cases h4; rfl)
    subst hu
    rw [hv]
    simp only [Cell.okWide, Try.underlying3] at h5
    cases v <;> simp only [Cell.ok, Try.underlying3] at h5
    obtain ⟨rfl, h6⟩ := h5
    exact ⟨_, rfl⟩
  obtain ⟨a, ha⟩ := num 0 (by decide)
  obtain ⟨b, hb⟩ := num 1 (by decide)
  obtain ⟨c, hc⟩ := num 2 (by decide)
  obtain ⟨d, hd⟩ := num 3 (by decide)
  obtain ⟨e, he⟩ := num 4 (by decide)
  obtain ⟨f, hf⟩ := num 5 (by decide)
  obtain ⟨g, hg⟩ := num 6 (by decide)
  obtain ⟨h, hh⟩ := num 7 (by decide)
  refine ⟨a, b, c, d, e, f, g, h, ?_⟩
  unfold shV
  congr 1
  apply Array.ext_getElem?
  intro i
  rcases (by omega : i = 0 ∨ i = 1 ∨ i = 2 ∨ i = 3 ∨ i = 4 ∨ i = 5 ∨ i = 6 ∨ i = 7 ∨ 8 ≤ i) with rfl | rfl | rfl | rfl | rfl | rfl | rfl | rfl | h8
  · exact ha
  · exact hb
  · exact hc
  · exact hd
  · exact he
  · exact hf
  · exact hg
  · exact hh
  · rw [Array.getElem?_eq_none (by omega), Array.getElem?_eq_none (by simpa [ints] using h8)]
theorem Opn.prm_types : Try.prog.cellTypes Try.prog.depth 41 = some [3, 3, 3, 3, 26] := by kernel_rfl
theorem Opn.prm_cells : Try.prog.cellsOf 41 = 5 := by kernel_rfl
set_option maxRecDepth 100000 in
theorem open_prm {W : World} {base : Nat} {v : Value} (h : Value.okWide Try.prog W .any base 41 v) :
    ∃ (a b c d : Int) (p : Option Addr) (l m : Nat), v = prV a b c d (.slice p l m) := by
  simp only [Value.okWide, Try.underlying41] at h
  obtain ⟨cs, rfl, h1, ts, h2, _, h3⟩ := h
  rw [Opn.prm_types] at h2
  cases h2
  have hs : cs.size = 5 := by rw [← Opn.prm_cells]; exact h1
  have there : ∀ i, i < 5 → ∃ v, cs[i]? = some v := fun i hi => ⟨cs[i]'(by omega), Array.getElem?_eq_getElem (by omega)⟩
  have num : ∀ i, i < 4 → ∃ k : Int, cs[i]? = some (.int .i64 k) := fun i hi => by
    obtain ⟨v, hv⟩ := there i (by omega)
    obtain ⟨u, h4, h5⟩ := h3 i v hv
    have hu : u = 3 := by
      rcases (by omega : i = 0 ∨ i = 1 ∨ i = 2 ∨ i = 3) with rfl | rfl | rfl | rfl <;> (cases h4; rfl)
    subst hu
    rw [hv]
    simp only [Cell.okWide, Try.underlying3] at h5
    cases v <;> simp only [Cell.ok, Try.underlying3] at h5
    obtain ⟨rfl, h6⟩ := h5
    exact ⟨_, rfl⟩
  obtain ⟨a, ha⟩ := num 0 (by decide)
  obtain ⟨b, hb⟩ := num 1 (by decide)
  obtain ⟨c, hc⟩ := num 2 (by decide)
  obtain ⟨d, hd⟩ := num 3 (by decide)
  obtain ⟨x, hx⟩ := there 4 (by decide)
  have hsl : ∃ p l m, x = .slice p l m := by
    obtain ⟨u, h4, h5⟩ := h3 4 x hx
    cases h4
    simp only [Cell.okWide, Try.underlying26] at h5
    cases x <;> first | exact ⟨_, _, _, rfl⟩ | (simp only [Cell.ok, Try.underlying26] at h5; done)
  obtain ⟨p, l, m, rfl⟩ := hsl
  refine ⟨a, b, c, d, p, l, m, ?_⟩
  unfold prV
  congr 1
  apply Array.ext_getElem?
  intro i
  rcases (by omega : i = 0 ∨ i = 1 ∨ i = 2 ∨ i = 3 ∨ i = 4 ∨ 5 ≤ i) with rfl | rfl | rfl | rfl | rfl | h8
  · exact ha
  · exact hb
  · exact hc
  · exact hd
  · exact hx
  · rw [Array.getElem?_eq_none (by omega), Array.getElem?_eq_none (by simpa using h8)]
/-- The bytes of the secret, and that they are within reach. -/
theorem open_prmS {H : Type} {enc : TypeId × Value → H} {W : World} {base : Nat} {a b c e : Int} {q : Option Addr} {l m : Nat} {d : DataW H} {p : List MemPlace} (h : DataW.Trod enc Try.prog W base (fun _ => true) true 41 (prV a b c e (.slice q l m)) d p) {ts : List TypeId} {ds : List (DataW H)}
    (hsz : (DataW.weightsEach Try.prog (41 :: ts) (d :: ds)).all (· ≤ reachBytes) = true) : ∃ L : List Int, HB W (.slice q l m) L ∧ L.length ≤ 140737488351232 := by
  obtain ⟨fuel, hf⟩ := h
  obtain ⟨xs, n, _, hx, hl, hlen, hff⟩ := DataW.trod_struct Try.underlying41 hf
  match xs, hlen with
  | [y0, y1, y2, y3, y4], _ =>
    have h4 : DataW.trod enc Try.prog W base (fun _ => true) true n 26 [.slice q l m] = some y4 := by
      have := hff 4 _ rfl
      simpa [prV, Value.cells, Opn.cells_bytes] using this
    have hT : DataW.Trod enc Try.prog W base (fun _ => true) true 26 (.slice q l m) y4.1 y4.2 := ⟨n, by simpa [Value.cells] using h4⟩
    obtain ⟨L, g, _⟩ := open_HB hT ⟨_, _, _, rfl⟩
    simp only [Prod.mk.injEq] at hx
    obtain ⟨rfl, _⟩ := hx
    have hs2 : (DataW.weightsEach Try.prog [3, 3, 3, 3, 26] [y0.1, y1.1, y2.1, y3.1, y4.1]).all (· ≤ reachBytes) = true := by
      rw [DataW.weightsEach, List.all_append, Bool.and_eq_true] at hsz
      have := hsz.1
      simpa [DataW.weights, Try.underlying41] using this
    exact ⟨L, g, len_reach (j := 4) hs2 rfl rfl hT g⟩
end Go.Proofs.Ytdmdcnikhnoclab
