/- What a reading of a request, or of an act, gives: its shape. -/
import Derived.Test.YtnikojpdkbkdmaaSvRq
import Derived.Test.YtnikojpdkbkdmaaOpens
set_option linter.unusedSimpArgs false
set_option linter.unusedVariables false
namespace Go.Proofs.Ytnikojpdkbkdmaa
open Go.ChangeShapes Go.WideShapes Go.ChangeAt Go.RowKit

theorem Opn.rq_types : Try.prog.cellTypes Try.prog.depth 30 = some ([22] ++ List.replicate 16 5 ++ [3, 3, 3, 25, 3, 28]) := by kernel_rfl
theorem Opn.rq_cells : Try.prog.cellsOf 30 = 23 := by kernel_rfl
theorem has_u8 {n : Int} (h : IntKind.u8.has n) : 0 ≤ n ∧ n < 256 := by
  simp only [IntKind.has, IntKind.min, IntKind.max, IntKind.signed, IntKind.bits] at h
  simp at h
  omega
set_option maxRecDepth 100000 in
theorem cell_int {W : World} {base : Nat} {t : TypeId} {k : IntKind} {v : Value} (hu : Try.prog.underlying t = some (.int k)) (h : Cell.okWide Try.prog W .any base t v) : ∃ n : Int, v = .int k n ∧ k.has n := by
  simp only [Cell.okWide, hu] at h
  cases v <;> simp only [Cell.ok, hu] at h
  obtain ⟨rfl, h6⟩ := h
  exact ⟨_, rfl, h6⟩
set_option maxRecDepth 100000 in
theorem cell_slice {W : World} {base : Nat} {t e : TypeId} {v : Value} (hu : Try.prog.underlying t = some (.slice e)) (h : Cell.okWide Try.prog W .any base t v) : ∃ p n c, v = .slice p n c := by
  simp only [Cell.okWide, hu] at h
  cases v <;> simp only [Cell.ok, hu] at h
  exact ⟨_, _, _, rfl⟩
set_option maxRecDepth 100000 in
/-- Cells that are a request's, from place o on. -/
theorem rq_at {W : World} {base o : Nat} {cs : Array Value} (h0 : ∀ i, i < 23 → ∃ v, cs[o + i]? = some v)
    (h : ∀ i v, i < 23 → cs[o + i]? = some v → ∃ u, ([22] ++ List.replicate 16 5 ++ [3, 3, 3, 25, 3, 28])[i]? = some u ∧ Cell.okWide Try.prog W .any base u v) :
    ∃ (r : Rq) (p : Option Addr) (n c : Nat), r.ok ∧ (IntKind.i64.has r.nb ∧ IntKind.i64.has r.pl ∧ IntKind.i64.has r.ln ∧ IntKind.u32.has r.who ∧ IntKind.i64.has r.til ∧ IntKind.u8.has r.k) ∧ ∀ i, i < 23 → cs[o + i]? = (rqL r (.slice p n c))[i]? := by
  have g : ∀ (i : Nat) (t : TypeId) (k : IntKind), i < 23 → Try.prog.underlying t = some (.int k) → ([22] ++ List.replicate 16 5 ++ [3, 3, 3, 25, 3, 28])[i]? = some t → ∃ n : Int, cs[o + i]? = some (.int k n) ∧ k.has n := fun i t k hi hu ht => by
    obtain ⟨v, hv⟩ := h0 i hi
    obtain ⟨u, h1, h2⟩ := h i v hi hv
    rw [ht] at h1
    cases h1
    obtain ⟨n, rfl, hn⟩ := cell_int hu h2
    exact ⟨n, hv, hn⟩
  obtain ⟨k, hk, wk⟩ := g 0 22 .u8 (by omega) Try.underlying22 rfl
  obtain ⟨nb, hnb, wnb⟩ := g 17 3 .i64 (by omega) Try.underlying3 rfl
  obtain ⟨pl, hpl, wpl⟩ := g 18 3 .i64 (by omega) Try.underlying3 rfl
  obtain ⟨ln, hln, wln⟩ := g 19 3 .i64 (by omega) Try.underlying3 rfl
  obtain ⟨who, hwho, wwho⟩ := g 20 25 .u32 (by omega) Try.underlying25 rfl
  obtain ⟨til, htil, wtil⟩ := g 21 3 .i64 (by omega) Try.underlying3 rfl
  obtain ⟨v22, h22⟩ := h0 22 (by omega)
  obtain ⟨u, h1, h2⟩ := h 22 v22 (by omega) h22
  cases h1
  obtain ⟨p, n, c, rfl⟩ := cell_slice Try.underlying28 h2
  have hx : ∀ j : Nat, ∃ x : Int, j < 16 → cs[o + (j + 1)]? = some (.int .u8 x) ∧ IntKind.u8.has x := fun j => by
    by_cases hj : j < 16
    · have ht : ([22] ++ List.replicate 16 5 ++ [3, 3, 3, 25, 3, 28])[j + 1]? = some 5 := by
        rcases (by omega : j = 0 ∨ j = 1 ∨ j = 2 ∨ j = 3 ∨ j = 4 ∨ j = 5 ∨ j = 6 ∨ j = 7 ∨ j = 8 ∨ j = 9 ∨ j = 10 ∨ j = 11 ∨ j = 12 ∨ j = 13 ∨ j = 14 ∨ j = 15) with rfl | rfl | rfl | rfl | rfl | rfl | rfl | rfl | rfl | rfl | rfl | rfl | rfl | rfl | rfl | rfl <;> rfl
      obtain ⟨x, hx, hw⟩ := g (j + 1) 5 .u8 (by omega) Try.underlying5 ht
      exact ⟨x, fun _ => ⟨hx, hw⟩⟩
    · exact ⟨0, fun q => absurd q hj⟩
  obtain ⟨f, hf⟩ : ∃ f : Nat → Int, ∀ j, j < 16 → cs[o + (j + 1)]? = some (.int .u8 (f j)) ∧ IntKind.u8.has (f j) := ⟨fun j => Classical.choose (hx j), fun j => Classical.choose_spec (hx j)⟩
  refine ⟨⟨k, (List.range 16).map f, nb, pl, ln, who, til⟩, p, n, c, ⟨by simp, fun x hx => ?_⟩, ⟨wnb, wpl, wln, wwho, wtil, wk⟩, fun i hi => ?_⟩
  · obtain ⟨j, hj, rfl⟩ := List.mem_map.1 hx
    exact has_u8 (hf j (List.mem_range.1 hj)).2
  · unfold rqL
    rcases Nat.eq_zero_or_pos i with rfl | hi0
    · exact hk
    · obtain ⟨j, rfl⟩ : ∃ j, i = j + 1 := ⟨i - 1, by omega⟩
      rw [List.getElem?_cons_succ]
      by_cases hj : j < 16
      · rw [List.getElem?_append_left (by simpa using hj), (hf j hj).1]
        simp [hj]
      · rw [List.getElem?_append_right (by simp; omega)]
        simp only [List.length_map, List.length_range]
        rcases (by omega : j = 16 ∨ j = 17 ∨ j = 18 ∨ j = 19 ∨ j = 20 ∨ j = 21) with rfl | rfl | rfl | rfl | rfl | rfl
        · exact hnb
        · exact hpl
        · exact hln
        · exact hwho
        · exact htil
        · exact h22
set_option maxRecDepth 100000 in
theorem open_rq {W : World} {base : Nat} {v : Value} (h : Value.okWide Try.prog W .any base 30 v) :
    ∃ (r : Rq) (p : Option Addr) (n c : Nat), r.ok ∧ (IntKind.i64.has r.nb ∧ IntKind.i64.has r.pl ∧ IntKind.i64.has r.ln ∧ IntKind.u32.has r.who ∧ IntKind.i64.has r.til ∧ IntKind.u8.has r.k) ∧ v = .agg (rqA r (.slice p n c)) := by
  simp only [Value.okWide, Try.underlying30] at h
  obtain ⟨cs, rfl, h1, ts, h2, _, h3⟩ := h
  rw [Opn.rq_types] at h2
  have hs : cs.size = 23 := by rw [← Opn.rq_cells]; exact h1
  obtain ⟨r, p, n, c, hr, hw, he⟩ := rq_at (W := W) (base := base) (o := 0) (cs := cs) (fun i hi => ⟨cs[0 + i]'(by omega), Array.getElem?_eq_getElem (by omega)⟩) (fun i v hi hv => by
    obtain ⟨u, q1, q2⟩ := h3 (0 + i) v hv
    rw [← (Option.some.inj h2)] at q1
    refine ⟨u, ?_, q2⟩
    rw [← q1]
    congr 1
    have : (0 + i) % ([22] ++ List.replicate 16 5 ++ [3, 3, 3, 25, 3, 28]).length = (0 + i) % 23 := rfl
    rw [this]
    omega)
  refine ⟨r, p, n, c, hr, hw, ?_⟩
  congr 1
  apply Array.ext_getElem?
  intro i
  by_cases hi : i < 23
  · have := he i hi
    rw [Nat.zero_add] at this
    rw [this]
    simp [rqA]
  · rw [Array.getElem?_eq_none (by omega), Array.getElem?_eq_none (by rw [rqA_size hr]; omega)]
end Go.Proofs.Ytnikojpdkbkdmaa
