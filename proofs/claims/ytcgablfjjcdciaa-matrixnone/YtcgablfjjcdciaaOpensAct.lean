/- What a reading of the arguments gives the walk of the law of nothing. -/
import Derived.Test.YtcgablfjjcdciaaOpensAsk
import Derived.Test.YtcgablfjjcdciaaMatNoneMain
set_option linter.unusedSimpArgs false
set_option linter.unusedVariables false
namespace Go.Proofs.Ytcgablfjjcdciaa
open Go.ChangeShapes Go.WideShapes Go.ChangeAt Go.RowKit

theorem Opn.act_types : Try.prog.cellTypes Try.prog.depth 41 = some [3, 3, 3, 3, 3, 3, 38, 39] := by kernel_rfl
theorem Opn.act_cells : Try.prog.cellsOf 41 = 8 := by kernel_rfl
set_option maxRecDepth 100000 in
theorem open_act {W : World} {base : Nat} {v : Value} (h : Value.okWide Try.prog W .any base 41 v) :
    ∃ (c : Nat → Int) (x y : Value), x.oneCell' = true ∧ y.oneCell' = true ∧ v = .agg #[.int .i64 (c 0), .int .i64 (c 1), .int .i64 (c 2), .int .i64 (c 3), .int .i64 (c 4), .int .i64 (c 5), x, y] := by
  simp only [Value.okWide, Try.underlying41] at h
  obtain ⟨cs, rfl, h1, ts, h2, _, h3⟩ := h
  rw [Opn.act_types] at h2
  cases h2
  have hs : cs.size = 8 := by rw [← Opn.act_cells]; exact h1
  have there : ∀ i, i < 8 → ∃ v, cs[i]? = some v := fun i hi => ⟨cs[i]'(by omega), Array.getElem?_eq_getElem (by omega)⟩
  have num : ∀ i, i < 6 → ∃ k : Int, cs[i]? = some (.int .i64 k) := fun i hi => by
    obtain ⟨v, hv⟩ := there i (by omega)
    obtain ⟨u, h4, h5⟩ := h3 i v hv
    have hu : u = 3 := by
      rcases (by omega : i = 0 ∨ i = 1 ∨ i = 2 ∨ i = 3 ∨ i = 4 ∨ i = 5) with rfl | rfl | rfl | rfl | rfl | rfl <;> (cases h4; rfl)
    subst hu
    rw [hv]
    simp only [Cell.okWide, Try.underlying3] at h5
    cases v <;> simp only [Cell.ok, Try.underlying3] at h5
    obtain ⟨rfl, h6⟩ := h5
    exact ⟨_, rfl⟩
  obtain ⟨x, hx⟩ := there 6 (by decide)
  obtain ⟨y, hy⟩ := there 7 (by decide)
  have x6 : x.oneCell' = true := by
    obtain ⟨u, h4, h5⟩ := h3 6 x hx
    cases h4
    simp only [Cell.okWide, Try.underlying38] at h5
    cases x <;> first | rfl | (simp only [Cell.ok, Try.underlying38] at h5; done)
  have x7 : y.oneCell' = true := by
    obtain ⟨u, h4, h5⟩ := h3 7 y hy
    cases h4
    simp only [Cell.okWide, Try.underlying39] at h5
    cases y <;> first | rfl | (simp only [Cell.ok, Try.underlying39] at h5; done)
  refine ⟨fun i => if hi : i < 6 then Classical.choose (num i hi) else 0, x, y, x6, x7, ?_⟩
  congr 1
  apply Array.ext_getElem?
  intro i
  rcases (by omega : i = 0 ∨ i = 1 ∨ i = 2 ∨ i = 3 ∨ i = 4 ∨ i = 5 ∨ i = 6 ∨ i = 7 ∨ 8 ≤ i) with rfl | rfl | rfl | rfl | rfl | rfl | rfl | rfl | h8
  · exact Classical.choose_spec (num 0 (by decide))
  · exact Classical.choose_spec (num 1 (by decide))
  · exact Classical.choose_spec (num 2 (by decide))
  · exact Classical.choose_spec (num 3 (by decide))
  · exact Classical.choose_spec (num 4 (by decide))
  · exact Classical.choose_spec (num 5 (by decide))
  · exact hx
  · exact hy
  · rw [Array.getElem?_eq_none (by omega), Array.getElem?_eq_none (by simpa using h8)]
end Go.Proofs.Ytcgablfjjcdciaa
