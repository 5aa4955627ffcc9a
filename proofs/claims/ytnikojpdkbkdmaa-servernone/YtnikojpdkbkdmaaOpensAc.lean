/- What a reading of an act gives: its shape. -/
import Derived.Test.YtnikojpdkbkdmaaOpensRq
import Derived.Test.YtnikojpdkbkdmaaSvNoneWalk
set_option linter.unusedSimpArgs false
set_option linter.unusedVariables false
namespace Go.Proofs.Ytnikojpdkbkdmaa
open Go.ChangeShapes Go.WideShapes Go.ChangeAt Go.RowKit

theorem Opn.ac_types : Try.prog.cellTypes Try.prog.depth 33 = some ([3, 3, 3, 3] ++ ([22] ++ List.replicate 16 5 ++ [3, 3, 3, 25, 3, 28])) := by kernel_rfl
theorem Opn.ac_cells : Try.prog.cellsOf 33 = 27 := by kernel_rfl
set_option maxRecDepth 100000 in
theorem open_ac {W : World} {base : Nat} {v : Value} (h : Value.okWide Try.prog W .any base 33 v) :
    ∃ (on kd tk st : Int) (r : Rq) (p : Option Addr) (n c : Nat), r.ok ∧ v = .agg (acL on kd tk st r (.slice p n c)).toArray := by
  simp only [Value.okWide, Try.underlying33] at h
  obtain ⟨cs, rfl, h1, ts, h2, _, h3⟩ := h
  rw [Opn.ac_types] at h2
  have h2 := Option.some.inj h2
  subst h2
  have hs : cs.size = 27 := by rw [← Opn.ac_cells]; exact h1
  have hlen : ([3, 3, 3, 3] ++ ([22] ++ List.replicate 16 5 ++ [3, 3, 3, 25, 3, 28])).length = 27 := rfl
  have g : ∀ i, i < 4 → ∃ n : Int, cs[i]? = some (.int .i64 n) := fun i hi => by
    have hv : cs[i]? = some (cs[i]'(by omega)) := Array.getElem?_eq_getElem (by omega)
    obtain ⟨u, q1, q2⟩ := h3 i _ hv
    rw [hlen, Nat.mod_eq_of_lt (by omega), List.getElem?_append_left (by simpa using hi)] at q1
    have hu : u = 3 := by rcases (by omega : i = 0 ∨ i = 1 ∨ i = 2 ∨ i = 3) with rfl | rfl | rfl | rfl <;> (cases q1; rfl)
    subst hu
    obtain ⟨n, hn, _⟩ := cell_int Try.underlying3 q2
    exact ⟨n, by rw [hv, hn]⟩
  obtain ⟨on, h0⟩ := g 0 (by omega)
  obtain ⟨kd, hkd⟩ := g 1 (by omega)
  obtain ⟨tk, htk⟩ := g 2 (by omega)
  obtain ⟨st, hst⟩ := g 3 (by omega)
  obtain ⟨r, p, n, c, hr, hw, he⟩ := rq_at (W := W) (base := base) (o := 4) (cs := cs) (fun i hi => ⟨cs[4 + i]'(by omega), Array.getElem?_eq_getElem (by omega)⟩) (fun i v hi hv => by
    obtain ⟨u, q1, q2⟩ := h3 (4 + i) v hv
    refine ⟨u, ?_, q2⟩
    rw [hlen, Nat.mod_eq_of_lt (by omega), List.getElem?_append_right (by simp)] at q1
    rw [← q1]
    congr 1
    simp)
  refine ⟨on, kd, tk, st, r, p, n, c, hr, ?_⟩
  congr 1
  apply Array.ext_getElem?
  intro i
  have hl : (acL on kd tk st r (.slice p n c)).length = 27 := by simp [acL, rqL, hr.1]
  by_cases hi : i < 27
  · simp only [List.getElem?_toArray]
    unfold acL
    by_cases h4 : i < 4
    · rw [List.getElem?_append_left (by simpa using h4)]
      rcases (by omega : i = 0 ∨ i = 1 ∨ i = 2 ∨ i = 3) with rfl | rfl | rfl | rfl
      · exact h0
      · exact hkd
      · exact htk
      · exact hst
    · rw [List.getElem?_append_right (by simp; omega)]
      obtain ⟨j, rfl⟩ : ∃ j, i = 4 + j := ⟨i - 4, by omega⟩
      rw [he j (by omega)]
      congr 1
      simp
  · rw [Array.getElem?_eq_none (by omega), Array.getElem?_eq_none (by rw [List.size_toArray, hl]; omega)]
end Go.Proofs.Ytnikojpdkbkdmaa
