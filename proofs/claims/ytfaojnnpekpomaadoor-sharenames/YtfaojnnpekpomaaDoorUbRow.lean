/- Rows of a table in memory. -/
import Derived.Test.YtfaojnnpekpomaaDoorUbM
import Derived.Test.YtfaojnnpekpomaaDoorOwns
import Derived.Laws.AppendOwn
import Derived.Deep.MidRow
set_option linter.unusedSimpArgs false
set_option linter.unusedVariables false
namespace Go.Proofs.YtfaojnnpekpomaaDoor
open Go.RowKit

def rw0 : Rw := (noS, [])
theorem range_below2 {w w' : World} {b o : Nat} {cs : List Value} (h : w.rangeAt b o cs) (hB : Below w.heap.size w w') (hb : b < w.heap.size) : w'.rangeAt b o cs := fun j u hj => (hB.cell hb).trans (h j u hj)
/-- v is a slice of the rows. -/
def HRw (w : World) (v : Value) (rs : List Rw) : Prop :=
  ∃ (p : Option Addr) (c : Nat), v = .slice p rs.length c ∧ rs.length ≤ c ∧ c ≤ maxLen ∧
    (rs ≠ [] → ∃ b off, p = some ⟨b, off, none⟩ ∧ ∀ i, i < rs.length → ∃ u, w.rangeAt b (off + i * 2) [.string (rs.getD i rw0).1, u] ∧ HB w u (rs.getD i rw0).2)
theorem HRw.open {w : World} {v : Value} {rs : List Rw} (h : HRw w v rs) : ∃ (p : Option Addr) (c : Nat), v = .slice p rs.length c ∧ rs.length ≤ c ∧ c ≤ maxLen ∧
    (0 < rs.length → ∃ b off, p = some ⟨b, off, none⟩ ∧ b < w.heap.size ∧ ∀ i, i < rs.length → ∃ u, w.rangeAt b (off + i * 2) [.string (rs.getD i rw0).1, u] ∧ HB w u (rs.getD i rw0).2) := by
  obtain ⟨p, c, h1, h2, h3, h4⟩ := h
  refine ⟨p, c, h1, h2, h3, fun h0 => ?_⟩
  obtain ⟨b, off, q1, q2⟩ := h4 (fun e => by rw [e] at h0; cases h0)
  refine ⟨b, off, q1, ?_, q2⟩
  obtain ⟨u, hu, _⟩ := q2 0 h0
  exact World.block_lt_of_cell? w _ (hu 0 _ rfl)
theorem HRw.below {w w' : World} {v : Value} {rs : List Rw} (h : HRw w v rs) (hB : Below w.heap.size w w') : HRw w' v rs := by
  obtain ⟨p, c, h1, h2, h3, h4⟩ := h.open
  refine ⟨p, c, h1, h2, h3, fun hne => ?_⟩
  obtain ⟨b, off, q1, q2, q3⟩ := h4 (List.length_pos_iff.2 hne)
  refine ⟨b, off, q1, fun i hi => ?_⟩
  obtain ⟨u, hu, hv⟩ := q3 i hi
  exact ⟨u, range_below2 hu hB q2, hv.below hB⟩
theorem HRw.nil (w : World) : HRw w (.slice none 0 0) [] := ⟨none, 0, rfl, Nat.le_refl _, Nat.zero_le _, fun h => absurd rfl h⟩
theorem HRw.byt {w : World} {v : Value} {rs : List Rw} (h : HRw w v rs) : ∀ r ∈ rs, Byt8 r.2 := by
  intro r hr
  obtain ⟨p, c, h1, h2, h3, h4⟩ := h
  obtain ⟨b, off, _, q⟩ := h4 (fun e => by rw [e] at hr; cases hr)
  obtain ⟨i, hi, rfl⟩ := List.getElem_of_mem hr
  obtain ⟨u, _, hv⟩ := q i hi
  have e : rs.getD i rw0 = rs[i] := by simp [List.getD, List.getElem?_eq_getElem hi]
  rw [e] at hv
  exact hv.2
/-- The rows ahead. -/
theorem HRw.pre {w : World} {p : Option Addr} {n c k : Nat} {rs : List Rw} (h : HRw w (.slice p n c) rs) (hk : k ≤ rs.length) : HRw w (.slice p k c) (rs.take k) := by
  obtain ⟨p', c', h1, h2, h3, h4⟩ := h
  injection h1 with e1 e2 e3
  subst e1 e2 e3
  have hl : (rs.take k).length = k := by rw [List.length_take]; omega
  refine ⟨p, c, by rw [hl], by rw [hl]; omega, h3, fun hne => ?_⟩
  obtain ⟨b, off, q1, q2⟩ := h4 (fun e => hne (by rw [e]; simp))
  refine ⟨b, off, q1, fun i hi => ?_⟩
  rw [hl] at hi
  obtain ⟨u, hu, hv⟩ := q2 i (by omega)
  have e : (rs.take k).getD i rw0 = rs.getD i rw0 := by simp [List.getD, List.getElem?_take, hi]
  rw [e]
  exact ⟨u, hu, hv⟩
/-- The cells of rows whose values are vs. -/
def rcs : List Rw → List Value → List Value
  | r :: rs, v :: vs => .string r.1 :: v :: rcs rs vs
  | _, _ => []
theorem rcs_app : ∀ (a : List Rw) (x : List Value) (b : List Rw) (y : List Value), a.length = x.length → rcs (a ++ b) (x ++ y) = rcs a x ++ rcs b y
  | [], [], b, y, _ => rfl
  | [], v :: x, b, y, h => by cases h
  | r :: a, [], b, y, h => by cases h
  | r :: a, v :: x, b, y, h => by
    simp only [List.cons_append, rcs]
    rw [rcs_app a x b y (by simpa using h)]
theorem rcs_length : ∀ (a : List Rw) (x : List Value), a.length = x.length → (rcs a x).length = a.length * 2
  | [], [], _ => rfl
  | [], v :: x, h => by cases h
  | r :: a, [], h => by cases h
  | r :: a, v :: x, h => by
    simp only [rcs, List.length_cons]
    rw [rcs_length a x (by simpa using h)]
    omega
theorem rcs_get : ∀ (a : List Rw) (x : List Value) (i : Nat), a.length = x.length → i < a.length → (rcs a x)[i * 2]? = some (.string (a.getD i rw0).1) ∧ (rcs a x)[i * 2 + 1]? = some (x.getD i (.bool false))
  | [], _, i, _, h => by cases h
  | r :: a, [], i, h, _ => by cases h
  | r :: a, v :: x, 0, _, _ => ⟨rfl, rfl⟩
  | r :: a, v :: x, i + 1, h, hi => by
    have := rcs_get a x i (by simpa using h) (by simpa using hi)
    rw [show (i + 1) * 2 = i * 2 + 2 by omega, show i * 2 + 2 + 1 = (i * 2 + 1) + 2 by omega]
    simp only [rcs, List.getElem?_cons_succ, List.getD_cons_succ]
    exact this
/-- A row of the call's own whose values are held holds the rows. -/
theorem HRw.of_own {w : World} {base : Nat} {e : TypeId} {v : Value} {rs : List Rw} {vs : List Value} (h : w.ownsRow base e 2 v rs.length (rcs rs vs)) (hl : rs.length = vs.length) (hv : ∀ i, i < rs.length → HB w (vs.getD i (.bool false)) (rs.getD i rw0).2) : HRw w v rs := by
  have h0 := h
  rcases h.2 with ⟨rfl, hn⟩ | ⟨g, cap, cur, rfl, hbg, hg, hnc, hcm, hcs, htake⟩
  · exact ⟨none, 0, by rw [hn], by rw [hn]; exact Nat.le_refl _, Nat.zero_le _, fun hne => absurd (List.length_eq_zero_iff.1 hn) hne⟩
  · refine ⟨_, cap, rfl, hnc, hcm, fun _ => ⟨g, 0, rfl, fun i hi => ⟨vs.getD i (.bool false), fun j u hj => ?_, hv i hi⟩⟩⟩
    obtain ⟨q1, q2⟩ := rcs_get rs vs i hl hi
    have hc := fun k u hk => h0.cells (g := g) rfl k u hk
    simp only [Go.WideShapes.add_plain] at hc
    match j, hj with
    | 0, hj =>
      simp only [List.getElem?_cons_zero, Option.some.injEq] at hj
      subst hj
      have := hc _ _ q1
      rw [show (0 : Nat) + i * 2 + 0 = 0 + i * 2 by omega]
      exact this
    | 1, hj =>
      simp only [List.getElem?_cons_succ, List.getElem?_cons_zero, Option.some.injEq] at hj
      subst hj
      have := hc _ _ q2
      rw [show (0 : Nat) + i * 2 + 1 = 0 + (i * 2 + 1) by omega]
      exact this
    | j + 2, hj => simp at hj
end Go.Proofs.YtfaojnnpekpomaaDoor
