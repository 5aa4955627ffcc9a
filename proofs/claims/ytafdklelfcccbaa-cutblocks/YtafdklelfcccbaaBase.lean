/- What the walks of this family share: a value that is a slice of bytes, told by its cells; no statement of a law lies here, and nothing is assumed. -/
import Derived.WalkKit
import Derived.WalkSpells
import Derived.WalkLawsBesides
import Derived.Deep.QuietTactic
import Derived.BigQuiet
namespace Go.Proofs.Ytafdklelfcccbaa
open Go.RowKit

theorem hid {p : Prop} (h : p) : Hid p := h

/-- v is a slice of the bytes l, in the world w. -/
def HB (w : World) (v : Value) (l : List Int) : Prop :=
  (∃ (p : Option Addr) (c : Nat), v = .slice p l.length c ∧ l.length ≤ c ∧ c ≤ maxLen ∧ (p = none → c = 0) ∧
    (l ≠ [] → ∃ b off, p = some ⟨b, off, none⟩ ∧ ∀ j, j < l.length → w.cell? ⟨b, off + j, none⟩ = some (.int .u8 (l.getD j 0)))) ∧ ∀ x ∈ l, 0 ≤ x ∧ x < 256

theorem HB.open {w : World} {v : Value} {l : List Int} (h : HB w v l) : ∃ (p : Option Addr) (c : Nat), v = .slice p l.length c ∧ l.length ≤ c ∧ c ≤ maxLen := by
  obtain ⟨⟨p, c, h1, h2, h3, _⟩, _⟩ := h
  exact ⟨p, c, h1, h2, h3⟩

theorem HB.ne {w : World} {v : Value} {l : List Int} (h : HB w v l) (hl : 0 < l.length) :
    ∃ b off c, v = .slice (some ⟨b, off, none⟩) l.length c ∧ l.length ≤ c ∧ c ≤ maxLen ∧ ∀ j, j < l.length → w.cell? ⟨b, off + j, none⟩ = some (.int .u8 (l.getD j 0)) := by
  obtain ⟨⟨p, c, h1, h2, h3, _, h4⟩, _⟩ := h
  obtain ⟨b, off, rfl, hc⟩ := h4 (by intro e; subst e; simp at hl)
  exact ⟨b, off, c, h1, h2, h3, hc⟩

theorem HB.byte {w : World} {v : Value} {l : List Int} (h : HB w v l) (j : Nat) : 0 ≤ l.getD j 0 ∧ l.getD j 0 < 256 := by
  by_cases hj : j < l.length
  · have e : l.getD j 0 = l[j] := by simp [List.getD, List.getElem?_eq_getElem hj]
    rw [e]
    exact h.2 _ (List.getElem_mem hj)
  · have e : l.getD j 0 = 0 := by simp [List.getD, List.getElem?_eq_none (by omega : l.length ≤ j)]
    rw [e]; omega

/-- Where every cell that was there reads as it did, the bytes are still held. -/
theorem HB.later {w w' : World} {v : Value} {l : List Int} (h : HB w v l) (hc : ∀ a (n : Int), w.cell? a = some (.int .u8 n) → w'.cell? a = some (.int .u8 n)) : HB w' v l := by
  obtain ⟨⟨p, c, h1, h2, h3, h6, h4⟩, h5⟩ := h
  refine ⟨⟨p, c, h1, h2, h3, h6, fun hl => ?_⟩, h5⟩
  obtain ⟨b, off, e, hh⟩ := h4 hl
  exact ⟨b, off, e, fun j hj => hc _ _ (hh j hj)⟩

theorem HB.below {w w' : World} {v : Value} {l : List Int} (h : HB w v l) (hb : Below w.heap.size w w') : HB w' v l :=
  h.later fun a _ hx => (hb.cell (World.block_lt_of_cell? w a hx)).trans hx

theorem HB.drewN {w : World} {v : Value} {l : List Int} (h : HB w v l) (q : Nat) : HB (w.drewN q) v l := h.later fun _ _ hx => hx

theorem getD_of_lt {l : List Int} {k : Nat} (h : k < l.length) : l.getD k 0 = l[k] := by simp [List.getD, List.getElem?_eq_getElem h]

theorem ownsRow_cells {w : World} {B : Nat} {e : TypeId} {v : Value} {n : Nat} {xs : List Value} (h : w.ownsRow B e 1 v n xs) (h0 : 0 < n) :
    ∃ g cap, v = .slice (some ⟨g, 0, none⟩) n cap ∧ B ≤ g ∧ n ≤ cap ∧ cap ≤ maxLen ∧ ∀ j u, xs[j]? = some u → w.cell? ⟨g, 0 + j, none⟩ = some u := by
  have hc := @World.ownsRow.cells w B e 1 v n xs h
  rcases h.2 with ⟨_, e0⟩ | ⟨g, cap, cur, rfl, hb, _, hn, hm, _, _⟩
  · omega
  · refine ⟨g, cap, rfl, hb, hn, hm, fun j u hj => ?_⟩
    have := @hc g rfl j u hj
    rwa [Go.WideShapes.add_plain] at this

/-- A row of bytes of the call's own holds its bytes. -/
theorem HB.of_own {w : World} {B : Nat} {e : TypeId} {v : Value} {l : List Int} (h : w.ownsRow B e 1 v l.length (l.map (Value.int .u8))) (hx : ∀ x ∈ l, 0 ≤ x ∧ x < 256) : HB w v l := by
  refine ⟨?_, hx⟩
  by_cases h0 : 0 < l.length
  · obtain ⟨g, cap, rfl, _, hn, hm, hc⟩ := ownsRow_cells h h0
    refine ⟨_, cap, rfl, hn, hm, (fun e => by cases e), fun _ => ⟨g, 0, rfl, fun j hj => ?_⟩⟩
    exact hc j _ (by simp [List.getD, List.getElem?_eq_getElem hj])
  · have e : l = [] := List.length_eq_zero_iff.1 (by omega)
    subst e
    rcases h.2 with ⟨rfl, _⟩ | ⟨g, cap, cur, rfl, _, _, hn, hm, _⟩
    · exact ⟨none, 0, rfl, Nat.le_refl _, Nat.zero_le _, fun _ => rfl, fun h => absurd rfl h⟩
    · exact ⟨_, cap, rfl, hn, hm, (fun e => by cases e), fun h => absurd rfl h⟩

theorem HB.grown {w w' : World} {v : Value} {l : List Int} {g : Nat} (h : HB w v l) (hg : w.grownBy w' (some g)) (hn : ∀ o sp (n : Int), w.cell? ⟨g, o, sp⟩ ≠ some (.int .u8 n)) : HB w' v l :=
  h.later fun a n hx => hg.cell hx (by
    intro e
    obtain ⟨b, o, sp⟩ := a
    simp only [Option.some.injEq] at e
    subst e
    exact hn o sp n hx)

theorem HB.nil (w : World) : HB w (.slice none 0 0) [] := ⟨⟨none, 0, rfl, Nat.zero_le _, Nat.zero_le _, fun _ => rfl, fun h => absurd rfl h⟩, by simp⟩

/-- Block g is a row of elements of type T. -/
def BT (w : World) (g : Nat) (T : TypeId) : Prop := ∃ cur fz, w.heap[g]? = some (.cells cur T fz)

/-- v is a slice of slices that hold the lists ls. -/
def HL (w : World) (v : Value) (ls : List (List Int)) : Prop :=
  ∃ (p : Option Addr) (c : Nat), v = .slice p ls.length c ∧ ls.length ≤ c ∧ c ≤ maxLen ∧ (p = none → c = 0) ∧
    (ls ≠ [] → ∃ b off, p = some ⟨b, off, none⟩ ∧ ∀ j, j < ls.length → ∃ u, w.cell? ⟨b, off + j, none⟩ = some u ∧ HB w u (ls.getD j []))

theorem HL.ne {w : World} {v : Value} {ls : List (List Int)} (h : HL w v ls) (hl : 0 < ls.length) :
    ∃ b off c, v = .slice (some ⟨b, off, none⟩) ls.length c ∧ ls.length ≤ c ∧ c ≤ maxLen ∧ ∀ j, j < ls.length → ∃ u, w.cell? ⟨b, off + j, none⟩ = some u ∧ HB w u (ls.getD j []) := by
  obtain ⟨p, c, h1, h2, h3, _, h4⟩ := h
  obtain ⟨b, off, rfl, hc⟩ := h4 (by intro e; subst e; simp at hl)
  exact ⟨b, off, c, h1, h2, h3, hc⟩

theorem HL.open {w : World} {v : Value} {ls : List (List Int)} (h : HL w v ls) : ∃ (p : Option Addr) (c : Nat), v = .slice p ls.length c ∧ ls.length ≤ c ∧ c ≤ maxLen := by
  obtain ⟨p, c, h1, h2, h3, _⟩ := h
  exact ⟨p, c, h1, h2, h3⟩

theorem HL.later {w w' : World} {v : Value} {ls : List (List Int)} (h : HL w v ls) (hc : ∀ a x, w.cell? a = some x → w'.cell? a = some x) : HL w' v ls := by
  obtain ⟨p, c, h1, h2, h3, h5, h4⟩ := h
  refine ⟨p, c, h1, h2, h3, h5, fun hl => ?_⟩
  obtain ⟨b, off, e, hh⟩ := h4 hl
  refine ⟨b, off, e, fun j hj => ?_⟩
  obtain ⟨u, hu, hb⟩ := hh j hj
  exact ⟨u, hc _ _ hu, hb.later fun a n => hc a _⟩

theorem HL.below {w w' : World} {v : Value} {ls : List (List Int)} (h : HL w v ls) (hb : Below w.heap.size w w') : HL w' v ls :=
  h.later fun a _ hx => (hb.cell (World.block_lt_of_cell? w a hx)).trans hx

theorem HL.byt {w : World} {v : Value} {ls : List (List Int)} (h : HL w v ls) : ∀ x ∈ ls.flatten, 0 ≤ x ∧ x < 256 := by
  intro x hx
  obtain ⟨l, hl, hxl⟩ := List.mem_flatten.1 hx
  obtain ⟨j, hj, rfl⟩ := List.getElem_of_mem hl
  obtain ⟨b, off, c, _, _, _, hh⟩ := h.ne (by omega)
  obtain ⟨u, _, hb⟩ := hh j hj
  have e : ls.getD j [] = ls[j] := by simp [List.getD, List.getElem?_eq_getElem hj]
  rw [e] at hb
  exact hb.2 x hxl

theorem HL.nil (w : World) : HL w (.slice none 0 0) [] := ⟨none, 0, rfl, Nat.zero_le _, Nat.zero_le _, fun _ => rfl, fun h => absurd rfl h⟩

/-- w' is w but for the count of draws. -/
def Dr (w w' : World) : Prop := ∃ q, w' = w.drewN q
theorem Dr.refl (w : World) : Dr w w := ⟨0, rfl⟩
theorem Dr.drewN {w u : World} (h : Dr w u) (n : Nat) : Dr w (u.drewN n) := by
  obtain ⟨q, rfl⟩ := h
  exact ⟨q + n, World.drewN_drewN w q n⟩
theorem Dr.one (w : World) (n : Nat) : Dr w (w.drewN n) := ⟨n, rfl⟩
theorem Dr.trans {a b c : World} (h : Dr a b) (k : Dr b c) : Dr a c := by
  obtain ⟨q, rfl⟩ := k
  exact h.drewN q

theorem Dr.cell {w w' : World} (h : Dr w w') (a : Addr) : w'.cell? a = w.cell? a := by obtain ⟨q, rfl⟩ := h; rfl
theorem Dr.heap {w w' : World} (h : Dr w w') : w'.heap = w.heap := by obtain ⟨q, rfl⟩ := h; rfl
theorem Dr.below {w w' : World} (h : Dr w w') (B : Nat) : Below B w w' := by obtain ⟨q, rfl⟩ := h; exact ⟨rfl, rfl, rfl, Nat.le_refl _, fun _ _ => rfl⟩
theorem HB.dr {w w' : World} {v : Value} {l : List Int} (h : HB w v l) (d : Dr w w') : HB w' v l := h.later fun a _ hx => (d.cell a).trans hx
theorem HL.dr {w w' : World} {v : Value} {ls : List (List Int)} (h : HL w v ls) (d : Dr w w') : HL w' v ls := h.below (d.below _)


end Go.Proofs.Ytafdklelfcccbaa
