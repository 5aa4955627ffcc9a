/- More on octet's Reader and on slices of ints that came in. -/
import Derived.Test.YtiodfpaifkcmoaaReader
namespace Go.Proofs.Ytiodfpaifkcmoaa
open Go.RowKit

/-- v is a slice of the ints l, in the world w. -/
def HI (w : World) (v : Value) (l : List Int) : Prop :=
  ∃ (p : Option Addr) (c : Nat), v = .slice p l.length c ∧ l.length ≤ c ∧ c ≤ maxLen ∧
    (l ≠ [] → ∃ b off, p = some ⟨b, off, none⟩ ∧ ∀ j, j < l.length → w.cell? ⟨b, off + j, none⟩ = some (.int .i64 (l.getD j 0)))

theorem HI.open {w : World} {v : Value} {l : List Int} (h : HI w v l) : ∃ (p : Option Addr) (c : Nat), v = .slice p l.length c ∧ l.length ≤ c ∧ c ≤ maxLen ∧
    Hid (0 < l.length → ∃ b off, p = some ⟨b, off, none⟩ ∧ ∀ j, j < l.length → w.cell? ⟨b, off + j, none⟩ = some (.int .i64 (l.getD j 0))) := by
  obtain ⟨p, c, h1, h2, h3, h4⟩ := h
  exact ⟨p, c, h1, h2, h3, fun h0 => h4 (by intro e; subst e; simp at h0)⟩

theorem RD.block {w : World} {g : Nat} {m f : Bool} {l : List Int} (h : RD w g m f l) : BT w g 77 := by
  obtain ⟨v, hb, _⟩ := h
  exact ⟨_, _, hb⟩

theorem RD.grownOther {w w' : World} {g : Nat} {m f : Bool} {l : List Int} {row : Option Nat} (h : RD w g m f l) (hg : w.grownBy w' row) (hr : ∀ k, row = some k → BT w k 23) : RD w' g m f l := by
  obtain ⟨v, hblk, hv⟩ := h
  refine ⟨v, ?_, hv.grown hg fun k e => ?_⟩
  · rw [hg.block g (Array.getElem?_eq_some_iff.1 hblk).1 ?_]
    · exact hblk
    · intro e
      obtain ⟨cur, fz, hh⟩ := hr g e.symm
      rw [hblk] at hh
      simp at hh
  · obtain ⟨cur, fz, hh⟩ := hr k e
    exact ⟨cur, _, fz, hh, by decide⟩

theorem taken_left (l : List Int) (n : Int) : okTake l n = true → taken l n ++ leftAt l n = l := by
  intro h
  simp [taken, leftAt, h]

theorem taken_left_le (l : List Int) (n : Int) : (taken l n).length + (leftAt l n).length ≤ l.length := by
  unfold taken leftAt
  split
  · simp; omega
  · simp

end Go.Proofs.Ytiodfpaifkcmoaa
