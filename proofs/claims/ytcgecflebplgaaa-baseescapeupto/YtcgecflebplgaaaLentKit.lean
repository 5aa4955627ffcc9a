/- Lists that are lent, and what stays while they are written over. -/
import Derived.Test.YtcgecflebplgaaaMarksMore
import Derived.Test.YtcgecflebplgaaaApart
import Derived.Test.YtcgecflebplgaaaOwns
import Derived.Test.YtcgecflebplgaaaSlices
set_option linter.unusedSimpArgs false
set_option linter.unusedVariables false
namespace Go.Proofs.Ytcgecflebplgaaa
open Go Go.RowKit

theorem HV.three (w : World) (a b c : Value) : HV (w.alloc (.cells #[a, b, c] 22)) (.slice (some ⟨w.heap.size, 0, none⟩) 3 3) [a, b, c] := by
  refine ⟨_, _, rfl, by simp, by decide, fun _ => ⟨w.heap.size, 0, rfl, ⟨_, _, heap_alloc_new w _⟩, fun k hk => ?_⟩⟩
  match k, hk with
  | 0, _ => simp
  | 1, _ => simp
  | 2, _ => simp

/-- A lent list: its row, and the slice that is lent. -/
theorem lent_part {w : World} {B : Nat} {v : Value} {l : List Int} (h : w.ownsRow B 5 1 v (lent l).length ((lent l).map (Value.int .u8))) (hby : ∀ x ∈ l, 0 ≤ x ∧ x < 256) :
    ∃ g c, v = .slice (some ⟨g, 0, none⟩) (l.length + 70) c ∧ B ≤ g ∧ g < w.heap.size ∧ l.length + 70 ≤ c ∧ c ≤ 9223372036854775807 ∧ HB w (.slice (some ⟨g, 0, none⟩) l.length c) l ∧ HB w (.slice (some ⟨g, 0, none⟩) (l.length + 70) c) (lent l) := by
  have hf := HB.of_own h (lent_byt hby)
  have hll := lent_length l
  rcases h.2 with ⟨_, e0⟩ | ⟨g, cap, cur, rfl, hb, hh, hn, hm, _⟩
  · omega
  · unfold maxLen at hm
    refine ⟨g, cap, by rw [hll], hb, (Array.getElem?_eq_some_iff.1 hh).1, by omega, hm, ?_, by rw [hll] at hf; exact hf⟩
    have h3 := hf.sliced 0 l.length cap (Nat.zero_le _) (by omega) (by omega) (Nat.le_refl _)
    rw [lent_take] at h3
    have e : (if cap = 0 then (some (⟨g, 0, none⟩ : Addr)) else (some (⟨g, 0, none⟩ : Addr)).map (·.add 0)) = some ⟨g, 0, none⟩ := by
      split
      · rfl
      · simp [Addr.add]
    rw [e] at h3
    simpa using h3


/-- The first of a row of one's own, as a slice. -/
theorem own_pre {w : World} {B g n c : Nat} {l : List Int} (h : w.ownsRow B 5 1 (.slice (some ⟨g, 0, none⟩) n c) l.length (l.map (Value.int .u8))) (hl : ∀ x ∈ l, 0 ≤ x ∧ x < 256) (m : Nat) (hm : m ≤ l.length) (hmc : m ≤ c) : HB w (.slice (some ⟨g, 0, none⟩) m c) (l.take m) := by
  have hf := HB.of_own h hl
  obtain ⟨p, c', e, h1, h2⟩ := hf.open
  simp only [Value.slice.injEq] at e
  obtain ⟨rfl, rfl, rfl⟩ := e
  have h3 := hf.sliced 0 m c (Nat.zero_le _) hm (by omega) (Nat.le_refl _)
  have e : (if c = 0 then (some (⟨g, 0, none⟩ : Addr)) else (some (⟨g, 0, none⟩ : Addr)).map (·.add 0)) = some ⟨g, 0, none⟩ := by
    split
    · rfl
    · simp [Addr.add]
  rw [e] at h3
  simpa using h3
/-- A row of one's own is not the block that turned. -/
theorem own_other {w w' : World} {B n g : Nat} {e : TypeId} {v : Value} {xs : List Value} (h : w.ownsRow B e 1 v n xs) (hg : w.grownBy w' (some g)) (hb : g < B) : w'.ownsRow B e 1 v n xs :=
  h.kept hg (by
    rcases none_or v.ownBlock with q | q
    · exact .inl q
    · exact .inr fun e => by have := (h.lt g e).1; omega)
theorem HB.other {w w' : World} {u : Value} {l : List Int} {g : Nat} (h : HB w u l) (hg : w.grownBy w' (some g)) (hr : u.ownBlock = none ∨ u.ownBlock ≠ some g) : HB w' u l := h.away hg hr

end Go.Proofs.Ytcgecflebplgaaa
