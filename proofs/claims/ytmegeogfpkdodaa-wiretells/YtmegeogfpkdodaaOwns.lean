/- Rows of one's own. -/
import Derived.Test.YtmegeogfpkdodaaU8
import Derived.Laws.AppendOwnNone
namespace Go.Proofs.Ytmegeogfpkdodaa
open Go.RowKit

theorem own_mono {w : World} {B B' e n : Nat} {v : Value} {xs : List Value} (h : w.ownsRow B e 1 v n xs) (hb : B' ≤ B) : w.ownsRow B' e 1 v n xs := by
  refine ⟨h.1, ?_⟩
  rcases h.2 with h2 | ⟨g, cap, cur, h1, h2, h3⟩
  · exact .inl h2
  · exact .inr ⟨g, cap, cur, h1, Nat.le_trans hb h2, h3⟩

theorem own_slc {w : World} {B n : Nat} {e : TypeId} {v : Value} {xs : List Value} (h : w.ownsRow B e 1 v n xs) : ∃ p c, v = .slice p n c := by
  rcases h.2 with ⟨rfl, rfl⟩ | ⟨g, cap, cur, rfl, _⟩
  · exact ⟨none, 0, rfl⟩
  · exact ⟨_, _, rfl⟩
theorem none_or (z : Option Nat) : z = none ∨ z ≠ none := by cases z <;> simp
/-- A row of one's own is still there, where nothing that was there has turned. -/
theorem own_below {w w' : World} {B n : Nat} {e : TypeId} {v : Value} {xs : List Value} (h : w.ownsRow B e 1 v n xs) (hb : Below w.heap.size w w') : w'.ownsRow B e 1 v n xs :=
  h.kept ⟨hb.os, hb.tape, hb.output, hb.size, fun k hk _ => hb.block k hk⟩ (none_or _)
/-- Two rows that were made one behind the other. -/
theorem own_ne {w w' : World} {B B' n n' : Nat} {e e' : TypeId} {v v' : Value} {xs xs' : List Value} (h : w.ownsRow B e 1 v n xs) (h' : w'.ownsRow B' e' 1 v' n' xs') (hb : w.heap.size ≤ B') :
    (v.ownBlock = none ∨ v.ownBlock ≠ v'.ownBlock) ∧ (v'.ownBlock = none ∨ v'.ownBlock ≠ v.ownBlock) := by
  constructor
  · rcases none_or v.ownBlock with q | q
    · exact .inl q
    · refine .inr fun e => ?_
      obtain ⟨k, hk⟩ := Option.ne_none_iff_exists'.1 q
      have h1 := h.lt k hk
      have h2 := h'.lt k (e ▸ hk)
      omega
  · rcases none_or v'.ownBlock with q | q
    · exact .inl q
    · refine .inr fun e => ?_
      obtain ⟨k, hk⟩ := Option.ne_none_iff_exists'.1 q
      have h1 := h'.lt k hk
      have h2 := h.lt k (e ▸ hk)
      omega
end Go.Proofs.Ytmegeogfpkdodaa
