/- Rows of lists of one's own, put one behind the other. -/
import Derived.Test.YtdmdcnikhnoclabRange
import Derived.Test.YtdmdcnikhnoclabLists
set_option linter.unusedVariables false
set_option linter.unusedSimpArgs false
namespace Go.Proofs.Ytdmdcnikhnoclab
open Go.RowKit Go.Shelf

theorem own_slc1 {w : World} {B n : Nat} {e : TypeId} {v : Value} {xs : List Value} (h : w.ownsRow B e 1 v n xs) : ∃ p c, v = .slice p n c := by
  rcases h.2 with ⟨rfl, rfl⟩ | ⟨g, cap, cur, rfl, _⟩
  · exact ⟨_, _, rfl⟩
  · exact ⟨_, _, rfl⟩

/-- v is a row of slices, made at or beyond block B, that hold the lists ls in rows of their own there. -/
def PW (B : Nat) (w : World) (v : Value) (ls : List (List Int)) : Prop :=
  ∃ xs, w.ownsRow B 26 1 v ls.length xs ∧ ∀ j, j < ls.length → w.ownsRow B 5 1 (xs.getD j undef) (ls.getD j []).length ((ls.getD j []).map (Value.int .u8)) ∧ BytI (ls.getD j [])
theorem PW.nil (B : Nat) (w : World) : PW B w (.slice none 0 0) [] := ⟨[], World.ownsRow_nil _ _ _ _, fun j hj => by simp at hj⟩
theorem PW.hl {B : Nat} {w : World} {v : Value} {ls : List (List Int)} (h : PW B w v ls) : HL w v ls := by
  obtain ⟨xs, h1, h2⟩ := h
  by_cases h0 : 0 < ls.length
  · obtain ⟨g, cap, rfl, _, hn, hm, hc⟩ := ownsRow_cells h1 h0
    refine ⟨_, cap, rfl, hn, hm, (fun e => by cases e), fun _ => ⟨g, 0, rfl, fun j hj => ⟨xs.getD j undef, ?_, HB.of_own (h2 j hj).1 (h2 j hj).2⟩⟩⟩
    have hx : xs.length = ls.length := by have := h1.1; omega
    exact hc j _ (by simp [List.getD, List.getElem?_eq_getElem (show j < xs.length by omega)])
  · have e : ls = [] := List.length_eq_zero_iff.1 (by omega)
    subst e
    rcases h1.2 with ⟨rfl, _⟩ | ⟨g, cap, cur, rfl, _, _, hn, hm, _⟩
    · exact HL.nil _
    · exact ⟨_, cap, rfl, hn, hm, (fun e => by cases e), fun h => absurd rfl h⟩
theorem PW.from {B n : Nat} {A C : World} {v : Value} {ls : List (List Int)} {row : Option Nat} (h : PW B A v ls) (hg : A.grownBy C row) (hr : ∀ r, row = some r → n ≤ r ∧ ∃ o : Obj, A.heap[r]? = some o ∧ o.isCells = false) : PW B C v ls := by
  obtain ⟨xs, h1, h2⟩ := h
  exact ⟨xs, row_from h1 hg hr, fun j hj => ⟨row_from (h2 j hj).1 hg hr, (h2 j hj).2⟩⟩
/-- One list more is put behind, and the variable's box is written. -/
theorem PW.push {B0 Bx : Nat} {W w1 : World} {vp v' u : Value} {ls : List (List Int)} {l : List Int} {xs : List Value} {o : Obj} (hrow : W.ownsRow B0 26 1 vp ls.length xs)
    (hel : ∀ j, j < ls.length → W.ownsRow B0 5 1 (xs.getD j undef) (ls.getD j []).length ((ls.getD j []).map (Value.int .u8)) ∧ BytI (ls.getD j [])) (hu : W.ownsRow B0 5 1 u l.length (l.map (Value.int .u8))) (hby : BytI l)
    (x1 : Boxed W Bx 22 vp) (hown : w1.ownsRow B0 26 1 v' (ls.length + 1) (xs ++ [u])) (hg : (W.alloc o).grownBy w1 vp.ownBlock) :
    PW B0 (w1.setCell ⟨Bx, 0, none⟩ v') v' (ls ++ [l]) ∧ Boxed w1 Bx 22 vp ∧ Boxed (w1.setCell ⟨Bx, 0, none⟩ v') Bx 22 v' := by
  have hv1 : Boxed w1 Bx 22 vp := (x1.alloc o).kept hg (x1.not_row (by decide) hrow)
  have gs := grownBy_setCell' w1 Bx v'
  have key : ∀ {q : Value} {m : Nat} {ys : List Value}, W.ownsRow B0 5 1 q m ys → (w1.setCell ⟨Bx, 0, none⟩ v').ownsRow B0 5 1 q m ys := fun {q m ys} h => by
    have h1 := h.alloc o
    have h2 : w1.ownsRow B0 5 1 q m ys := by
      refine h1.kept hg ?_
      cases hvp : vp.ownBlock with
      | none => cases q.ownBlock <;> simp
      | some g =>
        rcases (hrow.alloc o).2 with ⟨rfl, _⟩ | ⟨g', cap, cur, rfl, _, hh, _⟩
        · simp [Value.ownBlock] at hvp
        · simp only [Value.ownBlock, Option.some.injEq] at hvp
          subst hvp
          exact .inr (own_block_ne h1 hh (by decide))
    exact h2.kept gs (.inr (own_block_ne h2 (show w1.heap[Bx]? = _ from hv1) (by decide)))
  refine ⟨⟨xs ++ [u], ?_, fun j hj => ?_⟩, hv1, hv1.set v'⟩
  · rw [List.length_append, List.length_singleton]
    exact hown.kept gs (.inr (hv1.not_row (by decide) hown).symm)
  · have hxl : xs.length = ls.length := by have := hrow.1; omega
    rw [List.length_append, List.length_singleton] at hj
    rw [getD_app, getD_app, hxl]
    split
    · rename_i h
      exact ⟨key (hel j h).1, (hel j h).2⟩
    · have : j - ls.length = 0 := by omega
      rw [this]
      exact ⟨key hu, hby⟩
end Go.Proofs.Ytdmdcnikhnoclab
