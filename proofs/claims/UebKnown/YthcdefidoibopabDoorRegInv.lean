/- A region that draws, walked by an invariant over what is done: whatever the order. -/
import Derived.Test.YthcdefidoibopabDoorBase
import Derived.RegionTactic
import Derived.Orders
set_option linter.unusedVariables false
namespace Go.Proofs.YthcdefidoibopabDoor
open Go Go.RowKit

/-- How many are not done. -/
def undone (L : Array Bool) : Nat := (L.toList.filter fun b => !b).length
theorem undone_set {L : Array Bool} {i : Nat} (h : L[i]? = some false) : undone L = undone (L.setIfInBounds i true) + 1 := by
  obtain ⟨l⟩ := L
  unfold undone
  simp only [List.getElem?_toArray, List.setIfInBounds_toArray] at h ⊢
  induction l generalizing i with
  | nil => simp at h
  | cons x l ih =>
    cases i with
    | zero =>
      simp at h
      subst h
      simp
    | succ i =>
      have := ih (by simpa using h)
      rw [List.set_cons_succ, List.filter_cons, List.filter_cons]
      split <;> simp [this]
theorem undone_ex {L : Array Bool} (h : undone L ≠ 0) : ∃ i : Nat, L[i]? = some false ∧ ∀ j : Nat, j < i → L[j]? = some true := by
  obtain ⟨l⟩ := L
  unfold undone at h
  simp only [List.getElem?_toArray] at h ⊢
  induction l with
  | nil => exact absurd rfl h
  | cons x l ih =>
    cases x with
    | false => exact ⟨0, rfl, fun j hj => absurd hj (Nat.not_lt_zero _)⟩
    | true =>
      obtain ⟨i, h1, h2⟩ := ih (by simpa using h)
      refine ⟨i + 1, by simpa using h1, fun j hj => ?_⟩
      cases j with
      | zero => rfl
      | succ j => simpa using h2 j (by omega)
theorem undone_none {L : Array Bool} (h : undone L = 0) (i : Nat) (hi : i < L.size) : L[i]? = some true := by
  obtain ⟨l⟩ := L
  unfold undone at h
  simp only [List.getElem?_toArray, List.size_toArray] at h hi ⊢
  have hn := List.filter_eq_nil_iff.1 (List.length_eq_zero_iff.1 h)
  have := hn l[i] (List.getElem_mem hi)
  rw [List.getElem?_eq_getElem hi]
  cases hx : l[i] with
  | true => rfl
  | false => rw [hx] at this; simp at this
theorem wpAny_inv {P : Program} {ops : Array Oper} {Q : Exit → Act → World → Prop} (hg : ∀ (i : Nat) (o : Oper), ops[i]? = some o → o.guard = none ∧ ∀ e ∈ o.after, e.on < i)
    (I : Array Bool → Act → World → Prop)
    (hstep : ∀ (L : Array Bool) (i : Nat) (o : Oper) (a : Act) (w : World) (K : Act → World → Prop), ops[i]? = some o → L.size = ops.size → L[i]? = some false → (∀ e ∈ o.after, Region.binds .any e = true → L[e.on]? = some true) → I L a w → (∀ a' w', I (L.setIfInBounds i true) a' w' → K a' w') → o.wp P a w K Q)
    (hend : ∀ (L : Array Bool) (a : Act) (w : World), L.size = ops.size → (∀ i, i < ops.size → L[i]? = some true) → I L a w → Q .normal a w) :
    ∀ (n : Nat) (L : Array Bool) (a : Act) (w : World), L.size = ops.size → undone L = n → I L a w → wpAny P .any ops Q n L a w := by
  intro n
  induction n with
  | zero =>
    intro L a w hs hu hI
    have hall : ∀ i, i < ops.size → L[i]? = some true := fun i hi => undone_none hu i (by omega)
    refine wpAny_done ?_ (hend L a w hs hall hI) 0
    refine List.eq_nil_iff_forall_not_mem.2 fun i hi => ?_
    obtain ⟨h1, o, h2, _⟩ := mem_ready.1 hi
    have hlt := (Array.getElem?_eq_some_iff.1 h2).1
    have := hall i hlt
    simp [Array.getD_eq_getD_getElem?, this] at h1
  | succ n ih =>
    intro L a w hs hu hI
    obtain ⟨i0, q1, q2⟩ := undone_ex (L := L) (by omega)
    have hne : i0 ∈ Region.ready .any ops L := by
      have hlt := (Array.getElem?_eq_some_iff.1 q1).1
      obtain ⟨o, ho⟩ : ∃ o, ops[i0]? = some o := ⟨_, Array.getElem?_eq_getElem (by omega)⟩
      refine mem_ready.2 ⟨by simp [Array.getD_eq_getD_getElem?, q1], o, ho, fun e he _ => ?_⟩
      have := q2 e.on ((hg i0 o ho).2 e he)
      simp [Array.getD_eq_getD_getElem?, this]
    refine ⟨fun h => by rw [h] at hne; exact absurd hne List.not_mem_nil, fun i hi => ?_⟩
    obtain ⟨h1, o, h2, h3⟩ := mem_ready.1 hi
    have hlt := (Array.getElem?_eq_some_iff.1 h2).1
    have hLi : L[i]? = some false := by
      rw [Array.getElem?_eq_getElem (by omega)]
      have : L.getD i true = L[i]'(by omega) := by simp [Array.getD, show i < L.size by omega]
      rw [this] at h1
      rw [h1]
    refine wpOp_step h2 fun K hK => ?_
    have hw : Region.wanted o (yielded ops a.tmps) = true := by unfold Region.wanted; rw [(hg i o h2).1]
    rw [if_pos hw]
    refine hstep L i o a w K h2 hs hLi (fun e he hb => ?_) hI fun a' w' hI' => hK _ _ (ih _ a' w' (by simpa using hs) (by have := undone_set hLi; omega) hI')
    have := h3 e he hb
    cases hx : L[e.on]? with
    | none => simp [Array.getD_eq_getD_getElem?, hx] at this
    | some x => simp [Array.getD_eq_getD_getElem?, hx] at this; rw [this]
end Go.Proofs.YthcdefidoibopabDoor
