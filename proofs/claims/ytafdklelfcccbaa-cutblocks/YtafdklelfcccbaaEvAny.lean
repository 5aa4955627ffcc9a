/- The evaluator: a region whose order is open. -/
import Derived.Test.YtafdklelfcccbaaEvCode
namespace Go.Proofs.Ytafdklelfcccbaa.Ev
open Go Go.RowKit

/-- Operations that are carried out where they stand. -/
def carry : Op → Bool
  | .call _ | .alloc _ | .box _ _ | .store _ _ _ => true
  | _ => false
/-- Operation j is one of those, and waits for each of N. -/
def waits (ops : Array Oper) (N : List Nat) (j : Nat) : Bool :=
  match ops[j]? with
  | some o => carry o.op && N.all fun i => o.after.any fun e => Region.binds .any e && e.on == i
  | none => false
/-- Whatever order is picked: behind each operation S holds, till one of W has come up. -/
def wpN (P : Program) (ops : Array Oper) (Q : Exit → Act → World → Prop) (S : World → Prop) (W : Nat → Bool) : Nat → Bool → Array Bool → Act → World → Prop
  | 0, _, listed, a, w => Region.ready .any ops listed = [] ∧ Q .normal a w
  | f + 1, late, listed, a, w =>
    (Region.ready .any ops listed = [] → Q .normal a w) ∧
    ∀ i ∈ Region.ready .any ops listed, wpOp P ops Q i (fun a' w' => (S w' ∨ (late || W i) = true) ∧ wpN P ops Q S W f (late || W i) (listed.setIfInBounds i true) a' w') a w

section
variable {P : Program} {ops : Array Oper} {Q : Exit → Act → World → Prop} {S : World → Prop} {W : Nat → Bool}
theorem wpAny_of_N : ∀ (f : Nat) (late : Bool) (listed : Array Bool) (a : Act) (w : World), wpN P ops Q S W f late listed a w → wpAny P .any ops Q f listed a w
  | 0, _, _, _, _, h => h
  | f + 1, _, _, _, _, h => ⟨h.1, fun i hi => wpOp_mono (fun a' w' h' => wpAny_of_N f _ _ a' w' h'.2) (h.2 i hi)⟩

theorem waits_edge {N : List Nat} {j i : Nat} {oj : Oper} (hj : ops[j]? = some oj) (h : waits ops N j = true) (hi : i ∈ N) : ∃ e ∈ oj.after, Region.binds .any e = true ∧ e.on = i := by
  unfold waits at h
  rw [hj] at h
  simp only [Bool.and_eq_true, List.all_eq_true] at h
  have := h.2 i hi
  simp only [Array.any_eq_true', Bool.and_eq_true, beq_iff_eq] at this
  obtain ⟨e, h1, h2, h3⟩ := this
  exact ⟨e, h1, h2, h3⟩

/-- An operation that may come up, and yields its value in every world in which S' holds, may be taken first; S' holds everywhere, or is S while whoever is of W waits for the operation. -/
theorem wpN_take {S' : World → Prop} {i : Nat} {oi : Oper} {v : Value} (hi : ops[i]? = some oi) (hsel : Region.noSelect ops = true) (hQ : ∀ c a w, ¬ Q (.panic c) a w) (hWi : W i = false) :
    ∀ (f : Nat) (late' : Bool) (listed : Array Bool) (a : Act) (w : World), ((∀ w, S' w) ∨ (S' = S ∧ late' = false ∧ ∀ j oj, ops[j]? = some oj → W j = true → ∃ e ∈ oj.after, Region.binds .any e = true ∧ e.on = i)) →
      (∀ j oj, ops[j]? = some oj → j ≠ i → listed.getD j true = false → (∀ e ∈ oj.after, Region.binds .any e = true → e.on ≠ i) → oi.apart ops oj = true) →
      i ∈ Region.ready .any ops listed → YieldsIf P ops S' oi v a → S' w → (S w ∨ late' = true) →
      wpN P ops Q S W f late' (listed.setIfInBounds i true) (a.put oi.dst v) w → wpN P ops Q S W (f + 1) late' listed a w := by
  intro f
  induction f with
  | zero =>
    intro late' listed a w _ _ hr hy hs hsw hw
    refine ⟨fun h0 => absurd hr (by rw [h0]; simp), fun j hj => ?_⟩
    by_cases e : j = i
    · subst e; rw [hWi, Bool.or_false]; exact hy.wpOp hi hs ⟨hsw, hw⟩
    · have := ready_mono hj e
      rw [hw.1] at this
      cases this
  | succ f ih =>
    intro late' listed a w hk hfree hr hy hs hsw hw
    refine ⟨fun h0 => absurd hr (by rw [h0]; simp), fun j hj => ?_⟩
    by_cases e : j = i
    · subst e; rw [hWi, Bool.or_false]; exact hy.wpOp hi hs ⟨hsw, hw⟩
    · have h1 := hw.2 j (ready_mono hj e)
      obtain ⟨hjun, oj, hoj, hall⟩ := mem_ready.1 hj
      have hnot : ∀ x ∈ oj.after, Region.binds .any x = true → x.on ≠ i := fun x hx hb heq => by
        have q1 := hall x hx hb
        have q0 := (mem_ready.1 hr).1
        rw [heq] at q1
        rcases Nat.lt_or_ge i listed.size with h' | h'
        · simp [h'] at q0 q1; rw [q0] at q1; cases q1
        · simp [Array.getElem?_eq_none h'] at q1
      have h2 := wpOp_putIf hoj (hfree j oj hoj e hjun hnot) (fun cs b => Region.noSelect_spec hsel i oi cs b hi) (fun cs b => Region.noSelect_spec hsel j oj cs b hoj) (fun c a w h => absurd h (hQ c _ w)) hy h1
      refine wpOp_mono (fun a' w' h3 => ⟨h3.2.1, ?_⟩) h2
      have hS : (∀ w, S' w) ∨ (S' = S ∧ (late' || W j) = false ∧ ∀ j oj, ops[j]? = some oj → W j = true → ∃ e ∈ oj.after, Region.binds .any e = true ∧ e.on = i) := by
        rcases hk with hk | ⟨q1, q2, q3⟩
        · exact .inl hk
        · refine .inr ⟨q1, ?_, q3⟩
          cases hw' : W j with
          | false => rw [q2]; rfl
          | true =>
            obtain ⟨x, h4, h5, h6⟩ := q3 j oj hoj hw'
            exact absurd h6 (hnot x h4 h5)
      refine ih (late' || W j) (listed.setIfInBounds j true) a' w' hS ?_ (ready_mono hr (Ne.symm e)) h3.1 ?_ h3.2.1 ?_
      · intro k ok hk' hki hun hno
        refine hfree k ok hk' hki ?_ hno
        by_cases hjk : j = k
        · subst hjk; exact hjun
        · rw [getD_set_ne true hjk] at hun; exact hun
      · rcases hS with hS | ⟨q1, q2, q3⟩
        · exact hS w'
        · rcases h3.2.1 with h4 | h4
          · rw [q1]; exact h4
          · rw [q2] at h4; cases h4
      · rw [Array.setIfInBounds_comm _ _ e]
        exact h3.2.2
end
end Go.Proofs.Ytafdklelfcccbaa.Ev
