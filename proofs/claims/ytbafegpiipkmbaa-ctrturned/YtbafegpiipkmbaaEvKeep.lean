/- A region whose order is open, by the evaluator: temporaries that no operation sets stay. -/
import Derived.Test.YtbafegpiipkmbaaEvIn
set_option linter.unusedVariables false
namespace Go.Proofs.Ytbafegpiipkmbaa.Ev
open Go Go.RowKit

theorem op_mono {P : Program} {o : Oper} {a : Act} {w : World} {K K' : Act → World → Prop} {Q Q' : Exit → Act → World → Prop} (h : o.wp P a w K Q) (hQ : ∀ e a w, Q e a w → e = .normal)
    (hK : ∀ a' w', K a' w' → (∃ v, a'.tmps = (a.put o.dst v).tmps) → K' a' w') : o.wp P a w K' Q' := by
  unfold Oper.wp at h ⊢
  generalize (execOp a.eval o).run P w = r at h ⊢
  cases r with
  | ok x w' =>
    cases x with
    | value v => exact hK _ _ h ⟨v, rfl⟩
    | skip => exact hK _ _ h ⟨undef, rfl⟩
    | defer d => exact hK _ _ h ⟨undef, by cases o.dst <;> rfl⟩
    | enter f args =>
      refine Calls.mono h ?_
      intro e w'' he
      cases e with
      | returned v => exact hK _ _ he ⟨v, rfl⟩
      | panicked ch => cases hQ _ _ _ he
      | outgrown => obtain ⟨a0, w0, q⟩ := he; cases hQ _ _ _ q
    | row row args => exact Rows.mono h fun v w'' he => hK _ _ he ⟨v, rfl⟩
    | _ => exact h.elim
  | halt x w' =>
    cases x with
    | panic v => cases hQ _ _ _ h
    | _ => exact h.elim
def keepsJ (ops : Array Oper) (j : Nat) : Bool := ops.all fun o => match o.dst with | some d => !(Nat.beq d j) | none => true
theorem put_keep {ops : Array Oper} {j i : Nat} {o : Oper} (ho : ops[i]? = some o) (h : keepsJ ops j = true) (a : Act) (v : Value) : (a.put o.dst v).tmps[j]? = a.tmps[j]? := by
  obtain ⟨hi, e⟩ := Array.getElem?_eq_some_iff.1 ho
  have := (Array.all_eq_true.1 h) i hi
  rw [e] at this
  cases hd : o.dst with
  | none => rfl
  | some d =>
    rw [hd] at this
    simp only [Act.put]
    rw [Array.getElem?_setIfInBounds, if_neg (fun e => by subst e; simp at this)]
theorem any_keep {P : Program} {md : Region.Mode} {ops : Array Oper} {Q : Exit → Act → World → Prop} (hQ : ∀ e a w, Q e a w → e = .normal) {tm : Array Value} : ∀ (fuel : Nat) (listed : Array Bool) (a : Act) (w : World),
    wpAny P md ops Q fuel listed a w → (∀ j, keepsJ ops j = true → a.tmps[j]? = tm[j]?) → wpAny P md ops (fun e a' w' => Q e a' w' ∧ ∀ j, keepsJ ops j = true → a'.tmps[j]? = tm[j]?) fuel listed a w
  | 0, listed, a, w, h, hy => ⟨h.1, h.2, hy⟩
  | fuel + 1, listed, a, w, h, hy => by
    refine ⟨fun e => ⟨h.1 e, hy⟩, fun i hi => ?_⟩
    have h1 := h.2 i hi
    unfold wpOp at h1 ⊢
    cases ho : ops[i]? with
    | none =>
      rw [ho] at h1
      exact any_keep hQ fuel _ a w h1 hy
    | some o =>
      rw [ho] at h1
      simp only at h1 ⊢
      split at h1
      · rename_i hw
        rw [if_pos hw]
        rcases h1 with h1 | ⟨_, a0, w0, q⟩
        · refine .inl (op_mono h1 hQ fun a' w' hk ⟨v, hv⟩ => ?_)
          exact any_keep hQ fuel _ a' w' hk fun j hj => by rw [hv, put_keep ho hj]; exact hy j hj
        · cases hQ _ _ _ q
      · rename_i hw
        rw [if_neg hw]
        exact any_keep hQ fuel _ _ w h1 fun j hj => by rw [put_keep ho hj]; exact hy j hj
theorem plan_keep {P : Program} {ρ : Env} {Lo : Lore} (hLo : LoreOk ρ Lo) {call : CallF} (hc : CallOk P ρ call) (hm : P.follows .mixedOrders = true) {ops : Array Oper} {B : Nat} {ms : List Nat} {t t' : Tm} {H H' : List Blk} {a : Act} {w : World} (id : Nat)
    (hT : RelT ρ ms t a.tmps) (hH : Holds ρ ms H B w) (h : evPlan call P Lo ops t H = some (t', H')) {Q : Exit → Act → World → Prop}
    (hQ : ∀ ms' a' w', ms <+: ms' → RelT ρ ms' t' a'.tmps → a'.defers = a.defers → Holds ρ ms' H' B w' → Bel B w w' → (∀ j, keepsJ ops j = true → a'.tmps[j]? = a.tmps[j]?) → Q .normal a' w') : (Code.region id ops true).wp P Q a w := by
  have key := evPlan_any (Q := fun e a' w' => ∃ ms', ms <+: ms' ∧ RelT ρ ms' t' a'.tmps ∧ a'.defers = a.defers ∧ Holds ρ ms' H' B w' ∧ Bel B w w') hLo hc hT hH h fun ms' a' w' q1 q2 q3 q4 q5 => ⟨ms', q1, q2, q3, q4, q5⟩
  refine Code.wp_mono ?_ (wp_region_any hm (any_keep (tm := a.tmps) (fun e a w q => q.1) _ _ a _ key fun _ _ => rfl))
  rintro e a' w' ⟨⟨rfl, ms', q1, q2, q3, q4, q5⟩, q6⟩
  exact hQ ms' a' w' q1 q2 q3 q4 q5 q6
end Go.Proofs.Ytbafegpiipkmbaa.Ev
