/- The evaluator within the round of a range over a function: what it answers the model answers there too. -/
import Derived.Test.YtafdklelfcccbaaEvFast
import Derived.TacticsIn
import Derived.OrdersIn
import Derived.ControlIn
set_option linter.unusedVariables false
set_option linter.unusedSimpArgs false
namespace Go.Proofs.Ytafdklelfcccbaa.Ev
open Go Go.RowKit

def calmO (o : Oper) : Bool := match o.op with | .defer _ => false | _ => true
theorem calmO_spec {o : Oper} (h : calmO o = true) : ∀ c, o.op ≠ .defer c := fun c e => by simp [calmO, e] at h
/-- All may come in; in the round ro, or in none. -/
def wideR (ro : Option Nat) : Fence := { Fence.wide with round := ro }

/-- Temporaries that hold one value all along. -/
def Ys (Y : List Nat) (yv : Value) (tm : Array Value) : Prop := ∀ y ∈ Y, tm[y]? = some yv
def dstFree (Y : List Nat) (o : Oper) : Bool := match o.dst with | some d => !Y.contains d | none => true
theorem Ys.put {Y : List Nat} {yv : Value} {a : Act} (h : Ys Y yv a.tmps) {o : Oper} (hd : dstFree Y o = true) (v : Value) : Ys Y yv (a.put o.dst v).tmps := by
  unfold dstFree at hd
  cases ho : o.dst with
  | none => exact h
  | some d =>
    rw [ho] at hd
    intro y hy
    simp only [Act.put]
    rw [Array.getElem?_setIfInBounds]
    have : d ≠ y := fun e => by subst e; simp [hy] at hd
    rw [if_neg this]
    exact h y hy

theorem op_in {P : Program} {ro : Option Nat} {n : Nat} {o : Oper} {a : Act} {w : World} {K K' : Act → World → Prop} {Q Q' : Exit → Act → World → Prop}
    (h : o.wp P a w K Q) (hd : calmO o = true) (hQ : ∀ e a w, Q e a w → e = .normal) (hK : ∀ a' w', K a' w' → (∃ v, a'.tmps = (a.put o.dst v).tmps) → K' a' w') : o.wpIn (wideR ro) n P a w K' Q' := by
  refine ⟨fun f _ => trivial, ?_⟩
  rw [Oper.semAt_eq _ _ _ (calmO_spec hd)]
  unfold Oper.wp at h
  generalize (execOp a.eval o).run P w = r at h ⊢
  cases r with
  | ok x w' =>
    cases x with
    | value v => exact hK _ _ h ⟨v, rfl⟩
    | skip => exact hK _ _ h ⟨undef, rfl⟩
    | defer d => exact hK _ _ h ⟨undef, by cases o.dst <;> rfl⟩
    | enter f args =>
      refine ⟨(fun e => by cases e), ?_⟩
      show CallsIn Fence.wide (n - 1) P f args w' _
      refine callsIn_wide.2 (Calls.mono h ?_)
      intro e w'' he
      cases e with
      | returned v => exact hK _ _ he ⟨v, rfl⟩
      | panicked ch => cases hQ _ _ _ he
      | outgrown => obtain ⟨a0, w0, q⟩ := he; cases hQ _ _ _ q
    | row row args =>
      refine ⟨(fun e => by cases e), fun c cs _ => ?_⟩
      obtain ⟨v, w2, r, s⟩ := h c cs
      exact ⟨v, w2, hK _ _ r ⟨v, rfl⟩, stepsIn_wide.2 s⟩
    | round => exact h.elim
    | _ => exact h.elim
  | halt x w' =>
    cases x with
    | panic v => cases hQ _ _ _ h
    | _ => exact h.elim

theorem list_in {P : Program} {ro : Option Nat} {n : Nat} {ops : Array Oper} {Q : Exit → Act → World → Prop} (hQ : ∀ e a w, Q e a w → e = .normal) {Y : List Nat} {yv : Value} : ∀ (l : List Oper) (a : Act) (w : World),
    wpList P ops Q l a w → l.all (fun o => calmO o && dstFree Y o) = true → Ys Y yv a.tmps → wpListIn (wideR ro) n P ops (fun e a w => Q e a w ∧ Ys Y yv a.tmps) l a w
  | [], a, w, h, _, hy => ⟨h, hy⟩
  | o :: r, a, w, h, hc, hy => by
    simp only [List.all_cons, Bool.and_eq_true] at hc
    unfold wpList at h
    unfold wpListIn
    split at h
    · rename_i hw
      rw [if_pos hw]
      rcases h with h | ⟨_, a0, w0, q⟩
      · refine op_in h hc.1.1 hQ fun a' w' hk ⟨v, hv⟩ => ?_
        exact list_in hQ r a' w' hk hc.2 (by rw [hv]; exact hy.put hc.1.2 v)
      · cases hQ _ _ _ q
    · rename_i hw
      rw [if_neg hw]
      exact ⟨fun _ _ => trivial, list_in hQ r _ w h hc.2 (hy.put hc.1.2 _)⟩

theorem any_in {P : Program} {ro : Option Nat} {n : Nat} {md : Region.Mode} {ops : Array Oper} {Q : Exit → Act → World → Prop} (hQ : ∀ e a w, Q e a w → e = .normal) {Y : List Nat} {yv : Value} (hc : ops.all (fun o => calmO o && dstFree Y o) = true) : ∀ (fuel : Nat) (listed : Array Bool) (a : Act) (w : World),
    wpAny P md ops Q fuel listed a w → Ys Y yv a.tmps → wpAnyIn (wideR ro) n P md ops (fun e a w => Q e a w ∧ Ys Y yv a.tmps) fuel listed a w
  | 0, listed, a, w, h, hy => ⟨h.1, h.2, hy⟩
  | fuel + 1, listed, a, w, h, hy => by
    refine ⟨fun e => ⟨h.1 e, hy⟩, fun i hi => ?_⟩
    have h1 := h.2 i hi
    unfold wpOp at h1
    unfold wpOpIn
    cases ho : ops[i]? with
    | none =>
      rw [ho] at h1
      exact any_in hQ hc fuel _ a w h1 hy
    | some o =>
      rw [ho] at h1
      have hco : calmO o = true ∧ dstFree Y o = true := by
        obtain ⟨hi2, e⟩ := Array.getElem?_eq_some_iff.1 ho
        have := (Array.all_eq_true.1 hc) i hi2
        rw [e] at this
        simpa using this
      simp only at h1 ⊢
      split at h1
      · rename_i hw
        rw [if_pos hw]
        rcases h1 with h1 | ⟨_, a0, w0, q⟩
        · refine op_in h1 hco.1 hQ fun a' w' hk ⟨v, hv⟩ => ?_
          exact any_in hQ hc fuel _ a' w' hk (by rw [hv]; exact hy.put hco.2 v)
        · cases hQ _ _ _ q
      · rename_i hw
        rw [if_neg hw]
        exact ⟨fun _ _ => trivial, any_in hQ hc fuel _ _ w h1 (hy.put hco.2 _)⟩

/-- Code that may stand in a round: it defers nothing, and ranges over no function. -/
def calm : Code → Bool
  | .skip => true
  | .region _ ops _ => ops.all fun o => calmO o && dstFree [] o
  | .seq a b => calm a && calm b
  | .cond _ x y => calm x && calm y
  | .block _ c => calm c
  | .loop c => calm c
  | .exit _ => true
  | .ret => true
  | .label _ => true
  | _ => false

def CodeOkG (P : Program) (ρ : Env) (self : CodeF) : Prop :=
  ∀ c t H o t' H', self c t H = some (o, t', H') → ∀ (ro : Option Nat), (ro = none ∨ calm c = true) → ∀ (n : Nat) (ms : List Nat) (B : Nat) (a : Act) (w : World) (Q : Exit → Act → World → Prop), RelT ρ ms t a.tmps → Holds ρ ms H B w →
    (∀ ms' a' w', ms <+: ms' → RelT ρ ms' t' a'.tmps → a'.defers = a.defers → Holds ρ ms' H' B w' → Bel B w w' → Q o.to a' w') → c.wpIn (wideR ro) n P Q a w
theorem CodeOkG.plain {P : Program} {ρ : Env} {self : CodeF} (h : CodeOkG P ρ self) : CodeOk P ρ self :=
  fun c t H o t' H' hs ms B a w Q hT hH hQ => (wpIn_wide (n := 0)).1 (h c t H o t' H' hs none (.inl rfl) 0 ms B a w Q hT hH hQ)

theorem evG_gen {P : Program} {ρ : Env} {L : Lore} (hL : LoreOk ρ L) {mk : CodeF → CallF} (hm : P.follows .mixedOrders = true) : ∀ n, (∀ k, k < n → CallOk P ρ (mk (evG P L mk k))) → CodeOkG P ρ (evG P L mk n) := by
  intro n
  induction n using Nat.strongRecOn with
  | _ n ih =>
    intro hcalls
    cases n with
    | zero => intro c t H o t' H' h; simp [evG] at h
    | succ n =>
      have ihn := ih n (by omega) (fun k hk => hcalls k (by omega))
      have hcall : CallOk P ρ (mk (evG P L mk n)) := hcalls n (by omega)
      intro c t H o t' H' h ro hro nn ms B a w Q hT hH hQ
      have sub : ∀ {c' : Code}, (calm c = true → calm c' = true) → (ro = none ∨ calm c' = true) := fun f => hro.imp id f
      rw [evG] at h
      unfold codeStep at h
      split at h
      · -- skip
        simp only [Option.some.injEq, Prod.mk.injEq] at h
        obtain ⟨rfl, rfl, rfl⟩ := h
        exact wpIn_skip (hQ ms a w (List.prefix_refl _) hT rfl hH (Bel.refl _ _))
      · -- a region
        rename_i id ops
        rw [Option.map_eq_some_iff] at h
        obtain ⟨r, h1, h2⟩ := h
        simp only [Prod.mk.injEq] at h2
        obtain ⟨rfl, rfl, rfl⟩ := h2
        have key := evOps_ok (Q := fun e a w => e = .normal ∧ Q .normal a w) hL hcall _ ms t H a w r.1 r.2 hT hH h1 fun ms' a' w' q1 q2 q3 q4 q5 => ⟨rfl, hQ ms' a' w' q1 q2 q3 q4 q5⟩
        rcases hro with rfl | hcm
        · exact wpIn_wide.2 (Code.wp_mono (fun e a w q => by rw [q.1]; exact q.2) (wp_region_list (id := id) key))
        · have hl : ops.toList.all (fun o => calmO o && dstFree [] o) = true := by simpa [calm] using hcm
          refine wpIn_mono (wpIn_region_list (list_in (Y := []) (yv := undef) (fun e a w q => q.1) _ a w key hl (fun y hy => by cases hy))) fun e a w q => ?_
          rw [q.1.1]; exact q.1.2
      · -- a region whose order is open
        rename_i id ops
        rw [Option.map_eq_some_iff] at h
        obtain ⟨r, h1, h2⟩ := h
        simp only [Prod.mk.injEq] at h2
        obtain ⟨rfl, rfl, rfl⟩ := h2
        rcases hro with rfl | hcm
        · exact wpIn_wide.2 (evPlan_ok hL hcall hm _ hT hH h1 fun ms' a' w' q1 q2 q3 q4 q5 => hQ ms' a' w' q1 q2 q3 q4 q5)
        · have key := evPlan_any (Q := Q) hL hcall hT hH h1 fun ms' a' w' q1 q2 q3 q4 q5 => hQ ms' a' w' q1 q2 q3 q4 q5
          refine wpIn_mono (wpIn_region_any hm (any_in (Y := []) (yv := undef) (fun e a w q => q.1) (by simpa [calm] using hcm) _ _ a _ key (fun y hy => by cases hy))) fun e a w q => ?_
          rw [q.1.1]; exact q.1.2
      · -- one behind the other
        rename_i x y
        have cx := sub (c' := x) (fun e => by simp only [calm, Bool.and_eq_true] at e; exact e.1)
        have cy := sub (c' := y) (fun e => by simp only [calm, Bool.and_eq_true] at e; exact e.2)
        split at h
        · rename_i t1 H1 h1
          refine wpIn_seq (ihn x t H .normal t1 H1 h1 ro cx nn ms B a w _ hT hH fun ms1 a1 w1 q1 q2 q3 q4 q5 => ?_)
          exact ihn y t1 H1 o t' H' h ro cy nn ms1 B a1 w1 Q q2 q4 fun ms2 a2 w2 r1 r2 r3 r4 r5 => hQ ms2 a2 w2 (q1.trans r1) r2 (r3.trans q3) r4 (q5.trans r5)
        · rename_i hne
          have hno : o ≠ .normal := fun e => by subst e; exact hne t' H' h
          refine wpIn_seq (ihn x t H o t' H' h ro cx nn ms B a w _ hT hH fun ms1 a1 w1 q1 q2 q3 q4 q5 => ?_)
          have := hQ ms1 a1 w1 q1 q2 q3 q4 q5
          cases o with
          | normal => exact absurd rfl hno
          | exit i => exact this
          | ret => exact this
      · -- a choice
        rename_i cc x y
        have cx := sub (c' := x) (fun e => by simp only [calm, Bool.and_eq_true] at e; exact e.1)
        have cy := sub (c' := y) (fun e => by simp only [calm, Bool.and_eq_true] at e; exact e.2)
        split at h
        · rename_i hc
          have e := evGet_ok hT hc
          simp only [AV.inst, TV.inst, SV.inst, Option.some.injEq] at e
          exact wpIn_cond_true e.symm (ihn x t H o t' H' h ro cx nn ms B a w Q hT hH hQ)
        · rename_i hc
          have e := evGet_ok hT hc
          simp only [AV.inst, TV.inst, SV.inst, Option.some.injEq] at e
          exact wpIn_cond_false e.symm (ihn y t H o t' H' h ro cy nn ms B a w Q hT hH hQ)
        · cases h
      · -- a block
        rename_i id x
        have cx := sub (c' := x) (fun e => by simpa only [calm] using e)
        split at h
        · rename_i i t1 H1 h1
          refine wpIn_block (ihn x t H (.exit i) t1 H1 h1 ro cx nn ms B a w _ hT hH fun ms1 a1 w1 q1 q2 q3 q4 q5 => ?_)
          simp only [Out.to, Exit.inBlock]
          split at h
          · rename_i e
            rw [if_pos e]
            simp only [Option.some.injEq, Prod.mk.injEq] at h
            obtain ⟨rfl, rfl, rfl⟩ := h
            exact hQ ms1 a1 w1 q1 q2 q3 q4 q5
          · rename_i e
            rw [if_neg e]
            simp only [Option.some.injEq, Prod.mk.injEq] at h
            obtain ⟨rfl, rfl, rfl⟩ := h
            exact hQ ms1 a1 w1 q1 q2 q3 q4 q5
        · rename_i hne
          refine wpIn_block (ihn x t H o t' H' h ro cx nn ms B a w _ hT hH fun ms1 a1 w1 q1 q2 q3 q4 q5 => ?_)
          have := hQ ms1 a1 w1 q1 q2 q3 q4 q5
          cases o with
          | normal => exact this
          | exit i => exact absurd h (hne i t' H')
          | ret => exact this
      · -- a loop
        rename_i x
        have cx := sub (c' := x) (fun e => by simpa only [calm] using e)
        have start : evG P L mk (n + 1) (.loop x) t H = some (o, t', H') := by rw [evG]; exact h
        let R : Nat → Act → World → Prop := fun k a1 w1 => k ≤ n + 1 ∧ ∃ ms1 t1 H1, evG P L mk k (.loop x) t1 H1 = some (o, t', H') ∧ ms <+: ms1 ∧ RelT ρ ms1 t1 a1.tmps ∧ a1.defers = a.defers ∧ Holds ρ ms1 H1 B w1 ∧ Bel B w w1
        classical
        refine wpIn_loop (fun a1 w1 => ∃ k, R k a1 w1) (fun a1 w1 => if hx : ∃ k, R k a1 w1 then Classical.choose (has_least hx) else 0) ⟨n + 1, Nat.le_refl _, ms, t, H, start, List.prefix_refl _, hT, rfl, hH, Bel.refl _ _⟩ ?_
        intro a1 w1 hI
        have hmin := (Classical.choose_spec (has_least hI)).1
        have hall := (Classical.choose_spec (has_least hI)).2
        generalize hk : Classical.choose (has_least hI) = k at hmin hall
        obtain ⟨hle, ms1, t1, H1, hev, p1, p2, p3, p4, p5⟩ := hmin
        cases k with
        | zero => simp [evG] at hev
        | succ k =>
          have ihk := ih k (by omega) (fun j hj => hcalls j (by omega))
          rw [evG] at hev
          simp only [codeStep] at hev
          split at hev
          · rename_i t2 H2 h2
            refine ihk x t1 H1 .normal t2 H2 h2 ro cx nn ms1 B a1 w1 _ p2 p4 fun ms2 a2 w2 q1 q2 q3 q4 q5 => ?_
            have hR : R k a2 w2 := ⟨by omega, ms2, t2, H2, hev, p1.trans q1, q2, q3.trans p3, q4, p5.trans q5⟩
            have hE : ∃ j, R j a2 w2 := ⟨k, hR⟩
            refine ⟨hE, ?_⟩
            rw [dif_pos hE, dif_pos hI, hk]
            exact Nat.lt_succ_of_le ((Classical.choose_spec (has_least hE)).2 k hR)
          · rename_i hne
            refine ihk x t1 H1 o t' H' hev ro cx nn ms1 B a1 w1 _ p2 p4 fun ms2 a2 w2 q1 q2 q3 q4 q5 => ?_
            have := hQ ms2 a2 w2 (p1.trans q1) q2 (q3.trans p3) q4 (p5.trans q5)
            cases o with
            | normal => exact absurd hev (hne t' H')
            | exit i => exact this
            | ret => exact this
      · simp only [Option.some.injEq, Prod.mk.injEq] at h
        obtain ⟨rfl, rfl, rfl⟩ := h
        exact wpIn_exit (hQ ms a w (List.prefix_refl _) hT rfl hH (Bel.refl _ _))
      · simp only [Option.some.injEq, Prod.mk.injEq] at h
        obtain ⟨rfl, rfl, rfl⟩ := h
        exact wpIn_ret (hQ ms a w (List.prefix_refl _) hT rfl hH (Bel.refl _ _))
      · simp only [Option.some.injEq, Prod.mk.injEq] at h
        obtain ⟨rfl, rfl, rfl⟩ := h
        exact wpIn_label (hQ ms a w (List.prefix_refl _) hT rfl hH (Bel.refl _ _))
      · rename_i x
        rcases hro with rfl | hcm
        · refine wpIn_wide.2 (wp_scope_straight ((wpIn_wide (n := nn)).1 (ihn _ t H o t' H' h none (.inl rfl) nn ms B a w _ hT hH fun ms2 a2 w2 q1 q2 q3 q4 q5 => ?_)))
          have := hQ ms2 a2 w2 q1 q2 q3 q4 q5
          cases o <;> exact this
        · simp [calm] at hcm
      · cases h
/-- Where calls may lean on what code does in a round. -/
theorem evG_both {P : Program} {ρ : Env} {L : Lore} (hL : LoreOk ρ L) {mk : CodeF → CallF} (hmk : ∀ self, CodeOkG P ρ self → CallOk P ρ (mk self)) (hm : P.follows .mixedOrders = true) : ∀ n, CodeOkG P ρ (evG P L mk n) := by
  intro n
  induction n using Nat.strongRecOn with
  | _ n ih => exact evG_gen hL hm n fun k hk => hmk _ (ih k hk)
end Go.Proofs.Ytafdklelfcccbaa.Ev
