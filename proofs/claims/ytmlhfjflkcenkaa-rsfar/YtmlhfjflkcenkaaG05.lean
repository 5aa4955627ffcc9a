/- Of the road to rsFar_holds: EvIn, RsProd, EvLit, GfTab, GfFun, RsEl, RsEnc, RsEven, UbPick, GfEnv, GfCon, EvRange. -/
import Derived.Test.YtmlhfjflkcenkaaG04
import Derived.TacticsIn
import Derived.OrdersIn
import Derived.ControlIn
import Derived.Test.YtmlhfjflkcenkaaG00
import Derived.Test.YtmlhfjflkcenkaaG01
import Derived.Test.YtmlhfjflkcenkaaG03
import Derived.Test.YtmlhfjflkcenkaaChecked
import Derived.RangeFuncLeaves
import Derived.RangeFuncNested
set_option linter.unusedVariables false
set_option linter.unusedSimpArgs false
namespace Go.Proofs.Ytmlhfjflkcenkaa.Ev
open Go Go.RowKit
def calmO (o : Oper) : Bool := match o.op with | .defer _ => false | _ => true
theorem calmO_spec {o : Oper} (h : calmO o = true) : ∀ c, o.op ≠ .defer c := fun c e => by simp [calmO, e] at h
def wideR (ro : Option Nat) : Fence := { Fence.wide with round := ro }
def Ys (Y : List Nat) (yv : Value) (tm : Array Value) : Prop := ∀ y ∈ Y, tm[y]? = some yv
def dstFree (Y : List Nat) (o : Oper) : Bool := match o.dst with | some d => !Y.contains d | none => true
theorem Ys.put {Y : List Nat} {yv : Value} {a : Act} (h : Ys Y yv a.tmps) {o : Oper} (hd : dstFree Y o = true) (v : Value) : Ys Y yv (a.put o.dst v).tmps := by
  unfold dstFree at hd
  cases ho : o.dst with
  | none => exact h
  | some d =>
    rw [ho] at hd
    intro y hy
    simp only [Act.put]
    rw [Array.getElem?_setIfInBounds]
    have : d ≠ y := fun e => by subst e; simp [hy] at hd
    rw [if_neg this]
    exact h y hy
theorem op_in {P : Program} {ro : Option Nat} {n : Nat} {o : Oper} {a : Act} {w : World} {K K' : Act → World → Prop} {Q Q' : Exit → Act → World → Prop}
    (h : o.wp P a w K Q) (hd : calmO o = true) (hQ : ∀ e a w, Q e a w → e = .normal) (hK : ∀ a' w', K a' w' → (∃ v, a'.tmps = (a.put o.dst v).tmps) → K' a' w') : o.wpIn (wideR ro) n P a w K' Q' := by
  refine ⟨fun f _ => trivial, ?_⟩
  rw [Oper.semAt_eq _ _ _ (calmO_spec hd)]
  unfold Oper.wp at h
  generalize (execOp a.eval o).run P w = r at h ⊢
  cases r with
  | ok x w' =>
    cases x with
    | value v => exact hK _ _ h ⟨v, rfl⟩
    | skip => exact hK _ _ h ⟨undef, rfl⟩
    | defer d => exact hK _ _ h ⟨undef, by cases o.dst <;> rfl⟩
    | enter f args =>
      refine ⟨(fun e => by cases e), ?_⟩
      show CallsIn Fence.wide (n - 1) P f args w' _
      refine callsIn_wide.2 (Calls.mono h ?_)
      intro e w'' he
      cases e with
      | returned v => exact hK _ _ he ⟨v, rfl⟩
      | panicked ch => cases hQ _ _ _ he
      | outgrown => obtain ⟨a0, w0, q⟩ := he; cases hQ _ _ _ q
    | row row args =>
      refine ⟨(fun e => by cases e), fun c cs _ => ?_⟩
      obtain ⟨v, w2, r, s⟩ := h c cs
      exact ⟨v, w2, hK _ _ r ⟨v, rfl⟩, stepsIn_wide.2 s⟩
    | round => exact h.elim
    | _ => exact h.elim
  | halt x w' =>
    cases x with
    | panic v => cases hQ _ _ _ h
    | _ => exact h.elim
theorem list_in {P : Program} {ro : Option Nat} {n : Nat} {ops : Array Oper} {Q : Exit → Act → World → Prop} (hQ : ∀ e a w, Q e a w → e = .normal) {Y : List Nat} {yv : Value} : ∀ (l : List Oper) (a : Act) (w : World),
    wpList P ops Q l a w → l.all (fun o => calmO o && dstFree Y o) = true → Ys Y yv a.tmps → wpListIn (wideR ro) n P ops (fun e a w => Q e a w ∧ Ys Y yv a.tmps) l a w
  | [], a, w, h, _, hy => ⟨h, hy⟩
  | o :: r, a, w, h, hc, hy => by
    simp only [List.all_cons, Bool.and_eq_true] at hc
    unfold wpList at h
    unfold wpListIn
    split at h
    · rename_i hw
      rw [if_pos hw]
      rcases h with h | ⟨_, a0, w0, q⟩
      · refine op_in h hc.1.1 hQ fun a' w' hk ⟨v, hv⟩ => ?_
        exact list_in hQ r a' w' hk hc.2 (by rw [hv]; exact hy.put hc.1.2 v)
      · cases hQ _ _ _ q
    · rename_i hw
      rw [if_neg hw]
      exact ⟨fun _ _ => trivial, list_in hQ r _ w h hc.2 (hy.put hc.1.2 _)⟩
theorem any_in {P : Program} {ro : Option Nat} {n : Nat} {md : Region.Mode} {ops : Array Oper} {Q : Exit → Act → World → Prop} (hQ : ∀ e a w, Q e a w → e = .normal) {Y : List Nat} {yv : Value} (hc : ops.all (fun o => calmO o && dstFree Y o) = true) : ∀ (fuel : Nat) (listed : Array Bool) (a : Act) (w : World),
    wpAny P md ops Q fuel listed a w → Ys Y yv a.tmps → wpAnyIn (wideR ro) n P md ops (fun e a w => Q e a w ∧ Ys Y yv a.tmps) fuel listed a w
  | 0, listed, a, w, h, hy => ⟨h.1, h.2, hy⟩
  | fuel + 1, listed, a, w, h, hy => by
    refine ⟨fun e => ⟨h.1 e, hy⟩, fun i hi => ?_⟩
    have h1 := h.2 i hi
    unfold wpOp at h1
    unfold wpOpIn
    cases ho : ops[i]? with
    | none =>
      rw [ho] at h1
      exact any_in hQ hc fuel _ a w h1 hy
    | some o =>
      rw [ho] at h1
      have hco : calmO o = true ∧ dstFree Y o = true := by
        obtain ⟨hi2, e⟩ := Array.getElem?_eq_some_iff.1 ho
        have := (Array.all_eq_true.1 hc) i hi2
        rw [e] at this
        simpa using this
      simp only at h1 ⊢
      split at h1
      · rename_i hw
        rw [if_pos hw]
        rcases h1 with h1 | ⟨_, a0, w0, q⟩
        · refine op_in h1 hco.1 hQ fun a' w' hk ⟨v, hv⟩ => ?_
          exact any_in hQ hc fuel _ a' w' hk (by rw [hv]; exact hy.put hco.2 v)
        · cases hQ _ _ _ q
      · rename_i hw
        rw [if_neg hw]
        exact ⟨fun _ _ => trivial, any_in hQ hc fuel _ _ w h1 (hy.put hco.2 _)⟩
def calm : Code → Bool
  | .skip => true
  | .region _ ops _ => ops.all fun o => calmO o && dstFree [] o
  | .seq a b => calm a && calm b
  | .cond _ x y => calm x && calm y
  | .block _ c => calm c
  | .loop c => calm c
  | .exit _ => true
  | .ret => true
  | .label _ => true
  | _ => false
def CodeOkG (P : Program) (ρ : Env) (self : CodeF) : Prop :=
  ∀ c t H o t' H', self c t H = some (o, t', H') → ∀ (ro : Option Nat), (ro = none ∨ calm c = true) → ∀ (n : Nat) (ms : List Nat) (B : Nat) (a : Act) (w : World) (Q : Exit → Act → World → Prop), RelT ρ ms t a.tmps → Holds ρ ms H B w →
    (∀ ms' a' w', ms <+: ms' → RelT ρ ms' t' a'.tmps → a'.defers = a.defers → Holds ρ ms' H' B w' → Bel B w w' → Q o.to a' w') → c.wpIn (wideR ro) n P Q a w
theorem CodeOkG.plain {P : Program} {ρ : Env} {self : CodeF} (h : CodeOkG P ρ self) : CodeOk P ρ self :=
  fun c t H o t' H' hs ms B a w Q hT hH hQ => (wpIn_wide (n := 0)).1 (h c t H o t' H' hs none (.inl rfl) 0 ms B a w Q hT hH hQ)
theorem evG_gen {P : Program} {ρ : Env} {L : Lore} (hL : LoreOk ρ L) {mk : CodeF → CallF} (hm : P.follows .mixedOrders = true) : ∀ n, (∀ k, k < n → CallOk P ρ (mk (evG P L mk k))) → CodeOkG P ρ (evG P L mk n) := by
  intro n
  induction n using Nat.strongRecOn with
  | _ n ih =>
    intro hcalls
    cases n with
    | zero => intro c t H o t' H' h; simp [evG] at h
    | succ n =>
      have ihn := ih n (by omega) (fun k hk => hcalls k (by omega))
      have hcall : CallOk P ρ (mk (evG P L mk n)) := hcalls n (by omega)
      intro c t H o t' H' h ro hro nn ms B a w Q hT hH hQ
      have sub : ∀ {c' : Code}, (calm c = true → calm c' = true) → (ro = none ∨ calm c' = true) := fun f => hro.imp id f
      rw [evG] at h
      unfold codeStep at h
      split at h
      · -- skip
        simp only [Option.some.injEq, Prod.mk.injEq] at h
        obtain ⟨rfl, rfl, rfl⟩ := h
        exact wpIn_skip (hQ ms a w (List.prefix_refl _) hT rfl hH (Bel.refl _ _))
      · -- a region
        rename_i id ops
        rw [Option.map_eq_some_iff] at h
        obtain ⟨r, h1, h2⟩ := h
        simp only [Prod.mk.injEq] at h2
        obtain ⟨rfl, rfl, rfl⟩ := h2
        have key := evOps_ok (Q := fun e a w => e = .normal ∧ Q .normal a w) hL hcall _ ms t H a w r.1 r.2 hT hH h1 fun ms' a' w' q1 q2 q3 q4 q5 => ⟨rfl, hQ ms' a' w' q1 q2 q3 q4 q5⟩
        rcases hro with rfl | hcm
        · exact wpIn_wide.2 (Code.wp_mono (fun e a w q => by rw [q.1]; exact q.2) (wp_region_list (id := id) key))
        · have hl : ops.toList.all (fun o => calmO o && dstFree [] o) = true := by simpa [calm] using hcm
          refine wpIn_mono (wpIn_region_list (list_in (Y := []) (yv := undef) (fun e a w q => q.1) _ a w key hl (fun y hy => by cases hy))) fun e a w q => ?_
          rw [q.1.1]; exact q.1.2
      · -- a region whose order is open
        rename_i id ops
        rw [Option.map_eq_some_iff] at h
        obtain ⟨r, h1, h2⟩ := h
        simp only [Prod.mk.injEq] at h2
        obtain ⟨rfl, rfl, rfl⟩ := h2
        rcases hro with rfl | hcm
        · exact wpIn_wide.2 (evPlan_ok hL hcall hm _ hT hH h1 fun ms' a' w' q1 q2 q3 q4 q5 => hQ ms' a' w' q1 q2 q3 q4 q5)
        · have key := evPlan_any (Q := Q) hL hcall hT hH h1 fun ms' a' w' q1 q2 q3 q4 q5 => hQ ms' a' w' q1 q2 q3 q4 q5
          refine wpIn_mono (wpIn_region_any hm (any_in (Y := []) (yv := undef) (fun e a w q => q.1) (by simpa [calm] using hcm) _ _ a _ key (fun y hy => by cases hy))) fun e a w q => ?_
          rw [q.1.1]; exact q.1.2
      · -- one behind the other
        rename_i x y
        have cx := sub (c' := x) (fun e => by simp only [calm, Bool.and_eq_true] at e; exact e.1)
        have cy := sub (c' := y) (fun e => by simp only [calm, Bool.and_eq_true] at e; exact e.2)
        split at h
        · rename_i t1 H1 h1
          refine wpIn_seq (ihn x t H .normal t1 H1 h1 ro cx nn ms B a w _ hT hH fun ms1 a1 w1 q1 q2 q3 q4 q5 => ?_)
          exact ihn y t1 H1 o t' H' h ro cy nn ms1 B a1 w1 Q q2 q4 fun ms2 a2 w2 r1 r2 r3 r4 r5 => hQ ms2 a2 w2 (q1.trans r1) r2 (r3.trans q3) r4 (q5.trans r5)
        · rename_i hne
          have hno : o ≠ .normal := fun e => by subst e; exact hne t' H' h
          refine wpIn_seq (ihn x t H o t' H' h ro cx nn ms B a w _ hT hH fun ms1 a1 w1 q1 q2 q3 q4 q5 => ?_)
          have := hQ ms1 a1 w1 q1 q2 q3 q4 q5
          cases o with
          | normal => exact absurd rfl hno
          | exit i => exact this
          | ret => exact this
      · -- a choice
        rename_i cc x y
        have cx := sub (c' := x) (fun e => by simp only [calm, Bool.and_eq_true] at e; exact e.1)
        have cy := sub (c' := y) (fun e => by simp only [calm, Bool.and_eq_true] at e; exact e.2)
        split at h
        · rename_i hc
          have e := evGet_ok hT hc
          simp only [AV.inst, TV.inst, SV.inst, Option.some.injEq] at e
          exact wpIn_cond_true e.symm (ihn x t H o t' H' h ro cx nn ms B a w Q hT hH hQ)
        · rename_i hc
          have e := evGet_ok hT hc
          simp only [AV.inst, TV.inst, SV.inst, Option.some.injEq] at e
          exact wpIn_cond_false e.symm (ihn y t H o t' H' h ro cy nn ms B a w Q hT hH hQ)
        · cases h
      · -- a block
        rename_i id x
        have cx := sub (c' := x) (fun e => by simpa only [calm] using e)
        split at h
        · rename_i i t1 H1 h1
          refine wpIn_block (ihn x t H (.exit i) t1 H1 h1 ro cx nn ms B a w _ hT hH fun ms1 a1 w1 q1 q2 q3 q4 q5 => ?_)
          simp only [Out.to, Exit.inBlock]
          split at h
          · rename_i e
            rw [if_pos e]
            simp only [Option.some.injEq, Prod.mk.injEq] at h
            obtain ⟨rfl, rfl, rfl⟩ := h
            exact hQ ms1 a1 w1 q1 q2 q3 q4 q5
          · rename_i e
            rw [if_neg e]
            simp only [Option.some.injEq, Prod.mk.injEq] at h
            obtain ⟨rfl, rfl, rfl⟩ := h
            exact hQ ms1 a1 w1 q1 q2 q3 q4 q5
        · rename_i hne
          refine wpIn_block (ihn x t H o t' H' h ro cx nn ms B a w _ hT hH fun ms1 a1 w1 q1 q2 q3 q4 q5 => ?_)
          have := hQ ms1 a1 w1 q1 q2 q3 q4 q5
          cases o with
          | normal => exact this
          | exit i => exact absurd h (hne i t' H')
          | ret => exact this
      · -- a loop
        rename_i x
        have cx := sub (c' := x) (fun e => by simpa only [calm] using e)
        have start : evG P L mk (n + 1) (.loop x) t H = some (o, t', H') := by rw [evG]; exact h
        let R : Nat → Act → World → Prop := fun k a1 w1 => k ≤ n + 1 ∧ ∃ ms1 t1 H1, evG P L mk k (.loop x) t1 H1 = some (o, t', H') ∧ ms <+: ms1 ∧ RelT ρ ms1 t1 a1.tmps ∧ a1.defers = a.defers ∧ Holds ρ ms1 H1 B w1 ∧ Bel B w w1
        classical
        refine wpIn_loop (fun a1 w1 => ∃ k, R k a1 w1) (fun a1 w1 => if hx : ∃ k, R k a1 w1 then Classical.choose (has_least hx) else 0) ⟨n + 1, Nat.le_refl _, ms, t, H, start, List.prefix_refl _, hT, rfl, hH, Bel.refl _ _⟩ ?_
        intro a1 w1 hI
        have hmin := (Classical.choose_spec (has_least hI)).1
        have hall := (Classical.choose_spec (has_least hI)).2
        generalize hk : Classical.choose (has_least hI) = k at hmin hall
        obtain ⟨hle, ms1, t1, H1, hev, p1, p2, p3, p4, p5⟩ := hmin
        cases k with
        | zero => simp [evG] at hev
        | succ k =>
          have ihk := ih k (by omega) (fun j hj => hcalls j (by omega))
          rw [evG] at hev
          simp only [codeStep] at hev
          split at hev
          · rename_i t2 H2 h2
            refine ihk x t1 H1 .normal t2 H2 h2 ro cx nn ms1 B a1 w1 _ p2 p4 fun ms2 a2 w2 q1 q2 q3 q4 q5 => ?_
            have hR : R k a2 w2 := ⟨by omega, ms2, t2, H2, hev, p1.trans q1, q2, q3.trans p3, q4, p5.trans q5⟩
            have hE : ∃ j, R j a2 w2 := ⟨k, hR⟩
            refine ⟨hE, ?_⟩
            rw [dif_pos hE, dif_pos hI, hk]
            exact Nat.lt_succ_of_le ((Classical.choose_spec (has_least hE)).2 k hR)
          · rename_i hne
            refine ihk x t1 H1 o t' H' hev ro cx nn ms1 B a1 w1 _ p2 p4 fun ms2 a2 w2 q1 q2 q3 q4 q5 => ?_
            have := hQ ms2 a2 w2 (p1.trans q1) q2 (q3.trans p3) q4 (p5.trans q5)
            cases o with
            | normal => exact absurd hev (hne t' H')
            | exit i => exact this
            | ret => exact this
      · simp only [Option.some.injEq, Prod.mk.injEq] at h
        obtain ⟨rfl, rfl, rfl⟩ := h
        exact wpIn_exit (hQ ms a w (List.prefix_refl _) hT rfl hH (Bel.refl _ _))
      · simp only [Option.some.injEq, Prod.mk.injEq] at h
        obtain ⟨rfl, rfl, rfl⟩ := h
        exact wpIn_ret (hQ ms a w (List.prefix_refl _) hT rfl hH (Bel.refl _ _))
      · simp only [Option.some.injEq, Prod.mk.injEq] at h
        obtain ⟨rfl, rfl, rfl⟩ := h
        exact wpIn_label (hQ ms a w (List.prefix_refl _) hT rfl hH (Bel.refl _ _))
      · rename_i x
        rcases hro with rfl | hcm
        · refine wpIn_wide.2 (wp_scope_straight ((wpIn_wide (n := nn)).1 (ihn _ t H o t' H' h none (.inl rfl) nn ms B a w _ hT hH fun ms2 a2 w2 q1 q2 q3 q4 q5 => ?_)))
          have := hQ ms2 a2 w2 q1 q2 q3 q4 q5
          cases o <;> exact this
        · simp [calm] at hcm
      · cases h
theorem evG_both {P : Program} {ρ : Env} {L : Lore} (hL : LoreOk ρ L) {mk : CodeF → CallF} (hmk : ∀ self, CodeOkG P ρ self → CallOk P ρ (mk self)) (hm : P.follows .mixedOrders = true) : ∀ n, CodeOkG P ρ (evG P L mk n) := by
  intro n
  induction n using Nat.strongRecOn with
  | _ n ih => exact evG_gen hL hm n fun k hk => hmk _ (ih k hk)
end Go.Proofs.Ytmlhfjflkcenkaa.Ev
namespace Go.Proofs.Ytmlhfjflkcenkaa
open Go Go.RowKit Go.Shelf
attribute [local go_sem] Oper.semAt_some
def prL (l : List Int) (c : Nat) (ds : List (List Int)) (L k : Nat) : List (List Int) := (List.range k).map fun i => mixL (rwL l c i) ds c L
theorem prL_length (l : List Int) (c : Nat) (ds : List (List Int)) (L k : Nat) : (prL l c ds L k).length = k := by simp [prL]
theorem prL_succ (l : List Int) (c : Nat) (ds : List (List Int)) (L k : Nat) : prL l c ds L (k + 1) = prL l c ds L k ++ [mixL (rwL l c k) ds c L] := by simp [prL, List.range_succ]
theorem prL_get (l : List Int) (c : Nat) (ds : List (List Int)) (L k i : Nat) (h : i < k) : (prL l c ds L k).getD i [] = mixL (rwL l c i) ds c L := by simp [prL, List.getD, h]
theorem brows_any (w : World) (g r c : Nat) (l : List Int) (h : HMt w g r c l) : Calls Try.prog 38 #[.pointer (some ⟨g, 0, none⟩)] w fun e w' => e = .returned (.int .i64 (r : Int)) ∧ w' = w := by
  have CM := hid (bmade_any w g r c l h)
  obtain ⟨_, v, hg, _⟩ := h
  have h0 : w.cell? ⟨g, 1, none⟩ = some (.int .i64 (r : Int)) := (cell_of_row w g 1 _ _ _ hg).trans rfl
  clear hg
  go_enter Try.func38, Try.ntmps38
  go_wp2_with fail
  refine CM.out.mono ?_
  rintro e wq ⟨rfl, hwq⟩
  rw [hwq]
  clear hwq wq
  go_wp2
  go_ret
  exact ⟨rfl, rfl⟩
set_option maxRecDepth 100000 in
set_option maxHeartbeats 8000000 in
theorem products_any (w : World) (g r c : Nat) (l : List Int) (vb : Value) (ds : List (List Int)) (L : Nat) (hm : HMt w g r c l) (hr1 : 1 ≤ r) (hr : r ≤ 256) (hc1 : 1 ≤ c) (hc : c ≤ 256) (hd : HL w vb ds) (hdl : ds.length = c) (hL : ∀ j, j < ds.length → (ds.getD j []).length = L) (hLb : L ≤ 140737488355328) :
    Calls Try.prog 23 #[.pointer (some ⟨g, 0, none⟩), vb] w fun e w' => ∃ v', e = .returned v' ∧ PW w.heap.size w' v' (prL l c ds L r) ∧ Below w.heap.size w w' := by
  obtain ⟨i1, hi1, hy0, hy1, hy2⟩ := info_parts info_bytes
  have HM := hid hm
  have HD := hid hd
  have HLE := hid hL
  have HDL := hid hdl
  have HML := hid hm.1
  have HBYR : Hid (∀ k, ∀ x ∈ rwL l c k, 0 ≤ x ∧ x < 256) := hid fun k x hx => by
    obtain ⟨_, v, _, hb⟩ := hm
    exact hb.2 x (List.mem_of_mem_take (List.mem_of_mem_drop hx))
  have hmx : Try.prog.follows .mixedOrders = true := by kernel_rfl
  obtain ⟨pb, cb, rfl, _, _⟩ := hd.open
  rw [hdl]
  obtain ⟨wA, HWA⟩ : ∃ x, Hid (w.alloc (.cells #[.slice pb c cb] 29) = x) := ⟨_, rfl⟩
  have BA : Hid (Below w.heap.size w wA) := by rw [← HWA.out]; exact (Below.refl _ w).alloc (Nat.le_refl _) _
  have XA : Hid (Boxed wA w.heap.size 29 (.slice pb c cb)) := by rw [← HWA.out]; exact Boxed.new _ _ _
  have SA : Hid (wA.heap.size = w.heap.size + 1) := by refine hid ?_; rw [← HWA.out]; simp
  have CR := hid (brows_any wA g r c l (hm.below BA.out))
  obtain ⟨w3, hmk3, hown3, hgr3⟩ := run_make_own (P := Try.prog) wA wA.heap.size 29 22 i1 (.slice none 0 0) 1 Try.underlying29 hi1 hy0 hy1 .i64 .i64 r (by rw [hy2]; omega) (by unfold maxLen; omega) (Nat.le_refl _)
  have O3 := hid hown3
  have B3 : Hid (Below wA.heap.size wA w3) := (Below.refl _ wA).grown hgr3 (Nat.le_refl _) (fun k e => by cases e)
  obtain ⟨w4, HW4⟩ : ∃ x, Hid (w3.alloc (.cells #[.slice (some ⟨wA.heap.size, 0, none⟩) 0 r] 29) = x) := ⟨_, rfl⟩
  have b34 : Below w3.heap.size w3 w4 := by rw [← HW4.out]; exact (Below.refl _ _).alloc (Nat.le_refl _) _
  have X4 : Hid (Boxed w4 w3.heap.size 29 (.slice (some ⟨wA.heap.size, 0, none⟩) 0 r)) := by rw [← HW4.out]; exact Boxed.new _ _ _
  have B4a := B3.out.trans (b34.mono B3.out.size)
  have XB4 : Hid (Boxed w4 w.heap.size 29 (.slice pb c cb)) := XA.out.kept (grown_below (r := none) B4a) (by simp)
  have O4 : Hid (w4.ownsRow w.heap.size 22 1 (.slice (some ⟨wA.heap.size, 0, none⟩) 0 r) 0 []) := own_mono (own_below O3.out b34) BA.out.size
  have B4 := hid (BA.out.trans (B4a.mono BA.out.size))
  have hlt3 := hid (O3.out.lt wA.heap.size rfl)
  have S4 : Hid (w4.heap.size = w3.heap.size + 1) := by refine hid ?_; rw [← HW4.out]; simp
  have hs3 : w.heap.size + 1 ≤ w3.heap.size := by have := B3.out.size; rw [SA.out] at this; exact this
  have CA := hid (ball_any w4 g r c l (hm.below B4.out))
  clear hown3 hgr3 hm hd hL hdl B4a b34 O3
  refine (callsIn_wide (n := 3)).1 ?_
  refine callsIn_of_wp_marks Try.func23 rfl trivial (wpIn_wide.2 ?_) rfl
  simp only [Try.ntmps23, List.size_toArray, List.length_cons, List.length_nil, Nat.reduceAdd, Nat.reduceSub, Array.replicate_succ, Array.replicate_zero, List.push_toArray, List.append_toArray, List.nil_append, List.cons_append]
  go_wp2_with fail
  rw [HWA.out]
  refine CR.out.mono ?_
  rintro e wq ⟨rfl, hwq⟩
  rw [hwq]
  clear hwq wq CR
  go_wp2_with fail
  rw [HW4.out]
  clear hmk3
  refine CA.out.mono ?_
  rintro e w5 ⟨b5, rfl, hb5l, hb5h, hm5, hc5, hb5⟩
  have HM5 := hid hm5
  have B5 := hid (B4.out.trans (hb5.mono B4.out.size))
  have X5 : Hid (Boxed w5 w3.heap.size 29 (.slice (some ⟨wA.heap.size, 0, none⟩) 0 r)) := X4.out.kept (grown_below (r := none) hb5) (by simp)
  have XB5 : Hid (Boxed w5 w.heap.size 29 (.slice pb c cb)) := XB4.out.kept (grown_below (r := none) hb5) (by simp)
  have O5 := hid (own_below O4.out hb5)
  have hw5 := hid hb5.size
  -- the blocks that the iteration leans on
  have HDl : Hid (∀ i, mtD w5 b5 i → i < w5.heap.size ∧ i ≠ w3.heap.size ∧ i ≠ w.heap.size ∧ i ≠ wA.heap.size) := by
    rintro i (rfl | ⟨v, hv, hvb⟩)
    · have h1 := S4.out; have h2 := SA.out; have h3 := hlt3.out.2; omega
    · obtain ⟨b0, o0, k0, hg0, _, _, hb0⟩ := HM.out.open hr1 hc1
      have c0 : w.cell? ⟨g, 3, none⟩ = some (.slice (some ⟨b0, o0, none⟩) (r * c) k0) := (cell_of_row w g 3 _ _ _ hg0).trans rfl
      have c4 := (B4.out.cell (World.block_lt_of_cell? w _ c0)).trans c0
      rw [hc5, c4] at hv
      obtain rfl := Option.some.inj hv
      simp only [Value.ownBlock, Option.some.injEq] at hvb
      subst hvb
      obtain ⟨b1, o1, k1, e1, _, _, hcell⟩ := hb0.ne (by rw [HML.out]; exact Nat.mul_pos hr1 hc1)
      simp only [Value.slice.injEq, Option.some.injEq, Addr.mk.injEq, and_true] at e1
      obtain ⟨⟨rfl, rfl⟩, _⟩ := e1
      have h0 := World.block_lt_of_cell? w _ (hcell 0 (by rw [HML.out]; exact Nat.mul_pos hr1 hc1))
      have h1 := S4.out; have h2 := SA.out; have h3 := B5.out.size
      show b0 < w5.heap.size ∧ b0 ≠ w3.heap.size ∧ b0 ≠ w.heap.size ∧ b0 ≠ wA.heap.size
      have h4 : b0 < w.heap.size := h0
      omega
  clear hb5 hm5 hc5 CA X4 XB4 O4
  go_wp2_with fail
  refine (wpIn_wide (n := 3)).1 ?_
  apply range_fit rfl (by decide) (gf := 52) (lb := #[.pointer (some ⟨b5, 0, none⟩)]) rfl trivial (enters_of Try.func52 (by kernel_rfl) rfl)
    (ball_iter (3 - 1) w5 b5 r c l HM5.out hr1 hr hc1 hc (fun i hi => (HDl.out i hi).1)) (KD.refl _ _) (fun i hi => (HDl.out i hi).1) (fun _ _ => rfl)
    (fun i W => ∃ v, Boxed W w3.heap.size 29 v ∧ Boxed W w.heap.size 29 (.slice pb c cb) ∧ PW w.heap.size W v (prL l c ds L i) ∧ Below w.heap.size w W ∧ KD (mtD w5 b5) w5 W ∧ ∀ i, mtD w5 b5 i → v.ownBlock ≠ some i)
    (fun _ _ => False)
    (fun s A C row hs hg hr => by
      obtain ⟨v, h1, h2, h3, h4, h5, h6⟩ := hs
      refine ⟨v, box_from h1 hg hr, box_from h2 hg hr, h3.from hg hr, below_from h4 (Nat.le_refl _) hg hr (by have := B5.out.size; omega), ⟨Nat.le_trans h5.1 hg.size, fun i hi => ?_⟩, h6⟩
      have hlt := (HDl.out i hi).1
      refine (hg.block i (Nat.lt_of_lt_of_le hlt h5.1) fun e => ?_).trans (h5.2 i hi)
      obtain ⟨q1, _⟩ := hr i e.symm
      omega)
    (fun _ _ _ _ hs _ _ => hs)
    (fun k v _ A C row hs hg hr => row_from hs hg hr)
    ⟨_, X5.out, XB5.out, ⟨[], O5.out, fun j hj => by simp [prL] at hj⟩, B5.out, KD.refl _ _, fun i hi q => by simp only [Value.ownBlock, Option.some.injEq] at q; exact (HDl.out i hi).2.2.2 q.symm⟩
  case hassign =>
    intro l k v W K hK
    gi_wp2
    exact hK
  case hstop =>
    intro d c W _ h _
    exact h.elim
  case hbody =>
    rintro lp i v W hlp - ⟨vp, x1, x2, ⟨xs, hrow, hel⟩, x4, x5, x6⟩ hf hi'
    obtain ⟨pp, cp, ep⟩ := own_slc1 hrow
    rw [prL_length] at hrow ep
    subst ep
    obtain ⟨pv, cv, ev⟩ := own_slc1 hf
    have HRL := hid (rwL_length HML.out hi')
    rw [HRL.out] at ev
    subst ev
    have c1 := x1.cell
    have c2 := x2.cell
    have b1l : w3.heap.size < W.heap.size := World.block_lt_of_cell? W _ c1
    have b2l : w.heap.size < W.heap.size := World.block_lt_of_cell? W _ c2
    have CMX := mixed_any W.drew (.slice pv c cv) (.slice pb c cb) (rwL l c i) ds L ((HB.of_own hf (fun x hx => HBYR.out i x hx)).later fun _ _ h => h) ((show HL W (.slice pb c cb) ds by have := HD.out.below x4; rw [HDL.out] at this; exact this).later fun _ _ h => h) (by rw [HRL.out, HDL.out]; exact Nat.le_refl _) (by rw [HDL.out]; exact hc1) HLE.out hLb
    rw [HRL.out] at CMX
    have CMX := hid CMX
    have X1 := hid x1
    have X2 := hid x2
    have HROW := hid hrow
    have HEL := hid hel
    have X4 := hid x4
    have X5 := hid x5
    have X6 := hid x6
    have HBM : Hid (BytI (mixL (rwL l c i) ds c L)) := hid (tbL_byt L fun t => mixV_lt HD.out.gn c t)
    have HPS := hid (prL_succ l c ds L i)
    have HSS : Hid ((fun V : World => V.cell? ⟨w3.heap.size, 0, none⟩ = some (.slice pp i cp) ∧ V.cell? ⟨w.heap.size, 0, none⟩ = some (.slice pb c cb)) W.drew) := hid ⟨c1, c2⟩
    have hir : i ≤ 256 := by omega
    have hW5 := hid x5.1
    clear hrow hel x1 x2 x4 x5 x6 hf c1 c2
    gi_wp2
    refine wpIn_mono (wpIn_region_any hmx (Ev.any_in (ro := some lp) (Y := []) (yv := undef) (Q := fun e a' w' => e = .normal ∧ (KeepsFrom w5.heap.size W w' ∧ KD (mtD w5 b5) W w' ∧ ∃ v, Boxed w' w3.heap.size 29 v ∧ Boxed w' w.heap.size 29 (.slice pb c cb) ∧ PW w.heap.size w' v (prL l c ds L (i + 1)) ∧ Below w.heap.size w w' ∧ KD (mtD w5 b5) w5 w' ∧ ∀ i, mtD w5 b5 i → v.ownBlock ≠ some i)) (fun e a w q => q.1) (by kernel_rfl) _ _ _ _ (Ev.wpAny_of_N (W := fun j => j == 6) (S := (fun V : World => V.cell? ⟨w3.heap.size, 0, none⟩ = some (.slice pp i cp) ∧ V.cell? ⟨w.heap.size, 0, none⟩ = some (.slice pb c cb))) _ false _ _ _ ?_) (fun y hy => by cases hy))) (fun e a' w' q => by rw [q.1.1]; exact q.1.2)
    change Ev.wpN _ _ _ _ _ _ _ _ _ (World.drew _)
    refine Ev.wpN_load (i := 0) (v := ?_) rfl (by kernel_rfl) (by kernel_rfl) (by kernel_rfl) (fun _ _ _ h => by cases h.1) (by rfl) (by kernel_rfl) (Or.inl ⟨by rfl, ?q0⟩) HSS.out ?_
    case q0 => intro w hSw; have hs1 := hSw.1; have hs2 := hSw.2; clear hSw; go_simp; rfl
    simp only [Act.put, List.getElem_toArray, List.getElem_cons_zero, List.getElem_cons_succ, List.setIfInBounds_toArray, List.set_cons_zero, List.set_cons_succ]
    refine Ev.wpN_load (i := 1) (v := ?_) rfl (by kernel_rfl) (by kernel_rfl) (by kernel_rfl) (fun _ _ _ h => by cases h.1) (by rfl) (by kernel_rfl) (Or.inl ⟨by rfl, ?q1⟩) HSS.out ?_
    case q1 => intro w hSw; have hs1 := hSw.1; have hs2 := hSw.2; clear hSw; go_simp; rfl
    simp only [Act.put, List.getElem_toArray, List.getElem_cons_zero, List.getElem_cons_succ, List.setIfInBounds_toArray, List.set_cons_zero, List.set_cons_succ]
    refine Ev.wpN_load (i := 2) (v := ?_) rfl (by kernel_rfl) (by kernel_rfl) (by kernel_rfl) (fun _ _ _ h => by cases h.1) (by rfl) (by kernel_rfl) (Or.inl ⟨by rfl, ?q2⟩) HSS.out ?_
    case q2 => intro w hSw; have hs1 := hSw.1; have hs2 := hSw.2; clear hSw; go_simp; rfl
    simp only [Act.put, List.getElem_toArray, List.getElem_cons_zero, List.getElem_cons_succ, List.setIfInBounds_toArray, List.set_cons_zero, List.set_cons_succ]
    refine Ev.wpN_step (i := 3) (by kernel_rfl) rfl rfl ?_
    go_simp
    refine CMX.out.mono ?_
    rintro e w6 ⟨v6, rfl, ho6, hb6⟩
    have hb6' : Below W.heap.size W w6 := ((Dr.one W 1).below W.heap.size).trans hb6
    have O6 : w6.ownsRow W.heap.size 5 1 v6 (mixL (rwL l c i) ds c L).length ((mixL (rwL l c i) ds c L).map (Value.int .u8)) := by
      have e : (mixL (rwL l c i) ds c L).length = L := tbL_length _ _
      rw [e]
      exact ho6
    obtain ⟨p6, c6, e6⟩ := own_slc1 ho6
    subst e6
    have HS6 : Hid (w6.cell? ⟨w3.heap.size, 0, none⟩ = some (.slice pp i cp) ∧ w6.cell? ⟨w.heap.size, 0, none⟩ = some (.slice pb c cb)) := hid ⟨(hb6.cell b1l).trans HSS.out.1, (hb6.cell b2l).trans HSS.out.2⟩
    have hrow6 := own_below HROW.out hb6'
    have hel6 : ∀ j, j < (prL l c ds L i).length → w6.ownsRow w.heap.size 5 1 (xs.getD j undef) ((prL l c ds L i).getD j []).length (((prL l c ds L i).getD j []).map (Value.int .u8)) ∧ BytI ((prL l c ds L i).getD j []) := fun j hj => ⟨own_below (HEL.out j hj).1 hb6', (HEL.out j hj).2⟩
    have X16 : Boxed w6 w3.heap.size 29 (.slice pp i cp) := X1.out.kept (grown_below (r := none) hb6') (by simp)
    have X26 : Boxed w6 w.heap.size 29 (.slice pb c cb) := X2.out.kept (grown_below (r := none) hb6') (by simp)
    obtain ⟨w7, HW7⟩ : ∃ x, Hid (w6.alloc (.cells #[.slice p6 L c6] 22) = x) := ⟨_, rfl⟩
    have b67 : Below w6.heap.size w6 w7 := by rw [← HW7.out]; exact (Below.refl _ _).alloc (Nat.le_refl _) _
    have hc7 : w7.cell? ⟨w6.heap.size, 0, none⟩ = some (.slice p6 L c6) := by rw [← HW7.out, cell_of_row _ _ _ _ _ _ (heap_alloc_new w6 _)]; rfl
    have s6 := hb6'.size
    have s7 := b67.size
    obtain ⟨v8, w8, hr8, hown8, hgr8, hloc8⟩ := run_append_slice w7 w.heap.size 29 (.slice pp i cp) i xs (own_below hrow6 b67) ⟨w6.heap.size, 0, none⟩ 1 (.slice p6 L c6) hc7 rfl (by omega) (by omega)
    have PP := PW.push (B0 := w.heap.size) (W := w6) (w1 := w8) (u := .slice p6 L c6) (ls := prL l c ds L i) (l := mixL (rwL l c i) ds c L) (xs := xs) (o := .cells #[.slice p6 L c6] 22) (by rw [prL_length]; exact hrow6) hel6 (own_mono O6 (by omega)) HBM.out X16 (by rw [prL_length]; exact hown8) (by rw [HW7.out]; exact hgr8)
    rw [← HPS.out] at PP
    obtain ⟨hp1, hp2, hp3⟩ := PP
    have hc8 := hp2.cell
    have hf8 := hp2.frozen
    have lt6 := hrow6.lt
    have g78 : w7.grownBy w8 (Value.slice pp i cp).ownBlock := hgr8
    have X28 : Boxed w8 w.heap.size 29 (.slice pb c cb) := ((X26.kept (grown_below (r := none) b67) (by simp)).kept g78 (X26.kept (grown_below (r := none) b67) (by simp) |>.not_row (by decide) (own_below hrow6 b67)))
    have HS8 : Hid (w8.cell? ⟨w3.heap.size, 0, none⟩ = some (.slice pp i cp) ∧ w8.cell? ⟨w.heap.size, 0, none⟩ = some (.slice pb c cb)) := hid ⟨hc8, X28.cell⟩
    have HS7 : Hid (w7.cell? ⟨w3.heap.size, 0, none⟩ = some (.slice pp i cp) ∧ w7.cell? ⟨w.heap.size, 0, none⟩ = some (.slice pb c cb)) := hid ⟨(b67.cell (World.block_lt_of_cell? w6 _ HS6.out.1)).trans HS6.out.1, (b67.cell (World.block_lt_of_cell? w6 _ HS6.out.2)).trans HS6.out.2⟩
    have FK : KeepsFrom w5.heap.size W (w8.setCell ⟨w3.heap.size, 0, none⟩ v8) := by
      have a0 : KeepsOthers W w6 := KeepsOthers.of_grownBy (grown_below (r := none) hb6') (fun j o e => by cases e)
      have a1 : KeepsOthers w6 w7 := by rw [← HW7.out]; exact KeepsOthers.alloc w6 _
      have a2 : KeepsOthers w7 w8 := KeepsOthers.of_grownBy g78 fun j o ej hj => by
        rcases (own_below hrow6 b67).2 with ⟨e0, _⟩ | ⟨g, cap, cur, e0, _, hgb, _⟩
        · rw [e0] at ej; simp [Value.ownBlock] at ej
        · rw [e0] at ej
          obtain rfl : g = j := by simpa [Value.ownBlock] using ej
          rw [hgb] at hj; cases hj; rfl
      exact (((a0.trans a1).trans a2).trans (KeepsOthers.setCell _ _ _)).from _
    have FD0 : ∀ j, mtD w5 b5 j → w8.heap[j]? = W.heap[j]? := fun j hj => by
      have hj5 := (HDl.out j hj).1
      have hW := hW5.out
      rw [hgr8.block j (by omega) (fun e => X6.out j hj e.symm), b67.block j (by omega), hb6'.block j (by omega)]
    have FD : KD (mtD w5 b5) W (w8.setCell ⟨w3.heap.size, 0, none⟩ v8) := by
      refine ⟨by simp; have := hgr8.size; omega, fun j hj => ?_⟩
      rw [heap_setCell_other _ _ _ _ (by have := (HDl.out j hj).2.1; simp; omega)]
      exact FD0 j hj
    have FB : Below w.heap.size w (w8.setCell ⟨w3.heap.size, 0, none⟩ v8) := by
      have q1 := X4.out.trans (hb6'.mono X4.out.size)
      have q2 := q1.trans (b67.mono q1.size)
      have q3 := q2.grown hgr8 q2.size (fun j e => by have := (lt6 j e).1; omega)
      exact q3.setCell (p := ⟨w3.heap.size, 0, none⟩) (by show w.heap.size ≤ w3.heap.size; omega) _
    have FN : ∀ j, mtD w5 b5 j → v8.ownBlock ≠ some j := fun j hj e => by
      rcases hloc8 with q | q
      · exact X6.out j hj (q.symm.trans e)
      · have hj5 := (HDl.out j hj).1
        have hW := hW5.out
        rw [q] at e
        have := Option.some.inj e
        omega
    have X29 : Boxed (w8.setCell ⟨w3.heap.size, 0, none⟩ v8) w.heap.size 29 (.slice pb c cb) := (heap_setCell_other w8 ⟨w3.heap.size, 0, none⟩ w.heap.size v8 (by simp; omega)).trans X28
    have FIN := hid (And.intro FK (And.intro FD (⟨v8, hp3, X29, hp1, FB, X5.out.trans FD, FN⟩ : ∃ v, Boxed (w8.setCell ⟨w3.heap.size, 0, none⟩ v8) w3.heap.size 29 v ∧ Boxed (w8.setCell ⟨w3.heap.size, 0, none⟩ v8) w.heap.size 29 (.slice pb c cb) ∧ PW w.heap.size (w8.setCell ⟨w3.heap.size, 0, none⟩ v8) v (prL l c ds L (i + 1)) ∧ Below w.heap.size w (w8.setCell ⟨w3.heap.size, 0, none⟩ v8) ∧ KD (mtD w5 b5) w5 (w8.setCell ⟨w3.heap.size, 0, none⟩ v8) ∧ ∀ i, mtD w5 b5 i → v.ownBlock ≠ some i)))
    obtain ⟨g8, cap8, e8⟩ := ownsRow_succ hown8
    have HR8 := hid hr8
    have HC8 := hid (And.intro hc8 hf8)
    clear FK FD FB FN FD0 hp1 hp2 hp3 hgr8 hown8 hloc8 X28 X29 g78 hc8 hf8 hc7 hel6 hrow6 O6 ho6 hb6 hb6' b67 X16 X26 CMX lt6
    refine ⟨HS6.out, ?_⟩
    refine Ev.wpN_step (i := 4) (by kernel_rfl) rfl rfl ?_
    go_simp
    rw [HW7.out]
    refine ⟨HS7.out, ?_⟩
    refine Ev.wpN_step (i := 5) (by kernel_rfl) rfl rfl ?_
    refine owp_appendL (.tmp 15) (.tmp 19) rfl rfl rfl HR8.out ?_
    refine ⟨.inl HS8.out, ?_⟩
    simp only [Act.put, List.getElem_toArray, List.getElem_cons_zero, List.getElem_cons_succ, List.setIfInBounds_toArray, List.set_cons_zero, List.set_cons_succ]
    subst e8
    refine Ev.wpN_step (i := 6) (by kernel_rfl) rfl rfl ?_
    have hc8 := HC8.out.1
    have hf8 := HC8.out.2
    go_simp
    exact Ev.wpN_end (by kernel_rfl) ⟨rfl, FIN.out⟩
  case hdone =>
    rintro d W hd ⟨vp, x1, x2, x3, x4, x5, x6⟩ hK
    have c1 := x1.cell
    have HKD := hid hK
    have X3 := hid x3
    have X4 := hid x4
    obtain ⟨pp, cp, ep⟩ : ∃ p q, vp = .slice p (prL l c ds L r).length q := by obtain ⟨xs, hrow, _⟩ := x3; exact own_slc1 hrow
    subst ep
    clear x1 x2 x3 x4 x5 x6 hK
    go_wp2
    refine ⟨by simp, .inl ⟨_, _, rfl, run_takeDeferred HKD.out, ?_⟩⟩
    refine ⟨_, results_tmp rfl _ _ _, _, rfl, ?_, X4.out.trans (belowK_b (w := w) (Nat.le_refl _) W d _ _ (by have := hw5.out; have := B4.out.size; omega) HKD.out rfl rfl)⟩
    obtain ⟨xs, hrow, hel⟩ := X3.out
    exact ⟨xs, ownsRow_putObj hrow _ HKD.out rfl, fun j hj => ⟨ownsRow_putObj (hel j hj).1 _ HKD.out rfl, (hel j hj).2⟩⟩
end Go.Proofs.Ytmlhfjflkcenkaa
namespace Go.Proofs.Ytmlhfjflkcenkaa
open Go Go.RowKit Ev
def TV.plainT : TV → Bool
  | .sc s => s.plain
  | .agg l => l.all SV.plain
def plainA : AV → Bool
  | .tv v => TV.plainT v
  | .tup l => l.all TV.plainT
theorem sv_any {ρ : Env} {ms ms' : List Nat} {s : SV} (h : s.plain = true) : s.inst ρ ms = s.inst ρ ms' := by
  cases s <;> simp [SV.plain] at h <;> simp only [SV.inst]
  subst h; rfl
theorem tv_any {ρ : Env} {ms ms' : List Nat} {s : TV} (h : TV.plainT s = true) : s.inst ρ ms = s.inst ρ ms' := by
  cases s with
  | sc s => exact sv_any h
  | agg l =>
    simp only [TV.inst]
    congr 2
    refine List.map_congr_left fun p hp => sv_any ?_
    simp only [TV.plainT, List.all_eq_true] at h
    exact h p hp
theorem av_any {ρ : Env} {ms ms' : List Nat} {s : AV} (h : plainA s = true) : s.inst ρ ms = s.inst ρ ms' := by
  cases s with
  | tv s => exact tv_any h
  | tup l =>
    simp only [AV.inst]
    congr 2
    refine List.map_congr_left fun p hp => tv_any ?_
    simp only [plainA, List.all_eq_true] at h
    exact h p hp
def con1 (g : Nat) (xs : List AV) (v : AV) : ConF := fun g' xs' _ => if g' = g then (if xs' = xs then some v else none) else none
theorem con1_ok {ρ : Env} {con : ConF} (hcon : ConOk Try.prog ρ con) (hm : Try.prog.follows .mixedOrders = true) {n g : Nat} {xs : List AV} {v : AV} {H' : List Blk} (h : evCallF Try.prog noLore con n g xs H0 = some (v, H')) (hx : xs.all plainA = true) (hv : plainA v = true) : ConOk Try.prog ρ (con1 g xs v) := by
  intro g' xs' H u hu ms B w args ha hH
  unfold con1 at hu
  split at hu
  case isFalse => cases hu
  rename_i e
  subst e
  split at hu <;> cases hu
  rename_i e
  subst e
  have ha0 : xs'.map (AV.inst ρ ms0) = args.toList.map some := by
    rw [← ha]
    exact List.map_congr_left fun x hx' => av_any (List.all_eq_true.1 hx x hx')
  refine (calls_of_evHF (noLore_ok ρ) hcon hm n h w ha0 (holds_nil ρ w)).mono ?_
  rintro e w' ⟨ms', u', rfl, _, h1, _, h3⟩
  exact ⟨u', rfl, by rw [av_any hv (ms' := ms')]; exact h1, h3⟩
def conOr (c d : ConF) : ConF := fun g xs H => match c g xs H with | some v => some v | none => d g xs H
theorem conOr_ok {ρ : Env} {c d : ConF} (hc : ConOk Try.prog ρ c) (hd : ConOk Try.prog ρ d) : ConOk Try.prog ρ (conOr c d) := by
  intro g xs H v h
  unfold conOr at h
  split at h
  · rename_i u hu
    cases h
    exact hc g xs H _ hu
  · exact hd g xs H v h
def litB (l : List Nat) : List SV := l.map fun x : Nat => .int .u8 (.lit (x : Int))
theorem mixedOrders : Try.prog.follows .mixedOrders = true := by kernel_rfl
theorem litB_inst (ρ : Env) (ms : List Nat) (l : List Nat) : (TV.agg (litB l)).inst ρ ms = some (.agg (cells8 l)) := by
  simp only [TV.inst]
  rw [(seqO_iff _ (l.map fun x : Nat => Value.int .u8 (x : Int))).2 (by simp [litB, SV.inst, Ex.den])]
  rfl
theorem powers_ev : evCallF Try.prog noLore noCon 1000 62 [] H0 = some (.tv (.agg (litB powLit)), H0) := by kernel_rfl
def conPowers : ConF := con1 62 [] (.tv (.agg (litB powLit)))
theorem conPowers_ok (ρ : Env) : ConOk Try.prog ρ conPowers := con1_ok (noCon_ok _ _) mixedOrders powers_ev rfl (by kernel_rfl)
theorem exponents_ev : evCallF Try.prog noLore conPowers 1000 61 [] H0 = some (.tv (.agg (litB lgLit)), H0) := by kernel_rfl
def conExps : ConF := con1 61 [] (.tv (.agg (litB lgLit)))
theorem conExps_ok (ρ : Env) : ConOk Try.prog ρ conExps := con1_ok (conPowers_ok ρ) mixedOrders exponents_ev rfl (by kernel_rfl)
def env0 : Env := ⟨fun _ => 0, fun _ => .tuple #[], fun _ _ _ => 0⟩
theorem powers_any (w : World) : Calls Try.prog 62 #[] w fun e w' => e = .returned (.agg (cells8 powLit)) ∧ Below w.heap.size w w' := by
  refine (calls_of_evF (noLore_ok env0) (noCon_ok _ env0) mixedOrders 1000 powers_ev (args := #[]) w rfl).mono ?_
  rintro e w' ⟨ms, u, rfl, h1, _, h3⟩
  simp only [AV.inst, litB_inst, Option.some.injEq] at h1
  subst h1
  exact ⟨rfl, h3⟩
theorem exponents_any (w : World) : Calls Try.prog 61 #[] w fun e w' => e = .returned (.agg (cells8 lgLit)) ∧ Below w.heap.size w w' := by
  refine (calls_of_evF (noLore_ok env0) (conPowers_ok env0) mixedOrders 1000 exponents_ev (args := #[]) w rfl).mono ?_
  rintro e w' ⟨ms, u, rfl, h1, _, h3⟩
  simp only [AV.inst, litB_inst, Option.some.injEq] at h1
  subst h1
  exact ⟨rfl, h3⟩
end Go.Proofs.Ytmlhfjflkcenkaa
namespace Go.Proofs.Ytmlhfjflkcenkaa
open Go Go.RowKit
theorem tmod_cases (n : Int) : (n.tmod 255 < 0 ∧ n.tmod 255 + 255 = n % 255 ∧ -255 < n.tmod 255) ∨ (¬ n.tmod 255 < 0 ∧ n.tmod 255 = n % 255) := by
  have h := Int.tmod_eq_emod (a := n) (b := 255)
  have h1 : (if 0 ≤ n ∨ (255 : Int) ∣ n then 0 else Int.natAbs 255) = 0 ∨ (if 0 ≤ n ∨ (255 : Int) ∣ n then 0 else Int.natAbs 255) = 255 ∧ ¬ (255 : Int) ∣ n := by
    split
    · exact .inl rfl
    · rename_i q; exact .inr ⟨rfl, fun hd => q (.inr hd)⟩
  rcases h1 with h1 | ⟨h1, h2⟩
  · rw [h1] at h
    right
    omega
  · rw [h1] at h
    left
    have : n % 255 ≠ 0 := fun e => h2 (Int.dvd_of_emod_eq_zero e)
    omega
theorem powLit_length : powLit.length = 255 := by decide +kernel
theorem lgLit_length : lgLit.length = 256 := by decide +kernel
theorem powLit_get (i : Nat) (h : i < 255) : powLit.getD i 0 = pw i := by
  rw [← powL_lit]
  simp [powL, List.getD, h]
set_option maxHeartbeats 1000000 in
theorem exp_any (w : World) (n : Int) (h1 : -9223372036854775808 ≤ n) (h2 : n ≤ 9223372036854775807) : Calls Try.prog 55 #[.int .i64 n] w fun e w' => e = .returned (.int .u8 ((ex n : Nat) : Int)) ∧ Below w.heap.size w w' := by
  have C := hid (powers_any w)
  obtain ⟨m, HM⟩ : ∃ m, Hid (cells8 powLit = m) := ⟨_, rfl⟩
  obtain ⟨j, hj⟩ : ∃ j : Nat, (j : Int) = n % 255 := ⟨(n % 255).toNat, by omega⟩
  have hjl : j < 255 := by omega
  have HIX : Hid (∀ W, (Instr.index 99 (.agg m) (.int .i64 (j : Int))).run Try.prog W = .ok (.int .u8 ((ex n : Nat) : Int)) W) := fun W => by
    rw [← HM.out]
    have := run_index8 W Try.underlying99 powLit powLit_length j hjl .i64
    rw [powLit_get j hjl] at this
    rw [this]
    unfold ex
    rw [← hj, Int.toNat_natCast]
  obtain ⟨x, HX⟩ : ∃ x, Hid (ex n = x) := ⟨_, rfl⟩
  rw [HX.out]
  rw [HX.out] at HIX
  rcases tmod_cases n with ⟨q1, q2, q3⟩ | ⟨q1, q2⟩
  · obtain ⟨t, ht⟩ : ∃ t, n.tmod 255 = t := ⟨_, rfl⟩
    rw [ht] at q1 q2 q3
    have e : t + 255 = (j : Int) := by omega
    have hix := HIX.out
    clear q2 hj
    go_enter Try.func55, Try.ntmps55
    go_wp2_with fail
    refine C.out.mono ?_
    rintro e w' ⟨rfl, hB⟩
    rw [HM.out]
    have B := hid hB
    clear hB C
    go_wp2
    go_ret
    exact ⟨rfl, B.out⟩
  · obtain ⟨t, ht⟩ : ∃ t, n.tmod 255 = t := ⟨_, rfl⟩
    rw [ht] at q1 q2
    have e : t = (j : Int) := by omega
    have hix := HIX.out
    clear q2 hj
    rw [e] at ht q1
    clear e
    go_enter Try.func55, Try.ntmps55
    go_wp2_with fail
    refine C.out.mono ?_
    rintro e w' ⟨rfl, hB⟩
    rw [HM.out]
    have B := hid hB
    clear hB C
    go_wp2
    go_ret
    exact ⟨rfl, B.out⟩
set_option maxHeartbeats 1000000 in
theorem log_any (w : World) (a : Nat) (ha : a < 256) (h0 : a ≠ 0) : Calls Try.prog 54 #[.int .u8 (a : Int)] w fun e w' => e = .returned (.tuple #[.int .i64 ((lg a : Nat) : Int), .int .i64 0]) ∧ Below w.heap.size w w' := by
  have C := hid (exponents_any w)
  obtain ⟨m, HM⟩ : ∃ m, Hid (cells8 lgLit = m) := ⟨_, rfl⟩
  have hx := lg_lt a ha
  have hix : ∀ W, (Instr.index 75 (.agg m) (.int .u8 (a : Int))).run Try.prog W = .ok (.int .u8 ((lg a : Nat) : Int)) W := fun W => by
    rw [← HM.out]
    exact run_index8 W Try.underlying75 lgLit lgLit_length a ha .u8
  obtain ⟨x, HX⟩ : ∃ x, Hid (lg a = x) := ⟨_, rfl⟩
  rw [HX.out]
  rw [HX.out] at hix hx
  go_enter Try.func54, Try.ntmps54
  go_wp2_with fail
  refine C.out.mono ?_
  rintro e w' ⟨rfl, hB⟩
  rw [HM.out]
  have B := hid hB
  clear hB C
  go_wp2
  go_ret2
  exact ⟨rfl, B.out⟩
set_option maxHeartbeats 1000000 in
theorem log_none (w : World) : Calls Try.prog 54 #[.int .u8 0] w fun e w' => e = .returned (.tuple #[.int .i64 0, .int .i64 60]) ∧ Below w.heap.size w w' := by
  go_enter Try.func54, Try.ntmps54
  go_wp2
  go_ret2
  exact ⟨rfl, Below.refl _ _⟩
set_option maxHeartbeats 1000000 in
theorem inv_any (w : World) (a : Nat) (ha : a < 256) (h0 : a ≠ 0) : Calls Try.prog 36 #[.int .u8 (a : Int)] w fun e w' => e = .returned (.tuple #[.int .u8 ((inv a : Nat) : Int), .int .i64 0]) ∧ Below w.heap.size w w' := by
  have C := hid (log_any w a ha h0)
  have hx := lg_lt a ha
  have E : Hid (∀ W, Calls Try.prog 55 #[.int .i64 (-((lg a : Nat) : Int))] W fun e w' => e = .returned (.int .u8 ((inv a : Nat) : Int)) ∧ Below W.heap.size W w') := fun W => by
    rw [inv, if_neg h0]
    exact exp_any W (-((lg a : Nat) : Int)) (by omega) (by omega)
  obtain ⟨x, HX⟩ : ∃ x, Hid (lg a = x) := ⟨_, rfl⟩
  rw [HX.out] at hx C E
  go_enter Try.func36, Try.ntmps36
  go_wp2_with fail
  refine C.out.mono ?_
  rintro e w1 ⟨rfl, hB⟩
  have B := hid hB
  clear hB C
  go_wp2_with fail
  refine (E.out _).mono ?_
  rintro e w2 ⟨rfl, hB2⟩
  have B2 := hid (B.out.trans (hB2.mono B.out.size))
  clear hB2 E B
  go_wp2
  go_ret2
  exact ⟨rfl, B2.out⟩
set_option maxHeartbeats 1000000 in
theorem inv_none (w : World) : Calls Try.prog 36 #[.int .u8 0] w fun e w' => e = .returned (.tuple #[.int .u8 0, .int .i64 60]) ∧ Below w.heap.size w w' := by
  have C := hid (log_none w)
  go_enter Try.func36, Try.ntmps36
  go_wp2_with fail
  refine C.out.mono ?_
  rintro e w1 ⟨rfl, hB⟩
  have B := hid hB
  clear hB C
  go_wp2
  go_ret2
  exact ⟨rfl, B.out⟩
def powV (a : Nat) (n : Int) : Nat × Int := if n = 0 then (1, 0) else if a = 0 then (if 0 < n then (0, 0) else (0, 60)) else (powA a (n % 255).toNat, 0)
theorem powV_lt (a : Nat) (n : Int) : (powV a n).1 < 256 := by
  unfold powV
  split
  · show 1 < 256; decide
  · split
    · split <;> (show 0 < 256; decide)
    · exact powA_lt _ _
theorem ex_pow (a : Nat) (n : Int) (ha : a < 256) (h0 : a ≠ 0) : ex ((lg a : Int) * n.tmod 255) = powA a (n % 255).toNat := by
  rw [powA_lg a ha h0, ← ex_nat]
  have e1 : ex ((lg a : Int) * n.tmod 255) = ex ((lg a : Int) * (n % 255)) := by
    rcases tmod_cases n with ⟨q1, q2, q3⟩ | ⟨q1, q2⟩
    · rw [← q2]
      unfold ex
      rw [Int.mul_add, show ((lg a : Int) * n.tmod 255 + (lg a : Int) * 255) % 255 = ((lg a : Int) * n.tmod 255) % 255 by omega]
    · rw [q2]
  rw [e1]
  congr 1
  rw [Int.natCast_mul, Int.toNat_of_nonneg (by omega)]
theorem xor_i64 (a b : Nat) (ha : a < 256) (hb : b < 256) : bits .xor .i64 (a : Int) (b : Int) = ((a ^^^ b : Nat) : Int) := by
  have hx : a ^^^ b < 2 ^ 8 := Nat.xor_lt_two_pow (by omega) (by omega)
  have h1 : (BitVec.ofInt 64 (a : Int)).toNat = a := by
    rw [BitVec.ofInt_natCast, BitVec.toNat_ofNat]; exact Nat.mod_eq_of_lt (by omega)
  have h2 : (BitVec.ofInt 64 (b : Int)).toNat = b := by
    rw [BitVec.ofInt_natCast, BitVec.toNat_ofNat]; exact Nat.mod_eq_of_lt (by omega)
  show IntKind.i64.wrap ((BitVec.ofInt 64 (a : Int) ^^^ BitVec.ofInt 64 (b : Int)).toNat : Int) = _
  rw [BitVec.toNat_xor, h1, h2, IntKind.wrap_i64]
  omega
def bz256 : List Int := List.replicate 256 0
def cB (l : List Int) : Array Value := (l.map (Value.int .u8)).toArray
theorem cB_size (l : List Int) : (cB l).size = l.length := by simp [cB]
theorem zero_t256 : (Try.prog.info? 75).map (·.zero) = some (some (.agg (cB bz256))) := by kernel_rfl
def InvT (A : List Int) : Prop := A.length = 256 ∧ ∀ x, x < 256 → A.getD x 0 = 0 ∨ A.getD x 0 = ((inv x : Nat) : Int)
theorem InvT.zero : InvT bz256 := ⟨List.length_replicate, fun x hx => Or.inl (by unfold bz256; rw [List.getD_eq_getElem?_getD, List.getElem?_replicate]; split <;> rfl)⟩
theorem InvT.set {A : List Int} (h : InvT A) {x : Nat} (hx : x < 256) : InvT (A.set x ((inv x : Nat) : Int)) ∧ (A.set x ((inv x : Nat) : Int)).getD x 0 = ((inv x : Nat) : Int) := by
  have h1 := h.1
  refine ⟨⟨by simp [h.1], fun y hy => ?_⟩, by simp [List.getD, List.getElem?_set, h1, hx]⟩
  by_cases e : x = y
  · subst e
    right
    simp [List.getD, List.getElem?_set, h1, hx]
  · rcases h.2 y hy with q | q
    · left; simpa [List.getD, List.getElem?_set, e] using q
    · right; simpa [List.getD, List.getElem?_set, e] using q
theorem cB_cell {w : World} {g : Nat} {A : List Int} {T : TypeId} (h : w.heap[g]? = some (.cells (cB A) T (0, 0))) (x : Nat) (hx : x < A.length) : w.cell? ⟨g, x, none⟩ = some (.int .u8 (A.getD x 0)) := by
  rw [cell_of_row _ _ _ _ _ _ h]
  simp [cB, List.getD, List.getElem?_eq_getElem hx]
theorem cB_set {w : World} {g : Nat} {A : List Int} {T : TypeId} (h : w.heap[g]? = some (.cells (cB A) T (0, 0))) (x : Nat) (y : Int) : (w.setCell ⟨g, x, none⟩ (.int .u8 y)).heap[g]? = some (.cells (cB (A.set x y)) T (0, 0)) := by
  exact (heap_setCell_same w g x _ _ _ h).trans (by simp [cB, List.map_set])
set_option maxRecDepth 100000 in
set_option maxHeartbeats 8000000 in
theorem elements_any (w : World) (k n : Nat) (h1 : 1 ≤ k) (hk : k ≤ n) (hn : n ≤ 255) :
    Calls Try.prog 19 #[.int .i64 (k : Int), .int .i64 (n : Int)] w fun e w' => ∃ v', e = .returned v' ∧ w'.ownsRow w.heap.size 5 1 v' (elL k n).length ((elL k n).map (Value.int .u8)) ∧ Below w.heap.size w w' := by
  obtain ⟨i0, hi, hz0, hz1, hz2⟩ := info_parts info_u8
  have hnk : n * k ≤ 65025 := Nat.mul_le_mul hn (by omega : k ≤ 255)
  have hmul : (n : Int) * (k : Int) = ((n * k : Nat) : Int) := by simp
  obtain ⟨z, HZ⟩ : ∃ z, Hid (cB bz256 = z) := ⟨_, rfl⟩
  have hz := zero_t256
  rw [HZ.out] at hz
  have HZ0 := hid hz
  clear hz
  obtain ⟨M, HM⟩ : ∃ M, Hid (n * k = M) := ⟨_, rfl⟩
  rw [HM.out] at hnk hmul
  obtain ⟨wA, HWA⟩ : ∃ x, Hid (w.alloc (.cells z 75) = x) := ⟨_, rfl⟩
  have BA : Hid (Below w.heap.size w wA) := by rw [← HWA.out]; exact (Below.refl _ w).alloc (Nat.le_refl _) _
  have TA : Hid (wA.heap[w.heap.size]? = some (.cells (cB bz256) 75 (0, 0))) := by rw [← HWA.out, HZ.out]; exact heap_alloc_new w _
  have SA : Hid (wA.heap.size = w.heap.size + 1) := by refine hid ?_; rw [← HWA.out]; simp
  obtain ⟨w3, hmk, hown, hgr⟩ := run_make_full (P := Try.prog) wA wA.heap.size 22 5 i0 (.int .u8 0) 1 Try.underlying22 hi hz0 hz1 .i64 .i64 M (by rw [hz2]; omega) (by unfold maxLen; omega) (by omega)
  have hmk2 : (Instr.makeSlice 22 (.int .i64 (M : Int)) (.int .i64 (M : Int))).run Try.prog wA = .ok (.slice (some ⟨wA.heap.size, 0, none⟩) M M) w3 := hmk
  rw [SA.out] at hmk2
  have hb3 : Below wA.heap.size wA w3 := (Below.refl _ wA).grown hgr (by omega) (fun k e => by cases e)
  have B3 : Hid (Below w.heap.size w w3) := BA.out.trans (hb3.mono BA.out.size)
  have T3 : Hid (w3.heap[w.heap.size]? = some (.cells (cB bz256) 75 (0, 0))) := (hb3.block _ (by rw [SA.out]; omega)).trans TA.out
  have HO3 : Hid (w3.ownsRow (w.heap.size + 1) 5 1 (.slice (some ⟨w.heap.size + 1, 0, none⟩) M M) M ((el1 k n 0).map (Value.int .u8))) := by
    have e : (madeCells (Value.int IntKind.u8 0).cells (M * 1)).toList = (el1 k n 0).map (Value.int .u8) := by
      rw [show (Value.int IntKind.u8 0).cells = #[Value.int .u8 0] from rfl, toList_madeCells_one, el1_zero, HM.out, List.map_replicate, Nat.mul_one]
    rw [← e]
    have h := hown
    rw [SA.out] at h
    exact h
  clear hown hgr hmk hb3
  obtain ⟨eb, Heb⟩ : ∃ x, Hid (w.heap.size + 1 = x) := ⟨_, rfl⟩
  have hne : w.heap.size ≠ eb := by rw [← Heb.out]; omega
  rw [Heb.out] at HO3 hmk2
  go_enter Try.func19, Try.ntmps19
  go_wp2_with (first | (refine wpList_alloc_agg HZ0.out rfl rfl ?_; rw [HWA.out]) | fail)
  clear hmk2
  go_loopw [16] (fun i wr => ∃ I : Nat, I ≤ k ∧ i = .int .i64 (I : Int) ∧ Hid (wr.ownsRow eb 5 1 (.slice (some ⟨eb, 0, none⟩) M M) M ((el1 k n I).map (Value.int .u8))) ∧ Hid (wr.heap[w.heap.size]? = some (.cells (cB bz256) 75 (0, 0))) ∧ Hid (Below w.heap.size w wr)) (fun i _ => k - (intOf i).toNat)
  case atStart => exact ⟨0, Nat.zero_le _, rfl, HO3, T3, B3⟩
  case round =>
    clear HO3 T3 B3
    obtain ⟨I, hI, rfl, HO, HT, B⟩ := hrel
    by_cases hlt : I < k
    · have hQ : I * k + I < M := by
        have h2 : (I + 1) * k ≤ n * k := Nat.mul_le_mul_right k (by omega)
        rw [Nat.succ_mul] at h2
        rw [← HM.out]
        omega
      have hm1 : (I : Int) * (k : Int) = ((I * k : Nat) : Int) := by simp
      have HST := hid (el1_step (n := n) hlt hk)
      obtain ⟨Q, HQ⟩ : ∃ x, Hid (I * k = x) := ⟨_, rfl⟩
      rw [HQ.out] at hQ hm1 HST
      have hcx := HO.out.cellAt (Q + I) (by omega)
      have hfz := HO.out.frozenAt (Q + I)
      obtain ⟨zz, hzz⟩ : ∃ zz, ((el1 k n I).map (Value.int .u8))[Q + I]? = some zz := ⟨_, List.getElem?_eq_getElem (by rw [List.length_map, el1_length, HM.out]; exact hQ)⟩
      rw [hzz] at hcx
      have HO2 : Hid ((wr.setCell ⟨eb, Q + I, none⟩ (.int .u8 1)).ownsRow eb 5 1 (.slice (some ⟨eb, 0, none⟩) M M) M ((el1 k n (I + 1)).map (Value.int .u8))) := by
        have h := (HO.out.stored (Q + I) (.int .u8 1)).1
        rw [← List.map_set, HST.out] at h
        exact h
      have T2 : Hid ((wr.setCell ⟨eb, Q + I, none⟩ (.int .u8 1)).heap[w.heap.size]? = some (.cells (cB bz256) 75 (0, 0))) := (heap_setCell_other wr ⟨eb, Q + I, none⟩ w.heap.size (.int .u8 1) (by simpa using hne)).trans HT.out
      have B2 : Hid (Below w.heap.size w (wr.setCell ⟨eb, Q + I, none⟩ (.int .u8 1))) := B.out.setCell (p := ⟨eb, Q + I, none⟩) (by show w.heap.size ≤ eb; rw [← Heb.out]; omega) _
      clear hzz HO HT B
      go_wp2
      exact ⟨⟨I + 1, by omega, by go_num, HO2, T2, B2⟩, by simp [intOf]; omega⟩
    · have hI' : I = k := by omega
      subst hI'
      have HOk : Hid (wr.ownsRow eb 5 1 (.slice (some ⟨eb, 0, none⟩) M M) M ((partTo (elL I n) (I * I)).map (Value.int .u8))) := by
        have := HO.out
        rw [el1_all h1 hk] at this
        exact this
      clear HO hlt hI
      obtain ⟨k, Hkk⟩ : ∃ k, Hid (I = k) := ⟨I, rfl⟩
      rw [Hkk.out] at HOk h1 hk HM hmul
      rw [Hkk.out]
      go_wp2
      go_loopw [8] (fun i wr => ∃ I : Nat, k ≤ I ∧ I ≤ n ∧ i = .int .i64 (I : Int) ∧ Hid (wr.ownsRow eb 5 1 (.slice (some ⟨eb, 0, none⟩) M M) M ((partTo (elL k n) (I * k)).map (Value.int .u8))) ∧ Hid (∃ A, InvT A ∧ wr.heap[w.heap.size]? = some (.cells (cB A) 75 (0, 0))) ∧ Hid (Below w.heap.size w wr)) (fun i _ => n - (intOf i).toNat)
      case atStart => exact ⟨k, Nat.le_refl _, hk, rfl, HOk, ⟨bz256, InvT.zero, HT.out⟩, B⟩
      case round =>
        clear HOk HT B
        obtain ⟨I, hkI, hIn, rfl, HO, HT, B⟩ := hrel
        by_cases hlt : I < n
        · have hm1 : (I : Int) * (k : Int) = ((I * k : Nat) : Int) := by simp
          have hQ0 : I * k + k ≤ M := by
            have h2 : (I + 1) * k ≤ n * k := Nat.mul_le_mul_right k (by omega)
            rw [Nat.succ_mul] at h2
            rw [← HM.out]
            exact h2
          obtain ⟨Q, HQ⟩ : ∃ x, Hid (I * k = x) := ⟨_, rfl⟩
          rw [HQ.out] at hm1 hQ0 HO
          go_wp2
          go_loopw [34] (fun j wr => ∃ J : Nat, J ≤ k ∧ j = .int .i64 (J : Int) ∧ Hid (wr.ownsRow eb 5 1 (.slice (some ⟨eb, 0, none⟩) M M) M ((partTo (elL k n) (Q + J)).map (Value.int .u8))) ∧ Hid (∃ A, InvT A ∧ wr.heap[w.heap.size]? = some (.cells (cB A) 75 (0, 0))) ∧ Hid (Below w.heap.size w wr)) (fun j _ => k - (intOf j).toNat)
          case atStart => exact ⟨0, Nat.zero_le _, rfl, HO, HT, B⟩
          case round =>
            clear HO HT B
            obtain ⟨J, hJ, rfl, HO, HT, B⟩ := hrel
            by_cases hjt : J < k
            · obtain ⟨A, hA, hTA⟩ := HT.out
              have hx0 := xor_i64 I J (by omega) (by omega)
              have hx1 : I ^^^ J < 256 := xor_lt' (by omega) (by omega)
              have hx2 : I ^^^ J ≠ 0 := xor_ne (by omega)
              have HEL : Hid ((elL k n).getD (Q + J) 0 = ((inv (I ^^^ J) : Nat) : Int)) := by
                refine hid ?_
                rw [elL_get k n (Q + J) (by rw [HM.out]; omega), ← HQ.out]
                exact elP_far hkI hjt
              obtain ⟨x, HX⟩ : ∃ x, Hid (I ^^^ J = x) := ⟨_, rfl⟩
              rw [HX.out] at hx0 hx1 hx2 HEL
              obtain ⟨y, HYv⟩ : ∃ y, Hid (((inv x : Nat) : Int) = y) := ⟨_, rfl⟩
              have CI := inv_any wr x hx1 hx2
              rw [HYv.out] at CI HEL
              have CI := hid CI
              have HAs := hid (hA.set hx1)
              rw [HYv.out] at HAs
              have HA := hid hA
              have HTA := hid hTA
              have heb : w.heap.size ≤ eb := by rw [← Heb.out]; omega
              have END : Hid (∀ (W : World) (A' : List Int), W.ownsRow eb 5 1 (.slice (some ⟨eb, 0, none⟩) M M) M ((partTo (elL k n) (Q + J)).map (Value.int .u8)) → InvT A' → W.heap[w.heap.size]? = some (.cells (cB A') 75 (0, 0)) → Below w.heap.size w W →
                  (W.setCell ⟨eb, Q + J, none⟩ (.int .u8 y)).ownsRow eb 5 1 (.slice (some ⟨eb, 0, none⟩) M M) M ((partTo (elL k n) (Q + (J + 1))).map (Value.int .u8)) ∧ (∃ A, InvT A ∧ (W.setCell ⟨eb, Q + J, none⟩ (.int .u8 y)).heap[w.heap.size]? = some (.cells (cB A) 75 (0, 0))) ∧ Below w.heap.size w (W.setCell ⟨eb, Q + J, none⟩ (.int .u8 y))) := hid fun W A' q1 q2 q3 q4 => by
                refine ⟨?_, ⟨A', q2, (heap_setCell_other W ⟨eb, Q + J, none⟩ w.heap.size (.int .u8 y) (by simpa using hne)).trans q3⟩, q4.setCell (p := ⟨eb, Q + J, none⟩) heb _⟩
                have h := (q1.stored (Q + J) (.int .u8 y)).1
                rw [← List.map_set, ← HEL.out, partTo_step (elL k n) (Q + J) (by rw [elL_length, HM.out]; omega)] at h
                rw [← HEL.out]
                exact h
              have CEL : Hid (∀ W : World, W.ownsRow eb 5 1 (.slice (some ⟨eb, 0, none⟩) M M) M ((partTo (elL k n) (Q + J)).map (Value.int .u8)) → (∃ zz, W.cell? ⟨eb, Q + J, none⟩ = some zz) ∧ W.frozen? ⟨eb, Q + J, none⟩ = false) := hid fun W q => by
                have hcx := q.cellAt (Q + J) (by omega)
                exact ⟨⟨_, hcx.trans (List.getElem?_eq_getElem (by rw [List.length_map, partTo_length _ _ (by rw [elL_length, HM.out]; omega), elL_length, HM.out]; omega))⟩, q.frozenAt (Q + J)⟩
              have hcA := cB_cell hTA x (by rw [hA.1]; exact hx1)
              by_cases ha : A.getD x 0 = 0
              · rw [ha] at hcA
                clear hA hTA ha
                go_wp2_with fail
                refine CI.out.mono ?_
                rintro e w5 ⟨rfl, hb5⟩
                have B5 := hid (B.out.trans (hb5.mono B.out.size))
                have O5 := hid (own_below HO.out hb5)
                have T5 : w5.heap[w.heap.size]? = some (.cells (cB A) 75 (0, 0)) := (hb5.block w.heap.size (Array.getElem?_eq_some_iff.1 HTA.out).1).trans HTA.out
                have hc5 := cB_cell T5 x (by rw [HA.out.1]; exact hx1)
                have hf5 : w5.frozen? ⟨w.heap.size, x, none⟩ = false := by simp [World.frozen?, T5]
                have T6 := cB_set T5 x y
                have HT6 := hid T6
                have c6 := cB_cell T6 x (by rw [List.length_set, HA.out.1]; exact hx1)
                rw [HAs.out.2] at c6
                have B6 := hid (B5.out.setCell (p := ⟨w.heap.size, x, none⟩) (Nat.le_refl _) (.int .u8 y))
                have O6 : Hid ((w5.setCell ⟨w.heap.size, x, none⟩ (.int .u8 y)).ownsRow eb 5 1 (.slice (some ⟨eb, 0, none⟩) M M) M ((partTo (elL k n) (Q + J)).map (Value.int .u8))) := hid (ownsRow_setCell_other O5.out (by simpa [Value.ownBlock] using hne.symm) _)
                obtain ⟨⟨zz, hz6⟩, hf6⟩ := CEL.out _ O6.out
                obtain ⟨E1, E2, E3⟩ := END.out _ _ O6.out HAs.out.1 HT6.out B6.out
                have HE := hid (And.intro E1 (And.intro E2 E3))
                clear E1 E2 E3 T5 T6 hb5 CI hcA
                go_wp2
                exact ⟨⟨J + 1, by omega, by go_num, HE.out.1, HE.out.2.1, HE.out.2.2⟩, by simp [intOf]; omega⟩
              · have hay : A.getD x 0 = y := by
                  rcases hA.2 x hx1 with q | q
                  · exact absurd q ha
                  · rw [q]; exact HYv.out
                have hy0 : (y == 0) = false := by rw [← hay]; simpa using ha
                rw [hay] at hcA
                obtain ⟨⟨zz, hz6⟩, hf6⟩ := CEL.out _ HO.out
                obtain ⟨E1, E2, E3⟩ := END.out _ _ HO.out HA.out HTA.out B.out
                have HE := hid (And.intro E1 (And.intro E2 E3))
                clear E1 E2 E3 hA hTA ha hay CI
                go_wp2
                exact ⟨⟨J + 1, by omega, by go_num, HE.out.1, HE.out.2.1, HE.out.2.2⟩, by simp [intOf]; omega⟩
            · have hJ' : J = k := by omega
              subst hJ'
              have HO2 : Hid (wr.ownsRow eb 5 1 (.slice (some ⟨eb, 0, none⟩) M M) M ((partTo (elL J n) ((I + 1) * J)).map (Value.int .u8))) := by
                have := HO.out
                rw [← HQ.out, ← Nat.succ_mul] at this
                exact this
              clear HO
              go_wp2
              exact ⟨⟨I + 1, by omega, by omega, by go_num, HO2, HT, B⟩, by simp [intOf]; omega⟩
        · have hI' : I = n := by omega
          subst hI'
          have HF : Hid (wr.ownsRow w.heap.size 5 1 (.slice (some ⟨eb, 0, none⟩) M M) (elL k I).length ((elL k I).map (Value.int .u8))) := by
            have := HO.out
            rw [show I * k = (elL k I).length from (elL_length k I).symm, partTo_all] at this
            rw [elL_length, HM.out]
            exact own_mono this (by rw [← Heb.out]; omega)
          clear HO
          go_wp2
          go_ret
          exact ⟨_, rfl, by rw [Hkk.out]; exact HF.out, B.out⟩
def HCd (w : World) (gc k n : Nat) : Prop := ∃ g, w.heap[gc]? = some (.cells #[.pointer (some ⟨g, 0, none⟩)] 53 (0, 0)) ∧ HMt w g n k (elL k n)
theorem HCd.below {w w' : World} {gc k n : Nat} (h : HCd w gc k n) (hb : Below w.heap.size w w') : HCd w' gc k n := by
  obtain ⟨g, h1, h2⟩ := h
  exact ⟨g, (hb.block gc (Array.getElem?_eq_some_iff.1 h1).1).trans h1, h2.below hb⟩
theorem elL_byt (k n : Nat) (hk : k ≤ n) (hn : n ≤ 255) (h1 : 1 ≤ k) : ∀ x ∈ elL k n, 0 ≤ x ∧ x < 256 := by
  intro x hx
  obtain ⟨p, hp, rfl⟩ := List.mem_map.1 hx
  have hp := List.mem_range.1 hp
  have h : elF k (p / k) (p % k) < 256 := by
    unfold elF
    split
    · split <;> decide
    · exact inv_lt _
  unfold elP
  omega
set_option maxRecDepth 100000 in
set_option maxHeartbeats 4000000 in
theorem rsnew_ok (w : World) (k n : Nat) (h1 : 1 ≤ k) (hk : k ≤ n) (hn : n ≤ 255) :
    Calls Try.prog 7 #[.int .i64 (k : Int), .int .i64 (n : Int)] w fun e w' => ∃ gc, e = .returned (.tuple #[.pointer (some ⟨gc, 0, none⟩), .int .i64 0]) ∧ HCd w' gc k n ∧ Below w.heap.size w w' := by
  have CE := elements_any w k n h1 hk hn
  rw [elL_length] at CE
  have CE := hid CE
  have HBY := hid (elL_byt k n hk hn h1)
  have CN := hid fun W v (h : HB W v (elL k n)) => bnew_ok W v (elL k n) n k h ⟨by omega, by omega⟩ ⟨h1, by omega⟩ (elL_length k n)
  have q1 : ¬ ((k : Int) < 1) := by omega
  have q2 : ¬ ((k : Int) > (n : Int)) := by omega
  have q3 : ¬ ((n : Int) > 255) := by omega
  obtain ⟨M, HM⟩ : ∃ x, Hid (n * k = x) := ⟨_, rfl⟩
  rw [HM.out] at CE
  unfold gfF at CN
  go_enter Try.func7, Try.ntmps7
  go_wp2_with fail
  refine CE.out.mono ?_
  rintro e w1 ⟨v1, rfl, ho1, hb1⟩
  have H1 : HB w1 v1 (elL k n) := HB.of_own (by rw [elL_length, HM.out]; exact ho1) HBY.out
  have C2 := hid (CN.out w1 v1 H1)
  have B1 := hid hb1
  obtain ⟨p1, c1, rfl⟩ := own_slc ho1
  clear ho1 hb1 H1 CE CN
  go_wp2_with fail
  refine C2.out.mono ?_
  rintro e w2 ⟨g, rfl, hg, hm2, hb2⟩
  have M2 := hid hm2
  have B2 := hid (B1.out.trans (hb2.mono B1.out.size))
  clear hm2 hb2 C2 hg
  go_wp2
  go_ret2
  have bal : Below w2.heap.size w2 (w2.alloc (.cells #[.pointer (some ⟨g, 0, none⟩)] 53)) := (Below.refl _ _).alloc (Nat.le_refl _) _
  exact ⟨w2.heap.size, rfl, ⟨g, heap_alloc_new w2 _, M2.out.below bal⟩, B2.out.trans (bal.mono B2.out.size)⟩
set_option maxHeartbeats 1000000 in
theorem rsnew_bad (w : World) (k n : Int) (h : k < 1 ∨ k > n ∨ n > 255) :
    Calls Try.prog 7 #[.int .i64 k, .int .i64 n] w fun e w' => e = .returned (.tuple #[.pointer none, .int .i64 3]) ∧ w' = w := by
  by_cases q1 : k < 1
  · clear h
    go_enter Try.func7, Try.ntmps7
    go_wp2
    go_ret2
    exact ⟨rfl, rfl⟩
  · by_cases q2 : k > n
    · clear h
      go_enter Try.func7, Try.ntmps7
      go_wp2
      go_ret2
      exact ⟨rfl, rfl⟩
    · have q3 : n > 255 := by omega
      clear h
      go_enter Try.func7, Try.ntmps7
      go_wp2
      go_ret2
      exact ⟨rfl, rfl⟩
theorem bcols_any (w : World) (g r c : Nat) (l : List Int) (h : HMt w g r c l) : Calls Try.prog 37 #[.pointer (some ⟨g, 0, none⟩)] w fun e w' => e = .returned (.int .i64 (c : Int)) ∧ w' = w := by
  have CM := hid (bmade_any w g r c l h)
  obtain ⟨_, v, hg, _⟩ := h
  have h0 : w.cell? ⟨g, 2, none⟩ = some (.int .i64 (c : Int)) := (cell_of_row w g 2 _ _ _ hg).trans rfl
  clear hg
  go_enter Try.func37, Try.ntmps37
  go_wp2_with fail
  refine CM.out.mono ?_
  rintro e wq ⟨rfl, hwq⟩
  rw [hwq]
  clear hwq wq
  go_wp2
  go_ret
  exact ⟨rfl, rfl⟩
theorem cmade_any (w : World) (gc k n : Nat) (h : HCd w gc k n) : Calls Try.prog 20 #[.pointer (some ⟨gc, 0, none⟩)] w fun e w' => e = .returned (.bool true) ∧ w' = w := by
  obtain ⟨g, hg, _⟩ := h
  have h0 : w.cell? ⟨gc, 0, none⟩ = some (.pointer (some ⟨g, 0, none⟩)) := (cell_of_row w gc 0 _ _ _ hg).trans rfl
  go_enter Try.func20, Try.ntmps20
  go_wp2
  go_ret
  exact ⟨rfl, rfl⟩
theorem ck_any (w : World) (gc k n : Nat) (h : HCd w gc k n) : Calls Try.prog 22 #[.pointer (some ⟨gc, 0, none⟩)] w fun e w' => e = .returned (.int .i64 (k : Int)) ∧ w' = w := by
  have CM := hid (cmade_any w gc k n h)
  obtain ⟨g, hg, hm⟩ := h
  have CC := hid (bcols_any w g n k _ hm)
  have h0 : w.cell? ⟨gc, 0, none⟩ = some (.pointer (some ⟨g, 0, none⟩)) := (cell_of_row w gc 0 _ _ _ hg).trans rfl
  clear hg hm
  go_enter Try.func22, Try.ntmps22
  go_wp2_with fail
  refine CM.out.mono ?_
  rintro e wq ⟨rfl, hwq⟩
  rw [hwq]
  clear hwq wq
  go_wp2_with fail
  refine CC.out.mono ?_
  rintro e wq ⟨rfl, hwq⟩
  rw [hwq]
  clear hwq wq
  go_wp2
  go_ret
  exact ⟨rfl, rfl⟩
set_option maxRecDepth 100000 in
set_option maxHeartbeats 4000000 in
theorem fit_ok (w : World) (vb : Value) (ds : List (List Int)) (k L : Nat) (hd : HL w vb ds) (hk : ds.length = k) (h1 : 1 ≤ k) (hkb : k ≤ 255) (hL : ∀ j, j < ds.length → (ds.getD j []).length = L) :
    Calls Try.prog 21 #[vb, .int .i64 (k : Int)] w fun e w' => e = .returned (.int .i64 0) ∧ w' = w := by
  obtain ⟨b, off, cb, rfl, hlb, hcb, hh⟩ := hd.ne (by omega)
  unfold maxLen at hcb
  rw [hk] at hlb ⊢
  have hne : ((k : Int) != (k : Int)) = false := by simp
  have HH := hid hh
  have HLE := hid hL
  have HK := hid hk
  obtain ⟨u0, hu0, hbu0⟩ := hh 0 (by omega)
  rw [Nat.add_zero] at hu0
  obtain ⟨pu, cu, e0, _, _⟩ := hbu0.open
  rw [hL 0 (by omega)] at e0
  subst e0
  clear hd hh hL hk hbu0
  go_enter Try.func21, Try.ntmps21
  go_wp2
  go_loopw [13] (fun i wr => ∃ J : Nat, J ≤ k ∧ i = .int .i64 (J : Int) ∧ wr = w) (fun i _ => k - (intOf i).toNat)
  case atStart => exact ⟨0, Nat.zero_le _, rfl, rfl⟩
  case round =>
    obtain ⟨J, hJ, rfl, hwr⟩ := hrel
    subst hwr
    by_cases hlt : J < k
    · obtain ⟨u, hu, hbu⟩ := HH.out J (by rw [HK.out]; exact hlt)
      obtain ⟨pu2, cu2, e0, _, _⟩ := hbu.open
      rw [HLE.out J (by rw [HK.out]; exact hlt)] at e0
      subst e0
      have hLL : ((L : Int) != (L : Int)) = false := by simp
      clear hbu
      go_wp2
      exact ⟨⟨J + 1, by omega, by go_num, by first | rfl | trivial⟩, by simp [intOf]; omega⟩
    · have hJ' : J = k := by omega
      subst hJ'
      go_wp2
      go_ret
      exact ⟨rfl, rfl⟩
set_option maxRecDepth 100000 in
set_option maxHeartbeats 4000000 in
theorem encode_ok (w : World) (gc k n : Nat) (vb : Value) (ds : List (List Int)) (L : Nat) (hc : HCd w gc k n) (h1 : 1 ≤ k) (hkn : k ≤ n) (hn : n ≤ 255) (hd : HL w vb ds) (hdl : ds.length = k) (hL : ∀ j, j < ds.length → (ds.getD j []).length = L) (hLb : L ≤ 140737488355328) :
    Calls Try.prog 9 #[.pointer (some ⟨gc, 0, none⟩), vb] w fun e w' => ∃ v', e = .returned (.tuple #[v', .int .i64 0]) ∧ PW w.heap.size w' v' (prL (elL k n) k ds L n) ∧ Below w.heap.size w w' := by
  have CM := hid (cmade_any w gc k n hc)
  have CK := hid (ck_any w gc k n hc)
  have CF := hid (fit_ok w vb ds k L hd hdl h1 (by omega) hL)
  obtain ⟨g, hg, hm⟩ := hc
  have CP := hid (products_any w g n k (elL k n) vb ds L hm (by omega) (by omega) h1 (by omega) hd hdl hL hLb)
  have h0 : w.cell? ⟨gc, 0, none⟩ = some (.pointer (some ⟨g, 0, none⟩)) := (cell_of_row w gc 0 _ _ _ hg).trans rfl
  obtain ⟨pb, cb, rfl, _, _⟩ := hd.open
  rw [hdl] at CF CP ⊢
  clear hg hm hd hL
  go_enter Try.func9, Try.ntmps9
  go_wp2_with fail
  refine CM.out.mono ?_
  rintro e wq ⟨rfl, hwq⟩
  rw [hwq]
  clear hwq wq
  go_wp2_with fail
  refine CK.out.mono ?_
  rintro e wq ⟨rfl, hwq⟩
  rw [hwq]
  clear hwq wq
  go_wp2_with fail
  refine CF.out.mono ?_
  rintro e wq ⟨rfl, hwq⟩
  rw [hwq]
  clear hwq wq
  go_wp2_with fail
  refine CP.out.mono ?_
  rintro e w1 ⟨v1, rfl, hp1, hb1⟩
  have P1 := hid hp1
  have B1 := hid hb1
  obtain ⟨xs, hrow, _⟩ := hp1
  obtain ⟨p1, c1, rfl⟩ := own_slc1 hrow
  clear hrow hb1 CP
  go_wp2
  go_ret2
  exact ⟨_, rfl, P1.out, B1.out⟩
theorem rw_len {l : List Int} {L i : Nat} (h : i * L + L ≤ l.length) : (rwL l L i).length = L := by
  unfold rwL
  rw [List.length_drop, List.length_take]
  omega
theorem rw_get {l : List Int} {L i j : Nat} (h : i * L + L ≤ l.length) (hj : j < L) : (rwL l L i).getD j 0 = l.getD (i * L + j) 0 := by
  unfold rwL
  simp only [List.getD, List.getElem?_drop, List.getElem?_take]
  rw [if_pos (by omega)]
theorem slice_lh (w : World) (p : Option Addr) (n c a b : Nat) (h1 : a ≤ b) (h2 : b ≤ c) (hb : b ≤ 9223372036854775807) :
    (Instr.slice 22 (.slice p n c) (some (.int .i64 (a : Int))) (some (.int .i64 (b : Int))) none).run Try.prog w = .ok (.slice (if c = a then p else p.map (·.add a)) (b - a) (c - a)) w := by
  have hs : (sizeOf 5).run Try.prog w = .ok 1 w := size_u8 w
  have hel : Try.prog.elem 22 = 5 := by kernel_rfl
  have h3 := run_slice_lh (P := Try.prog) w 22 p n c (by rw [hel]; exact Try.underlying22) .i64 .i64 (a : Int) (b : Int) (by omega) (by omega) (by omega)
  rw [h3, hel, hs]
  simp only [Result.andThen_ok, sliced]
  by_cases hc : c = a
  · simp [hc]
  · simp [hc]
def evD (l : List Int) (L m : Nat) : List (List Int) := (List.range m).map fun i => rwL l L i
theorem evD_length (l : List Int) (L m : Nat) : (evD l L m).length = m := by simp [evD]
theorem evD_succ (l : List Int) (L m : Nat) : evD l L (m + 1) = evD l L m ++ [rwL l L m] := by simp [evD, List.range_succ]
theorem evD_get (l : List Int) (L m i : Nat) (h : i < m) : (evD l L m).getD i [] = rwL l L i := by simp [evD, List.getD, h]
theorem ev_le {n k i : Nat} (hi : i < k) : i * (n / k) + n / k ≤ n := by
  have h1 : (i + 1) * (n / k) ≤ k * (n / k) := Nat.mul_le_mul_right _ hi
  have h2 := Nat.mul_div_le n k
  rw [Nat.succ_mul] at h1
  omega
set_option maxRecDepth 100000 in
set_option maxHeartbeats 4000000 in
theorem even_any (w : World) (k : Nat) (v : Value) (l : List Int) (h : HB w v l) (h1 : 1 ≤ k) (hk : k ≤ 255) (hl : l.length ≤ 140737488355328) :
    Calls Try.prog 8 #[.int .i64 (k : Int), v] w fun e w' => ∃ v', e = .returned v' ∧ HL w' v' (evD l (l.length / k) k) ∧ Below w.heap.size w w' := by
  have HA := hid h
  obtain ⟨p, c, rfl, hlc, hcm⟩ := h.open
  unfold maxLen at hcm
  have hk0 : ¬ ((k : Int) = 0) := by omega
  have hq : (l.length : Int).tdiv (k : Int) = ((l.length / k : Nat) : Int) := by
    rw [Int.tdiv_eq_ediv_of_nonneg (by omega)]
    rfl
  have HLE : Hid (∀ i, i < k → i * (l.length / k) + l.length / k ≤ l.length) := hid fun i hi => ev_le hi
  obtain ⟨L, HL0⟩ : ∃ L, Hid (l.length / k = L) := ⟨_, rfl⟩
  obtain ⟨N, HN⟩ : ∃ N, Hid (l.length = N) := ⟨_, rfl⟩
  rw [HL0.out] at hq HLE
  rw [HN.out] at hq HLE hlc hl
  rw [HL0.out, HN.out]
  have hLN : L ≤ N := by rw [← HL0.out, ← HN.out]; exact Nat.div_le_self _ _
  have sz := size_u8
  clear h
  go_enter Try.func8, Try.ntmps8
  go_wp2
  go_loopw [5, 7] (fun o i wr => ∃ I : Nat, I ≤ k ∧ i = .int .i64 (I : Int) ∧ Hid (OWL w wr o (evD l L I)) ∧ Hid (Below w.heap.size w wr)) (fun _ i _ => k - (intOf i).toNat)
  case atStart => exact ⟨0, Nat.zero_le _, rfl, OWL.nil _ _, Below.refl _ _⟩
  case round =>
    obtain ⟨I, hI, rfl, HO, B⟩ := hrel
    by_cases hlt : I < k
    · have hle := HLE.out I hlt
      have hm1 : (I : Int) * (L : Int) = ((I * L : Nat) : Int) := by simp
      obtain ⟨Q, HQ⟩ : ∃ x, Hid (I * L = x) := ⟨_, rfl⟩
      rw [HQ.out] at hm1 hle
      have HSL : Hid (∃ p', (Instr.slice 22 (.slice p N c) (some (.int .i64 (Q : Int))) (some (.int .i64 ((Q : Int) + (L : Int)))) none).run Try.prog wr = .ok (.slice p' L (c - Q)) wr ∧ HB w (.slice p' L (c - Q)) (rwL l L I)) := by
        have e1 := slice_lh wr p N c Q (Q + L) (by omega) (by omega) (by omega)
        rw [Nat.add_sub_cancel_left] at e1
        have e2 := HA.out.sliced Q (Q + L) c (by omega) (by rw [HN.out]; omega) (by omega) (Nat.le_refl _)
        rw [Nat.add_sub_cancel_left] at e2
        refine hid ⟨_, by simpa using e1, ?_⟩
        unfold rwL
        rw [HQ.out]
        exact e2
      obtain ⟨p', hsl, hbs⟩ := HSL.out
      have HBS := hid hbs
      obtain ⟨xs, hrow, _⟩ := HO.out
      obtain ⟨po, co, eo⟩ := own_slc hrow
      subst eo
      rw [evD_length]
      have hsz := B.out.size
      have HES := hid (evD_succ l L I)
      have HO3 : Hid (OWL w (wr.alloc (.cells #[.slice p' L (c - Q)] 22)) (.slice po I co) (evD l L I)) := by
        have h2 := HO.out
        rw [evD_length] at h2
        exact h2.below ((Below.refl _ _).alloc (Nat.le_refl _) _)
      clear hbs hrow HSL
      go_wp2_with (at_builtin; refine wpList_append_OWL (w0 := w) rfl _ _ rfl _ _ rfl HO3.out ⟨wr.heap.size, 0, none⟩ 1 1 [_] [rwL l L I] rfl rfl rfl (cell_one_new _ _ _) ?q1 ?q2 ?q3 ?q4 ?_)
      case q1 =>
        intro j hj
        match j, hj with
        | 0, _ => exact .inr HBS.out
      case q2 => intro u hu; simp at hu; subst hu; rfl
      case q3 => rw [evD_length]; omega
      case q4 => simp; omega
      intro v' w2 ho2 hg2 hblk
      rw [← HES.out] at ho2
      have O2 := hid ho2
      have B2 : Hid (Below w.heap.size w w2) := ((B.out.alloc hsz _).grown hg2 (by simp; omega) (fun g e => (hblk g e).1))
      clear ho2 hg2 hblk hsl
      go_wp2
      exact ⟨⟨I + 1, by omega, by go_num, O2, B2⟩, by simp [intOf]; omega⟩
    · have hI' : I = k := by omega
      subst hI'
      obtain ⟨xs, hrow, _⟩ := HO.out
      obtain ⟨po, co, eo⟩ := own_slc hrow
      subst eo
      clear hrow
      go_wp2
      go_ret
      exact ⟨_, rfl, HO.out.hl B.out, B.out⟩
set_option maxHeartbeats 1000000 in
theorem kpick_any (w : World) (x : Int) (n : Nat) (h1 : 1 ≤ n) (h2 : n ≤ 140737488355328) : Calls Try.prog 12 #[.int .i64 x, .int .i64 (n : Int)] w fun e w' => (∃ p : Nat, p < n ∧ e = .returned (.int .i64 (p : Int))) ∧ w' = w := by
  have b1 : -(n : Int) < Int.tmod x n := Int.lt_tmod_of_pos x (by omega)
  have b2 : Int.tmod x n < (n : Int) := Int.tmod_lt_of_pos x (by omega)
  have hn1 : ¬ ((n : Int) < 1) := by omega
  have hn0 : ¬ ((n : Int) = 0) := by omega
  obtain ⟨y, hy⟩ : ∃ y, Int.tmod x (n : Int) = y := ⟨_, rfl⟩
  rw [hy] at b1 b2
  by_cases hneg : y < 0
  · go_enter Try.func12, Try.ntmps12
    go_wp2
    go_ret
    refine ⟨⟨(y + n).toNat, by omega, ?_⟩, rfl⟩
    show Ending.returned (Value.int .i64 (y + n)) = _
    rw [Int.toNat_of_nonneg (by omega)]
  · go_enter Try.func12, Try.ntmps12
    go_wp2
    go_ret
    refine ⟨⟨y.toNat, by omega, ?_⟩, rfl⟩
    show Ending.returned (Value.int .i64 y) = _
    rw [Int.toNat_of_nonneg (by omega)]
end Go.Proofs.Ytmlhfjflkcenkaa
namespace Go.Proofs.Ytmlhfjflkcenkaa
open Go Go.RowKit Ev
def envI (f : List Int) : Env := ⟨fun i => f.getD i 0, fun _ => .tuple #[], fun _ _ _ => 0⟩
def e8 (e : Ex) : TV := .sc (.int .u8 e)
def e64 (e : Ex) : TV := .sc (.int .i64 e)
def E8 (e : Ex) : AV := .tv (e8 e)
def E64 (e : Ex) : AV := .tv (e64 e)
def B8 (i : Nat) : AV := E8 (.var i)
def B64 (i : Nat) : AV := E64 (.var i)
def tabCon (t : List (Nat × List AV × AV)) : ConF := fun g xs _ => (t.find? fun e => decide (e.1 = g) && decide (e.2.1 = xs)).map (·.2.2)
def EntOk (ρ : Env) (e : Nat × List AV × AV) : Prop :=
  ∀ (ms : List Nat) (w : World) (args : Array Value), e.2.1.map (AV.inst ρ ms) = args.toList.map some → Calls Try.prog e.1 args w fun r w' => ∃ u, r = .returned u ∧ e.2.2.inst ρ ms = some u ∧ Below w.heap.size w w'
theorem tabCon_ok {ρ : Env} {t : List (Nat × List AV × AV)} (h : ∀ e ∈ t, EntOk ρ e) : ConOk Try.prog ρ (tabCon t) := by
  intro g xs H v hv ms B w args ha hH
  unfold tabCon at hv
  rw [Option.map_eq_some_iff] at hv
  obtain ⟨e, h1, rfl⟩ := hv
  have h2 := List.find?_some h1
  simp only [Bool.and_eq_true, decide_eq_true_eq] at h2
  obtain ⟨rfl, rfl⟩ := h2
  exact h e (List.mem_of_find?_eq_some h1) ms w args ha
theorem some_inj {α : Type} : ∀ {a b : List α}, a.map some = b.map some → a = b
  | [], [], _ => rfl
  | [], _ :: _, h => by simp at h
  | _ :: _, [], h => by simp at h
  | x :: a, y :: b, h => by
    simp only [List.map_cons, List.cons.injEq, Option.some.injEq] at h
    rw [h.1, some_inj h.2]
theorem ent {ρ : Env} {g : Nat} {xs : List AV} {v : AV} (vs : List Value) (u : Value) (hx : ∀ ms, xs.map (AV.inst ρ ms) = vs.map some) (hv : ∀ ms, v.inst ρ ms = some u)
    (h : ∀ w, Calls Try.prog g vs.toArray w fun e w' => e = .returned u ∧ Below w.heap.size w w') : EntOk ρ (g, xs, v) := by
  intro ms w args ha
  have e : args = vs.toArray := by
    have := some_inj ((hx ms).symm.trans ha)
    rw [this]
  subst e
  exact (h w).mono fun e w' ⟨q1, q2⟩ => ⟨u, q1, hv ms, q2⟩
theorem still {g : Nat} {args : Array Value} {u : Value} {w : World} (h : Calls Try.prog g args w fun e w' => e = .returned u ∧ w' = w) : Calls Try.prog g args w fun e w' => e = .returned u ∧ Below w.heap.size w w' :=
  h.mono fun e w' ⟨q1, q2⟩ => ⟨q1, q2 ▸ Below.refl _ _⟩
theorem retold {g : Nat} {args : Array Value} {u v : Value} {w : World} (h : Calls Try.prog g args w fun e w' => e = .returned u ∧ Below w.heap.size w w') (e : u = v) : Calls Try.prog g args w fun e w' => e = .returned v ∧ Below w.heap.size w w' := e ▸ h
def tabCmp (t : List (BinOp × Ex × Ex × Bool)) (op : BinOp) (a b : Ex) : Option Bool := (t.find? fun e => decide (e.1 = op) && decide (e.2.1 = a) && decide (e.2.2.1 = b)).map (·.2.2.2)
def CmpOk (ρ : Env) (e : BinOp × Ex × Ex × Bool) : Prop := cmpOf e.1 (e.2.1.den ρ) (e.2.2.1.den ρ) = some e.2.2.2
def tabLore (c : List (BinOp × Ex × Ex × Bool)) : Lore := ⟨tabCmp c, id, fun _ _ => none⟩
theorem tabLore_ok {ρ : Env} {c : List (BinOp × Ex × Ex × Bool)} (hc : ∀ e ∈ c, CmpOk ρ e) : LoreOk ρ (tabLore c) := by
  refine ⟨fun op a b r hr => ?_, fun _ => rfl, (noLore_ok ρ).factA⟩
  simp only [tabLore, tabCmp] at hr
  rw [Option.map_eq_some_iff] at hr
  obtain ⟨e, h1, rfl⟩ := hr
  have h2 := List.find?_some h1
  simp only [Bool.and_eq_true, decide_eq_true_eq] at h2
  obtain ⟨⟨rfl, rfl⟩, rfl⟩ := h2
  exact hc e (List.mem_of_find?_eq_some h1)
theorem ret_true {P : Program} {ρ : Env} {g : Nat} {args : Array Value} {w : World} {H : List Blk} (h : Calls P g args w fun e w' => ∃ ms u, e = .returned u ∧ (AV.tv (.sc (.bool true))).inst ρ ms = some u ∧ Holds ρ ms H w.heap.size w' ∧ Below w.heap.size w w') :
    Calls P g args w fun e w' => e = .returned (.bool true) ∧ Below w.heap.size w w' :=
  h.mono fun e w' ⟨ms, u, q1, q2, _, q3⟩ => by
    simp only [AV.inst, TV.inst, SV.inst, Option.some.injEq] at q2
    subst q2
    exact ⟨q1, q3⟩
def conMuls : ConF := fun g xs _ => if g = 60 then (match xs with | [.tv (.sc (.int .u8 (.lit n)))] => if 0 ≤ n ∧ n < 256 then some (.tv (.agg (litB (mulsL n.toNat)))) else none | _ => none) else none
theorem conMuls_ok (ρ : Env) : ConOk Try.prog ρ conMuls := by
  intro g xs H v hv ms B w args ha hH
  unfold conMuls at hv
  split at hv
  case isFalse => cases hv
  rename_i hg
  subst hg
  split at hv
  case h_2 => cases hv
  rename_i n
  split at hv
  case isFalse => cases hv
  rename_i hn
  cases hv
  obtain ⟨m, rfl⟩ := Int.eq_ofNat_of_zero_le hn.1
  have e : args = #[.int .u8 (m : Int)] := by
    obtain ⟨l⟩ := args
    have hl : l.length = 1 := by have := congrArg List.length ha; simpa using this.symm
    match l, hl, ha with
    | [u], _, ha =>
      simp only [List.map_cons, List.map_nil, List.cons.injEq, and_true, AV.inst, TV.inst, SV.inst, Ex.den, Option.some.injEq] at ha
      rw [ha]
  subst e
  refine (multiples_any w m (by omega)).mono fun e w' ⟨q1, q2⟩ => ⟨_, q1, ?_, q2⟩
  simp only [AV.inst, litB_inst]
  rfl
def conGf : ConF := conOr conPowers (conOr conExps conMuls)
theorem conGf_ok (ρ : Env) : ConOk Try.prog ρ conGf := conOr_ok (conPowers_ok ρ) (conOr_ok (conExps_ok ρ) (conMuls_ok ρ))
theorem map_fst {v : AV} {r : Option (AV × List Blk)} (h : r.map (·.1) = some v) : ∃ H, r = some (v, H) := by
  cases r with
  | none => simp at h
  | some p => obtain ⟨a, H⟩ := p; simp at h; subst h; exact ⟨H, rfl⟩
end Go.Proofs.Ytmlhfjflkcenkaa
namespace Go.Proofs.Ytmlhfjflkcenkaa.Ev
open Go Go.RowKit
theorem cells_of_cell {w : World} {b j : Nat} {v : Value} (h : (w.cell? ⟨b, j, none⟩) = some v) {o : Obj} (ho : w.heap[b]? = some o) : o.isCells = true := by
  unfold World.cell? at h
  rw [ho] at h
  cases o <;> simp_all [Obj.isCells]
theorem Holds.put {ρ : Env} {ms : List Nat} {H : List Blk} {B : Nat} {w : World} (h : Holds ρ ms H B w) {l : Nat} {o : Obj} (ho : w.heap[l]? = some o) (hc : o.isCells = false) (o' : Obj) : Holds ρ ms H B (w.putObj l o') where
  len := h.len
  gl := h.gl
  inj := h.inj
  low := h.low
  bnd := fun i b k hi hk hne => by simpa using h.bnd i b k hi hk hne
  big := by simpa using h.big
  plain := h.plain
  cell := fun i b k hi hk j s hs => by
    obtain ⟨v, h1, h2, h3⟩ := h.cell i b k hi hk j s hs
    have hbl : b ≠ l := fun e => by
      subst e
      have := cells_of_cell h2 ho
      rw [this] at hc; cases hc
    refine ⟨v, h1, ?_, fun hr => ?_⟩
    · rw [← h2]; unfold World.cell?; rw [World.putObj_heap_other hbl]
    · rw [← h3 hr]; unfold World.frozen?; rw [World.putObj_heap_other hbl]
  room := fun i b c k0 k hi hc' hk0 hr0 hn0 hk hcap j hj => by
    obtain ⟨e1, e2⟩ := h.room i b c k0 k hi hc' hk0 hr0 hn0 hk hcap j hj
    have hbl : b ≠ l := fun e => by
      subst e
      cases hx : w.cell? ⟨b, j, none⟩ with
      | none => rw [hx] at e1; simp at e1
      | some x =>
        have := cells_of_cell hx ho
        rw [this] at hc; cases hc
    refine ⟨?_, ?_⟩
    · rw [← e1]; unfold World.cell?; rw [World.putObj_heap_other hbl]
    · rw [← e2]; unfold World.frozen?; rw [World.putObj_heap_other hbl]
structure BelX (l B : Nat) (w w' : World) : Prop extends Below B w w' where
  kept : ∀ (i : Nat) (o : Obj), i ≠ l → w.heap[i]? = some o → o.isCells = false → w'.heap[i]? = some o
theorem BelX.refl (l B : Nat) (w : World) : BelX l B w w := ⟨Below.refl B w, fun _ _ _ h _ => h⟩
theorem BelX.trans {l B : Nat} {a b c : World} (h : BelX l B a b) (k : BelX l B b c) : BelX l B a c := ⟨h.toBelow.trans k.toBelow, fun i o hl hi hc => k.kept i o hl (h.kept i o hl hi hc) hc⟩
theorem Bel.x {l B : Nat} {w w' : World} (h : Bel B w w') : BelX l B w w' := ⟨h.toBelow, fun i o _ hi hc => h.kept i o hi hc⟩
theorem BelX.put {l B : Nat} (hl : B ≤ l) (w : World) (o : Obj) : BelX l B w (w.putObj l o) :=
  ⟨⟨rfl, rfl, rfl, by simp, fun k hk => World.putObj_heap_other (by omega)⟩, fun i o' hi h _ => (World.putObj_heap_other hi).trans h⟩
def Out.code : Out → Code
  | .normal => .skip
  | .exit i => .exit i
  | .ret => .ret
def pendOf : Out → Option Out
  | .normal => none
  | o => some o
def isN : Out → Bool
  | .normal => true
  | _ => false
def RecP (mkL : LoopState → Option Code → Loop) (l : Nat) (p : Option Out) (w : World) : Prop := w.heap[l]? = some (.loop (match p with | none => mkL .ready none | some o => mkL .done (some o.code)))
theorem RecP.bel {mkL : LoopState → Option Code → Loop} {l : Nat} {p : Option Out} {B : Nat} {w w' : World} (h : RecP mkL l p w) (hb : Bel B w w') : RecP mkL l p w' := hb.kept l _ h rfl
abbrev YF := List AV → List Blk → Option (Out × List Blk)
def yv (l : Nat) : Value := .func (.yield l) #[] #[]
def YOk (P : Program) (ρ : Env) (m0 : List Nat) (l B : Nat) (mkL : LoopState → Option Code → Loop) (yh : YF) : Prop :=
  ∀ aas H o H', yh aas H = some (o, H') → ∀ (n : Nat) (ms : List Nat) (w : World) (args : Array Value), m0 <+: ms → aas.map (AV.inst ρ ms) = args.toList.map some → Holds ρ ms H B w → RecP mkL l none w → ∀ (R : Ending → World → Prop),
    (∀ ms' w', ms <+: ms' → Holds ρ ms' H' B w' → RecP mkL l (pendOf o) w' → BelX l B w w' → R (.returned (.bool (isN o))) w') → YieldAt Fence.wide n P l args w R
def setL : List (Nat × AV) → Tm → Tm
  | [], t => t
  | p :: r, t => setL r (t.set p.1 p.2)
theorem relT_zip {ρ : Env} {ms : List Nat} : ∀ (ps : List Nat) (aas : List AV) (args : List Value) (t : Tm) (tmps : Array Value), aas.map (AV.inst ρ ms) = args.map some → RelT ρ ms t tmps →
    RelT ρ ms (setL (ps.zip aas) t) ((ps.zip args).foldl (fun (tm : Array Value) (p : Nat × Value) => tm.setIfInBounds p.1 p.2) tmps)
  | [], _, _, _, _, _, h => by simpa [setL] using h
  | p :: ps, [], [], t, tmps, _, h => by simpa [setL] using h
  | p :: ps, [], _ :: _, _, _, e, _ => by simp at e
  | p :: ps, _ :: _, [], _, _, e, _ => by simp at e
  | p :: ps, x :: aas, v :: args, t, tmps, e, h => by
    simp only [List.map_cons, List.cons.injEq] at e
    simp only [List.zip_cons_cons, setL, List.foldl_cons]
    exact relT_zip ps aas args _ _ e.2 (RelT.put (a := { tmps := tmps, defers := [] }) h p e.1)
def yhOf (self : CodeF) (ps : Array Tmp) (assign body : Code) (t0 : Tm) : YF := fun aas H =>
  match Nat.beq aas.length ps.size with
  | true =>
    match self assign (setL (ps.toList.zip aas) t0) H with
    | some (.normal, t2, H2) =>
      match self body t2 H2 with
      | some (o, _, H3) => some (o, H3)
      | none => none
    | _ => none
  | false => none
theorem yh_ok {P : Program} {ρ : Env} {self : CodeF} (hs : CodeOkG P ρ self) {fnn : FuncId} {tmps0 : Array Value} {ps : Array Tmp} {assign body : Code} {dd l B : Nat} (ha : calm assign = true) (hb : calm body = true) {m0 : List Nat} {t0 : Tm} (hT0 : RelT ρ m0 t0 tmps0) (hBl : B ≤ l) :
    YOk P ρ m0 l B (fun st pe => { state := st, pending := pe, fn := fnn, tmps := tmps0, params := ps, assign, body, defers := dd }) (yhOf self ps assign body t0) := by
  intro aas H o H' h n ms w args hms hargs hH hR R hK
  unfold yhOf at h
  split at h
  case h_2 => cases h
  rename_i hlen
  split at h
  case h_2 => cases h
  rename_i t2 H2 h1
  split at h
  case h_2 => cases h
  rename_i o' t3 H3 h2
  simp only [Option.some.injEq, Prod.mk.injEq] at h
  obtain ⟨rfl, rfl⟩ := h
  have hsz : args.size = ps.size := by
    have e1 := congrArg List.length hargs
    have e2 := Nat.eq_of_beq_eq_true hlen
    simp at e1
    omega
  unfold RecP at hR
  simp only at hR
  refine ⟨fnn, _, assign, body, run_yield (P := P) hR hsz, roundIn_of_wpIn (F := Fence.wide) trivial ?_⟩
  have hRel : RelT ρ ms (setL (ps.toList.zip aas) t0) ((ps.zip args).foldl (fun (tm : Array Value) (p : Nat × Value) => tm.setIfInBounds p.1 p.2) tmps0) := by
    have := relT_zip ps.toList aas args.toList t0 tmps0 hargs (hT0.mono hms)
    rw [← Array.foldl_toList, Array.toList_zip]
    exact this
  refine hs assign _ H .normal t2 H2 h1 (some l) (.inr ha) n ms B _ w _ hRel hH fun ms1 a1 w1 q1 q2 q3 q4 q5 => ?_
  have hR1 := q5.kept l _ hR rfl
  refine ⟨_, run_beginRound hR1 rfl, ?_⟩
  have hR2 := World.putObj_heap_same (o := Obj.loop { state := .busy, pending := none, fn := fnn, tmps := tmps0, params := ps, assign := assign, body := body, defers := dd }) (Array.getElem?_eq_some_iff.1 hR1).1
  refine hs body t2 H2 o' t3 H3 h2 (some l) (.inr hb) n ms1 B a1 _ _ q2 (q4.put hR1 rfl _) fun ms3 a3 w3 r1 r2 r3 r4 r5 => ?_
  have hR3 := r5.kept l _ hR2 rfl
  have hlt := (Array.getElem?_eq_some_iff.1 hR3).1
  have hB : ∀ o4, BelX l B w (w3.putObj l o4) := fun o4 => ((q5.x.trans (BelX.put hBl _ _)).trans r5.x).trans (BelX.put hBl _ _)
  cases o' with
  | normal => exact ⟨_, _, run_endRound (P := P) none hR3, hK ms3 _ (q1.trans r1) (r4.put hR3 rfl _) (World.putObj_heap_same hlt) (hB _)⟩
  | exit i => exact ⟨_, _, run_endRound (P := P) (some (.exit i)) hR3, hK ms3 _ (q1.trans r1) (r4.put hR3 rfl _) (World.putObj_heap_same hlt) (hB _)⟩
  | ret => exact ⟨_, _, run_endRound (P := P) (some .ret) hR3, hK ms3 _ (q1.trans r1) (r4.put hR3 rfl _) (World.putObj_heap_same hlt) (hB _)⟩
def yCall (Y : List Nat) (o : Oper) : Option (List Operand) :=
  match o.guard with
  | none =>
    match o.op with
    | .call c =>
      match c.callee with
      | .value (.tmp y) => if Y.contains y then some c.args.toList else none
      | _ => none
    | _ => none
  | some _ => none
def yMove (Y : List Nat) (t : Tm) (o : Oper) : Option Nat :=
  match o.guard with
  | none =>
    match o.op with
    | .move (.tmp y) =>
      match o.dst with
      | some d => if Y.contains y && (t.get d).isNone && Nat.blt d t.n then some d else none
      | none => none
    | _ => none
  | some _ => none
noncomputable def evIOps (yh : YF) (call : CallF) (P : Program) (L : Lore) (ops : Array Oper) : List Oper → List Nat → Tm → Option Out → List Blk → Option (Tm × Option Out × List Blk)
  | [], _, t, p, H => some (t, p, H)
  | o :: r, Y, t, p, H =>
    match yCall Y o with
    | some xs =>
      match p with
      | none =>
        match seqO (xs.map (evGet t)) with
        | some aas =>
          match dstFree Y o with
          | true =>
            match yh aas H with
            | some (out, H') => evIOps yh call P L ops r Y (putA t o.dst (.tv (.sc (.bool (isN out))))) (pendOf out) H'
            | none => none
          | false => none
        | none => none
      | some _ => none
    | none =>
      match yMove Y t o with
      | some d => evIOps yh call P L ops r (d :: Y) t p H
      | none =>
        match calmO o && dstFree Y o with
        | true =>
          match opsF call P L ops [o] t H with
          | some (t', H') => evIOps yh call P L ops r Y t' p H'
          | none => none
        | false => none
theorem wanted_none {o : Oper} (h : o.guard = none) (ops : Array Oper) (tm : Array Value) : Region.wanted o (yielded ops tm) = true := by
  unfold Region.wanted
  rw [h]
theorem evIOps_ok {P : Program} {ρ : Env} {L : Lore} (hL : LoreOk ρ L) {call : CallF} (hc : CallOk P ρ call) {m0 : List Nat} {l B : Nat} {mkL : LoopState → Option Code → Loop} {yh : YF} (hy : YOk P ρ m0 l B mkL yh) {ops : Array Oper} {n : Nat} {Q : Exit → Act → World → Prop} :
    ∀ (lst : List Oper) (Y : List Nat) (t : Tm) (p : Option Out) (H : List Blk) (t' : Tm) (p' : Option Out) (H' : List Blk), evIOps yh call P L ops lst Y t p H = some (t', p', H') →
    ∀ (ms : List Nat) (a : Act) (w : World), m0 <+: ms → RelT ρ ms t a.tmps → Ys Y (yv l) a.tmps → 0 ∈ Y → Holds ρ ms H B w → RecP mkL l p w →
    (∀ ms' a' w', ms <+: ms' → RelT ρ ms' t' a'.tmps → a'.tmps[0]? = some (yv l) → a'.defers = a.defers → Holds ρ ms' H' B w' → RecP mkL l p' w' → BelX l B w w' → Q .normal a' w') → wpListIn Fence.wide n P ops Q lst a w
  | [], Y, t, p, H, t', p', H', h, ms, a, w, hms, hT, hY, h0, hH, hR, hQ => by
    simp only [evIOps, Option.some.injEq, Prod.mk.injEq] at h
    obtain ⟨rfl, rfl, rfl⟩ := h
    exact hQ ms a w (List.prefix_refl _) hT (hY 0 h0) rfl hH hR (BelX.refl _ _ _)
  | o :: r, Y, t, p, H, t', p', H', h, ms, a, w, hms, hT, hY, h0, hH, hR, hQ => by
    simp only [evIOps] at h
    unfold wpListIn
    split at h
    · -- the yield
      rename_i xs hx
      unfold yCall at hx
      split at hx
      case h_2 => cases hx
      rename_i hg
      split at hx
      case h_2 => cases hx
      rename_i c hop
      split at hx
      case h_2 => cases hx
      rename_i y hcal
      split at hx
      case isFalse => cases hx
      rename_i hyY
      simp only [Option.some.injEq] at hx
      subst hx
      split at h
      case h_2 => cases h
      split at h
      case h_2 => cases h
      rename_i aas has
      split at h
      case h_2 => cases h
      rename_i hdf
      split at h
      case h_2 => cases h
      rename_i out H1 hyh
      rw [wanted_none hg, if_pos rfl]
      have hyv : a.eval (.tmp y) = yv l := by
        have := hY y (by simpa using hyY)
        simp [Act.eval, Array.getD_eq_getD_getElem?, this]
      have hargs : aas.map (AV.inst ρ ms) = (c.args.map a.eval).toList.map some := by
        rw [seqO_iff] at has
        have key : ∀ (xs : List Operand) (aas : List AV), xs.map (evGet t) = aas.map some → aas.map (AV.inst ρ ms) = (xs.map a.eval).map some := by
          intro xs
          induction xs with
          | nil => intro aas h; cases aas <;> simp at h ⊢
          | cons x xs ih =>
            intro aas h
            cases aas with
            | nil => simp at h
            | cons p aas =>
              simp only [List.map_cons, List.cons.injEq] at h ⊢
              exact ⟨evGet_ok hT h.1, ih aas h.2⟩
        have := key _ _ has
        rw [this]; simp
      obtain ⟨fnn, tm, as1, bd, hrun, hround⟩ := hy aas H out H1 hyh (n - 1) ms w (c.args.map a.eval) hms hargs hH hR (fun e w'' => match e with
        | .returned v => wpListIn Fence.wide n P ops Q r (a.put o.dst v) w''
        | .panicked chain => Q (.panic chain) a w''
        | .outgrown => LetsOut Q) (by
          intro ms1 w1 q1 q2 q3 q4
          have hT1 := (hT.mono q1).putA o.dst (x := .tv (.sc (.bool (isN out)))) (v := .bool (isN out)) rfl
          refine evIOps_ok hL hc hy r Y _ _ H1 t' p' H' h ms1 _ w1 (hms.trans q1) hT1 (hY.put hdf _) h0 q2 q3 fun ms2 a2 w2 r1 r2 r3 r4 r5 r6 r7 => ?_
          exact hQ ms2 a2 w2 (q1.trans r1) r2 r3 (r4.trans (put_defers _ _ _)) r5 r6 (q4.trans r7))
      refine ⟨fun f _ => trivial, ?_⟩
      rw [Oper.semAt_eq _ _ _ (fun c' e => by rw [hop] at e; cases e)]
      have hex : (execOp a.eval o).run P w = .ok (.round l fnn tm as1 bd) w := by
        simp only [execOp, hop, resolve, hcal, hyv, yv, Deferred.ofValue, Sem.run_bind, Sem.run_pure, Result.andThen_ok, invoke]
        simpa using hrun
      rw [hex]
      exact ⟨(fun e => by cases e), hround.mono fun e w1 he => by cases e <;> exact he⟩
    · split at h
      · -- the yield moved
        rename_i d hx
        unfold yMove at hx
        split at hx
        case h_2 => cases hx
        rename_i hg
        split at hx
        case h_2 => cases hx
        rename_i y hop
        split at hx
        case h_2 => cases hx
        rename_i d' hdst
        split at hx
        case isFalse => cases hx
        rename_i hcond
        simp only [Option.some.injEq] at hx
        subst hx
        simp only [Bool.and_eq_true] at hcond
        obtain ⟨⟨hyY, hnone⟩, hlt⟩ := hcond
        rw [wanted_none hg, if_pos rfl]
        have hyv : a.eval (.tmp y) = yv l := by
          have := hY y (by simpa using hyY)
          simp [Act.eval, Array.getD_eq_getD_getElem?, this]
        refine ⟨fun f _ => trivial, ?_⟩
        rw [Oper.semAt_eq _ _ _ (fun c' e => by rw [hop] at e; cases e)]
        have hex : (execOp a.eval o).run P w = .ok (.value (yv l)) w := by
          simp only [execOp, hop, hyv, Sem.run_pure]
        rw [hex]
        show wpListIn Fence.wide n P ops Q r (a.put o.dst (yv l)) w
        rw [hdst]
        have hdlt : d' < a.tmps.size := by rw [← hT.sz]; exact Nat.le_of_ble_eq_true hlt
        refine evIOps_ok hL hc hy r (d' :: Y) t p H t' p' H' h ms _ w hms ⟨?_, hT.le, fun i x hi => ?_, hT.gl⟩ ?_ (List.mem_cons_of_mem _ h0) hH hR fun ms2 a2 w2 r1 r2 r3 r4 r5 r6 r7 => hQ ms2 a2 w2 r1 r2 r3 r4 r5 r6 r7
        · simp [Act.put, hT.sz]
        · obtain ⟨v, h1, h2⟩ := hT.val i x hi
          refine ⟨v, ?_, h2⟩
          simp only [Act.put]
          rw [Array.getElem?_setIfInBounds, if_neg (fun e => by subst e; rw [hi] at hnone; cases hnone)]
          exact h1
        · intro z hz
          simp only [Act.put]
          rw [Array.getElem?_setIfInBounds]
          rcases List.mem_cons.1 hz with rfl | hz
          · rw [if_pos rfl, if_pos hdlt]
          · by_cases e : d' = z
            · rw [if_pos e, if_pos hdlt]
            · rw [if_neg e]; exact hY z hz
      · split at h
        case h_2 => cases h
        rename_i hcd
        rw [Bool.and_eq_true] at hcd
        split at h
        case h_2 => cases h
        rename_i t1 H1 h1
        rw [opsF_eq] at h1
        have key : wpList P ops (fun e a' w' => e = .normal ∧ ∃ ms', ms <+: ms' ∧ RelT ρ ms' t1 a'.tmps ∧ a'.defers = a.defers ∧ Holds ρ ms' H1 B w' ∧ Bel B w w') [o] a w :=
          evOps_ok hL hc [o] ms t H a w t1 H1 hT hH h1 fun ms' a' w' q1 q2 q3 q4 q5 => ⟨rfl, ms', q1, q2, q3, q4, q5⟩
        have go : ∀ a' w', (∃ ms', ms <+: ms' ∧ RelT ρ ms' t1 a'.tmps ∧ a'.defers = a.defers ∧ Holds ρ ms' H1 B w' ∧ Bel B w w') → (∃ v, a'.tmps = (a.put o.dst v).tmps) → wpListIn Fence.wide n P ops Q r a' w' := by
          rintro a' w' ⟨ms', q1, q2, q3, q4, q5⟩ ⟨v, hv⟩
          refine evIOps_ok hL hc hy r Y t1 p H1 t' p' H' h ms' a' w' (hms.trans q1) q2 (by rw [hv]; exact hY.put hcd.2 v) h0 q4 (hR.bel q5) fun ms2 a2 w2 r1 r2 r3 r4 r5 r6 r7 => ?_
          exact hQ ms2 a2 w2 (q1.trans r1) r2 r3 (r4.trans q3) r5 r6 (q5.x.trans r7)
        unfold wpList at key
        split at key
        · rename_i hw
          rw [if_pos hw]
          rcases key with key | ⟨_, a0, w0, q⟩
          · exact op_in (ro := none) key hcd.1 (fun e a w q => q.1) fun a' w' hk hv => go a' w' hk.2 hv
          · cases q.1
        · rename_i hw
          rw [if_neg hw]
          exact ⟨fun _ _ => trivial, go _ _ key.2 ⟨undef, rfl⟩⟩
noncomputable def evI (yh : YF) (call : CallF) (P : Program) (L : Lore) : Nat → Code → Tm → Option Out → List Blk → Option (Out × Tm × Option Out × List Blk)
  | 0, _, _, _, _ => none
  | n + 1, c, t, p, H =>
    match c with
    | .skip => some (.normal, t, p, H)
    | .region _ ops false => (evIOps yh call P L ops ops.toList [0] t p H).map fun r => (.normal, r.1, r.2.1, r.2.2)
    | .region _ ops true =>
      match ops.all fun o => calmO o && dstFree [0] o with
      | true => (evPlanF call P L ops t H).map fun r => (.normal, r.1, p, r.2)
      | false => none
    | .seq x y =>
      match evI yh call P L n x t p H with
      | some (.normal, t', p', H') => evI yh call P L n y t' p' H'
      | r => r
    | .cond c x y =>
      match evGet t c with
      | some (.tv (.sc (.bool true))) => evI yh call P L n x t p H
      | some (.tv (.sc (.bool false))) => evI yh call P L n y t p H
      | _ => none
    | .block id c =>
      match evI yh call P L n c t p H with
      | some (.exit i, t', p', H') => if i = id then some (.normal, t', p', H') else some (.exit i, t', p', H')
      | r => r
    | .loop c =>
      match evI yh call P L n c t p H with
      | some (.normal, t', p', H') => evI yh call P L n (.loop c) t' p' H'
      | r => r
    | .exit id => some (.exit id, t, p, H)
    | .ret => some (.ret, t, p, H)
    | .label _ => some (.normal, t, p, H)
    | _ => none
theorem evI_ok {P : Program} {ρ : Env} {L : Lore} (hL : LoreOk ρ L) (hm : P.follows .mixedOrders = true) {call : CallF} (hc : CallOk P ρ call) {m0 : List Nat} {l B : Nat} {mkL : LoopState → Option Code → Loop} {yh : YF} (hy : YOk P ρ m0 l B mkL yh) (nn : Nat) :
    ∀ (n : Nat) (c : Code) (t : Tm) (p : Option Out) (H : List Blk) (o : Out) (t' : Tm) (p' : Option Out) (H' : List Blk), evI yh call P L n c t p H = some (o, t', p', H') →
    ∀ (ms : List Nat) (a : Act) (w : World) (Q : Exit → Act → World → Prop), m0 <+: ms → RelT ρ ms t a.tmps → a.tmps[0]? = some (yv l) → Holds ρ ms H B w → RecP mkL l p w →
    (∀ ms' a' w', ms <+: ms' → RelT ρ ms' t' a'.tmps → a'.tmps[0]? = some (yv l) → a'.defers = a.defers → Holds ρ ms' H' B w' → RecP mkL l p' w' → BelX l B w w' → Q o.to a' w') → c.wpIn Fence.wide nn P Q a w := by
  intro n
  induction n using Nat.strongRecOn with
  | _ n ih =>
    cases n with
    | zero => intro c t p H o t' p' H' h; simp [evI] at h
    | succ n =>
      have ihn := ih n (by omega)
      intro c t p H o t' p' H' h ms a w Q hms hT h0 hH hR hQ
      have hstart := h
      unfold evI at h
      split at h
      · simp only [Option.some.injEq, Prod.mk.injEq] at h
        obtain ⟨rfl, rfl, rfl, rfl⟩ := h
        exact wpIn_skip (hQ ms a w (List.prefix_refl _) hT h0 rfl hH hR (BelX.refl _ _ _))
      · rw [Option.map_eq_some_iff] at h
        obtain ⟨r, h1, h2⟩ := h
        simp only [Prod.mk.injEq] at h2
        obtain ⟨rfl, rfl, rfl, rfl⟩ := h2
        exact wpIn_region_list (evIOps_ok hL hc hy _ [0] t p H r.1 r.2.1 r.2.2 h1 ms a w hms hT (fun y hy => by simp at hy; subst hy; exact h0) (by simp) hH hR hQ)
      · rename_i id ops
        split at h
        case h_2 => cases h
        rename_i hcm
        rw [Option.map_eq_some_iff] at h
        obtain ⟨r, h1, h2⟩ := h
        simp only [Prod.mk.injEq] at h2
        obtain ⟨rfl, rfl, rfl, rfl⟩ := h2
        rw [evPlanF_eq] at h1
        have key := evPlan_any (Q := fun e a' w' => ∃ ms', ms <+: ms' ∧ RelT ρ ms' r.1 a'.tmps ∧ a'.defers = a.defers ∧ Holds ρ ms' r.2 B w' ∧ Bel B w w') hL hc hT hH h1 fun ms' a' w' q1 q2 q3 q4 q5 => ⟨ms', q1, q2, q3, q4, q5⟩
        refine wpIn_mono (wpIn_region_any hm (any_in (ro := none) (Y := [0]) (yv := yv l) (fun e a w q => q.1) hcm _ _ a _ key (fun y hy => by simp at hy; subst hy; exact h0))) fun e a1 w1 q => ?_
        obtain ⟨⟨rfl, ms', q1, q2, q3, q4, q5⟩, q6⟩ := q
        exact hQ ms' a1 w1 q1 q2 (q6 0 (by simp)) q3 q4 (hR.bel q5) q5.x
      · rename_i x y
        split at h
        · rename_i t1 p1 H1 h1
          refine wpIn_seq (ihn x t p H .normal t1 p1 H1 h1 ms a w _ hms hT h0 hH hR fun ms1 a1 w1 q1 q2 q3 q4 q5 q6 q7 => ?_)
          exact ihn y t1 p1 H1 o t' p' H' h ms1 a1 w1 Q (hms.trans q1) q2 q3 q5 q6 fun ms2 a2 w2 r1 r2 r3 r4 r5 r6 r7 => hQ ms2 a2 w2 (q1.trans r1) r2 r3 (r4.trans q4) r5 r6 (q7.trans r7)
        · rename_i hne
          have hno : o ≠ .normal := fun e => by subst e; exact hne t' p' H' h
          refine wpIn_seq (ihn x t p H o t' p' H' h ms a w _ hms hT h0 hH hR fun ms1 a1 w1 q1 q2 q3 q4 q5 q6 q7 => ?_)
          have := hQ ms1 a1 w1 q1 q2 q3 q4 q5 q6 q7
          cases o with
          | normal => exact absurd rfl hno
          | exit i => exact this
          | ret => exact this
      · rename_i cc x y
        split at h
        · rename_i hcc
          have e := evGet_ok hT hcc
          simp only [AV.inst, TV.inst, SV.inst, Option.some.injEq] at e
          exact wpIn_cond_true e.symm (ihn x t p H o t' p' H' h ms a w Q hms hT h0 hH hR hQ)
        · rename_i hcc
          have e := evGet_ok hT hcc
          simp only [AV.inst, TV.inst, SV.inst, Option.some.injEq] at e
          exact wpIn_cond_false e.symm (ihn y t p H o t' p' H' h ms a w Q hms hT h0 hH hR hQ)
        · cases h
      · rename_i id x
        split at h
        · rename_i i t1 p1 H1 h1
          refine wpIn_block (ihn x t p H (.exit i) t1 p1 H1 h1 ms a w _ hms hT h0 hH hR fun ms1 a1 w1 q1 q2 q3 q4 q5 q6 q7 => ?_)
          simp only [Out.to, Exit.inBlock]
          split at h
          · rename_i e
            rw [if_pos e]
            simp only [Option.some.injEq, Prod.mk.injEq] at h
            obtain ⟨rfl, rfl, rfl, rfl⟩ := h
            exact hQ ms1 a1 w1 q1 q2 q3 q4 q5 q6 q7
          · rename_i e
            rw [if_neg e]
            simp only [Option.some.injEq, Prod.mk.injEq] at h
            obtain ⟨rfl, rfl, rfl, rfl⟩ := h
            exact hQ ms1 a1 w1 q1 q2 q3 q4 q5 q6 q7
        · rename_i hne
          refine wpIn_block (ihn x t p H o t' p' H' h ms a w _ hms hT h0 hH hR fun ms1 a1 w1 q1 q2 q3 q4 q5 q6 q7 => ?_)
          have := hQ ms1 a1 w1 q1 q2 q3 q4 q5 q6 q7
          cases o with
          | normal => exact this
          | exit i => exact absurd h (hne i t' p' H')
          | ret => exact this
      · rename_i x
        let R : Nat → Act → World → Prop := fun k a1 w1 => k ≤ n + 1 ∧ ∃ ms1 t1 p1 H1, evI yh call P L k (.loop x) t1 p1 H1 = some (o, t', p', H') ∧ ms <+: ms1 ∧ RelT ρ ms1 t1 a1.tmps ∧ a1.tmps[0]? = some (yv l) ∧ a1.defers = a.defers ∧ Holds ρ ms1 H1 B w1 ∧ RecP mkL l p1 w1 ∧ BelX l B w w1
        classical
        refine wpIn_loop (fun a1 w1 => ∃ k, R k a1 w1) (fun a1 w1 => if hx : ∃ k, R k a1 w1 then Classical.choose (has_least hx) else 0) ⟨n + 1, Nat.le_refl _, ms, t, p, H, hstart, List.prefix_refl _, hT, h0, rfl, hH, hR, BelX.refl _ _ _⟩ ?_
        intro a1 w1 hI
        have hmin := (Classical.choose_spec (has_least hI)).1
        have hall := (Classical.choose_spec (has_least hI)).2
        generalize hk : Classical.choose (has_least hI) = k at hmin hall
        obtain ⟨hle, ms1, t1, p1, H1, hev, s1, s2, s3, s4, s5, s6, s7⟩ := hmin
        cases k with
        | zero => simp [evI] at hev
        | succ k =>
          have ihk := ih k (by omega)
          simp only [evI] at hev
          split at hev
          · rename_i t2 p2 H2 h2
            refine ihk x t1 p1 H1 .normal t2 p2 H2 h2 ms1 a1 w1 _ (hms.trans s1) s2 s3 s5 s6 fun ms2 a2 w2 q1 q2 q3 q4 q5 q6 q7 => ?_
            have hRk : R k a2 w2 := ⟨by omega, ms2, t2, p2, H2, hev, s1.trans q1, q2, q3, q4.trans s4, q5, q6, s7.trans q7⟩
            have hE : ∃ j, R j a2 w2 := ⟨k, hRk⟩
            refine ⟨hE, ?_⟩
            rw [dif_pos hE, dif_pos hI, hk]
            exact Nat.lt_succ_of_le ((Classical.choose_spec (has_least hE)).2 k hRk)
          · rename_i hne
            refine ihk x t1 p1 H1 o t' p' H' hev ms1 a1 w1 _ (hms.trans s1) s2 s3 s5 s6 fun ms2 a2 w2 q1 q2 q3 q4 q5 q6 q7 => ?_
            have := hQ ms2 a2 w2 (s1.trans q1) q2 q3 (q4.trans s4) q5 q6 (s7.trans q7)
            cases o with
            | normal => exact absurd hev (hne t' p' H')
            | exit i => exact this
            | ret => exact this
      · simp only [Option.some.injEq, Prod.mk.injEq] at h
        obtain ⟨rfl, rfl, rfl, rfl⟩ := h
        exact wpIn_exit (hQ ms a w (List.prefix_refl _) hT h0 rfl hH hR (BelX.refl _ _ _))
      · simp only [Option.some.injEq, Prod.mk.injEq] at h
        obtain ⟨rfl, rfl, rfl, rfl⟩ := h
        exact wpIn_ret (hQ ms a w (List.prefix_refl _) hT h0 rfl hH hR (BelX.refl _ _ _))
      · simp only [Option.some.injEq, Prod.mk.injEq] at h
        obtain ⟨rfl, rfl, rfl, rfl⟩ := h
        exact wpIn_label (hQ ms a w (List.prefix_refl _) hT h0 rfl hH hR (BelX.refl _ _ _))
      · cases h
end Go.Proofs.Ytmlhfjflkcenkaa.Ev
