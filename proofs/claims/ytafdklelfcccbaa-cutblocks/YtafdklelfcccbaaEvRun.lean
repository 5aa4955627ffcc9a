/- The evaluator: code and calls; what it answers the model answers. -/
import Derived.Test.YtafdklelfcccbaaEvPlan
import Derived.Scope
namespace Go.Proofs.Ytafdklelfcccbaa.Ev
open Go Go.RowKit

inductive Out where
  | normal
  | exit (id : Nat)
  | ret
  deriving DecidableEq, Repr, Inhabited
def Out.to : Out → Exit
  | .normal => .normal
  | .exit i => .exit i
  | .ret => .ret
abbrev CodeF := Code → Tm → List Blk → Option (Out × Tm × List Blk)
/-- Contracts: a function's answer where it leaves all blocks as they are. -/
abbrev ConF := Nat → List AV → List Blk → Option AV

def callStep (P : Program) (con : ConF) (self : CodeF) : CallF := fun g as H =>
  match con g as H with
  | some v => some (v, H)
  | none =>
    match P.funcs[g]? with
    | some fn =>
      match fn.body with
      | some c =>
        match Nat.ble fn.ntmps 512 && Nat.ble as.length fn.ntmps with
        | true =>
          match self c (Tm.make fn.ntmps as) H with
          | some (.normal, t, H') => (evResults P fn t H').map fun v => (v, trim H.length v H')
          | some (.ret, t, H') => (evResults P fn t H').map fun v => (v, trim H.length v H')
          | _ => none
        | false => none
      | none => none
    | none => none
def codeStep (P : Program) (L : Lore) (call : CallF) (self : CodeF) : CodeF := fun c t H =>
  match c with
  | .skip => some (.normal, t, H)
  | .region _ ops false => (evOps call P L ops ops.toList t H).map fun r => (.normal, r.1, r.2)
  | .region _ ops true => (evPlan call P L ops t H).map fun r => (.normal, r.1, r.2)
  | .seq a b =>
    match self a t H with
    | some (.normal, t', H') => self b t' H'
    | r => r
  | .cond c x y =>
    match evGet t c with
    | some (.tv (.sc (.bool true))) => self x t H
    | some (.tv (.sc (.bool false))) => self y t H
    | _ => none
  | .block id c =>
    match self c t H with
    | some (.exit i, t', H') => if i = id then some (.normal, t', H') else some (.exit i, t', H')
    | r => r
  | .loop c =>
    match self c t H with
    | some (.normal, t', H') => self (.loop c) t' H'
    | r => r
  | .exit id => some (.exit id, t, H)
  | .ret => some (.ret, t, H)
  | .label _ => some (.normal, t, H)
  | .scope c => self c t H
  | _ => none
/-- The evaluator, whatever calls are made of code. -/
def evG (P : Program) (L : Lore) (mk : CodeF → CallF) : Nat → CodeF
  | 0 => fun _ _ _ => none
  | n + 1 => codeStep P L (mk (evG P L mk n)) (evG P L mk n)
def evC (P : Program) (L : Lore) (con : ConF) : Nat → CodeF := evG P L (callStep P con)
def evCall (P : Program) (L : Lore) (con : ConF) (n : Nat) : CallF := callStep P con (evC P L con n)

def ConOk (P : Program) (ρ : Env) (con : ConF) : Prop :=
  ∀ g as H v, con g as H = some v → ∀ (ms : List Nat) (B : Nat) (w : World) (args : Array Value), as.map (AV.inst ρ ms) = args.toList.map some → Holds ρ ms H B w →
    Calls P g args w fun e w' => ∃ u, e = .returned u ∧ v.inst ρ ms = some u ∧ Below w.heap.size w w'
def CodeOk (P : Program) (ρ : Env) (self : CodeF) : Prop :=
  ∀ c t H o t' H', self c t H = some (o, t', H') → ∀ (ms : List Nat) (B : Nat) (a : Act) (w : World) (Q : Exit → Act → World → Prop), RelT ρ ms t a.tmps → Holds ρ ms H B w →
    (∀ ms' a' w', ms <+: ms' → RelT ρ ms' t' a'.tmps → a'.defers = a.defers → Holds ρ ms' H' B w' → Bel B w w' → Q o.to a' w') → c.wp P Q a w

theorem Holds.below {ρ : Env} {ms : List Nat} {H : List Blk} {B : Nat} {w w' : World} (h : Holds ρ ms H B w) (hb : Below w.heap.size w w') : Holds ρ ms H B w' where
  len := h.len
  gl := h.gl
  inj := h.inj
  low := h.low
  bnd := fun i b k hi hk hne => Nat.lt_of_lt_of_le (h.bnd i b k hi hk hne) hb.size
  big := Nat.le_trans h.big hb.size
  plain := h.plain
  cell := fun i b k hi hk j s hs => by
    obtain ⟨v, h1, h2, h3⟩ := h.cell i b k hi hk j s hs
    have := hb.block b (h.bnd i b k hi hk (mem_nil_of_get hs))
    refine ⟨v, h1, ?_, fun hr => ?_⟩
    · rw [← h2]; unfold World.cell?; rw [this]
    · rw [← h3 hr]; unfold World.frozen?; rw [this]
  room := fun i b c k0 k hi hc hk0 hr0 hn0 hk hcap j hj => by
    obtain ⟨e1, e2⟩ := h.room i b c k0 k hi hc hk0 hr0 hn0 hk hcap j hj
    have hlt : b < w.heap.size := by
      cases hx : w.cell? ⟨b, j, none⟩ with
      | none => rw [hx] at e1; simp at e1
      | some x => exact World.block_lt_of_cell? w _ hx
    have := hb.block b hlt
    refine ⟨?_, ?_⟩
    · rw [← e1]; unfold World.cell?; rw [this]
    · rw [← e2]; unfold World.frozen?; rw [this]

theorem callStep_ok {P : Program} {ρ : Env} {con : ConF} {self : CodeF} (hcon : ConOk P ρ con) (hs : CodeOk P ρ self) : CallOk P ρ (callStep P con self) := by
  intro g as H v H' h ms B w args hargs hH
  unfold callStep at h
  split at h
  · rename_i v' hc
    simp only [Option.some.injEq, Prod.mk.injEq] at h
    obtain ⟨rfl, rfl⟩ := h
    refine (hcon g as H v' hc ms B w args hargs hH).mono ?_
    rintro e w' ⟨u, rfl, h1, h2⟩
    exact ⟨ms, u, rfl, List.prefix_refl _, h1, hH.below h2, (Bel.all h2).mono hH.big⟩
  · split at h
    case h_2 => cases h
    rename_i fn hfn
    split at h
    case h_2 => cases h
    rename_i c hb
    split at h
    case h_2 => cases h
    rename_i hbd
    rw [Bool.and_eq_true] at hbd
    have hT : RelT ρ ms (Tm.make fn.ntmps as) (args ++ Array.replicate (fn.ntmps - args.size) undef) := RelT.make hargs (Nat.le_of_ble_eq_true hbd.1) (Nat.le_of_ble_eq_true hbd.2) hH.gl
    have fin : ∀ (o : Out) t H1, (o = .normal ∨ o = .ret) → self c (Tm.make fn.ntmps as) H = some (o, t, H1) → (evResults P fn t H1).map (fun v => (v, trim H.length v H1)) = some (v, H') →
        Calls P g args w fun e w' => ∃ ms' u, e = .returned u ∧ ms <+: ms' ∧ v.inst ρ ms' = some u ∧ Holds ρ ms' H' B w' ∧ Bel B w w' := by
      intro o t H1 ho hrun hres
      rw [Option.map_eq_some_iff] at hres
      obtain ⟨v', hr, hv⟩ := hres
      simp only [Prod.mk.injEq] at hv
      obtain ⟨rfl, rfl⟩ := hv
      refine calls_of_wp hfn hb ?_
      refine hs c _ H o t H1 hrun ms B _ w _ hT hH fun ms' a' w' q1 q2 q3 q4 q5 => ?_
      obtain ⟨u, e1, e2⟩ := evResults_ok q2 q4 hr
      obtain ⟨ms2, r1, r2, r3⟩ := trim_ok q1 hH.gl hH.len e1 q4
      have : a'.defers = [] ∧ ∃ v, (results fn a'.tmps).run P w' = .ok v w' ∧ ∃ ms' u, (Ending.returned v) = .returned u ∧ ms <+: ms' ∧ v'.inst ρ ms' = some u ∧ Holds ρ ms' (trim H.length v' H1) B w' ∧ Bel B w w' :=
        ⟨q3, u, e2, ms2, u, rfl, r1, r2, r3, q5⟩
      rcases ho with rfl | rfl
      · exact this
      · exact this
    split at h
    · rename_i t H1 hr
      exact fin .normal t H1 (.inl rfl) hr h
    · rename_i t H1 hr
      exact fin .ret t H1 (.inr rfl) hr h
    · cases h

theorem has_least {p : Nat → Prop} (h : ∃ k, p k) : ∃ k, p k ∧ ∀ j, p j → k ≤ j := by
  obtain ⟨k, hk⟩ := h
  induction k using Nat.strongRecOn with
  | _ k ih =>
    by_cases hj : ∃ j, j < k ∧ p j
    · obtain ⟨j, h1, h2⟩ := hj
      exact ih j h1 h2
    · exact ⟨k, hk, fun j h => Nat.le_of_not_lt fun h1 => hj ⟨j, h1, h⟩⟩
theorem evG_ok {P : Program} {ρ : Env} {L : Lore} (hL : LoreOk ρ L) {mk : CodeF → CallF} (hmk : ∀ self, CodeOk P ρ self → CallOk P ρ (mk self)) (hm : P.follows .mixedOrders = true) : ∀ n, CodeOk P ρ (evG P L mk n) := by
  intro n
  induction n using Nat.strongRecOn with
  | _ n ih =>
    cases n with
    | zero => intro c t H o t' H' h; simp [evG] at h
    | succ n =>
      have ihn := ih n (by omega)
      have hcall : CallOk P ρ (mk (evG P L mk n)) := hmk _ ihn
      intro c t H o t' H' h ms B a w Q hT hH hQ
      rw [evG] at h
      unfold codeStep at h
      split at h
      · -- skip
        simp only [Option.some.injEq, Prod.mk.injEq] at h
        obtain ⟨rfl, rfl, rfl⟩ := h
        exact wp_skip (hQ ms a w (List.prefix_refl _) hT rfl hH (Bel.refl _ _))
      · -- a region
        rw [Option.map_eq_some_iff] at h
        obtain ⟨r, h1, h2⟩ := h
        simp only [Prod.mk.injEq] at h2
        obtain ⟨rfl, rfl, rfl⟩ := h2
        exact wp_region_list (evOps_ok hL hcall _ ms t H a w r.1 r.2 hT hH h1 fun ms' a' w' q1 q2 q3 q4 q5 => hQ ms' a' w' q1 q2 q3 q4 q5)
      · -- a region whose order is open
        rw [Option.map_eq_some_iff] at h
        obtain ⟨r, h1, h2⟩ := h
        simp only [Prod.mk.injEq] at h2
        obtain ⟨rfl, rfl, rfl⟩ := h2
        exact evPlan_ok hL hcall hm _ hT hH h1 fun ms' a' w' q1 q2 q3 q4 q5 => hQ ms' a' w' q1 q2 q3 q4 q5
      · -- one behind the other
        rename_i x y
        split at h
        · rename_i t1 H1 h1
          refine wp_seq (ihn x t H .normal t1 H1 h1 ms B a w _ hT hH fun ms1 a1 w1 q1 q2 q3 q4 q5 => ?_)
          exact ihn y t1 H1 o t' H' h ms1 B a1 w1 Q q2 q4 fun ms2 a2 w2 r1 r2 r3 r4 r5 => hQ ms2 a2 w2 (q1.trans r1) r2 (r3.trans q3) r4 (q5.trans r5)
        · rename_i hne
          have hno : o ≠ .normal := fun e => by subst e; exact hne t' H' h
          refine wp_seq (ihn x t H o t' H' h ms B a w _ hT hH fun ms1 a1 w1 q1 q2 q3 q4 q5 => ?_)
          have := hQ ms1 a1 w1 q1 q2 q3 q4 q5
          cases o with
          | normal => exact absurd rfl hno
          | exit i => exact this
          | ret => exact this
      · -- a choice
        rename_i cc x y
        split at h
        · rename_i hc
          have e := evGet_ok hT hc
          simp only [AV.inst, TV.inst, SV.inst, Option.some.injEq] at e
          exact wp_cond_true e.symm (ihn x t H o t' H' h ms B a w Q hT hH hQ)
        · rename_i hc
          have e := evGet_ok hT hc
          simp only [AV.inst, TV.inst, SV.inst, Option.some.injEq] at e
          exact wp_cond_false e.symm (ihn y t H o t' H' h ms B a w Q hT hH hQ)
        · cases h
      · -- a block
        rename_i id x
        split at h
        · rename_i i t1 H1 h1
          refine wp_block (ihn x t H (.exit i) t1 H1 h1 ms B a w _ hT hH fun ms1 a1 w1 q1 q2 q3 q4 q5 => ?_)
          simp only [Out.to, Exit.inBlock]
          split at h
          · rename_i e
            rw [if_pos e]
            simp only [Option.some.injEq, Prod.mk.injEq] at h
            obtain ⟨rfl, rfl, rfl⟩ := h
            exact hQ ms1 a1 w1 q1 q2 q3 q4 q5
          · rename_i e
            rw [if_neg e]
            simp only [Option.some.injEq, Prod.mk.injEq] at h
            obtain ⟨rfl, rfl, rfl⟩ := h
            exact hQ ms1 a1 w1 q1 q2 q3 q4 q5
        · rename_i hne
          refine wp_block (ihn x t H o t' H' h ms B a w _ hT hH fun ms1 a1 w1 q1 q2 q3 q4 q5 => ?_)
          have := hQ ms1 a1 w1 q1 q2 q3 q4 q5
          cases o with
          | normal => exact this
          | exit i => exact absurd h (hne i t' H')
          | ret => exact this
      · -- a loop
        rename_i x
        have start : evG P L mk (n + 1) (.loop x) t H = some (o, t', H') := by rw [evG]; exact h
        let R : Nat → Act → World → Prop := fun k a1 w1 => k ≤ n + 1 ∧ ∃ ms1 t1 H1, evG P L mk k (.loop x) t1 H1 = some (o, t', H') ∧ ms <+: ms1 ∧ RelT ρ ms1 t1 a1.tmps ∧ a1.defers = a.defers ∧ Holds ρ ms1 H1 B w1 ∧ Bel B w w1
        classical
        refine wp_loop (fun a1 w1 => ∃ k, R k a1 w1) (fun a1 w1 => if hx : ∃ k, R k a1 w1 then Classical.choose (has_least hx) else 0) ⟨n + 1, Nat.le_refl _, ms, t, H, start, List.prefix_refl _, hT, rfl, hH, Bel.refl _ _⟩ ?_
        intro a1 w1 hI
        have hmin := (Classical.choose_spec (has_least hI)).1
        have hall := (Classical.choose_spec (has_least hI)).2
        generalize hk : Classical.choose (has_least hI) = k at hmin hall
        obtain ⟨hle, ms1, t1, H1, hev, p1, p2, p3, p4, p5⟩ := hmin
        cases k with
        | zero => simp [evG] at hev
        | succ k =>
          have ihk := ih k (by omega)
          rw [evG] at hev
          simp only [codeStep] at hev
          split at hev
          · rename_i t2 H2 h2
            refine ihk x t1 H1 .normal t2 H2 h2 ms1 B a1 w1 _ p2 p4 fun ms2 a2 w2 q1 q2 q3 q4 q5 => ?_
            have hR : R k a2 w2 := ⟨by omega, ms2, t2, H2, hev, p1.trans q1, q2, q3.trans p3, q4, p5.trans q5⟩
            have hE : ∃ j, R j a2 w2 := ⟨k, hR⟩
            refine ⟨hE, ?_⟩
            rw [dif_pos hE, dif_pos hI, hk]
            exact Nat.lt_succ_of_le ((Classical.choose_spec (has_least hE)).2 k hR)
          · rename_i hne
            refine ihk x t1 H1 o t' H' hev ms1 B a1 w1 _ p2 p4 fun ms2 a2 w2 q1 q2 q3 q4 q5 => ?_
            have := hQ ms2 a2 w2 (p1.trans q1) q2 (q3.trans p3) q4 (p5.trans q5)
            cases o with
            | normal => exact absurd hev (hne t' H')
            | exit i => exact this
            | ret => exact this
      · simp only [Option.some.injEq, Prod.mk.injEq] at h
        obtain ⟨rfl, rfl, rfl⟩ := h
        exact wp_exit (hQ ms a w (List.prefix_refl _) hT rfl hH (Bel.refl _ _))
      · simp only [Option.some.injEq, Prod.mk.injEq] at h
        obtain ⟨rfl, rfl, rfl⟩ := h
        exact wp_ret (hQ ms a w (List.prefix_refl _) hT rfl hH (Bel.refl _ _))
      · simp only [Option.some.injEq, Prod.mk.injEq] at h
        obtain ⟨rfl, rfl, rfl⟩ := h
        exact wp_label (hQ ms a w (List.prefix_refl _) hT rfl hH (Bel.refl _ _))
      · refine wp_scope_straight (ihn _ t H o t' H' h ms B a w _ hT hH fun ms2 a2 w2 q1 q2 q3 q4 q5 => ?_)
        have := hQ ms2 a2 w2 q1 q2 q3 q4 q5
        cases o <;> exact this
      · cases h

theorem evC_ok {P : Program} {ρ : Env} {L : Lore} (hL : LoreOk ρ L) {con : ConF} (hcon : ConOk P ρ con) (hm : P.follows .mixedOrders = true) : ∀ n, CodeOk P ρ (evC P L con n) := evG_ok hL (fun _ hs => callStep_ok hcon hs) hm
theorem evCall_ok {P : Program} {ρ : Env} {L : Lore} (hL : LoreOk ρ L) {con : ConF} (hcon : ConOk P ρ con) (hm : P.follows .mixedOrders = true) (n : Nat) : CallOk P ρ (evCall P L con n) := callStep_ok hcon (evC_ok hL hcon hm n)
def noLore : Lore := ⟨fun _ _ _ => none, id, fun _ _ => none⟩
theorem noLore_ok (ρ : Env) : LoreOk ρ noLore := ⟨fun _ _ _ _ h => by simp [noLore] at h, fun _ => rfl, fun _ _ _ h => by simp [noLore] at h⟩
def noCon : ConF := fun _ _ _ => none
theorem noCon_ok (P : Program) (ρ : Env) : ConOk P ρ noCon := fun _ _ _ _ h => by simp [noCon] at h

/-- Where a call begins: of no block is anything told. -/
def ms0 : List Nat := List.range nGl
def H0 : List Blk := List.replicate nGl dead
theorem gl0 : Gl ms0 := fun g hg => by simp [ms0, hg]
theorem holds_nil (ρ : Env) (w : World) : Holds ρ ms0 H0 w.heap.size w := by
  have hd : ∀ (i : Nat) (k : Blk), H0[i]? = some k → k = dead := fun i k hk => by
    have := List.mem_of_getElem? hk
    unfold H0 at this
    exact (List.mem_replicate.1 this).2
  refine ⟨by simp [ms0, H0], gl0, ?_, ?_, ?_, Nat.le_refl _, ?_, ?_, ?_⟩
  · intro i j b k k' _ _ hk _ hne; exact absurd (by rw [hd i k hk]; rfl) hne
  · intro i b k _ hk hr; rw [hd i k hk] at hr; simp [dead] at hr
  · intro i b k _ hk hne; exact absurd (by rw [hd i k hk]; rfl) hne
  · intro i k hk _; rw [hd i k hk]; rfl
  · intro i b k _ hk j s hs; rw [hd i k hk] at hs; simp [dead] at hs
  · intro i b c k0 k _ _ _ _ _ hk hcap; rw [hd _ k hk] at hcap; simp [dead] at hcap

/-- A call: what the evaluator answers is what comes back. -/
theorem calls_of_evH {P : Program} {ρ : Env} {L : Lore} (hL : LoreOk ρ L) {con : ConF} (hcon : ConOk P ρ con) (hm : P.follows .mixedOrders = true) (n : Nat) {g : Nat} {as : List AV} {v : AV} {ms : List Nat} {H H' : List Blk} (h : evCall P L con n g as H = some (v, H')) {args : Array Value} (w : World) (ha : as.map (AV.inst ρ ms) = args.toList.map some) (hH : Holds ρ ms H w.heap.size w) :
    Calls P g args w fun e w' => ∃ ms' u, e = .returned u ∧ ms <+: ms' ∧ v.inst ρ ms' = some u ∧ Holds ρ ms' H' w.heap.size w' ∧ Below w.heap.size w w' :=
  (evCall_ok hL hcon hm n g as H v H' h ms w.heap.size w args ha hH).mono fun _ _ ⟨ms', u, h1, h2, h3, h4, h5⟩ => ⟨ms', u, h1, h2, h3, h4, h5.toBelow⟩
theorem calls_of_ev {P : Program} {ρ : Env} {L : Lore} (hL : LoreOk ρ L) {con : ConF} (hcon : ConOk P ρ con) (hm : P.follows .mixedOrders = true) (n : Nat) {g : Nat} {as : List AV} {v : AV} {H' : List Blk} (h : evCall P L con n g as [] = some (v, H')) {args : Array Value} (w : World) (ha : as.map (AV.inst ρ []) = args.toList.map some) :
    Calls P g args w fun e w' => ∃ ms u, e = .returned u ∧ v.inst ρ ms = some u ∧ Holds ρ ms H' w.heap.size w' ∧ Below w.heap.size w w' :=
  (calls_of_evH (ms := ms0) (H := H0) hL hcon hm n h w ha (holds_nil ρ w)).mono fun _ _ ⟨ms, u, h1, _, h2, h3, h4⟩ => ⟨ms, u, h1, h2, h3, h4⟩
end Go.Proofs.Ytafdklelfcccbaa.Ev
