/- The evaluator: a region whose order is open, evaluated. -/
import Derived.Test.YtafdklelfcccbaaEvAny
namespace Go.Proofs.Ytafdklelfcccbaa.Ev
open Go Go.RowKit

/-- The first of the operations rd that reads alone, may be taken first, and whose value is told. -/
def pickA (P : Program) (L : Lore) (ops : Array Oper) (listed : Array Bool) (t : Tm) (H : List Blk) : List Nat → Option (Nat × Oper × AV)
  | [] => none
  | i :: r =>
    match ops[i]? with
    | some o =>
      if carry o.op then pickA P L ops listed t H r
      else if Region.free .any ops listed i then
        match wantA ops t o with
        | some true => match evRead P L t H o.op with | some v => some (i, o, v) | none => pickA P L ops listed t H r
        | some false => some (i, o, .tup [])
        | none => pickA P L ops listed t H r
      else pickA P L ops listed t H r
    | none => pickA P L ops listed t H r
theorem pickA_ok {P : Program} {L : Lore} {ops : Array Oper} {listed : Array Bool} {t : Tm} {H : List Blk} : ∀ (rd : List Nat) (i : Nat) (o : Oper) (v : AV), pickA P L ops listed t H rd = some (i, o, v) →
    i ∈ rd ∧ ops[i]? = some o ∧ carry o.op = false ∧ Region.free .any ops listed i = true ∧ ((wantA ops t o = some true ∧ evRead P L t H o.op = some v) ∨ (wantA ops t o = some false ∧ v = .tup []))
  | [], _, _, _, h => by simp [pickA] at h
  | j :: r, i, o, v, h => by
    have again : pickA P L ops listed t H r = some (i, o, v) → i ∈ j :: r ∧ ops[i]? = some o ∧ carry o.op = false ∧ Region.free .any ops listed i = true ∧ ((wantA ops t o = some true ∧ evRead P L t H o.op = some v) ∨ (wantA ops t o = some false ∧ v = .tup [])) := fun h' => by
      obtain ⟨h1, h2⟩ := pickA_ok r i o v h'
      exact ⟨List.mem_cons_of_mem _ h1, h2⟩
    simp only [pickA] at h
    split at h
    case h_2 => exact again h
    rename_i o' ho
    split at h
    · exact again h
    rename_i hca
    split at h
    case isFalse => exact again h
    rename_i hfr
    split at h
    · rename_i hw
      split at h
      · rename_i v' hr
        simp only [Option.some.injEq, Prod.mk.injEq] at h
        obtain ⟨rfl, rfl, rfl⟩ := h
        exact ⟨List.mem_cons_self, ho, by simpa using hca, hfr, .inl ⟨hw, hr⟩⟩
      · exact again h
    · rename_i hw
      simp only [Option.some.injEq, Prod.mk.injEq] at h
      obtain ⟨rfl, rfl, rfl⟩ := h
      exact ⟨List.mem_cons_self, ho, by simpa using hca, hfr, .inr ⟨hw, rfl⟩⟩
    · exact again h

def loadName (t : Tm) : Op → Option Nat
  | .load _ x => (gPtr t x).map (·.1)
  | _ => none
def phA (P : Program) (Lo : Lore) (ops : Array Oper) (H : List Blk) : Nat → Array Bool → Tm → List Nat → List Nat → Nat × Array Bool × Tm × List Nat × List Nat
  | 0, listed, t, N, L => (0, listed, t, N, L)
  | f + 1, listed, t, N, L =>
    match pickA P Lo ops listed t H (Region.ready .any ops listed) with
    | some (i, o, v) =>
      match loadName t o.op with
      | some n => phA P Lo ops H f (listed.setIfInBounds i true) (putA t o.dst v) (i :: N) (n :: L)
      | none => phA P Lo ops H f (listed.setIfInBounds i true) (putA t o.dst v) N L
    | none => (f + 1, listed, t, N, L)
theorem phA_grows {P : Program} {Lo : Lore} {ops : Array Oper} {H : List Blk} : ∀ (f : Nat) (listed : Array Bool) (t : Tm) (N L : List Nat) (f' : Nat) (l' : Array Bool) (t' : Tm) (N' L' : List Nat), phA P Lo ops H f listed t N L = (f', l', t', N', L') → (∀ x ∈ N, x ∈ N') ∧ (∀ x ∈ L, x ∈ L')
  | 0, listed, t, N, L, f', l', t', N', L', h => by
    simp only [phA, Prod.mk.injEq] at h
    obtain ⟨_, _, _, rfl, rfl⟩ := h
    exact ⟨fun _ h => h, fun _ h => h⟩
  | f + 1, listed, t, N, L, f', l', t', N', L', h => by
    simp only [phA] at h
    split at h
    · split at h
      · obtain ⟨h1, h2⟩ := phA_grows f _ _ _ _ _ _ _ _ _ h
        exact ⟨fun x hx => h1 x (List.mem_cons_of_mem _ hx), fun x hx => h2 x (List.mem_cons_of_mem _ hx)⟩
      · exact phA_grows f _ _ _ _ _ _ _ _ _ h
    · simp only [Prod.mk.injEq] at h
      obtain ⟨_, _, _, rfl, rfl⟩ := h
      exact ⟨fun _ h => h, fun _ h => h⟩

section
variable {P : Program} {ρ : Env} {Lo : Lore} {ops : Array Oper} {Q : Exit → Act → World → Prop} {B : Nat}
theorem waits_carry {N : List Nat} {i : Nat} {o : Oper} (hi : ops[i]? = some o) (hc : carry o.op = false) : waits ops N i = false := by
  unfold waits; rw [hi]; simp [hc]

/-- What a picked operation yields. -/
theorem pick_yields (hLo : LoreOk ρ Lo) {ms : List Nat} {H : List Blk} {t : Tm} {a : Act} {o : Oper} {v : AV} (hT : RelT ρ ms t a.tmps) (h : (wantA ops t o = some true ∧ evRead P Lo t H o.op = some v) ∨ (wantA ops t o = some false ∧ v = .tup [])) {S : World → Prop} {w : World}
    (hw : S w) (hS : ∀ w, S w → ∀ T x n c, o.op = .load T x → gPtr t x = some (n, c) → SeesAt ρ ms H w n c (loadLen P T)) : ∃ u, v.inst ρ ms = some u ∧ YieldsIf P ops S o u a := by
  rcases h with ⟨h1, h2⟩ | ⟨h1, rfl⟩
  · obtain ⟨u, e1, _⟩ := evRead_ok hLo hT h2 w (hS w hw)
    refine ⟨u, e1, .inl ⟨wantA_ok hT h1, fun w' hw' => ?_⟩⟩
    obtain ⟨u', e2, e3⟩ := evRead_ok hLo hT h2 w' (hS w' hw')
    rw [e1] at e2
    cases e2
    exact e3
  · exact ⟨undef, rfl, .inr ⟨wantA_ok hT h1, rfl⟩⟩

theorem phA_ok (hLo : LoreOk ρ Lo) {ms : List Nat} {H : List Blk} (hsel : Region.noSelect ops = true) (hQ : ∀ c a w, ¬ Q (.panic c) a w) {N' L' : List Nat} {w : World} (hSw : ∀ n ∈ L', Sees ρ ms H w n) :
    ∀ (f : Nat) (listed : Array Bool) (t : Tm) (N L : List Nat) (f' : Nat) (l' : Array Bool) (t' : Tm) (a : Act), phA P Lo ops H f listed t N L = (f', l', t', N', L') → RelT ρ ms t a.tmps →
      (∀ a', RelT ρ ms t' a'.tmps → a'.defers = a.defers → wpN P ops Q (fun w => ∀ n ∈ L', Sees ρ ms H w n) (waits ops N') f' false l' a' w) →
      wpN P ops Q (fun w => ∀ n ∈ L', Sees ρ ms H w n) (waits ops N') f false listed a w
  | 0, listed, t, N, L, f', l', t', a, h, hT, hk => by
    simp only [phA, Prod.mk.injEq] at h
    obtain ⟨rfl, rfl, rfl, _, _⟩ := h
    exact hk a hT rfl
  | f + 1, listed, t, N, L, f', l', t', a, h, hT, hk => by
    simp only [phA] at h
    split at h
    · rename_i i o v hp
      obtain ⟨p1, p2, p3, p4, p5⟩ := pickA_ok _ _ _ _ hp
      have fin : ∀ (N1 L1 : List Nat), phA P Lo ops H f (listed.setIfInBounds i true) (putA t o.dst v) N1 L1 = (f', l', t', N', L') → ∀ u, v.inst ρ ms = some u →
          wpN P ops Q (fun w => ∀ n ∈ L', Sees ρ ms H w n) (waits ops N') f false (listed.setIfInBounds i true) (a.put o.dst u) w := fun N1 L1 h' u hu =>
        phA_ok hLo hsel hQ hSw f _ _ _ _ _ _ _ _ h' (hT.putA o.dst hu) (fun a' h1 h2 => hk a' h1 (h2.trans (put_defers _ _ _)))
      split at h
      · rename_i n hn
        obtain ⟨hN, hL⟩ := phA_grows f _ _ _ _ _ _ _ _ _ h
        have hin := hN i List.mem_cons_self
        have hln := hL n List.mem_cons_self
        obtain ⟨u, e1, e2⟩ := pick_yields hLo (P := P) (ops := ops) (S := fun w => ∀ n ∈ L', Sees ρ ms H w n) hT p5 hSw (fun w' hw' T x m c hop hg => by
          rw [hop] at hn
          simp only [loadName, hg, Option.map_some, Option.some.injEq] at hn
          subst hn
          exact (hw' m hln).at _ _)
        exact wpN_take p2 hsel hQ (waits_carry p2 p3) f false listed a w (.inr ⟨rfl, rfl, fun j oj hj hw => waits_edge hj hw hin⟩) (Region.free_spec p2 p4) p1 e2 hSw (.inl hSw) (fin _ _ h u e1)
      · rename_i hn
        obtain ⟨u, e1, e2⟩ := pick_yields hLo (P := P) (ops := ops) (S := fun _ => True) (w := w) hT p5 trivial (fun w' _ T x m c hop hg => by
          rw [hop] at hn
          simp [loadName, hg] at hn)
        exact wpN_take p2 hsel hQ (waits_carry p2 p3) f false listed a w (.inl fun _ => trivial) (Region.free_spec p2 p4) p1 e2 trivial (.inl hSw) (fin _ _ h u e1)
    · simp only [Prod.mk.injEq] at h
      obtain ⟨rfl, rfl, rfl, _, _⟩ := h
      exact hk a hT rfl
end

/- What two ways have told alike. -/
def Tr.meet0 (a b : Tr) : Tr := match a, b with | .one u, .one v => if u = v then .one u else .emp | _, _ => .emp
def Tr.meetS (m : Tr → Tr → Tr) (a b : Tr) : Tr := match a with
  | .br a0 a1 a2 a3 a4 a5 a6 a7 => .br (m a0 (b.kid 0)) (m a1 (b.kid 1)) (m a2 (b.kid 2)) (m a3 (b.kid 3)) (m a4 (b.kid 4)) (m a5 (b.kid 5)) (m a6 (b.kid 6)) (m a7 (b.kid 7))
  | _ => .emp
structure Tr.MeetOk (g : Tr → Nat → Option AV) (m : Tr → Tr → Tr) : Prop where
  emp : ∀ i, g .emp i = none
  ok : ∀ a b i v, g (m a b) i = some v → g a i = some v ∧ g b i = some v
theorem Tr.MeetOk.step {g : Tr → Nat → Option AV} {m : Tr → Tr → Tr} (h : Tr.MeetOk g m) : Tr.MeetOk (Tr.getS g) (Tr.meetS m) := by
  refine ⟨fun i => h.emp _, fun a b i v hv => ?_⟩
  cases a with
  | emp => exact absurd (hv.symm.trans (h.emp _)) (by simp)
  | one _ => exact absurd (hv.symm.trans (h.emp _)) (by simp)
  | br a0 a1 a2 a3 a4 a5 a6 a7 =>
    unfold Tr.getS at hv ⊢
    have h1 : Nat.mod i 8 < 8 := Nat.mod_lt i (by decide)
    generalize Nat.mod i 8 = j at hv h1
    have h2 : j = 0 ∨ j = 1 ∨ j = 2 ∨ j = 3 ∨ j = 4 ∨ j = 5 ∨ j = 6 ∨ j = 7 := by omega
    rcases h2 with rfl | rfl | rfl | rfl | rfl | rfl | rfl | rfl <;> exact h.ok _ _ _ _ hv
theorem Tr.meet0_ok : Tr.MeetOk Tr.get0 Tr.meet0 := by
  refine ⟨fun _ => rfl, fun a b i v hv => ?_⟩
  unfold Tr.meet0 at hv
  split at hv
  · split at hv
    · rename_i e
      subst e
      exact ⟨hv, hv⟩
    · cases hv
  · cases hv
def Tr.meet3 : Tr → Tr → Tr := Tr.meetS (Tr.meetS (Tr.meetS Tr.meet0))
theorem Tr.meet3_ok : Tr.MeetOk Tr.get3 Tr.meet3 := Tr.meet0_ok.step.step.step
def Tm.meet (t t' : Tm) : Tm := ⟨t.n, Tr.meet3 t.tr t'.tr⟩
/-- All that t tells, t' tells. -/
structure Tm.Le (t t' : Tm) : Prop where
  n : t.n = t'.n
  get : ∀ i v, t.get i = some v → t'.get i = some v
theorem Tm.Le.refl (t : Tm) : Tm.Le t t := ⟨rfl, fun _ _ h => h⟩
theorem Tm.Le.trans {a b c : Tm} (h : Tm.Le a b) (k : Tm.Le b c) : Tm.Le a c := ⟨h.n.trans k.n, fun i v q => k.get i v (h.get i v q)⟩
theorem Tm.meet_le (t t' : Tm) (hn : t'.n = t.n) : Tm.Le (t.meet t') t ∧ Tm.Le (t.meet t') t' := by
  have key : ∀ i v, (t.meet t').get i = some v → t.get i = some v ∧ t'.get i = some v := fun i v h => by
    unfold Tm.get at h
    split at h
    · rename_i hb
      obtain ⟨h1, h2⟩ := Tr.meet3_ok.ok _ _ _ _ h
      have hb' : Nat.blt i t.n = true := hb
      unfold Tm.get
      rw [hn, hb']
      exact ⟨h1, h2⟩
    · cases h
  exact ⟨⟨rfl, fun i v h => (key i v h).1⟩, ⟨hn.symm, fun i v h => (key i v h).2⟩⟩
theorem RelT.less {ρ : Env} {ms : List Nat} {t t' : Tm} {tmps : Array Value} (h : RelT ρ ms t' tmps) (k : Tm.Le t t') : RelT ρ ms t tmps :=
  ⟨k.n.trans h.sz, k.n ▸ h.le, fun i x hx => h.val i x (k.get i x hx), h.gl⟩
def meetA (f : Nat → Option (Tm × List Blk)) : List Nat → Tm → List Blk → Option (Tm × List Blk)
  | [], t, H => some (t, H)
  | i :: rest, t, H =>
    match f i with
    | some (t', H') => if H' = H ∧ t'.n = t.n then meetA f rest (if t' = t then t else t.meet t') H else none
    | none => none
theorem meetA_ok {f : Nat → Option (Tm × List Blk)} : ∀ (l : List Nat) (t : Tm) (H : List Blk) (tF : Tm) (HF : List Blk), meetA f l t H = some (tF, HF) → Tm.Le tF t ∧ HF = H ∧ ∀ i ∈ l, ∃ t1, f i = some (t1, HF) ∧ Tm.Le tF t1
  | [], t, H, tF, HF, h => by
    simp only [meetA, Option.some.injEq, Prod.mk.injEq] at h
    obtain ⟨rfl, rfl⟩ := h
    exact ⟨Tm.Le.refl _, rfl, fun i hi => by cases hi⟩
  | i :: rest, t, H, tF, HF, h => by
    simp only [meetA] at h
    split at h
    case h_2 => cases h
    rename_i t' H' hf
    split at h
    case isFalse => cases h
    rename_i hc
    obtain ⟨h1, h2, h3⟩ := meetA_ok rest _ H tF HF h
    have hle : Tm.Le tF t ∧ Tm.Le tF t' := by
      split at h1
      · rename_i e
        rw [e]
        exact ⟨h1, h1⟩
      · exact ⟨h1.trans (Tm.meet_le t t' hc.2).1, h1.trans (Tm.meet_le t t' hc.2).2⟩
    refine ⟨hle.1, h2, fun j hj => ?_⟩
    rcases List.mem_cons.1 hj with rfl | hj
    · exact ⟨t', by rw [hf, h2, hc.1], hle.2⟩
    · exact h3 j hj

def phB (call : CallF) (P : Program) (Lo : Lore) (ops : Array Oper) (H0 : List Blk) (N L : List Nat) : Nat → Bool → Array Bool → Tm → List Blk → Option (Tm × List Blk)
  | 0, _, listed, t, H => match Region.ready .any ops listed with | [] => some (t, H) | _ => none
  | f + 1, late, listed, t, H =>
    match Region.ready .any ops listed with
    | [] => some (t, H)
    | i0 :: rest =>
      match pickA P Lo ops listed t [] (i0 :: rest) with
      | some (i, o, v) => phB call P Lo ops H0 N L f late (listed.setIfInBounds i true) (putA t o.dst v) H
      | none =>
        let go : Nat → Option (Tm × List Blk) := fun i =>
          match ops[i]? with
          | some o =>
            match wantA ops t o with
            | some true =>
              match evStep call P Lo t H o with
              | some (v, H') => if late || waits ops N i || L.all (fun n => decide (H'[n]? = H0[n]?)) then phB call P Lo ops H0 N L f (late || waits ops N i) (listed.setIfInBounds i true) (putA t o.dst v) H' else none
              | none => none
            | some false => phB call P Lo ops H0 N L f (late || waits ops N i) (listed.setIfInBounds i true) (putA t o.dst (.tup [])) H
            | none => none
          | none => none
        match go i0 with
        | some (t1, H1) => meetA go rest t1 H1
        | none => none

theorem phB_ok {P : Program} {ρ : Env} {Lo : Lore} (hLo : LoreOk ρ Lo) {call : CallF} (hc : CallOk P ρ call) {ops : Array Oper} {Q : Exit → Act → World → Prop} {B : Nat} {ms : List Nat} {H0 : List Blk} {w0 : World} (hH0 : Holds ρ ms H0 B w0) (hsel : Region.noSelect ops = true) (hQ : ∀ c a w, ¬ Q (.panic c) a w) {N L : List Nat} {tF : Tm} {HF : List Blk} :
    ∀ (f : Nat) (late : Bool) (listed : Array Bool) (t : Tm) (H : List Blk) (tE : Tm) (ms1 : List Nat) (a : Act) (w : World), phB call P Lo ops H0 N L f late listed t H = some (tE, HF) → Tm.Le tF tE → RelT ρ ms1 t a.tmps → Holds ρ ms1 H B w → ms <+: ms1 →
      ((∀ n ∈ L, Sees ρ ms H0 w n) ∨ late = true) →
      (∀ ms2 a' w', ms1 <+: ms2 → RelT ρ ms2 tF a'.tmps → a'.defers = a.defers → Holds ρ ms2 HF B w' → Bel B w w' → Q .normal a' w') →
      wpN P ops Q (fun w => ∀ n ∈ L, Sees ρ ms H0 w n) (waits ops N) f late listed a w
  | 0, late, listed, t, H, tE, ms1, a, w, h, hle, hT, hH, hp, hS, hk => by
    simp only [phB] at h
    split at h
    · rename_i hr
      simp only [Option.some.injEq, Prod.mk.injEq] at h
      obtain ⟨rfl, rfl⟩ := h
      exact ⟨hr, hk ms1 a w (List.prefix_refl _) (hT.less hle) rfl hH (Bel.refl _ _)⟩
    · cases h
  | f + 1, late, listed, t, H, tE, ms1, a, w, h, hle, hT, hH, hp, hS, hk => by
    simp only [phB] at h
    split at h
    · rename_i hr
      simp only [Option.some.injEq, Prod.mk.injEq] at h
      obtain ⟨rfl, rfl⟩ := h
      exact ⟨fun _ => hk ms1 a w (List.prefix_refl _) (hT.less hle) rfl hH (Bel.refl _ _), fun i hi => by rw [hr] at hi; cases hi⟩
    · rename_i i0 rest hr
      split at h
      · rename_i i o v hpk
        obtain ⟨p1, p2, p3, p4, p5⟩ := pickA_ok _ _ _ _ hpk
        obtain ⟨u, e1, e2⟩ := pick_yields hLo (P := P) (ops := ops) (S := fun _ => True) (w := w) hT p5 trivial (fun w' _ T x m c hop hg b k hb hk => by simp at hk)
        refine wpN_take p2 hsel hQ (waits_carry p2 p3) f late listed a w (.inl fun _ => trivial) (Region.free_spec p2 p4) (by rw [hr]; exact p1) e2 trivial hS ?_
        exact phB_ok hLo hc hH0 hsel hQ f late _ _ H tE ms1 _ w h hle (hT.putA o.dst e1) hH hp hS (fun ms2 a' w' q1 q2 q3 q4 q5 => hk ms2 a' w' q1 q2 (q3.trans (put_defers _ _ _)) q4 q5)
      · have each : ∀ (i : Nat) (t1 : Tm), Tm.Le tF t1 → (match ops[i]? with
          | some o =>
            match wantA ops t o with
            | some true =>
              match evStep call P Lo t H o with
              | some (v, H') => if late || waits ops N i || L.all (fun n => decide (H'[n]? = H0[n]?)) then phB call P Lo ops H0 N L f (late || waits ops N i) (listed.setIfInBounds i true) (putA t o.dst v) H' else none
              | none => none
            | some false => phB call P Lo ops H0 N L f (late || waits ops N i) (listed.setIfInBounds i true) (putA t o.dst (.tup [])) H
            | none => none
          | none => none) = some (t1, HF) → wpOp P ops Q i (fun a' w' => ((∀ n ∈ L, Sees ρ ms H0 w' n) ∨ (late || waits ops N i) = true) ∧ wpN P ops Q (fun w => ∀ n ∈ L, Sees ρ ms H0 w n) (waits ops N) f (late || waits ops N i) (listed.setIfInBounds i true) a' w') a w := by
          intro i t1 hle1 hgo
          split at hgo
          case h_2 => cases hgo
          rename_i o ho
          refine wpOp_step ho fun K hK => ?_
          split at hgo
          · rename_i hw
            have hw2 := wantA_ok hT hw
            rw [hw2, if_pos rfl]
            split at hgo
            case h_2 => cases hgo
            rename_i v H1 hs
            split at hgo
            case isFalse => cases hgo
            rename_i hcond
            refine evStep_ok hLo hc hT hH hs fun ms2 u w2 p1 p2 p3 p4 => hK _ _ ?_
            have hS2 : (∀ n ∈ L, Sees ρ ms H0 w2 n) ∨ (late || waits ops N i) = true := by
              rw [Bool.or_eq_true] at hcond
              rcases hcond with hcond | hcond
              · exact .inr hcond
              · refine .inl fun n hn b k hb hk' j s hs' => ?_
                have e1 : H1[n]? = H0[n]? := by
                  have := List.all_eq_true.1 hcond n hn
                  simpa using this
                obtain ⟨v0, q1, _, _⟩ := hH0.cell n b k hb hk' j s hs'
                obtain ⟨v1, r1, r2, r3⟩ := p3.cell n b k (pre_get (hp.trans p1) hb) (e1.trans hk') j s hs'
                have := s.inst_mono (hp.trans p1) v0 q1
                rw [r1] at this
                cases this
                exact ⟨_, q1, r2⟩
            refine ⟨hS2, ?_⟩
            exact phB_ok hLo hc hH0 hsel hQ f _ _ _ H1 t1 ms2 _ w2 hgo hle1 ((hT.mono p1).putA o.dst p2) p3 (hp.trans p1) hS2 (fun ms3 a' w' q1 q2 q3 q4 q5 => hk ms3 a' w' (p1.trans q1) q2 (q3.trans (put_defers _ _ _)) q4 (p4.trans q5))
          · rename_i hw
            have hw2 := wantA_ok hT hw
            rw [hw2, if_neg (by decide)]
            refine hK _ _ ?_
            have hS2 : (∀ n ∈ L, Sees ρ ms H0 w n) ∨ (late || waits ops N i) = true := hS.imp id (fun e => by rw [e]; rfl)
            refine ⟨hS2, ?_⟩
            exact phB_ok hLo hc hH0 hsel hQ f _ _ _ H t1 ms1 _ w hgo hle1 (hT.putA o.dst (v := undef) rfl) hH hp hS2 (fun ms3 a' w' q1 q2 q3 q4 q5 => hk ms3 a' w' q1 q2 (q3.trans (put_defers _ _ _)) q4 q5)
          · cases hgo
        split at h
        case h_2 => cases h
        rename_i t1 H1 hgo
        obtain ⟨m1, m2, m3⟩ := meetA_ok _ _ _ _ _ h
        refine ⟨fun h0 => (by rw [hr] at h0; cases h0), fun i hi => ?_⟩
        rw [hr] at hi
        rcases List.mem_cons.1 hi with rfl | hi
        · exact each i t1 (hle.trans m1) (by rw [m2]; exact hgo)
        · obtain ⟨t2, q1, q2⟩ := m3 i hi
          exact each i t2 (hle.trans q2) q1

def evDraw (call : CallF) (P : Program) (Lo : Lore) (ops : Array Oper) (t : Tm) (H : List Blk) : Option (Tm × List Blk) :=
  if Region.noSelect ops then
    match phA P Lo ops H ops.size (Array.replicate ops.size false) t [] [] with
    | (f, l, t', N, L) => phB call P Lo ops H N L f false l t' H
  else none
theorem Holds.drawn {ρ : Env} {ms : List Nat} {H : List Blk} {B : Nat} {w : World} (h : Holds ρ ms H B w) (n : Nat) : Holds ρ ms H B { w with drawn := n } := ⟨h.len, h.gl, h.inj, h.low, h.bnd, h.big, h.plain, h.cell, h.room⟩

theorem evDraw_any {P : Program} {ρ : Env} {Lo : Lore} (hLo : LoreOk ρ Lo) {call : CallF} (hc : CallOk P ρ call) {ops : Array Oper} {Q : Exit → Act → World → Prop} {B : Nat} {ms : List Nat} {t t' : Tm} {H H' : List Blk} {a : Act} {w : World}
    (hT : RelT ρ ms t a.tmps) (hH : Holds ρ ms H B w) (h : evDraw call P Lo ops t H = some (t', H'))
    (hQ : ∀ ms' a' w', ms <+: ms' → RelT ρ ms' t' a'.tmps → a'.defers = a.defers → Holds ρ ms' H' B w' → Bel B w w' → Q .normal a' w') : wpAny P .any ops (fun e a w => e = .normal ∧ Q .normal a w) ops.size (Array.replicate ops.size false) a { w with drawn := w.drawn + 1 } := by
  unfold evDraw at h
  split at h
  case isFalse => cases h
  rename_i hsel
  split at h
  rename_i f l t1 N L hA
  have hH1 := hH.drawn (w.drawn + 1)
  refine (wpAny_of_N (S := fun w => ∀ n ∈ L, Sees ρ ms H w n) (W := waits ops N) _ false _ _ _ ?_)
  refine phA_ok hLo hsel (fun c a w q => by cases q.1) (fun n _ => hH1.sees n) _ _ _ _ _ _ _ _ a hA hT fun a1 q1 q2 => ?_
  refine phB_ok hLo hc hH1 hsel (fun c a w q => by cases q.1) f false l t1 H _ ms a1 _ h (Tm.Le.refl _) q1 hH1 (List.prefix_refl _) (.inl fun n _ => hH1.sees n) fun ms2 a' w' r1 r2 r3 r4 r5 => ⟨rfl, ?_⟩
  exact hQ ms2 a' w' r1 r2 (r3.trans q2) r4 ((Bel.drawn B w (w.drawn + 1)).trans r5)
theorem evDraw_ok {P : Program} {ρ : Env} {Lo : Lore} (hLo : LoreOk ρ Lo) {call : CallF} (hc : CallOk P ρ call) (hm : P.follows .mixedOrders = true) {ops : Array Oper} {Q : Exit → Act → World → Prop} {B : Nat} {ms : List Nat} {t t' : Tm} {H H' : List Blk} {a : Act} {w : World} (id : Nat)
    (hT : RelT ρ ms t a.tmps) (hH : Holds ρ ms H B w) (h : evDraw call P Lo ops t H = some (t', H'))
    (hQ : ∀ ms' a' w', ms <+: ms' → RelT ρ ms' t' a'.tmps → a'.defers = a.defers → Holds ρ ms' H' B w' → Bel B w w' → Q .normal a' w') : (Code.region id ops true).wp P Q a w :=
  Code.wp_mono (Q := fun e a w => e = .normal ∧ Q .normal a w) (fun e a w q => by rw [q.1]; exact q.2) (wp_region_any hm (evDraw_any hLo hc hT hH h hQ))
end Go.Proofs.Ytafdklelfcccbaa.Ev
