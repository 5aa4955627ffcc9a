/- The evaluator: a region whose order is open, by a plan that its text alone gives. -/
import Derived.Test.YtafdklelfcccbaaEvDraw
namespace Go.Proofs.Ytafdklelfcccbaa.Ev
open Go Go.RowKit

def isLoad : Op → Bool
  | .load _ _ => true
  | _ => false
/-- Operations that write nothing. -/
def pureOp (P : Program) : Op → Bool
  | .move _ | .assign _ | .pick _ _ _ | .load _ _ | .nilCheck _ | .binOp _ _ _ _ _ | .unOp _ _ _ | .sliceToArrayPointer _ _ | .slice _ _ _ _ _ | .fieldAddr _ _ _ | .field _ _ _ | .indexAddr _ _ _ | .index _ _ _ | .makeFunc _ _ _ | .extract _ _ | .build _ _ | .makeInterface _ _ => true
  | .convert _ d _ => match P.underlying d with | some (.int _) => true | _ => false
  | _ => false
theorem pureOp_carry {P : Program} {op : Op} (h : pureOp P op = true) : carry op = false := by
  cases op <;> first | rfl | (simp [pureOp] at h)
def loadAt (ops : Array Oper) (i : Nat) : Bool := match ops[i]? with | some o => isLoad o.op | none => false
/-- The first that may be taken ahead of all others. -/
def pickS (P : Program) (ops : Array Oper) (loads : Bool) (listed : Array Bool) : List Nat → Option Nat
  | [] => none
  | i :: r =>
    match ops[i]? with
    | some o => if pureOp P o.op && (loads || !isLoad o.op) && Region.free .any ops listed i then some i else pickS P ops loads listed r
    | none => pickS P ops loads listed r
theorem pickS_ok {P : Program} {ops : Array Oper} {loads : Bool} {listed : Array Bool} : ∀ (rd : List Nat) (i : Nat), pickS P ops loads listed rd = some i →
    i ∈ rd ∧ ∃ o, ops[i]? = some o ∧ carry o.op = false ∧ (loads = false → isLoad o.op = false) ∧ Region.free .any ops listed i = true
  | [], _, h => by simp [pickS] at h
  | j :: r, i, h => by
    have again : pickS P ops loads listed r = some i → i ∈ j :: r ∧ ∃ o, ops[i]? = some o ∧ carry o.op = false ∧ (loads = false → isLoad o.op = false) ∧ Region.free .any ops listed i = true := fun h' => by
      obtain ⟨h1, h2⟩ := pickS_ok r i h'
      exact ⟨List.mem_cons_of_mem _ h1, h2⟩
    simp only [pickS] at h
    split at h
    case h_2 => exact again h
    rename_i o ho
    split at h
    case isFalse => exact again h
    rename_i hc
    simp only [Option.some.injEq] at h
    subst h
    simp only [Bool.and_eq_true, Bool.or_eq_true, Bool.not_eq_true'] at hc
    exact ⟨List.mem_cons_self, o, ho, pureOp_carry hc.1.1, fun e => by subst e; simpa using hc.1.2, hc.2⟩
def planA (P : Program) (ops : Array Oper) : Nat → Array Bool → List Nat × Nat × Array Bool
  | 0, listed => ([], 0, listed)
  | f + 1, listed =>
    match pickS P ops true listed (Region.ready .any ops listed) with
    | some i => (i :: (planA P ops f (listed.setIfInBounds i true)).1, (planA P ops f (listed.setIfInBounds i true)).2)
    | none => ([], f + 1, listed)
def planB (P : Program) (ops : Array Oper) : Nat → Array Bool → Option (List (Nat × Bool))
  | 0, listed => match Region.ready .any ops listed with | [] => some [] | _ => none
  | f + 1, listed =>
    match Region.ready .any ops listed with
    | [] => some []
    | i0 :: rest =>
      match pickS P ops false listed (i0 :: rest) with
      | some i => (planB P ops f (listed.setIfInBounds i true)).map ((i, true) :: ·)
      | none => match rest with
        | [] => (planB P ops f (listed.setIfInBounds i0 true)).map ((i0, false) :: ·)
        | _ => none
def planOf (P : Program) (ops : Array Oper) : Option (List Nat × List Nat × List (Nat × Bool)) :=
  if Region.noSelect ops then
    match planA P ops ops.size (Array.replicate ops.size false) with
    | (A, f, l) => (planB P ops f l).map fun B => (A, A.filter (loadAt ops), B)
  else none

def spanOf (P : Program) (t : Tm) : Op → Option (Nat × Nat × Nat)
  | .load T x => (gPtr t x).map fun p => (p.1, p.2, loadLen P T)
  | _ => none
def addSpan (P : Program) (t : Tm) (op : Op) (L : List (Nat × Nat × Nat)) : List (Nat × Nat × Nat) := match spanOf P t op with | some s => s :: L | none => L
def runA (P : Program) (Lo : Lore) (ops : Array Oper) (H : List Blk) : List Nat → Tm → List (Nat × Nat × Nat) → Option (Tm × List (Nat × Nat × Nat))
  | [], t, L => some (t, L)
  | i :: r, t, L =>
    match ops[i]? with
    | some o =>
      match wantA ops t o with
      | some true =>
        match evRead P Lo t H o.op with
        | some v => runA P Lo ops H r (putA t o.dst v) (addSpan P t o.op L)
        | none => none
      | some false => runA P Lo ops H r (putA t o.dst (.tup [])) L
      | none => none
    | none => none
theorem runA_grows {P : Program} {Lo : Lore} {ops : Array Oper} {H : List Blk} : ∀ (A : List Nat) (t : Tm) (L : List (Nat × Nat × Nat)) (t' : Tm) (L' : List (Nat × Nat × Nat)), runA P Lo ops H A t L = some (t', L') → ∀ x ∈ L, x ∈ L'
  | [], t, L, t', L', h => by
    simp only [runA, Option.some.injEq, Prod.mk.injEq] at h
    obtain ⟨_, rfl⟩ := h
    exact fun _ h => h
  | i :: r, t, L, t', L', h => by
    simp only [runA] at h
    split at h
    case h_2 => cases h
    split at h
    · split at h
      · intro x hx
        refine runA_grows r _ _ _ _ h x ?_
        unfold addSpan
        split
        · exact List.mem_cons_of_mem _ hx
        · exact hx
      · cases h
    · exact runA_grows r _ _ _ _ h
    · cases h

/-- What the loads saw. -/
def Saw (ρ : Env) (ms : List Nat) (H : List Blk) (L : List (Nat × Nat × Nat)) (w : World) : Prop := ∀ s ∈ L, SeesAt ρ ms H w s.1 s.2.1 s.2.2

section
variable {P : Program} {ρ : Env} {Lo : Lore} {ops : Array Oper} {Q : Exit → Act → World → Prop} {B : Nat}
theorem runA_ok (hLo : LoreOk ρ Lo) {ms : List Nat} {H : List Blk} (hsel : Region.noSelect ops = true) (hQ : ∀ c a w, ¬ Q (.panic c) a w) {N' : List Nat} {L' : List (Nat × Nat × Nat)} {w : World} (hSw : Saw ρ ms H L' w) :
    ∀ (f : Nat) (listed : Array Bool) (A : List Nat) (f' : Nat) (l' : Array Bool) (t t' : Tm) (L : List (Nat × Nat × Nat)) (a : Act), planA P ops f listed = (A, f', l') → (∀ i ∈ A, loadAt ops i = true → i ∈ N') → runA P Lo ops H A t L = some (t', L') → RelT ρ ms t a.tmps →
      (∀ a', RelT ρ ms t' a'.tmps → a'.defers = a.defers → wpN P ops Q (Saw ρ ms H L') (waits ops N') f' false l' a' w) →
      wpN P ops Q (Saw ρ ms H L') (waits ops N') f false listed a w
  | 0, listed, A, f', l', t, t', L, a, h, hN, hr, hT, hk => by
    simp only [planA, Prod.mk.injEq] at h
    obtain ⟨rfl, rfl, rfl⟩ := h
    simp only [runA, Option.some.injEq, Prod.mk.injEq] at hr
    obtain ⟨rfl, _⟩ := hr
    exact hk a hT rfl
  | f + 1, listed, A, f', l', t, t', L, a, h, hN, hr, hT, hk => by
    simp only [planA] at h
    split at h
    · rename_i i hp
      obtain ⟨p1, o, p2, p3, _, p4⟩ := pickS_ok _ _ hp
      generalize hq : planA P ops f (listed.setIfInBounds i true) = q at h
      obtain ⟨A1, f1, l1⟩ := q
      simp only [Prod.mk.injEq] at h
      obtain ⟨rfl, rfl, rfl⟩ := h
      simp only [runA, p2] at hr
      have fin : ∀ (x : AV) (L1 : List (Nat × Nat × Nat)), runA P Lo ops H A1 (putA t o.dst x) L1 = some (t', L') → ∀ u, x.inst ρ ms = some u →
          wpN P ops Q (Saw ρ ms H L') (waits ops N') f false (listed.setIfInBounds i true) (a.put o.dst u) w := fun x L1 h' u hu =>
        runA_ok hLo hsel hQ hSw f _ A1 f1 l1 _ _ _ _ hq (fun j hj => hN j (List.mem_cons_of_mem _ hj)) h' (hT.putA o.dst hu) (fun a' h1 h2 => hk a' h1 (h2.trans (put_defers _ _ _)))
      have go : ∀ (x : AV) (L1 : List (Nat × Nat × Nat)), ((wantA ops t o = some true ∧ evRead P Lo t H o.op = some x ∧ L1 = addSpan P t o.op L) ∨ (wantA ops t o = some false ∧ x = .tup [])) → runA P Lo ops H A1 (putA t o.dst x) L1 = some (t', L') → wpN P ops Q (Saw ρ ms H L') (waits ops N') (f + 1) false listed a w := by
        intro x L1 hx h'
        have hx2 : (wantA ops t o = some true ∧ evRead P Lo t H o.op = some x) ∨ (wantA ops t o = some false ∧ x = .tup []) := hx.imp (fun q => ⟨q.1, q.2.1⟩) id
        by_cases hld : isLoad o.op = true ∧ wantA ops t o = some true
        · have hin := hN i List.mem_cons_self (by unfold loadAt; rw [p2]; exact hld.1)
          have hL1 : L1 = addSpan P t o.op L := by
            rcases hx with q | q
            · exact q.2.2
            · rw [hld.2] at q; simp at q
          have hgr := runA_grows _ _ _ _ _ h'
          obtain ⟨u, e1, e2⟩ := pick_yields hLo (P := P) (ops := ops) (S := Saw ρ ms H L') hT hx2 hSw (fun w' hw' T y m c hop hg => by
            refine hw' (m, c, loadLen P T) (hgr _ ?_)
            rw [hL1]
            simp [addSpan, spanOf, hop, hg])
          exact wpN_take p2 hsel hQ (waits_carry p2 p3) f false listed a w (.inr ⟨rfl, rfl, fun j oj hj hw => waits_edge hj hw hin⟩) (Region.free_spec p2 p4) p1 e2 hSw (.inl hSw) (fin _ _ h' u e1)
        · obtain ⟨u, e1, e2⟩ : ∃ u, x.inst ρ ms = some u ∧ YieldsIf P ops (fun _ => True) o u a := by
            rcases hx2 with ⟨q1, q2⟩ | ⟨q1, q2⟩
            · refine pick_yields hLo (P := P) (ops := ops) (S := fun _ => True) (w := w) hT (.inl ⟨q1, q2⟩) trivial (fun w' _ T y m c hop hg => ?_)
              exact absurd ⟨by rw [hop]; rfl, q1⟩ hld
            · refine pick_yields hLo (P := P) (ops := ops) (S := fun _ => True) (w := w) hT (H := []) (.inr ⟨q1, q2⟩) trivial (fun w' _ T y m c hop hg b k hb hk => by simp at hk)
          exact wpN_take p2 hsel hQ (waits_carry p2 p3) f false listed a w (.inl fun _ => trivial) (Region.free_spec p2 p4) p1 e2 trivial (.inl hSw) (fin _ _ h' u e1)
      split at hr
      · rename_i hw
        split at hr
        · rename_i v hv
          exact go v _ (.inl ⟨hw, hv, rfl⟩) hr
        · cases hr
      · rename_i hw
        exact go _ _ (.inr ⟨hw, rfl⟩) hr
      · cases hr
    · simp only [Prod.mk.injEq] at h
      obtain ⟨rfl, rfl, rfl⟩ := h
      simp only [runA, Option.some.injEq, Prod.mk.injEq] at hr
      obtain ⟨rfl, _⟩ := hr
      exact hk a hT rfl
end

def cellsAt (H : List Blk) (s : Nat × Nat × Nat) : Option (List SV) := (H[s.1]?).map fun k => (k.cells.drop s.2.1).take s.2.2
def keeps (L : List (Nat × Nat × Nat)) (H0 H : List Blk) : Bool := L.all fun s => decide (cellsAt H s = cellsAt H0 s)
def runB (call : CallF) (P : Program) (Lo : Lore) (ops : Array Oper) (H0 : List Blk) (N : List Nat) (L : List (Nat × Nat × Nat)) : List (Nat × Bool) → Bool → Tm → List Blk → Option (Tm × List Blk)
  | [], _, t, H => some (t, H)
  | (i, true) :: r, late, t, H =>
    match ops[i]? with
    | some o =>
      match wantA ops t o with
      | some true => match evRead P Lo t [] o.op with | some v => runB call P Lo ops H0 N L r late (putA t o.dst v) H | none => none
      | some false => runB call P Lo ops H0 N L r late (putA t o.dst (.tup [])) H
      | none => none
    | none => none
  | (i, false) :: r, late, t, H =>
    match ops[i]? with
    | some o =>
      match wantA ops t o with
      | some true =>
        match evStep call P Lo t H o with
        | some (v, H') => if late || waits ops N i || keeps L H0 H' then runB call P Lo ops H0 N L r (late || waits ops N i) (putA t o.dst v) H' else none
        | none => none
      | some false => runB call P Lo ops H0 N L r (late || waits ops N i) (putA t o.dst (.tup [])) H
      | none => none
    | none => none

theorem runB_ok {P : Program} {ρ : Env} {Lo : Lore} (hLo : LoreOk ρ Lo) {call : CallF} (hc : CallOk P ρ call) {ops : Array Oper} {Q : Exit → Act → World → Prop} {B : Nat} {ms : List Nat} {H0 : List Blk} {w0 : World} (hH0 : Holds ρ ms H0 B w0) (hsel : Region.noSelect ops = true) (hQ : ∀ c a w, ¬ Q (.panic c) a w) {N : List Nat} {L : List (Nat × Nat × Nat)} {tF : Tm} {HF : List Blk} :
    ∀ (f : Nat) (listed : Array Bool) (bp : List (Nat × Bool)) (late : Bool) (t : Tm) (H : List Blk) (ms1 : List Nat) (a : Act) (w : World), planB P ops f listed = some bp → runB call P Lo ops H0 N L bp late t H = some (tF, HF) → RelT ρ ms1 t a.tmps → Holds ρ ms1 H B w → ms <+: ms1 →
      (Saw ρ ms H0 L w ∨ late = true) →
      (∀ ms2 a' w', ms1 <+: ms2 → RelT ρ ms2 tF a'.tmps → a'.defers = a.defers → Holds ρ ms2 HF B w' → Bel B w w' → Q .normal a' w') →
      wpN P ops Q (Saw ρ ms H0 L) (waits ops N) f late listed a w
  | 0, listed, bp, late, t, H, ms1, a, w, hp0, h, hT, hH, hp, hS, hk => by
    simp only [planB] at hp0
    split at hp0
    · rename_i hr
      simp only [Option.some.injEq] at hp0
      subst hp0
      simp only [runB, Option.some.injEq, Prod.mk.injEq] at h
      obtain ⟨rfl, rfl⟩ := h
      exact ⟨hr, hk ms1 a w (List.prefix_refl _) hT rfl hH (Bel.refl _ _)⟩
    · cases hp0
  | f + 1, listed, bp, late, t, H, ms1, a, w, hp0, h, hT, hH, hp, hS, hk => by
    simp only [planB] at hp0
    split at hp0
    · rename_i hr
      simp only [Option.some.injEq] at hp0
      subst hp0
      simp only [runB, Option.some.injEq, Prod.mk.injEq] at h
      obtain ⟨rfl, rfl⟩ := h
      exact ⟨fun _ => hk ms1 a w (List.prefix_refl _) hT rfl hH (Bel.refl _ _), fun i hi => by rw [hr] at hi; cases hi⟩
    · rename_i i0 rest hr
      split at hp0
      · rename_i i hpk
        obtain ⟨p1, o, p2, p3, p5, p4⟩ := pickS_ok _ _ hpk
        rw [Option.map_eq_some_iff] at hp0
        obtain ⟨bp1, hb1, rfl⟩ := hp0
        simp only [runB, p2] at h
        have go : ∀ x : AV, ((wantA ops t o = some true ∧ evRead P Lo t [] o.op = some x) ∨ (wantA ops t o = some false ∧ x = .tup [])) → runB call P Lo ops H0 N L bp1 late (putA t o.dst x) H = some (tF, HF) → wpN P ops Q (Saw ρ ms H0 L) (waits ops N) (f + 1) late listed a w := by
          intro x hx h'
          obtain ⟨u, e1, e2⟩ := pick_yields hLo (P := P) (ops := ops) (S := fun _ => True) (w := w) hT hx trivial (fun w' _ T y m c hop hg b k hb hk => by simp at hk)
          refine wpN_take p2 hsel hQ (waits_carry p2 p3) f late listed a w (.inl fun _ => trivial) (Region.free_spec p2 p4) (by rw [hr]; exact p1) e2 trivial hS ?_
          exact runB_ok hLo hc hH0 hsel hQ f _ bp1 late _ H ms1 _ w hb1 h' (hT.putA o.dst e1) hH hp hS (fun ms2 a' w' q1 q2 q3 q4 q5 => hk ms2 a' w' q1 q2 (q3.trans (put_defers _ _ _)) q4 q5)
        split at h
        · rename_i hw
          split at h
          · rename_i v hv
            exact go v (.inl ⟨hw, hv⟩) h
          · cases h
        · rename_i hw
          exact go _ (.inr ⟨hw, rfl⟩) h
        · cases h
      · split at hp0
        case h_2 => cases hp0
        rw [Option.map_eq_some_iff] at hp0
        obtain ⟨bp1, hb1, rfl⟩ := hp0
        simp only [runB] at h
        split at h
        case h_2 => cases h
        rename_i o ho
        refine ⟨fun h0 => (by rw [hr] at h0; cases h0), fun i hi => ?_⟩
        rw [hr] at hi
        obtain rfl : i = i0 := by simpa using hi
        refine wpOp_step ho fun K hK => ?_
        split at h
        · rename_i hw
          have hw2 := wantA_ok hT hw
          rw [hw2, if_pos rfl]
          split at h
          case h_2 => cases h
          rename_i v H1 hs
          split at h
          case isFalse => cases h
          rename_i hcond
          refine evStep_ok hLo hc hT hH hs fun ms2 u w2 p1 p2 p3 p4 => hK _ _ ?_
          have hS2 : Saw ρ ms H0 L w2 ∨ (late || waits ops N i) = true := by
            rw [Bool.or_eq_true] at hcond
            rcases hcond with hcond | hcond
            · exact .inr hcond
            · refine .inl fun s hs' b k hb hk' j sv h1 h2 hsv => ?_
              have e1 : cellsAt H1 s = cellsAt H0 s := by
                have := List.all_eq_true.1 hcond s hs'
                simpa using this
              simp only [cellsAt, hk', Option.map_some, Option.map_eq_some_iff] at e1
              obtain ⟨k1, hk1, e2⟩ := e1
              have hc1 : k1.cells[j]? = some sv := by
                have e3 : ((k1.cells.drop s.2.1).take s.2.2)[j - s.2.1]? = ((k.cells.drop s.2.1).take s.2.2)[j - s.2.1]? := by rw [e2]
                rw [List.getElem?_take, List.getElem?_take, if_pos (by omega), if_pos (by omega), List.getElem?_drop, List.getElem?_drop, show s.2.1 + (j - s.2.1) = j by omega, hsv] at e3
                exact e3
              obtain ⟨v0, q1, _, _⟩ := hH0.cell s.1 b k hb hk' j sv hsv
              obtain ⟨v1, r1, r2, r3⟩ := p3.cell s.1 b k1 (pre_get (hp.trans p1) hb) hk1 j sv hc1
              have := sv.inst_mono (hp.trans p1) v0 q1
              rw [r1] at this
              cases this
              exact ⟨_, q1, r2⟩
          refine ⟨hS2, ?_⟩
          exact runB_ok hLo hc hH0 hsel hQ f _ bp1 _ _ H1 ms2 _ w2 hb1 h ((hT.mono p1).putA o.dst p2) p3 (hp.trans p1) hS2 (fun ms3 a' w' q1 q2 q3 q4 q5 => hk ms3 a' w' (p1.trans q1) q2 (q3.trans (put_defers _ _ _)) q4 (p4.trans q5))
        · rename_i hw
          have hw2 := wantA_ok hT hw
          rw [hw2, if_neg (by decide)]
          refine hK _ _ ?_
          have hS2 : Saw ρ ms H0 L w ∨ (late || waits ops N i) = true := hS.imp id (fun e => by rw [e]; rfl)
          refine ⟨hS2, ?_⟩
          exact runB_ok hLo hc hH0 hsel hQ f _ bp1 _ _ H ms1 _ w hb1 h (hT.putA o.dst (v := undef) rfl) hH hp hS2 (fun ms3 a' w' q1 q2 q3 q4 q5 => hk ms3 a' w' q1 q2 (q3.trans (put_defers _ _ _)) q4 q5)
        · cases h

def evPlan (call : CallF) (P : Program) (Lo : Lore) (ops : Array Oper) (t : Tm) (H : List Blk) : Option (Tm × List Blk) :=
  match planOf P ops with
  | some (A, N, bp) =>
    match runA P Lo ops H A t [] with
    | some (t', L) => runB call P Lo ops H N L bp false t' H
    | none => none
  | none => evDraw call P Lo ops t H
theorem evPlan_any {P : Program} {ρ : Env} {Lo : Lore} (hLo : LoreOk ρ Lo) {call : CallF} (hc : CallOk P ρ call) {ops : Array Oper} {Q : Exit → Act → World → Prop} {B : Nat} {ms : List Nat} {t t' : Tm} {H H' : List Blk} {a : Act} {w : World}
    (hT : RelT ρ ms t a.tmps) (hH : Holds ρ ms H B w) (h : evPlan call P Lo ops t H = some (t', H'))
    (hQ : ∀ ms' a' w', ms <+: ms' → RelT ρ ms' t' a'.tmps → a'.defers = a.defers → Holds ρ ms' H' B w' → Bel B w w' → Q .normal a' w') : wpAny P .any ops (fun e a w => e = .normal ∧ Q .normal a w) ops.size (Array.replicate ops.size false) a { w with drawn := w.drawn + 1 } := by
  unfold evPlan at h
  split at h
  case h_2 => exact evDraw_any hLo hc hT hH h hQ
  rename_i A N bp hplan
  split at h
  case h_2 => cases h
  rename_i t1 L hA
  unfold planOf at hplan
  split at hplan
  case isFalse => cases hplan
  rename_i hsel
  generalize hq : planA P ops ops.size (Array.replicate ops.size false) = q at hplan
  obtain ⟨A1, f, l⟩ := q
  simp only [Option.map_eq_some_iff] at hplan
  obtain ⟨bp1, hb1, hb2⟩ := hplan
  simp only [Prod.mk.injEq] at hb2
  obtain ⟨rfl, rfl, rfl⟩ := hb2
  have hH1 := hH.drawn (w.drawn + 1)
  have hsaw : Saw ρ ms H L { w with drawn := w.drawn + 1 } := fun s _ => (hH1.sees s.1).at _ _
  refine (wpAny_of_N (S := Saw ρ ms H L) (W := waits ops (A1.filter (loadAt ops))) _ false _ _ _ ?_)
  refine runA_ok hLo hsel (fun c a w q => by cases q.1) hsaw _ _ A1 f l t t1 [] a hq (fun i hi hl => List.mem_filter.2 ⟨hi, hl⟩) hA hT fun a1 q1 q2 => ?_
  refine runB_ok hLo hc hH1 hsel (fun c a w q => by cases q.1) f l bp1 false t1 H ms a1 _ hb1 h q1 hH1 (List.prefix_refl _) (.inl hsaw) fun ms2 a' w' r1 r2 r3 r4 r5 => ⟨rfl, ?_⟩
  exact hQ ms2 a' w' r1 r2 (r3.trans q2) r4 ((Bel.drawn B w (w.drawn + 1)).trans r5)
theorem evPlan_ok {P : Program} {ρ : Env} {Lo : Lore} (hLo : LoreOk ρ Lo) {call : CallF} (hc : CallOk P ρ call) (hm : P.follows .mixedOrders = true) {ops : Array Oper} {Q : Exit → Act → World → Prop} {B : Nat} {ms : List Nat} {t t' : Tm} {H H' : List Blk} {a : Act} {w : World} (id : Nat)
    (hT : RelT ρ ms t a.tmps) (hH : Holds ρ ms H B w) (h : evPlan call P Lo ops t H = some (t', H'))
    (hQ : ∀ ms' a' w', ms <+: ms' → RelT ρ ms' t' a'.tmps → a'.defers = a.defers → Holds ρ ms' H' B w' → Bel B w w' → Q .normal a' w') : (Code.region id ops true).wp P Q a w :=
  Code.wp_mono (Q := fun e a w => e = .normal ∧ Q .normal a w) (fun e a w q => by rw [q.1]; exact q.2) (wp_region_any hm (evPlan_any hLo hc hT hH h hQ))
end Go.Proofs.Ytafdklelfcccbaa.Ev
