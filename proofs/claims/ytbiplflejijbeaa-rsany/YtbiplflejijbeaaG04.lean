/- Of the road to rsAny_holds: EvPlan, EvRun, EvFast, EvLit, GfTab, GfFun, GsB, AppI, RegLast. -/
import Derived.Test.YtbiplflejijbeaaG03
import Derived.Scope
import Derived.Test.YtbiplflejijbeaaChecked
import Derived.Test.YtbiplflejijbeaaG00
import Derived.Recover
import Derived.Laws.AppendOwn
import Derived.OrdersHeld
import Derived.Deep.RegionHeld
set_option linter.unusedVariables false
set_option linter.unusedSimpArgs false
namespace Go.Proofs.Ytbiplflejijbeaa.Ev
open Go Go.RowKit
def isLoad : Op → Bool
  | .load _ _ => true
  | _ => false
def pureOp (P : Program) : Op → Bool
  | .move _ | .assign _ | .pick _ _ _ | .load _ _ | .nilCheck _ | .binOp _ _ _ _ _ | .unOp _ _ _ | .sliceToArrayPointer _ _ | .slice _ _ _ _ _ | .fieldAddr _ _ _ | .field _ _ _ | .indexAddr _ _ _ | .index _ _ _ | .makeFunc _ _ _ | .extract _ _ | .build _ _ | .makeInterface _ _ => true
  | .convert _ d _ => match P.underlying d with | some (.int _) => true | _ => false
  | _ => false
theorem pureOp_carry {P : Program} {op : Op} (h : pureOp P op = true) : carry op = false := by
  cases op <;> first | rfl | (simp [pureOp] at h)
def loadAt (ops : Array Oper) (i : Nat) : Bool := match ops[i]? with | some o => isLoad o.op | none => false
def pickS (P : Program) (ops : Array Oper) (loads : Bool) (listed : Array Bool) : List Nat → Option Nat
  | [] => none
  | i :: r =>
    match ops[i]? with
    | some o => if pureOp P o.op && (loads || !isLoad o.op) && Region.free .any ops listed i then some i else pickS P ops loads listed r
    | none => pickS P ops loads listed r
theorem pickS_ok {P : Program} {ops : Array Oper} {loads : Bool} {listed : Array Bool} : ∀ (rd : List Nat) (i : Nat), pickS P ops loads listed rd = some i →
    i ∈ rd ∧ ∃ o, ops[i]? = some o ∧ carry o.op = false ∧ (loads = false → isLoad o.op = false) ∧ Region.free .any ops listed i = true
  | [], _, h => by simp [pickS] at h
  | j :: r, i, h => by
    have again : pickS P ops loads listed r = some i → i ∈ j :: r ∧ ∃ o, ops[i]? = some o ∧ carry o.op = false ∧ (loads = false → isLoad o.op = false) ∧ Region.free .any ops listed i = true := fun h' => by
      obtain ⟨h1, h2⟩ := pickS_ok r i h'
      exact ⟨List.mem_cons_of_mem _ h1, h2⟩
    simp only [pickS] at h
    split at h
    case h_2 => exact again h
    rename_i o ho
    split at h
    case isFalse => exact again h
    rename_i hc
    simp only [Option.some.injEq] at h
    subst h
    simp only [Bool.and_eq_true, Bool.or_eq_true, Bool.not_eq_true'] at hc
    exact ⟨List.mem_cons_self, o, ho, pureOp_carry hc.1.1, fun e => by subst e; simpa using hc.1.2, hc.2⟩
def planA (P : Program) (ops : Array Oper) : Nat → Array Bool → List Nat × Nat × Array Bool
  | 0, listed => ([], 0, listed)
  | f + 1, listed =>
    match pickS P ops true listed (Region.ready .any ops listed) with
    | some i => (i :: (planA P ops f (listed.setIfInBounds i true)).1, (planA P ops f (listed.setIfInBounds i true)).2)
    | none => ([], f + 1, listed)
def planB (P : Program) (ops : Array Oper) : Nat → Array Bool → Option (List (Nat × Bool))
  | 0, listed => match Region.ready .any ops listed with | [] => some [] | _ => none
  | f + 1, listed =>
    match Region.ready .any ops listed with
    | [] => some []
    | i0 :: rest =>
      match pickS P ops false listed (i0 :: rest) with
      | some i => (planB P ops f (listed.setIfInBounds i true)).map ((i, true) :: ·)
      | none => match rest with
        | [] => (planB P ops f (listed.setIfInBounds i0 true)).map ((i0, false) :: ·)
        | _ => none
def planOf (P : Program) (ops : Array Oper) : Option (List Nat × List Nat × List (Nat × Bool)) :=
  if Region.noSelect ops then
    match planA P ops ops.size (Array.replicate ops.size false) with
    | (A, f, l) => (planB P ops f l).map fun B => (A, A.filter (loadAt ops), B)
  else none
def spanOf (P : Program) (t : Tm) : Op → Option (Nat × Nat × Nat)
  | .load T x => (gPtr t x).map fun p => (p.1, p.2, loadLen P T)
  | _ => none
def addSpan (P : Program) (t : Tm) (op : Op) (L : List (Nat × Nat × Nat)) : List (Nat × Nat × Nat) := match spanOf P t op with | some s => s :: L | none => L
def runA (P : Program) (Lo : Lore) (ops : Array Oper) (H : List Blk) : List Nat → Tm → List (Nat × Nat × Nat) → Option (Tm × List (Nat × Nat × Nat))
  | [], t, L => some (t, L)
  | i :: r, t, L =>
    match ops[i]? with
    | some o =>
      match wantA ops t o with
      | some true =>
        match evRead P Lo t H o.op with
        | some v => runA P Lo ops H r (putA t o.dst v) (addSpan P t o.op L)
        | none => none
      | some false => runA P Lo ops H r (putA t o.dst (.tup [])) L
      | none => none
    | none => none
theorem runA_grows {P : Program} {Lo : Lore} {ops : Array Oper} {H : List Blk} : ∀ (A : List Nat) (t : Tm) (L : List (Nat × Nat × Nat)) (t' : Tm) (L' : List (Nat × Nat × Nat)), runA P Lo ops H A t L = some (t', L') → ∀ x ∈ L, x ∈ L'
  | [], t, L, t', L', h => by
    simp only [runA, Option.some.injEq, Prod.mk.injEq] at h
    obtain ⟨_, rfl⟩ := h
    exact fun _ h => h
  | i :: r, t, L, t', L', h => by
    simp only [runA] at h
    split at h
    case h_2 => cases h
    split at h
    · split at h
      · intro x hx
        refine runA_grows r _ _ _ _ h x ?_
        unfold addSpan
        split
        · exact List.mem_cons_of_mem _ hx
        · exact hx
      · cases h
    · exact runA_grows r _ _ _ _ h
    · cases h
def Saw (ρ : Env) (ms : List Nat) (H : List Blk) (L : List (Nat × Nat × Nat)) (w : World) : Prop := ∀ s ∈ L, SeesAt ρ ms H w s.1 s.2.1 s.2.2
section
variable {P : Program} {ρ : Env} {Lo : Lore} {ops : Array Oper} {Q : Exit → Act → World → Prop} {B : Nat}
theorem runA_ok (hLo : LoreOk ρ Lo) {ms : List Nat} {H : List Blk} (hsel : Region.noSelect ops = true) (hQ : ∀ c a w, ¬ Q (.panic c) a w) {N' : List Nat} {L' : List (Nat × Nat × Nat)} {w : World} (hSw : Saw ρ ms H L' w) :
    ∀ (f : Nat) (listed : Array Bool) (A : List Nat) (f' : Nat) (l' : Array Bool) (t t' : Tm) (L : List (Nat × Nat × Nat)) (a : Act), planA P ops f listed = (A, f', l') → (∀ i ∈ A, loadAt ops i = true → i ∈ N') → runA P Lo ops H A t L = some (t', L') → RelT ρ ms t a.tmps →
      (∀ a', RelT ρ ms t' a'.tmps → a'.defers = a.defers → wpN P ops Q (Saw ρ ms H L') (waits ops N') f' false l' a' w) →
      wpN P ops Q (Saw ρ ms H L') (waits ops N') f false listed a w
  | 0, listed, A, f', l', t, t', L, a, h, hN, hr, hT, hk => by
    simp only [planA, Prod.mk.injEq] at h
    obtain ⟨rfl, rfl, rfl⟩ := h
    simp only [runA, Option.some.injEq, Prod.mk.injEq] at hr
    obtain ⟨rfl, _⟩ := hr
    exact hk a hT rfl
  | f + 1, listed, A, f', l', t, t', L, a, h, hN, hr, hT, hk => by
    simp only [planA] at h
    split at h
    · rename_i i hp
      obtain ⟨p1, o, p2, p3, _, p4⟩ := pickS_ok _ _ hp
      generalize hq : planA P ops f (listed.setIfInBounds i true) = q at h
      obtain ⟨A1, f1, l1⟩ := q
      simp only [Prod.mk.injEq] at h
      obtain ⟨rfl, rfl, rfl⟩ := h
      simp only [runA, p2] at hr
      have fin : ∀ (x : AV) (L1 : List (Nat × Nat × Nat)), runA P Lo ops H A1 (putA t o.dst x) L1 = some (t', L') → ∀ u, x.inst ρ ms = some u →
          wpN P ops Q (Saw ρ ms H L') (waits ops N') f false (listed.setIfInBounds i true) (a.put o.dst u) w := fun x L1 h' u hu =>
        runA_ok hLo hsel hQ hSw f _ A1 f1 l1 _ _ _ _ hq (fun j hj => hN j (List.mem_cons_of_mem _ hj)) h' (hT.putA o.dst hu) (fun a' h1 h2 => hk a' h1 (h2.trans (put_defers _ _ _)))
      have go : ∀ (x : AV) (L1 : List (Nat × Nat × Nat)), ((wantA ops t o = some true ∧ evRead P Lo t H o.op = some x ∧ L1 = addSpan P t o.op L) ∨ (wantA ops t o = some false ∧ x = .tup [])) → runA P Lo ops H A1 (putA t o.dst x) L1 = some (t', L') → wpN P ops Q (Saw ρ ms H L') (waits ops N') (f + 1) false listed a w := by
        intro x L1 hx h'
        have hx2 : (wantA ops t o = some true ∧ evRead P Lo t H o.op = some x) ∨ (wantA ops t o = some false ∧ x = .tup []) := hx.imp (fun q => ⟨q.1, q.2.1⟩) id
        by_cases hld : isLoad o.op = true ∧ wantA ops t o = some true
        · have hin := hN i List.mem_cons_self (by unfold loadAt; rw [p2]; exact hld.1)
          have hL1 : L1 = addSpan P t o.op L := by
            rcases hx with q | q
            · exact q.2.2
            · rw [hld.2] at q; simp at q
          have hgr := runA_grows _ _ _ _ _ h'
          obtain ⟨u, e1, e2⟩ := pick_yields hLo (P := P) (ops := ops) (S := Saw ρ ms H L') hT hx2 hSw (fun w' hw' T y m c hop hg => by
            refine hw' (m, c, loadLen P T) (hgr _ ?_)
            rw [hL1]
            simp [addSpan, spanOf, hop, hg])
          exact wpN_take p2 hsel hQ (waits_carry p2 p3) f false listed a w (.inr ⟨rfl, rfl, fun j oj hj hw => waits_edge hj hw hin⟩) (Region.free_spec p2 p4) p1 e2 hSw (.inl hSw) (fin _ _ h' u e1)
        · obtain ⟨u, e1, e2⟩ : ∃ u, x.inst ρ ms = some u ∧ YieldsIf P ops (fun _ => True) o u a := by
            rcases hx2 with ⟨q1, q2⟩ | ⟨q1, q2⟩
            · refine pick_yields hLo (P := P) (ops := ops) (S := fun _ => True) (w := w) hT (.inl ⟨q1, q2⟩) trivial (fun w' _ T y m c hop hg => ?_)
              exact absurd ⟨by rw [hop]; rfl, q1⟩ hld
            · refine pick_yields hLo (P := P) (ops := ops) (S := fun _ => True) (w := w) hT (H := []) (.inr ⟨q1, q2⟩) trivial (fun w' _ T y m c hop hg b k hb hk => by simp at hk)
          exact wpN_take p2 hsel hQ (waits_carry p2 p3) f false listed a w (.inl fun _ => trivial) (Region.free_spec p2 p4) p1 e2 trivial (.inl hSw) (fin _ _ h' u e1)
      split at hr
      · rename_i hw
        split at hr
        · rename_i v hv
          exact go v _ (.inl ⟨hw, hv, rfl⟩) hr
        · cases hr
      · rename_i hw
        exact go _ _ (.inr ⟨hw, rfl⟩) hr
      · cases hr
    · simp only [Prod.mk.injEq] at h
      obtain ⟨rfl, rfl, rfl⟩ := h
      simp only [runA, Option.some.injEq, Prod.mk.injEq] at hr
      obtain ⟨rfl, _⟩ := hr
      exact hk a hT rfl
end
def cellsAt (H : List Blk) (s : Nat × Nat × Nat) : Option (List SV) := (H[s.1]?).map fun k => (k.cells.drop s.2.1).take s.2.2
def keeps (L : List (Nat × Nat × Nat)) (H0 H : List Blk) : Bool := L.all fun s => decide (cellsAt H s = cellsAt H0 s)
def runB (call : CallF) (P : Program) (Lo : Lore) (ops : Array Oper) (H0 : List Blk) (N : List Nat) (L : List (Nat × Nat × Nat)) : List (Nat × Bool) → Bool → Tm → List Blk → Option (Tm × List Blk)
  | [], _, t, H => some (t, H)
  | (i, true) :: r, late, t, H =>
    match ops[i]? with
    | some o =>
      match wantA ops t o with
      | some true => match evRead P Lo t [] o.op with | some v => runB call P Lo ops H0 N L r late (putA t o.dst v) H | none => none
      | some false => runB call P Lo ops H0 N L r late (putA t o.dst (.tup [])) H
      | none => none
    | none => none
  | (i, false) :: r, late, t, H =>
    match ops[i]? with
    | some o =>
      match wantA ops t o with
      | some true =>
        match evStep call P Lo t H o with
        | some (v, H') => if late || waits ops N i || keeps L H0 H' then runB call P Lo ops H0 N L r (late || waits ops N i) (putA t o.dst v) H' else none
        | none => none
      | some false => runB call P Lo ops H0 N L r (late || waits ops N i) (putA t o.dst (.tup [])) H
      | none => none
    | none => none
theorem runB_ok {P : Program} {ρ : Env} {Lo : Lore} (hLo : LoreOk ρ Lo) {call : CallF} (hc : CallOk P ρ call) {ops : Array Oper} {Q : Exit → Act → World → Prop} {B : Nat} {ms : List Nat} {H0 : List Blk} {w0 : World} (hH0 : Holds ρ ms H0 B w0) (hsel : Region.noSelect ops = true) (hQ : ∀ c a w, ¬ Q (.panic c) a w) {N : List Nat} {L : List (Nat × Nat × Nat)} {tF : Tm} {HF : List Blk} :
    ∀ (f : Nat) (listed : Array Bool) (bp : List (Nat × Bool)) (late : Bool) (t : Tm) (H : List Blk) (ms1 : List Nat) (a : Act) (w : World), planB P ops f listed = some bp → runB call P Lo ops H0 N L bp late t H = some (tF, HF) → RelT ρ ms1 t a.tmps → Holds ρ ms1 H B w → ms <+: ms1 →
      (Saw ρ ms H0 L w ∨ late = true) →
      (∀ ms2 a' w', ms1 <+: ms2 → RelT ρ ms2 tF a'.tmps → a'.defers = a.defers → Holds ρ ms2 HF B w' → Bel B w w' → Q .normal a' w') →
      wpN P ops Q (Saw ρ ms H0 L) (waits ops N) f late listed a w
  | 0, listed, bp, late, t, H, ms1, a, w, hp0, h, hT, hH, hp, hS, hk => by
    simp only [planB] at hp0
    split at hp0
    · rename_i hr
      simp only [Option.some.injEq] at hp0
      subst hp0
      simp only [runB, Option.some.injEq, Prod.mk.injEq] at h
      obtain ⟨rfl, rfl⟩ := h
      exact ⟨hr, hk ms1 a w (List.prefix_refl _) hT rfl hH (Bel.refl _ _)⟩
    · cases hp0
  | f + 1, listed, bp, late, t, H, ms1, a, w, hp0, h, hT, hH, hp, hS, hk => by
    simp only [planB] at hp0
    split at hp0
    · rename_i hr
      simp only [Option.some.injEq] at hp0
      subst hp0
      simp only [runB, Option.some.injEq, Prod.mk.injEq] at h
      obtain ⟨rfl, rfl⟩ := h
      exact ⟨fun _ => hk ms1 a w (List.prefix_refl _) hT rfl hH (Bel.refl _ _), fun i hi => by rw [hr] at hi; cases hi⟩
    · rename_i i0 rest hr
      split at hp0
      · rename_i i hpk
        obtain ⟨p1, o, p2, p3, p5, p4⟩ := pickS_ok _ _ hpk
        rw [Option.map_eq_some_iff] at hp0
        obtain ⟨bp1, hb1, rfl⟩ := hp0
        simp only [runB, p2] at h
        have go : ∀ x : AV, ((wantA ops t o = some true ∧ evRead P Lo t [] o.op = some x) ∨ (wantA ops t o = some false ∧ x = .tup [])) → runB call P Lo ops H0 N L bp1 late (putA t o.dst x) H = some (tF, HF) → wpN P ops Q (Saw ρ ms H0 L) (waits ops N) (f + 1) late listed a w := by
          intro x hx h'
          obtain ⟨u, e1, e2⟩ := pick_yields hLo (P := P) (ops := ops) (S := fun _ => True) (w := w) hT hx trivial (fun w' _ T y m c hop hg b k hb hk => by simp at hk)
          refine wpN_take p2 hsel hQ (waits_carry p2 p3) f late listed a w (.inl fun _ => trivial) (Region.free_spec p2 p4) (by rw [hr]; exact p1) e2 trivial hS ?_
          exact runB_ok hLo hc hH0 hsel hQ f _ bp1 late _ H ms1 _ w hb1 h' (hT.putA o.dst e1) hH hp hS (fun ms2 a' w' q1 q2 q3 q4 q5 => hk ms2 a' w' q1 q2 (q3.trans (put_defers _ _ _)) q4 q5)
        split at h
        · rename_i hw
          split at h
          · rename_i v hv
            exact go v (.inl ⟨hw, hv⟩) h
          · cases h
        · rename_i hw
          exact go _ (.inr ⟨hw, rfl⟩) h
        · cases h
      · split at hp0
        case h_2 => cases hp0
        rw [Option.map_eq_some_iff] at hp0
        obtain ⟨bp1, hb1, rfl⟩ := hp0
        simp only [runB] at h
        split at h
        case h_2 => cases h
        rename_i o ho
        refine ⟨fun h0 => (by rw [hr] at h0; cases h0), fun i hi => ?_⟩
        rw [hr] at hi
        obtain rfl : i = i0 := by simpa using hi
        refine wpOp_step ho fun K hK => ?_
        split at h
        · rename_i hw
          have hw2 := wantA_ok hT hw
          rw [hw2, if_pos rfl]
          split at h
          case h_2 => cases h
          rename_i v H1 hs
          split at h
          case isFalse => cases h
          rename_i hcond
          refine evStep_ok hLo hc hT hH hs fun ms2 u w2 p1 p2 p3 p4 => hK _ _ ?_
          have hS2 : Saw ρ ms H0 L w2 ∨ (late || waits ops N i) = true := by
            rw [Bool.or_eq_true] at hcond
            rcases hcond with hcond | hcond
            · exact .inr hcond
            · refine .inl fun s hs' b k hb hk' j sv h1 h2 hsv => ?_
              have e1 : cellsAt H1 s = cellsAt H0 s := by
                have := List.all_eq_true.1 hcond s hs'
                simpa using this
              simp only [cellsAt, hk', Option.map_some, Option.map_eq_some_iff] at e1
              obtain ⟨k1, hk1, e2⟩ := e1
              have hc1 : k1.cells[j]? = some sv := by
                have e3 : ((k1.cells.drop s.2.1).take s.2.2)[j - s.2.1]? = ((k.cells.drop s.2.1).take s.2.2)[j - s.2.1]? := by rw [e2]
                rw [List.getElem?_take, List.getElem?_take, if_pos (by omega), if_pos (by omega), List.getElem?_drop, List.getElem?_drop, show s.2.1 + (j - s.2.1) = j by omega, hsv] at e3
                exact e3
              obtain ⟨v0, q1, _, _⟩ := hH0.cell s.1 b k hb hk' j sv hsv
              obtain ⟨v1, r1, r2, r3⟩ := p3.cell s.1 b k1 (pre_get (hp.trans p1) hb) hk1 j sv hc1
              have := sv.inst_mono (hp.trans p1) v0 q1
              rw [r1] at this
              cases this
              exact ⟨_, q1, r2⟩
          refine ⟨hS2, ?_⟩
          exact runB_ok hLo hc hH0 hsel hQ f _ bp1 _ _ H1 ms2 _ w2 hb1 h ((hT.mono p1).putA o.dst p2) p3 (hp.trans p1) hS2 (fun ms3 a' w' q1 q2 q3 q4 q5 => hk ms3 a' w' (p1.trans q1) q2 (q3.trans (put_defers _ _ _)) q4 (p4.trans q5))
        · rename_i hw
          have hw2 := wantA_ok hT hw
          rw [hw2, if_neg (by decide)]
          refine hK _ _ ?_
          have hS2 : Saw ρ ms H0 L w ∨ (late || waits ops N i) = true := hS.imp id (fun e => by rw [e]; rfl)
          refine ⟨hS2, ?_⟩
          exact runB_ok hLo hc hH0 hsel hQ f _ bp1 _ _ H ms1 _ w hb1 h (hT.putA o.dst (v := undef) rfl) hH hp hS2 (fun ms3 a' w' q1 q2 q3 q4 q5 => hk ms3 a' w' q1 q2 (q3.trans (put_defers _ _ _)) q4 q5)
        · cases h
def evPlan (call : CallF) (P : Program) (Lo : Lore) (ops : Array Oper) (t : Tm) (H : List Blk) : Option (Tm × List Blk) :=
  match planOf P ops with
  | some (A, N, bp) =>
    match runA P Lo ops H A t [] with
    | some (t', L) => runB call P Lo ops H N L bp false t' H
    | none => none
  | none => evDraw call P Lo ops t H
theorem evPlan_any {P : Program} {ρ : Env} {Lo : Lore} (hLo : LoreOk ρ Lo) {call : CallF} (hc : CallOk P ρ call) {ops : Array Oper} {Q : Exit → Act → World → Prop} {B : Nat} {ms : List Nat} {t t' : Tm} {H H' : List Blk} {a : Act} {w : World}
    (hT : RelT ρ ms t a.tmps) (hH : Holds ρ ms H B w) (h : evPlan call P Lo ops t H = some (t', H'))
    (hQ : ∀ ms' a' w', ms <+: ms' → RelT ρ ms' t' a'.tmps → a'.defers = a.defers → Holds ρ ms' H' B w' → Bel B w w' → Q .normal a' w') : wpAny P .any ops (fun e a w => e = .normal ∧ Q .normal a w) ops.size (Array.replicate ops.size false) a { w with drawn := w.drawn + 1 } := by
  unfold evPlan at h
  split at h
  case h_2 => exact evDraw_any hLo hc hT hH h hQ
  rename_i A N bp hplan
  split at h
  case h_2 => cases h
  rename_i t1 L hA
  unfold planOf at hplan
  split at hplan
  case isFalse => cases hplan
  rename_i hsel
  generalize hq : planA P ops ops.size (Array.replicate ops.size false) = q at hplan
  obtain ⟨A1, f, l⟩ := q
  simp only [Option.map_eq_some_iff] at hplan
  obtain ⟨bp1, hb1, hb2⟩ := hplan
  simp only [Prod.mk.injEq] at hb2
  obtain ⟨rfl, rfl, rfl⟩ := hb2
  have hH1 := hH.drawn (w.drawn + 1)
  have hsaw : Saw ρ ms H L { w with drawn := w.drawn + 1 } := fun s _ => (hH1.sees s.1).at _ _
  refine (wpAny_of_N (S := Saw ρ ms H L) (W := waits ops (A1.filter (loadAt ops))) _ false _ _ _ ?_)
  refine runA_ok hLo hsel (fun c a w q => by cases q.1) hsaw _ _ A1 f l t t1 [] a hq (fun i hi hl => List.mem_filter.2 ⟨hi, hl⟩) hA hT fun a1 q1 q2 => ?_
  refine runB_ok hLo hc hH1 hsel (fun c a w q => by cases q.1) f l bp1 false t1 H ms a1 _ hb1 h q1 hH1 (List.prefix_refl _) (.inl hsaw) fun ms2 a' w' r1 r2 r3 r4 r5 => ⟨rfl, ?_⟩
  exact hQ ms2 a' w' r1 r2 (r3.trans q2) r4 ((Bel.drawn B w (w.drawn + 1)).trans r5)
theorem evPlan_ok {P : Program} {ρ : Env} {Lo : Lore} (hLo : LoreOk ρ Lo) {call : CallF} (hc : CallOk P ρ call) (hm : P.follows .mixedOrders = true) {ops : Array Oper} {Q : Exit → Act → World → Prop} {B : Nat} {ms : List Nat} {t t' : Tm} {H H' : List Blk} {a : Act} {w : World} (id : Nat)
    (hT : RelT ρ ms t a.tmps) (hH : Holds ρ ms H B w) (h : evPlan call P Lo ops t H = some (t', H'))
    (hQ : ∀ ms' a' w', ms <+: ms' → RelT ρ ms' t' a'.tmps → a'.defers = a.defers → Holds ρ ms' H' B w' → Bel B w w' → Q .normal a' w') : (Code.region id ops true).wp P Q a w :=
  Code.wp_mono (Q := fun e a w => e = .normal ∧ Q .normal a w) (fun e a w q => by rw [q.1]; exact q.2) (wp_region_any hm (evPlan_any hLo hc hT hH h hQ))
end Go.Proofs.Ytbiplflejijbeaa.Ev
namespace Go.Proofs.Ytbiplflejijbeaa.Ev
open Go Go.RowKit
inductive Out where
  | normal
  | exit (id : Nat)
  | ret
  deriving DecidableEq, Repr, Inhabited
def Out.to : Out → Exit
  | .normal => .normal
  | .exit i => .exit i
  | .ret => .ret
abbrev CodeF := Code → Tm → List Blk → Option (Out × Tm × List Blk)
abbrev ConF := Nat → List AV → List Blk → Option AV
def callStep (P : Program) (con : ConF) (self : CodeF) : CallF := fun g aas H =>
  match con g aas H with
  | some v => some (v, H)
  | none =>
    match P.funcs[g]? with
    | some fn =>
      match fn.body with
      | some c =>
        match Nat.ble fn.ntmps 512 && Nat.ble aas.length fn.ntmps with
        | true =>
          match self c (Tm.make fn.ntmps aas) H with
          | some (.normal, t, H') => (evResults P fn t H').map fun v => (v, trim H.length v H')
          | some (.ret, t, H') => (evResults P fn t H').map fun v => (v, trim H.length v H')
          | _ => none
        | false => none
      | none => none
    | none => none
def codeStep (P : Program) (L : Lore) (call : CallF) (self : CodeF) : CodeF := fun c t H =>
  match c with
  | .skip => some (.normal, t, H)
  | .region _ ops false => (evOps call P L ops ops.toList t H).map fun r => (.normal, r.1, r.2)
  | .region _ ops true => (evPlan call P L ops t H).map fun r => (.normal, r.1, r.2)
  | .seq a b =>
    match self a t H with
    | some (.normal, t', H') => self b t' H'
    | r => r
  | .cond c x y =>
    match evGet t c with
    | some (.tv (.sc (.bool true))) => self x t H
    | some (.tv (.sc (.bool false))) => self y t H
    | _ => none
  | .block id c =>
    match self c t H with
    | some (.exit i, t', H') => if i = id then some (.normal, t', H') else some (.exit i, t', H')
    | r => r
  | .loop c =>
    match self c t H with
    | some (.normal, t', H') => self (.loop c) t' H'
    | r => r
  | .exit id => some (.exit id, t, H)
  | .ret => some (.ret, t, H)
  | .label _ => some (.normal, t, H)
  | .scope c => self c t H
  | _ => none
def evG (P : Program) (L : Lore) (mk : CodeF → CallF) : Nat → CodeF
  | 0 => fun _ _ _ => none
  | n + 1 => codeStep P L (mk (evG P L mk n)) (evG P L mk n)
def evC (P : Program) (L : Lore) (con : ConF) : Nat → CodeF := evG P L (callStep P con)
def evCall (P : Program) (L : Lore) (con : ConF) (n : Nat) : CallF := callStep P con (evC P L con n)
def ConOk (P : Program) (ρ : Env) (con : ConF) : Prop :=
  ∀ g aas H v, con g aas H = some v → ∀ (ms : List Nat) (B : Nat) (w : World) (args : Array Value), aas.map (AV.inst ρ ms) = args.toList.map some → Holds ρ ms H B w →
    Calls P g args w fun e w' => ∃ u, e = .returned u ∧ v.inst ρ ms = some u ∧ Below w.heap.size w w'
def CodeOk (P : Program) (ρ : Env) (self : CodeF) : Prop :=
  ∀ c t H o t' H', self c t H = some (o, t', H') → ∀ (ms : List Nat) (B : Nat) (a : Act) (w : World) (Q : Exit → Act → World → Prop), RelT ρ ms t a.tmps → Holds ρ ms H B w →
    (∀ ms' a' w', ms <+: ms' → RelT ρ ms' t' a'.tmps → a'.defers = a.defers → Holds ρ ms' H' B w' → Bel B w w' → Q o.to a' w') → c.wp P Q a w
theorem Holds.below {ρ : Env} {ms : List Nat} {H : List Blk} {B : Nat} {w w' : World} (h : Holds ρ ms H B w) (hb : Below w.heap.size w w') : Holds ρ ms H B w' where
  len := h.len
  gl := h.gl
  inj := h.inj
  low := h.low
  bnd := fun i b k hi hk hne => Nat.lt_of_lt_of_le (h.bnd i b k hi hk hne) hb.size
  big := Nat.le_trans h.big hb.size
  plain := h.plain
  cell := fun i b k hi hk j s hs => by
    obtain ⟨v, h1, h2, h3⟩ := h.cell i b k hi hk j s hs
    have := hb.block b (h.bnd i b k hi hk (mem_nil_of_get hs))
    refine ⟨v, h1, ?_, fun hr => ?_⟩
    · rw [← h2]; unfold World.cell?; rw [this]
    · rw [← h3 hr]; unfold World.frozen?; rw [this]
  room := fun i b c k0 k hi hc hk0 hr0 hn0 hk hcap j hj => by
    obtain ⟨e1, e2⟩ := h.room i b c k0 k hi hc hk0 hr0 hn0 hk hcap j hj
    have hlt : b < w.heap.size := by
      cases hx : w.cell? ⟨b, j, none⟩ with
      | none => rw [hx] at e1; simp at e1
      | some x => exact World.block_lt_of_cell? w _ hx
    have := hb.block b hlt
    refine ⟨?_, ?_⟩
    · rw [← e1]; unfold World.cell?; rw [this]
    · rw [← e2]; unfold World.frozen?; rw [this]
theorem callStep_ok {P : Program} {ρ : Env} {con : ConF} {self : CodeF} (hcon : ConOk P ρ con) (hs : CodeOk P ρ self) : CallOk P ρ (callStep P con self) := by
  intro g aas H v H' h ms B w args hargs hH
  unfold callStep at h
  split at h
  · rename_i v' hc
    simp only [Option.some.injEq, Prod.mk.injEq] at h
    obtain ⟨rfl, rfl⟩ := h
    refine (hcon g aas H v' hc ms B w args hargs hH).mono ?_
    rintro e w' ⟨u, rfl, h1, h2⟩
    exact ⟨ms, u, rfl, List.prefix_refl _, h1, hH.below h2, (Bel.all h2).mono hH.big⟩
  · split at h
    case h_2 => cases h
    rename_i fn hfn
    split at h
    case h_2 => cases h
    rename_i c hb
    split at h
    case h_2 => cases h
    rename_i hbd
    rw [Bool.and_eq_true] at hbd
    have hT : RelT ρ ms (Tm.make fn.ntmps aas) (args ++ Array.replicate (fn.ntmps - args.size) undef) := RelT.make hargs (Nat.le_of_ble_eq_true hbd.1) (Nat.le_of_ble_eq_true hbd.2) hH.gl
    have fin : ∀ (o : Out) t H1, (o = .normal ∨ o = .ret) → self c (Tm.make fn.ntmps aas) H = some (o, t, H1) → (evResults P fn t H1).map (fun v => (v, trim H.length v H1)) = some (v, H') →
        Calls P g args w fun e w' => ∃ ms' u, e = .returned u ∧ ms <+: ms' ∧ v.inst ρ ms' = some u ∧ Holds ρ ms' H' B w' ∧ Bel B w w' := by
      intro o t H1 ho hrun hres
      rw [Option.map_eq_some_iff] at hres
      obtain ⟨v', hr, hv⟩ := hres
      simp only [Prod.mk.injEq] at hv
      obtain ⟨rfl, rfl⟩ := hv
      refine calls_of_wp hfn hb ?_
      refine hs c _ H o t H1 hrun ms B _ w _ hT hH fun ms' a' w' q1 q2 q3 q4 q5 => ?_
      obtain ⟨u, e1, e2⟩ := evResults_ok q2 q4 hr
      obtain ⟨ms2, r1, r2, r3⟩ := trim_ok q1 hH.gl hH.len e1 q4
      have : a'.defers = [] ∧ ∃ v, (results fn a'.tmps).run P w' = .ok v w' ∧ ∃ ms' u, (Ending.returned v) = .returned u ∧ ms <+: ms' ∧ v'.inst ρ ms' = some u ∧ Holds ρ ms' (trim H.length v' H1) B w' ∧ Bel B w w' :=
        ⟨q3, u, e2, ms2, u, rfl, r1, r2, r3, q5⟩
      rcases ho with rfl | rfl
      · exact this
      · exact this
    split at h
    · rename_i t H1 hr
      exact fin .normal t H1 (.inl rfl) hr h
    · rename_i t H1 hr
      exact fin .ret t H1 (.inr rfl) hr h
    · cases h
theorem has_least {p : Nat → Prop} (h : ∃ k, p k) : ∃ k, p k ∧ ∀ j, p j → k ≤ j := by
  obtain ⟨k, hk⟩ := h
  induction k using Nat.strongRecOn with
  | _ k ih =>
    by_cases hj : ∃ j, j < k ∧ p j
    · obtain ⟨j, h1, h2⟩ := hj
      exact ih j h1 h2
    · exact ⟨k, hk, fun j h => Nat.le_of_not_lt fun h1 => hj ⟨j, h1, h⟩⟩
theorem evG_ok {P : Program} {ρ : Env} {L : Lore} (hL : LoreOk ρ L) {mk : CodeF → CallF} (hmk : ∀ self, CodeOk P ρ self → CallOk P ρ (mk self)) (hm : P.follows .mixedOrders = true) : ∀ n, CodeOk P ρ (evG P L mk n) := by
  intro n
  induction n using Nat.strongRecOn with
  | _ n ih =>
    cases n with
    | zero => intro c t H o t' H' h; simp [evG] at h
    | succ n =>
      have ihn := ih n (by omega)
      have hcall : CallOk P ρ (mk (evG P L mk n)) := hmk _ ihn
      intro c t H o t' H' h ms B a w Q hT hH hQ
      rw [evG] at h
      unfold codeStep at h
      split at h
      · -- skip
        simp only [Option.some.injEq, Prod.mk.injEq] at h
        obtain ⟨rfl, rfl, rfl⟩ := h
        exact wp_skip (hQ ms a w (List.prefix_refl _) hT rfl hH (Bel.refl _ _))
      · -- a region
        rw [Option.map_eq_some_iff] at h
        obtain ⟨r, h1, h2⟩ := h
        simp only [Prod.mk.injEq] at h2
        obtain ⟨rfl, rfl, rfl⟩ := h2
        exact wp_region_list (evOps_ok hL hcall _ ms t H a w r.1 r.2 hT hH h1 fun ms' a' w' q1 q2 q3 q4 q5 => hQ ms' a' w' q1 q2 q3 q4 q5)
      · -- a region whose order is open
        rw [Option.map_eq_some_iff] at h
        obtain ⟨r, h1, h2⟩ := h
        simp only [Prod.mk.injEq] at h2
        obtain ⟨rfl, rfl, rfl⟩ := h2
        exact evPlan_ok hL hcall hm _ hT hH h1 fun ms' a' w' q1 q2 q3 q4 q5 => hQ ms' a' w' q1 q2 q3 q4 q5
      · -- one behind the other
        rename_i x y
        split at h
        · rename_i t1 H1 h1
          refine wp_seq (ihn x t H .normal t1 H1 h1 ms B a w _ hT hH fun ms1 a1 w1 q1 q2 q3 q4 q5 => ?_)
          exact ihn y t1 H1 o t' H' h ms1 B a1 w1 Q q2 q4 fun ms2 a2 w2 r1 r2 r3 r4 r5 => hQ ms2 a2 w2 (q1.trans r1) r2 (r3.trans q3) r4 (q5.trans r5)
        · rename_i hne
          have hno : o ≠ .normal := fun e => by subst e; exact hne t' H' h
          refine wp_seq (ihn x t H o t' H' h ms B a w _ hT hH fun ms1 a1 w1 q1 q2 q3 q4 q5 => ?_)
          have := hQ ms1 a1 w1 q1 q2 q3 q4 q5
          cases o with
          | normal => exact absurd rfl hno
          | exit i => exact this
          | ret => exact this
      · -- a choice
        rename_i cc x y
        split at h
        · rename_i hc
          have e := evGet_ok hT hc
          simp only [AV.inst, TV.inst, SV.inst, Option.some.injEq] at e
          exact wp_cond_true e.symm (ihn x t H o t' H' h ms B a w Q hT hH hQ)
        · rename_i hc
          have e := evGet_ok hT hc
          simp only [AV.inst, TV.inst, SV.inst, Option.some.injEq] at e
          exact wp_cond_false e.symm (ihn y t H o t' H' h ms B a w Q hT hH hQ)
        · cases h
      · -- a block
        rename_i id x
        split at h
        · rename_i i t1 H1 h1
          refine wp_block (ihn x t H (.exit i) t1 H1 h1 ms B a w _ hT hH fun ms1 a1 w1 q1 q2 q3 q4 q5 => ?_)
          simp only [Out.to, Exit.inBlock]
          split at h
          · rename_i e
            rw [if_pos e]
            simp only [Option.some.injEq, Prod.mk.injEq] at h
            obtain ⟨rfl, rfl, rfl⟩ := h
            exact hQ ms1 a1 w1 q1 q2 q3 q4 q5
          · rename_i e
            rw [if_neg e]
            simp only [Option.some.injEq, Prod.mk.injEq] at h
            obtain ⟨rfl, rfl, rfl⟩ := h
            exact hQ ms1 a1 w1 q1 q2 q3 q4 q5
        · rename_i hne
          refine wp_block (ihn x t H o t' H' h ms B a w _ hT hH fun ms1 a1 w1 q1 q2 q3 q4 q5 => ?_)
          have := hQ ms1 a1 w1 q1 q2 q3 q4 q5
          cases o with
          | normal => exact this
          | exit i => exact absurd h (hne i t' H')
          | ret => exact this
      · -- a loop
        rename_i x
        have start : evG P L mk (n + 1) (.loop x) t H = some (o, t', H') := by rw [evG]; exact h
        let R : Nat → Act → World → Prop := fun k a1 w1 => k ≤ n + 1 ∧ ∃ ms1 t1 H1, evG P L mk k (.loop x) t1 H1 = some (o, t', H') ∧ ms <+: ms1 ∧ RelT ρ ms1 t1 a1.tmps ∧ a1.defers = a.defers ∧ Holds ρ ms1 H1 B w1 ∧ Bel B w w1
        classical
        refine wp_loop (fun a1 w1 => ∃ k, R k a1 w1) (fun a1 w1 => if hx : ∃ k, R k a1 w1 then Classical.choose (has_least hx) else 0) ⟨n + 1, Nat.le_refl _, ms, t, H, start, List.prefix_refl _, hT, rfl, hH, Bel.refl _ _⟩ ?_
        intro a1 w1 hI
        have hmin := (Classical.choose_spec (has_least hI)).1
        have hall := (Classical.choose_spec (has_least hI)).2
        generalize hk : Classical.choose (has_least hI) = k at hmin hall
        obtain ⟨hle, ms1, t1, H1, hev, p1, p2, p3, p4, p5⟩ := hmin
        cases k with
        | zero => simp [evG] at hev
        | succ k =>
          have ihk := ih k (by omega)
          rw [evG] at hev
          simp only [codeStep] at hev
          split at hev
          · rename_i t2 H2 h2
            refine ihk x t1 H1 .normal t2 H2 h2 ms1 B a1 w1 _ p2 p4 fun ms2 a2 w2 q1 q2 q3 q4 q5 => ?_
            have hR : R k a2 w2 := ⟨by omega, ms2, t2, H2, hev, p1.trans q1, q2, q3.trans p3, q4, p5.trans q5⟩
            have hE : ∃ j, R j a2 w2 := ⟨k, hR⟩
            refine ⟨hE, ?_⟩
            rw [dif_pos hE, dif_pos hI, hk]
            exact Nat.lt_succ_of_le ((Classical.choose_spec (has_least hE)).2 k hR)
          · rename_i hne
            refine ihk x t1 H1 o t' H' hev ms1 B a1 w1 _ p2 p4 fun ms2 a2 w2 q1 q2 q3 q4 q5 => ?_
            have := hQ ms2 a2 w2 (p1.trans q1) q2 (q3.trans p3) q4 (p5.trans q5)
            cases o with
            | normal => exact absurd hev (hne t' H')
            | exit i => exact this
            | ret => exact this
      · simp only [Option.some.injEq, Prod.mk.injEq] at h
        obtain ⟨rfl, rfl, rfl⟩ := h
        exact wp_exit (hQ ms a w (List.prefix_refl _) hT rfl hH (Bel.refl _ _))
      · simp only [Option.some.injEq, Prod.mk.injEq] at h
        obtain ⟨rfl, rfl, rfl⟩ := h
        exact wp_ret (hQ ms a w (List.prefix_refl _) hT rfl hH (Bel.refl _ _))
      · simp only [Option.some.injEq, Prod.mk.injEq] at h
        obtain ⟨rfl, rfl, rfl⟩ := h
        exact wp_label (hQ ms a w (List.prefix_refl _) hT rfl hH (Bel.refl _ _))
      · refine wp_scope_straight (ihn _ t H o t' H' h ms B a w _ hT hH fun ms2 a2 w2 q1 q2 q3 q4 q5 => ?_)
        have := hQ ms2 a2 w2 q1 q2 q3 q4 q5
        cases o <;> exact this
      · cases h
theorem evC_ok {P : Program} {ρ : Env} {L : Lore} (hL : LoreOk ρ L) {con : ConF} (hcon : ConOk P ρ con) (hm : P.follows .mixedOrders = true) : ∀ n, CodeOk P ρ (evC P L con n) := evG_ok hL (fun _ hs => callStep_ok hcon hs) hm
theorem evCall_ok {P : Program} {ρ : Env} {L : Lore} (hL : LoreOk ρ L) {con : ConF} (hcon : ConOk P ρ con) (hm : P.follows .mixedOrders = true) (n : Nat) : CallOk P ρ (evCall P L con n) := callStep_ok hcon (evC_ok hL hcon hm n)
def noLore : Lore := ⟨fun _ _ _ => none, id, fun _ _ => none⟩
theorem noLore_ok (ρ : Env) : LoreOk ρ noLore := ⟨fun _ _ _ _ h => by simp [noLore] at h, fun _ => rfl, fun _ _ _ h => by simp [noLore] at h⟩
def noCon : ConF := fun _ _ _ => none
theorem noCon_ok (P : Program) (ρ : Env) : ConOk P ρ noCon := fun _ _ _ _ h => by simp [noCon] at h
def ms0 : List Nat := List.range nGl
def H0 : List Blk := List.replicate nGl dead
theorem gl0 : Gl ms0 := fun g hg => by simp [ms0, hg]
theorem holds_nil (ρ : Env) (w : World) : Holds ρ ms0 H0 w.heap.size w := by
  have hd : ∀ (i : Nat) (k : Blk), H0[i]? = some k → k = dead := fun i k hk => by
    have := List.mem_of_getElem? hk
    unfold H0 at this
    exact (List.mem_replicate.1 this).2
  refine ⟨by simp [ms0, H0], gl0, ?_, ?_, ?_, Nat.le_refl _, ?_, ?_, ?_⟩
  · intro i j b k k' _ _ hk _ hne; exact absurd (by rw [hd i k hk]; rfl) hne
  · intro i b k _ hk hr; rw [hd i k hk] at hr; simp [dead] at hr
  · intro i b k _ hk hne; exact absurd (by rw [hd i k hk]; rfl) hne
  · intro i k hk _; rw [hd i k hk]; rfl
  · intro i b k _ hk j s hs; rw [hd i k hk] at hs; simp [dead] at hs
  · intro i b c k0 k _ _ _ _ _ hk hcap; rw [hd _ k hk] at hcap; simp [dead] at hcap
theorem calls_of_evH {P : Program} {ρ : Env} {L : Lore} (hL : LoreOk ρ L) {con : ConF} (hcon : ConOk P ρ con) (hm : P.follows .mixedOrders = true) (n : Nat) {g : Nat} {aas : List AV} {v : AV} {ms : List Nat} {H H' : List Blk} (h : evCall P L con n g aas H = some (v, H')) {args : Array Value} (w : World) (ha : aas.map (AV.inst ρ ms) = args.toList.map some) (hH : Holds ρ ms H w.heap.size w) :
    Calls P g args w fun e w' => ∃ ms' u, e = .returned u ∧ ms <+: ms' ∧ v.inst ρ ms' = some u ∧ Holds ρ ms' H' w.heap.size w' ∧ Below w.heap.size w w' :=
  (evCall_ok hL hcon hm n g aas H v H' h ms w.heap.size w args ha hH).mono fun _ _ ⟨ms', u, h1, h2, h3, h4, h5⟩ => ⟨ms', u, h1, h2, h3, h4, h5.toBelow⟩
theorem calls_of_ev {P : Program} {ρ : Env} {L : Lore} (hL : LoreOk ρ L) {con : ConF} (hcon : ConOk P ρ con) (hm : P.follows .mixedOrders = true) (n : Nat) {g : Nat} {aas : List AV} {v : AV} {H' : List Blk} (h : evCall P L con n g aas [] = some (v, H')) {args : Array Value} (w : World) (ha : aas.map (AV.inst ρ []) = args.toList.map some) :
    Calls P g args w fun e w' => ∃ ms u, e = .returned u ∧ v.inst ρ ms = some u ∧ Holds ρ ms H' w.heap.size w' ∧ Below w.heap.size w w' :=
  (calls_of_evH (ms := ms0) (H := H0) hL hcon hm n h w ha (holds_nil ρ w)).mono fun _ _ ⟨ms, u, h1, _, h2, h3, h4⟩ => ⟨ms, u, h1, h2, h3, h4⟩
noncomputable section
def Ex.asLit (e : Ex) : Option Int := Ex.casesOn (motive := fun _ => Option Int) e some (fun _ => none) (fun _ _ _ _ => none) (fun _ _ _ _ => none) (fun _ _ _ => none) (fun _ _ => none) (fun _ _ => none) (fun _ _ _ => none)
theorem Ex.asLit_eq {e : Ex} {n : Int} (h : e.asLit = some n) : e = .lit n := by
  cases e <;> first | (cases h; rfl) | (cases h)
def SV.asInt (s : SV) : Option (IntKind × Ex) := SV.casesOn (motive := fun _ => Option (IntKind × Ex)) s (fun k e => some (k, e)) (fun _ => none) none (fun _ _ => none) none (fun _ _ => none) (fun _ _ _ _ => none) (fun _ _ _ _ => none) (fun _ => none) (fun _ _ => none) (fun _ => none) none (fun _ _ _ => none) (fun _ => none) (fun _ _ _ _ => none) (fun _ _ => none) (fun _ _ _ => none) none
theorem SV.asInt_eq {s : SV} {k : IntKind} {e : Ex} (h : s.asInt = some (k, e)) : s = .int k e := by
  cases s <;> first | (cases h; rfl) | (cases h)
def SV.asPtr (s : SV) : Option (Nat × Nat) := SV.casesOn (motive := fun _ => Option (Nat × Nat)) s (fun _ _ => none) (fun _ => none) none (fun _ _ => none) none (fun n o => some (n, o)) (fun _ _ _ _ => none) (fun _ _ _ _ => none) (fun _ => none) (fun _ _ => none) (fun _ => none) none (fun _ _ _ => none) (fun _ => none) (fun _ _ _ _ => none) (fun _ _ => none) (fun _ _ _ => none) none
def SV.asSl (s : SV) : Option (Nat × Nat × Nat) := SV.casesOn (motive := fun _ => Option (Nat × Nat × Nat)) s (fun _ _ => none) (fun _ => none) none (fun _ _ => none) none (fun _ _ => none) (fun n o l _ => some (n, o, l)) (fun n o _ l => some (n, o, l)) (fun _ => none) (fun _ _ => none) (fun _ => none) none (fun _ _ _ => none) (fun _ => none) (fun _ _ _ _ => none) (fun _ _ => none) (fun _ _ _ => none) none
def SV.asBool (s : SV) : Option Bool := SV.casesOn (motive := fun _ => Option Bool) s (fun _ _ => none) some none (fun _ _ => none) none (fun _ _ => none) (fun _ _ _ _ => none) (fun _ _ _ _ => none) (fun _ => none) (fun _ _ => none) (fun _ => none) none (fun _ _ _ => none) (fun _ => none) (fun _ _ _ _ => none) (fun _ _ => none) (fun _ _ _ => none) none
def AV.asSV (v : AV) : Option SV := AV.casesOn (motive := fun _ => Option SV) v (fun t => TV.casesOn (motive := fun _ => Option SV) t some (fun _ => none)) (fun _ => none)
theorem AV.asSV_eq {v : AV} {s : SV} (h : v.asSV = some s) : v = .tv (.sc s) := by
  rcases v with (x | l) | l <;> first | (cases h; rfl) | (cases h)
def AV.asInt (v : AV) : Option (IntKind × Ex) := v.asSV.bind SV.asInt
theorem AV.asInt_eq {v : AV} {k : IntKind} {e : Ex} (h : v.asInt = some (k, e)) : v = .tv (.sc (.int k e)) := by
  unfold AV.asInt at h
  rw [Option.bind_eq_some_iff] at h
  obtain ⟨s, h1, h2⟩ := h
  rw [AV.asSV_eq h1, SV.asInt_eq h2]
def nthF {α : Type} (l : List α) : Nat → Option α := List.rec (motive := fun _ => Nat → Option α) (fun _ => none) (fun x _ ih i => Nat.casesOn (motive := fun _ => Option α) i (some x) (fun j => ih j)) l
theorem nthF_eq {α : Type} : ∀ (l : List α) (i : Nat), nthF l i = l[i]?
  | [], i => by simp [nthF]
  | x :: l, 0 => rfl
  | x :: l, i + 1 => by rw [List.getElem?_cons_succ, ← nthF_eq l i]; rfl
def setF {α : Type} (l : List α) (v : α) : Nat → List α := List.rec (motive := fun _ => Nat → List α) (fun _ => []) (fun x r ih i => Nat.casesOn (motive := fun _ => List α) i (v :: r) (fun j => x :: ih j)) l
theorem setF_eq {α : Type} (v : α) : ∀ (l : List α) (i : Nat), setF l v i = l.set i v
  | [], i => by simp [setF]
  | x :: l, 0 => rfl
  | x :: l, i + 1 => by rw [List.set_cons_succ, ← setF_eq v l i]; rfl
theorem setF_over (v : SV) : ∀ (l : List SV) (i : Nat), setF l v i = over l i [v]
  | [], i => by simp [setF, over]
  | x :: l, 0 => by cases l <;> rfl
  | x :: l, i + 1 => by rw [over, ← setF_over v l i]; rfl
theorem set_over (v : SV) (l : List SV) (i : Nat) : l.set i v = over l i [v] := by rw [← setF_eq, setF_over]
def ofScalarF (v : Value) : Option SV := Value.casesOn (motive_1 := fun _ => Option SV) v (fun b => some (.bool b)) (fun k n => some (.int k (.lit n))) (fun _ _ => none) (fun _ _ _ => none) (fun s => some (.str (s.data.toList.map UInt8.toNat)))
  (fun a => Option.casesOn (motive := fun _ => Option SV) a (some .nilp) (fun _ => none)) (fun a l c => Option.casesOn (motive := fun _ => Option SV) a (some (.nils l c)) (fun _ => none)) (fun a => Option.casesOn (motive := fun _ => Option SV) a (some .nilm) (fun _ => none)) (fun _ => none) (fun _ _ _ => none) (some .nilf) (fun _ _ => none) (some .nili) (fun _ => none) (fun _ => none)
theorem ofScalarF_eq (v : Value) : ofScalarF v = ofScalar v := by
  cases v <;> first | rfl | (rename_i a; cases a <;> rfl) | (rename_i a l c; cases a <;> rfl)
def evGetF (t : Tm) (x : Operand) : Option AV :=
  match x with
  | .tmp i => t.get i
  | .const v => (ofScalarF v).map fun s => .tv (.sc s)
  | .func f => some (.tv (.sc (.clo f [])))
  | .global g => if g < nGl then some (.tv (.sc (.ptr g 0))) else none
theorem evGetF_eq (t : Tm) (x : Operand) : evGetF t x = evGet t x := by
  cases x <;> simp only [evGetF, evGet, ofScalarF_eq]
def gPtrF (t : Tm) (x : Operand) : Option (Nat × Nat) := (evGetF t x).bind fun v => v.asSV.bind SV.asPtr
theorem gPtrF_eq (t : Tm) (x : Operand) : gPtrF t x = gPtr t x := by
  unfold gPtrF gPtr
  rw [evGetF_eq]
  cases evGet t x with
  | none => rfl
  | some v =>
    rcases v with (s | l) | l
    · cases s <;> rfl
    · rfl
    · rfl
def kIdx (k : IntKind) : Nat := IntKind.casesOn (motive := fun _ => Nat) k 0 1 2 3 4 5 6 7
def kEq (k k' : IntKind) : Bool := Nat.beq (kIdx k) (kIdx k')
theorem kEq_eq (k k' : IntKind) : kEq k k' = decide (k = k') := by cases k <;> cases k' <;> rfl
def wrapF (k : IntKind) (n : Int) : Int := IntKind.casesOn (motive := fun _ => Int) k (IntKind.i8.wrap n) (IntKind.i16.wrap n) (IntKind.i32.wrap n) (IntKind.i64.wrap n) (n % 256) (n % 65536) (n % 4294967296) (n % 18446744073709551616)
theorem wrapF_eq (k : IntKind) (n : Int) : wrapF k n = k.wrap n := by
  cases k <;> first | rfl | (simp [wrapF, IntKind.wrap, IntKind.signed, IntKind.bits])
def ariF (op : BinOp) (k : IntKind) (x y : Int) : Int := BinOp.casesOn (motive := fun _ => Int) op (wrapF k (x + y)) (wrapF k (x - y)) (wrapF k (x * y)) (wrapF k (x.tdiv y)) (x.tmod y) (wrapF k (x * y)) (wrapF k (x * y)) (wrapF k (x * y)) (wrapF k (x * y)) (wrapF k (x * y)) (wrapF k (x * y)) (wrapF k (x * y)) (wrapF k (x * y)) (wrapF k (x * y)) (wrapF k (x * y)) (wrapF k (x * y)) (wrapF k (x * y))
theorem ariF_eq (op : BinOp) (k : IntKind) (x y : Int) : ariF op k x y = ariOf op k x y := by
  cases op <;> simp only [ariF, ariOf, wrapF_eq]
def natOf (k : IntKind) (x : Int) : Nat := (BitVec.ofInt k.bits x).toNat
def bitF (op : BinOp) (k : IntKind) (x y : Int) : Int := BinOp.casesOn (motive := fun _ => Int) op (bitsOf .add k x y) (bitsOf .sub k x y) (bitsOf .mul k x y) (bitsOf .quo k x y) (bitsOf .rem k x y) (wrapF k (Nat.land (natOf k x) (natOf k y) : Nat)) (wrapF k (Nat.lor (natOf k x) (natOf k y) : Nat)) (wrapF k (Nat.xor (natOf k x) (natOf k y) : Nat)) (bitsOf .shl k x y) (bitsOf .shr k x y) (bitsOf .andNot k x y) (bitsOf .eql k x y) (bitsOf .neq k x y) (bitsOf .lss k x y) (bitsOf .leq k x y) (bitsOf .gtr k x y) (bitsOf .geq k x y)
theorem bitF_eq (op : BinOp) (k : IntKind) (x y : Int) : bitF op k x y = bitsOf op k x y := by
  cases op <;> first | rfl | (simp only [bitF, wrapF_eq, natOf, bitsOf]; rfl)
def mkAriF (op : BinOp) (k : IntKind) (a b : Ex) : Ex :=
  match a.asLit with
  | some x => match b.asLit with | some y => .lit (ariF op k x y) | none => .ari op k a b
  | none => .ari op k a b
theorem mkAriF_eq (op : BinOp) (k : IntKind) (a b : Ex) : mkAriF op k a b = mkAri op k a b := by
  cases a <;> first | rfl | (cases b <;> first | rfl | (simp only [mkAriF, Ex.asLit, mkAri, ariF_eq]))
def mkBitF (op : BinOp) (k : IntKind) (a b : Ex) : Ex :=
  match a.asLit with
  | some x => match b.asLit with | some y => .lit (bitF op k x y) | none => .bit op k a b
  | none => .bit op k a b
theorem mkBitF_eq (op : BinOp) (k : IntKind) (a b : Ex) : mkBitF op k a b = mkBit op k a b := by
  cases a <;> first | rfl | (cases b <;> first | rfl | (simp only [mkBitF, Ex.asLit, mkBit, bitF_eq]))
def nmOfF (L : Lore) (e : Ex) : Ex := match e.asLit with | some n => .lit n | none => L.nm e
theorem nmOfF_eq (L : Lore) (e : Ex) : nmOfF L e = nmOf L e := by cases e <;> rfl
def iAri (op : BinOp) (k : IntKind) (a : Ex) (k' : IntKind) (b : Ex) : Option SV := Bool.casesOn (motive := fun _ => Option SV) (kEq k k') none (some (.int k (mkAriF op k a b)))
def iBit (L : Lore) (op : BinOp) (k : IntKind) (a : Ex) (k' : IntKind) (b : Ex) : Option SV := Bool.casesOn (motive := fun _ => Option SV) (kEq k k') none (some (.int k (nmOfF L (mkBitF op k a b))))
def iCmp (L : Lore) (op : BinOp) (k : IntKind) (a : Ex) (k' : IntKind) (b : Ex) : Option SV :=
  match a.asLit with
  | some x =>
    match b.asLit with
    | some y => Bool.casesOn (motive := fun _ => Option SV) (kEq k k') none ((cmpOf op x y).map .bool)
    | none => evInt L op k a k' b
  | none => evInt L op k a k' b
def evIntF (L : Lore) (op : BinOp) (k : IntKind) (a : Ex) (k' : IntKind) (b : Ex) : Option SV := BinOp.casesOn (motive := fun _ => Option SV) op
  (iAri .add k a k' b) (iAri .sub k a k' b) (iAri .mul k a k' b) (evInt L .quo k a k' b) (evInt L .rem k a k' b) (iBit L .and k a k' b) (iBit L .or k a k' b) (iBit L .xor k a k' b) (evInt L .shl k a k' b) (evInt L .shr k a k' b) (iBit L .andNot k a k' b)
  (iCmp L .eql k a k' b) (iCmp L .neq k a k' b) (iCmp L .lss k a k' b) (iCmp L .leq k a k' b) (iCmp L .gtr k a k' b) (iCmp L .geq k a k' b)
theorem boolCase {α : Type} (b : Bool) (x y : α) : (Bool.casesOn (motive := fun _ => α) b x y) = if b = true then y else x := by cases b <;> rfl
theorem iCmp_eq (L : Lore) (op : BinOp) (k : IntKind) (a : Ex) (k' : IntKind) (b : Ex) (h : ∀ x y, evInt L op k (.lit x) k' (.lit y) = if k = k' then (cmpOf op x y).map .bool else none) : iCmp L op k a k' b = evInt L op k a k' b := by
  unfold iCmp
  split
  · rename_i x hx
    split
    · rename_i y hy
      rw [Ex.asLit_eq hx, Ex.asLit_eq hy, h, boolCase, kEq_eq]
      simp
    · rfl
  · rfl
theorem evIntF_eq (L : Lore) (op : BinOp) (k : IntKind) (a : Ex) (k' : IntKind) (b : Ex) : evIntF L op k a k' b = evInt L op k a k' b := by
  cases op
  case add => show iAri .add k a k' b = _; unfold iAri evInt; rw [boolCase, kEq_eq, mkAriF_eq]; simp
  case sub => show iAri .sub k a k' b = _; unfold iAri evInt; rw [boolCase, kEq_eq, mkAriF_eq]; simp
  case mul => show iAri .mul k a k' b = _; unfold iAri evInt; rw [boolCase, kEq_eq, mkAriF_eq]; simp
  case and => show iBit L .and k a k' b = _; unfold iBit evInt; rw [boolCase, kEq_eq, mkBitF_eq, nmOfF_eq]; simp
  case or => show iBit L .or k a k' b = _; unfold iBit evInt; rw [boolCase, kEq_eq, mkBitF_eq, nmOfF_eq]; simp
  case xor => show iBit L .xor k a k' b = _; unfold iBit evInt; rw [boolCase, kEq_eq, mkBitF_eq, nmOfF_eq]; simp
  case andNot => show iBit L .andNot k a k' b = _; unfold iBit evInt; rw [boolCase, kEq_eq, mkBitF_eq, nmOfF_eq]; simp
  case eql => exact iCmp_eq L .eql k a k' b fun x y => rfl
  case neq => exact iCmp_eq L .neq k a k' b fun x y => rfl
  case lss => exact iCmp_eq L .lss k a k' b fun x y => rfl
  case leq => exact iCmp_eq L .leq k a k' b fun x y => rfl
  case gtr => exact iCmp_eq L .gtr k a k' b fun x y => rfl
  case geq => exact iCmp_eq L .geq k a k' b fun x y => rfl
  all_goals rfl
def evBinF (P : Program) (L : Lore) (op : BinOp) (T : TypeId) (x y : AV) : Option AV :=
  match x.asInt with
  | some p => match y.asInt with | some q => (evIntF L op p.1 p.2 q.1 q.2).map fun s => .tv (.sc s) | none => evBin P L op T x y
  | none => evBin P L op T x y
theorem evBinF_eq (P : Program) (L : Lore) (op : BinOp) (T : TypeId) (x y : AV) : evBinF P L op T x y = evBin P L op T x y := by
  unfold evBinF
  split
  · rename_i p hx
    split
    · rename_i q hy
      obtain ⟨k, a⟩ := p
      obtain ⟨k', b⟩ := q
      rw [AV.asInt_eq hx, AV.asInt_eq hy, evIntF_eq]
      rfl
    · rfl
  · rfl
def cell1 (H : List Blk) (p : Nat × Nat) : Option AV := (nthF H p.1).bind fun k => (nthF k.cells p.2).map fun s => .tv (.sc s)
theorem span_one (H : List Blk) (i o : Nat) : span H i o 1 = (H[i]?).bind fun k => (k.cells[o]?).map fun s => [s] := by
  unfold span
  cases hk : H[i]? with
  | none => rfl
  | some k =>
    simp only [Option.bind_some]
    cases hc : k.cells[o]? with
    | none =>
      have : k.cells.length ≤ o := by simpa using hc
      rw [List.drop_eq_nil_of_le this]
      simp
    | some x =>
      have hlt := (List.getElem?_eq_some_iff.1 hc).1
      have e : (k.cells.drop o).take 1 = [x] := by
        rw [List.drop_eq_getElem_cons hlt]
        simp [(List.getElem?_eq_some_iff.1 hc).2]
      rw [e]
      simp
def load1 (H : List Blk) (p : Nat × Nat) (r : Bool) (s : Nat) : Option AV := Bool.casesOn (motive := fun _ => Option AV) r (cell1 H p) ((span H p.1 p.2 s).map fun l => .tv (.agg l))
def evLoadF (P : Program) (t : Tm) (H : List Blk) (T : TypeId) (x : Operand) : Option AV :=
  match gPtrF t x with
  | some p => match rowOf P T with | some (r, s) => load1 H p r s | none => none
  | none => none
theorem evLoadF_eq (P : Program) (t : Tm) (H : List Blk) (T : TypeId) (x : Operand) : evLoadF P t H T x = evLoad P t H T x := by
  unfold evLoadF evLoad
  rw [gPtrF_eq]
  cases gPtr t x with
  | none => cases rowOf P T <;> rfl
  | some p =>
    obtain ⟨n, o⟩ := p
    cases rowOf P T with
    | none => rfl
    | some q =>
      obtain ⟨r, s⟩ := q
      cases r with
      | true => rfl
      | false =>
        show cell1 H (n, o) = _
        unfold cell1
        simp only [nthF_eq, span_one]
        cases H[n]? with
        | none => rfl
        | some k =>
          simp only [Option.bind_some]
          cases k.cells[o]? <;> rfl
def store1 (H : List Blk) (p : Nat × Nat) (v : SV) : Option (List Blk) :=
  match nthF H p.1 with
  | some k => match k.ro with
    | false => match nthF k.cells p.2 with
      | some _ => some (setF H ⟨false, k.pl && v.plain, 0, setF k.cells v p.2⟩ p.1)
      | none => none
    | true => none
  | none => none
def evStoreF (P : Program) (t : Tm) (H : List Blk) (T : TypeId) (x y : Operand) : Option (List Blk) :=
  match (evGetF t y).bind AV.asSV with
  | some v =>
    match gPtrF t x with
    | some p => match rowOf P T with
      | some (_, s) => match Nat.beq s 1 with | true => store1 H p v | false => evStore P t H T x y
      | none => none
    | none => none
  | none => evStore P t H T x y
theorem evStoreF_eq (P : Program) (t : Tm) (H : List Blk) (T : TypeId) (x y : Operand) : evStoreF P t H T x y = evStore P t H T x y := by
  unfold evStoreF
  rw [evGetF_eq, gPtrF_eq]
  split
  case h_2 => rfl
  rename_i v hv
  rw [Option.bind_eq_some_iff] at hv
  obtain ⟨av, hv1, hv2⟩ := hv
  have hc : gCells t y = some [v] := by unfold gCells; rw [hv1, AV.asSV_eq hv2]
  cases hp : gPtr t x with
  | none => unfold evStore; rw [hp]
  | some p =>
    obtain ⟨n, o⟩ := p
    cases hr : rowOf P T with
    | none => unfold evStore; rw [hp, hc, hr]
    | some q =>
      obtain ⟨r, s⟩ := q
      simp only
      cases hb : Nat.beq s 1 with
      | false => rfl
      | true =>
        have hs : s = 1 := Nat.eq_of_beq_eq_true hb
        subst hs
        unfold evStore store1
        rw [hp, hc, hr]
        simp only [nthF_eq, setF_eq]
        cases hk : H[n]? with
        | none => rfl
        | some k =>
          simp only
          cases hro : k.ro with
          | true => simp
          | false =>
            simp only
            cases hcell : k.cells[o]? with
            | none =>
              have : k.cells.length ≤ o := by simpa using hcell
              rw [if_neg]
              rintro ⟨_, _, _, h4⟩
              rw [List.drop_eq_nil_of_le this] at h4
              simp at h4
            | some z =>
              have hlt := (List.getElem?_eq_some_iff.1 hcell).1
              rw [if_pos ⟨by simp, rfl, by decide, by rw [List.length_take, List.length_drop]; omega⟩]
              simp [set_over]
def idx2 (r : Option (Bool × Nat)) (m o n : Nat) (j : Int) : Option AV :=
  match r with
  | some q => Int.casesOn (motive := fun _ => Option AV) j (fun a => match Nat.blt a n with | true => some (.tv (.sc (.ptr m (o + a * q.2)))) | false => none) (fun _ => none)
  | none => none
theorem idx2_eq (r : Option (Bool × Nat)) (m o n : Nat) (j : Int) : idx2 r m o n j = (match r with
    | some (_, s) => if 0 ≤ j ∧ j < n then some (.tv (.sc (.ptr m (o + j.toNat * s)))) else none
    | none => none) := by
  cases r with
  | none => rfl
  | some q =>
    obtain ⟨q1, q2⟩ := q
    cases j with
    | ofNat a =>
      simp only [idx2]
      by_cases h : a < n
      · have hb : Nat.blt a n = true := Nat.ble_eq_true_of_le h
        rw [hb, if_pos ⟨by simp, by simpa using h⟩]
        rfl
      · have hb : Nat.blt a n = false := by
          cases hq : Nat.blt a n with
          | false => rfl
          | true => exact absurd (Nat.le_of_ble_eq_true hq) h
        rw [hb, if_neg (fun q => h (by simpa using q.2))]
    | negSucc a =>
      simp only [idx2]
      rw [if_neg (fun q => by simp at q)]
def descArr (d : TypeDesc) : Option (Nat × TypeId) := TypeDesc.casesOn (motive := fun _ => Option (Nat × TypeId)) d none none (fun _ => none) (fun _ => none) (fun _ => none) none none (fun _ => none) (fun _ => none) (fun n e => some (n, e)) (fun _ _ => none) (fun _ _ => none) (fun _ => none) (fun _ _ _ => none) (fun _ => none) (fun _ => none) (fun _ _ => none)
def descSl (d : TypeDesc) : Option TypeId := TypeDesc.casesOn (motive := fun _ => Option TypeId) d none none (fun _ => none) (fun _ => none) (fun _ => none) none none (fun _ => none) (fun e => some e) (fun _ _ => none) (fun _ _ => none) (fun _ _ => none) (fun _ => none) (fun _ _ _ => none) (fun _ => none) (fun _ => none) (fun _ _ => none)
def descInt (d : TypeDesc) : Option IntKind := TypeDesc.casesOn (motive := fun _ => Option IntKind) d none none (fun k => some k) (fun _ => none) (fun _ => none) none none (fun _ => none) (fun _ => none) (fun _ _ => none) (fun _ _ => none) (fun _ _ => none) (fun _ => none) (fun _ _ _ => none) (fun _ => none) (fun _ => none) (fun _ _ => none)
def idxF (P : Program) (d : TypeDesc) (s : SV) (j : Int) : Option AV :=
  match s.asPtr with
  | some p => match descArr d with | some q => idx2 (rowOf P q.2) p.1 p.2 q.1 j | none => none
  | none => match s.asSl with
    | some p => match descSl d with | some e => idx2 (rowOf P e) p.1 p.2.1 p.2.2 j | none => none
    | none => none
def evIndexAddrF (P : Program) (T : TypeId) (x i : AV) : Option AV :=
  match i.asInt.bind (fun p => p.2.asLit) with
  | some j => match x.asSV with
    | some s => match P.underlying T with | some d => idxF P d s j | none => none
    | none => none
  | none => none
theorem evIndexAddrF_eq (P : Program) (T : TypeId) (x i : AV) : evIndexAddrF P T x i = evIndexAddr P T x i := by
  unfold evIndexAddrF
  cases hj : i.asInt.bind (fun p => p.2.asLit) with
  | none =>
    simp only
    unfold evIndexAddr
    split
    all_goals first | rfl | (exfalso; simp [AV.asInt, AV.asSV, SV.asInt, Ex.asLit] at hj)
  | some j =>
    rw [Option.bind_eq_some_iff] at hj
    obtain ⟨⟨k, e⟩, h1, h2⟩ := hj
    have hi : i = .tv (.sc (.int k (.lit j))) := by rw [AV.asInt_eq h1, Ex.asLit_eq (show e.asLit = some j from h2)]
    subst hi
    simp only
    rcases x with (s | l) | l
    · simp only [AV.asSV]
      cases hd : P.underlying T with
      | none => simp only [evIndexAddr, hd]
      | some d =>
        simp only
        cases d <;> cases s <;> simp only [evIndexAddr, hd, idxF, SV.asPtr, SV.asSl, descArr, descSl, idx2_eq] <;> rfl
    · simp only [AV.asSV, evIndexAddr]
      cases P.underlying T with
      | none => rfl
      | some d => cases d <;> rfl
    · simp only [AV.asSV, evIndexAddr]
      cases P.underlying T with
      | none => rfl
      | some d => cases d <;> rfl
def evConvF (P : Program) (t : Tm) (H : List Blk) (src dst : TypeId) (x : Operand) : Option (AV × List Blk) :=
  match (evGetF t x).bind AV.asInt with
  | some q => match P.underlying src with
    | some _ => match (P.underlying dst).bind descInt with
      | some k => some (.tv (.sc (.int k (mkCon k q.2))), H)
      | none => evConvX P t H src dst x
    | none => evConvX P t H src dst x
  | none => evConvX P t H src dst x
theorem evConvF_eq (P : Program) (t : Tm) (H : List Blk) (src dst : TypeId) (x : Operand) : evConvF P t H src dst x = evConvX P t H src dst x := by
  unfold evConvF
  rw [evGetF_eq]
  split
  case h_2 => rfl
  rename_i q hq
  split
  case h_2 => rfl
  rename_i d hd
  split
  case h_2 => rfl
  rename_i k hk
  rw [Option.bind_eq_some_iff] at hq hk
  obtain ⟨v, h1, h2⟩ := hq
  obtain ⟨k0, e⟩ := q
  have hv := AV.asInt_eq h2
  subst hv
  obtain ⟨d2, h3, h4⟩ := hk
  have hd2 : d2 = .int k := by cases d2 <;> first | (cases h4; rfl) | (cases h4)
  subst hd2
  unfold evConvX
  rw [hd, h3, h1]
  cases d <;> simp only [evConv, hd, h3] <;> rfl
abbrev StepT := CallF → Program → Lore → Tm → List Blk → Option (AV × List Blk)
def rdH (r : Option AV) (H : List Blk) : Option (AV × List Blk) := r.map fun v => (v, H)
def evBinOF (P : Program) (L : Lore) (op : BinOp) (T : TypeId) (x y : Operand) (a b : AV) : Option AV := Option.casesOn (motive := fun _ => Option AV) (evBinF P L op T a b) (evNil P op T x y a b) (fun r => some r)
theorem evBinOF_eq (P : Program) (L : Lore) (op : BinOp) (T : TypeId) (x y : Operand) (a b : AV) : evBinOF P L op T x y a b = evBinO P L op T x y a b := by
  unfold evBinOF evBinO
  rw [evBinF_eq]
  cases evBin P L op T a b <;> rfl
def fBin (P : Program) (L : Lore) (t : Tm) (op : BinOp) (T : TypeId) (x y : Operand) : Option AV := match evGetF t x with | some a => (match evGetF t y with | some b => evBinOF P L op T x y a b | none => none) | none => none
def fIdx (P : Program) (t : Tm) (T : TypeId) (x i : Operand) : Option AV := match evGetF t x with | some a => (match evGetF t i with | some b => evIndexAddrF P T a b | none => none) | none => none
def fStore (P : Program) (t : Tm) (H : List Blk) (T : TypeId) (x y : Operand) : Option (AV × List Blk) := (evStoreF P t H T x y).map fun H' => (.tup [], H')
def fCallV (call : CallF) (P : Program) (t : Tm) (H : List Blk) (f : Operand) (c : Call) : Option (AV × List Blk) :=
  match evGet t f, seqO (c.args.toList.map (evGet t)) with
  | some (.tv (.sc (.clo g caps))), some aas => if canCall P g then call g (aas ++ ptrs caps) H else none
  | _, _ => none
def old (op : Op) : StepT := fun call P L t H => evStepX op call P L t H
def evStepF (op : Op) : StepT := Op.casesOn (motive := fun _ => StepT) op
  (fun x _ _ _ t H => rdH (evGetF t x) H)
  (fun x _ _ _ t H => rdH (evGetF t x) H)
  (fun c a b => old (.pick c a b))
  (fun T => old (.alloc T))
  (fun T x => old (.box T x))
  (fun T ps _ P _ t H => rdH (evBuild P t T ps.toList) H)
  (fun T n ps => old (.buildSlice T n ps))
  (fun a b c d => old (.insert a b c d))
  (fun T x _ P _ t H => rdH (evLoadF P t H T x) H)
  (fun T x y _ P _ t H => fStore P t H T x y)
  (fun g => old (.ready g))
  (fun g => old (.waits g))
  (fun x => old (.nilCheck x))
  (fun op T x y _ _ P L t H => rdH (fBin P L t op T x y) H)
  (fun op T x => old (.unOp op T x))
  (fun s d x _ P _ t H => evConvF P t H s d x)
  (fun T x => old (.sliceToArrayPointer T x))
  (fun T x => old (.makeInterface T x))
  (fun f a c => old (.makeFunc f a c))
  (fun T r => old (.makeMap T r))
  (fun T r => old (.makeChan T r))
  (fun T x y => old (.makeSlice T x y))
  (fun T x l h m _ P _ t H => rdH (evSlice P t T x l h m) H)
  (fun T x f => old (.fieldAddr T x f))
  (fun T x f => old (.field T x f))
  (fun T x i _ P _ t H => rdH (fIdx P t T x i) H)
  (fun T x i => old (.index T x i))
  (fun a b c d => old (.lookup a b c d))
  (fun a b c d => old (.mapUpdate a b c d))
  (fun a b c => old (.mapEntry a b c))
  (fun a b c d => old (.entryStore a b c d))
  (fun a b => old (.range a b))
  (fun a b => old (.next a b))
  (fun a => old (.entry a))
  (fun a b c d => old (.typeAssert a b c d))
  (fun x i => old (.extract x i))
  (fun c => old (.call c))
  (fun c => old (.go c))
  (fun c => old (.defer c))
  (fun x => old (.panic x))
  (fun a b => old (.send a b))
  (fun a b c => old (.recv a b c))
  (fun a b => old (.select a b))
theorem fBin_eq (P : Program) (L : Lore) (t : Tm) (op : BinOp) (T : TypeId) (x y : Operand) : fBin P L t op T x y = match evGet t x, evGet t y with | some a, some b => evBinO P L op T x y a b | _, _ => none := by
  unfold fBin
  rw [evGetF_eq, evGetF_eq]
  cases evGet t x <;> cases evGet t y <;> simp only [evBinOF_eq]
theorem fIdx_eq (P : Program) (t : Tm) (T : TypeId) (x i : Operand) : fIdx P t T x i = match evGet t x, evGet t i with | some a, some b => evIndexAddr P T a b | _, _ => none := by
  unfold fIdx
  rw [evGetF_eq, evGetF_eq]
  cases evGet t x <;> cases evGet t i <;> simp only [evIndexAddrF_eq]
theorem evStepF_eq (op : Op) (call : CallF) (P : Program) (L : Lore) (t : Tm) (H : List Blk) : evStepF op call P L t H = evStepX op call P L t H := by
  cases op
  case move x => show rdH (evGetF t x) H = _; rw [evGetF_eq]; rfl
  case assign x => show rdH (evGetF t x) H = _; rw [evGetF_eq]; rfl
  case load T x => show rdH (evLoadF P t H T x) H = _; rw [evLoadF_eq]; rfl
  case store T x y => show fStore P t H T x y = _; unfold fStore; rw [evStoreF_eq]; rfl
  case binOp op T x y T' => show rdH (fBin P L t op T x y) H = _; rw [fBin_eq]; rfl
  case convert s d x => show evConvF P t H s d x = _; rw [evConvF_eq]; rfl
  case indexAddr T x i => show rdH (fIdx P t T x i) H = _; rw [fIdx_eq]; rfl
  all_goals rfl
abbrev ReadT := Program → Lore → Tm → List Blk → Option AV
def convR (P : Program) (s d : TypeId) (a : AV) : Option AV :=
  match a.asInt with
  | some q => match P.underlying s with
    | some _ => match (P.underlying d).bind descInt with | some k => some (.tv (.sc (.int k (mkCon k q.2)))) | none => evConv P s d a
    | none => evConv P s d a
  | none => evConv P s d a
theorem convR_eq (P : Program) (s d : TypeId) (a : AV) : convR P s d a = evConv P s d a := by
  unfold convR
  split
  case h_2 => rfl
  rename_i q hq
  split
  case h_2 => rfl
  rename_i d1 hd
  split
  case h_2 => rfl
  rename_i k hk
  rw [Option.bind_eq_some_iff] at hk
  obtain ⟨k0, e⟩ := q
  have hv := AV.asInt_eq hq
  subst hv
  obtain ⟨d2, h3, h4⟩ := hk
  have hd2 : d2 = .int k := by cases d2 <;> first | (cases h4; rfl) | (cases h4)
  subst hd2
  simp only [evConv, hd, h3]
def fConvR (P : Program) (t : Tm) (s d : TypeId) (x : Operand) : Option AV := match evGetF t x with | some a => convR P s d a | none => none
def oldR (op : Op) : ReadT := fun P L t H => evReadX op P L t H
def evReadF (op : Op) : ReadT := Op.casesOn (motive := fun _ => ReadT) op
  (fun x _ _ t _ => evGetF t x)
  (fun x _ _ t _ => evGetF t x)
  (fun c a b => oldR (.pick c a b))
  (fun T => oldR (.alloc T))
  (fun T x => oldR (.box T x))
  (fun T ps P _ t _ => evBuild P t T ps.toList)
  (fun T n ps => oldR (.buildSlice T n ps))
  (fun a b c d => oldR (.insert a b c d))
  (fun T x P _ t H => evLoadF P t H T x)
  (fun T x y => oldR (.store T x y))
  (fun g => oldR (.ready g))
  (fun g => oldR (.waits g))
  (fun x => oldR (.nilCheck x))
  (fun op T x y _ P L t _ => fBin P L t op T x y)
  (fun op T x => oldR (.unOp op T x))
  (fun s d x P _ t _ => fConvR P t s d x)
  (fun T x => oldR (.sliceToArrayPointer T x))
  (fun T x => oldR (.makeInterface T x))
  (fun f a c => oldR (.makeFunc f a c))
  (fun T r => oldR (.makeMap T r))
  (fun T r => oldR (.makeChan T r))
  (fun T x y => oldR (.makeSlice T x y))
  (fun T x l h m P _ t _ => evSlice P t T x l h m)
  (fun T x f => oldR (.fieldAddr T x f))
  (fun T x f => oldR (.field T x f))
  (fun T x i P _ t _ => fIdx P t T x i)
  (fun T x i => oldR (.index T x i))
  (fun a b c d => oldR (.lookup a b c d))
  (fun a b c d => oldR (.mapUpdate a b c d))
  (fun a b c => oldR (.mapEntry a b c))
  (fun a b c d => oldR (.entryStore a b c d))
  (fun a b => oldR (.range a b))
  (fun a b => oldR (.next a b))
  (fun a => oldR (.entry a))
  (fun a b c d => oldR (.typeAssert a b c d))
  (fun x i => oldR (.extract x i))
  (fun c => oldR (.call c))
  (fun c => oldR (.go c))
  (fun c => oldR (.defer c))
  (fun x => oldR (.panic x))
  (fun a b => oldR (.send a b))
  (fun a b c => oldR (.recv a b c))
  (fun a b => oldR (.select a b))
theorem evReadF_eq (op : Op) (P : Program) (L : Lore) (t : Tm) (H : List Blk) : evReadF op P L t H = evReadX op P L t H := by
  cases op
  case move x => exact evGetF_eq t x
  case assign x => exact evGetF_eq t x
  case load T x => exact evLoadF_eq P t H T x
  case binOp op T x y T' => exact fBin_eq P L t op T x y
  case convert s d x =>
    show fConvR P t s d x = _
    unfold fConvR
    rw [evGetF_eq]
    cases hx : evGet t x with
    | none => simp only [evReadX, hx]
    | some a => simp only [evReadX, hx, convR_eq]
  case indexAddr T x i => exact fIdx_eq P t T x i
  all_goals rfl
def opF (call : CallF) (P : Program) (L : Lore) (ops : Array Oper) (o : Oper) (ih : Tm → List Blk → Option (Tm × List Blk)) (t : Tm) (H : List Blk) : Option (Tm × List Blk) :=
  match wantA ops t o with
  | some b => Bool.casesOn (motive := fun _ => Option (Tm × List Blk)) b (ih (putA t o.dst (.tup [])) H) (match evStepF o.op call P L t H with | some r => ih (putA t o.dst r.1) r.2 | none => none)
  | none => none
def opsF (call : CallF) (P : Program) (L : Lore) (ops : Array Oper) (l : List Oper) : Tm → List Blk → Option (Tm × List Blk) :=
  List.rec (motive := fun _ => Tm → List Blk → Option (Tm × List Blk)) (fun t H => some (t, H)) (fun o _ ih t H => opF call P L ops o ih t H) l
theorem opsF_eq (call : CallF) (P : Program) (L : Lore) (ops : Array Oper) : ∀ (l : List Oper) (t : Tm) (H : List Blk), opsF call P L ops l t H = evOps call P L ops l t H
  | [], _, _ => rfl
  | o :: r, t, H => by
    show opF call P L ops o (opsF call P L ops r) t H = _
    unfold opF
    simp only [evOps, evStep, evStepF_eq]
    cases wantA ops t o with
    | none => rfl
    | some b =>
      cases b with
      | false => exact opsF_eq call P L ops r _ _
      | true =>
        simp only
        cases evStepX o.op call P L t H with
        | none => rfl
        | some q => exact opsF_eq call P L ops r _ _
abbrev RunA := Tm → List (Nat × Nat × Nat) → Option (Tm × List (Nat × Nat × Nat))
def takeF (P : Program) (Lo : Lore) (ops : Array Oper) (H : List Blk) (o : Oper) (ih : RunA) (t : Tm) (L : List (Nat × Nat × Nat)) : Option (Tm × List (Nat × Nat × Nat)) :=
  match wantA ops t o with
  | some b => Bool.casesOn (motive := fun _ => Option (Tm × List (Nat × Nat × Nat))) b (ih (putA t o.dst (.tup [])) L) (match evReadF o.op P Lo t H with | some v => ih (putA t o.dst v) (addSpan P t o.op L) | none => none)
  | none => none
def runAF (P : Program) (Lo : Lore) (ops : Array Oper) (H : List Blk) (l : List Nat) : RunA :=
  List.rec (motive := fun _ => RunA) (fun t L => some (t, L)) (fun i _ ih t L => match ops[i]? with | some o => takeF P Lo ops H o ih t L | none => none) l
theorem runAF_eq (P : Program) (Lo : Lore) (ops : Array Oper) (H : List Blk) : ∀ (l : List Nat) (t : Tm) (L : List (Nat × Nat × Nat)), runAF P Lo ops H l t L = runA P Lo ops H l t L
  | [], _, _ => rfl
  | i :: r, t, L => by
    show (match ops[i]? with | some o => takeF P Lo ops H o (runAF P Lo ops H r) t L | none => none) = _
    simp only [runA]
    cases ops[i]? with
    | none => rfl
    | some o =>
      simp only [takeF, evRead, evReadF_eq]
      cases wantA ops t o with
      | none => rfl
      | some b =>
        cases b with
        | false => exact runAF_eq P Lo ops H r _ _
        | true =>
          simp only
          cases evReadX o.op P Lo t H with
          | none => rfl
          | some q => exact runAF_eq P Lo ops H r _ _
abbrev RunB := Bool → Tm → List Blk → Option (Tm × List Blk)
def takeB (P : Program) (Lo : Lore) (ops : Array Oper) (o : Oper) (ih : RunB) (late : Bool) (t : Tm) (H : List Blk) : Option (Tm × List Blk) :=
  match wantA ops t o with
  | some b => Bool.casesOn (motive := fun _ => Option (Tm × List Blk)) b (ih late (putA t o.dst (.tup [])) H) (match evReadF o.op P Lo t [] with | some v => ih late (putA t o.dst v) H | none => none)
  | none => none
def doB (call : CallF) (P : Program) (Lo : Lore) (ops : Array Oper) (H0 : List Blk) (L : List (Nat × Nat × Nat)) (wt : Bool) (o : Oper) (ih : RunB) (late : Bool) (t : Tm) (H : List Blk) : Option (Tm × List Blk) :=
  match wantA ops t o with
  | some b => Bool.casesOn (motive := fun _ => Option (Tm × List Blk)) b (ih (late || wt) (putA t o.dst (.tup [])) H)
    (match evStepF o.op call P Lo t H with | some r => Bool.casesOn (motive := fun _ => Option (Tm × List Blk)) (late || wt || keeps L H0 r.2) none (ih (late || wt) (putA t o.dst r.1) r.2) | none => none)
  | none => none
def runBF (call : CallF) (P : Program) (Lo : Lore) (ops : Array Oper) (H0 : List Blk) (N : List Nat) (L : List (Nat × Nat × Nat)) (l : List (Nat × Bool)) : RunB :=
  List.rec (motive := fun _ => RunB) (fun _ t H => some (t, H)) (fun q _ ih late t H => match ops[q.1]? with
    | some o => Bool.casesOn (motive := fun _ => Option (Tm × List Blk)) q.2 (doB call P Lo ops H0 L (waits ops N q.1) o ih late t H) (takeB P Lo ops o ih late t H)
    | none => none) l
theorem runBF_eq (call : CallF) (P : Program) (Lo : Lore) (ops : Array Oper) (H0 : List Blk) (N : List Nat) (L : List (Nat × Nat × Nat)) : ∀ (l : List (Nat × Bool)) (late : Bool) (t : Tm) (H : List Blk), runBF call P Lo ops H0 N L l late t H = runB call P Lo ops H0 N L l late t H
  | [], _, _, _ => rfl
  | (i, true) :: r, late, t, H => by
    show (match ops[i]? with | some o => takeB P Lo ops o (runBF call P Lo ops H0 N L r) late t H | none => none) = _
    simp only [runB]
    cases ops[i]? with
    | none => rfl
    | some o =>
      simp only [takeB, evRead, evReadF_eq]
      cases wantA ops t o with
      | none => rfl
      | some b =>
        cases b with
        | false => exact runBF_eq call P Lo ops H0 N L r _ _ _
        | true =>
          simp only
          cases evReadX o.op P Lo t [] with
          | none => rfl
          | some q => exact runBF_eq call P Lo ops H0 N L r _ _ _
  | (i, false) :: r, late, t, H => by
    show (match ops[i]? with | some o => doB call P Lo ops H0 L (waits ops N i) o (runBF call P Lo ops H0 N L r) late t H | none => none) = _
    simp only [runB]
    cases ops[i]? with
    | none => rfl
    | some o =>
      simp only [doB, evStep, evStepF_eq]
      cases wantA ops t o with
      | none => rfl
      | some b =>
        cases b with
        | false => exact runBF_eq call P Lo ops H0 N L r _ _ _
        | true =>
          simp only
          cases evStepX o.op call P Lo t H with
          | none => rfl
          | some q =>
            simp only [boolCase]
            rw [runBF_eq call P Lo ops H0 N L r _ _ _]
def evPlanF (call : CallF) (P : Program) (Lo : Lore) (ops : Array Oper) (t : Tm) (H : List Blk) : Option (Tm × List Blk) :=
  match planOf P ops with
  | some q => match runAF P Lo ops H q.1 t [] with | some r => runBF call P Lo ops H q.2.1 r.2 q.2.2 false r.1 H | none => none
  | none => evDraw call P Lo ops t H
theorem evPlanF_eq (call : CallF) (P : Program) (Lo : Lore) (ops : Array Oper) (t : Tm) (H : List Blk) : evPlanF call P Lo ops t H = evPlan call P Lo ops t H := by
  unfold evPlanF evPlan
  cases planOf P ops with
  | none => rfl
  | some q =>
    obtain ⟨A, N, bp⟩ := q
    simp only [runAF_eq]
    cases runA P Lo ops H A t [] with
    | none => rfl
    | some r =>
      obtain ⟨t1, L⟩ := r
      simp only [runBF_eq]
abbrev OutT := Option (Out × Tm × List Blk)
def normalOut (r : Option (Tm × List Blk)) : OutT := match r with | some q => some (.normal, q.1, q.2) | none => none
def cSeq (self : CodeF) (a b : Code) (t : Tm) (H : List Blk) : OutT := match self a t H with | some q => Out.casesOn (motive := fun _ => OutT) q.1 (self b q.2.1 q.2.2) (fun i => some (.exit i, q.2.1, q.2.2)) (some (.ret, q.2.1, q.2.2)) | none => none
def cCond (self : CodeF) (c : Operand) (x y : Code) (t : Tm) (H : List Blk) : OutT := match (evGetF t c).bind fun v => v.asSV.bind SV.asBool with | some b => Bool.casesOn (motive := fun _ => OutT) b (self y t H) (self x t H) | none => none
def cBlock (self : CodeF) (id : Nat) (c : Code) (t : Tm) (H : List Blk) : OutT := match self c t H with | some q => Out.casesOn (motive := fun _ => OutT) q.1 (some (.normal, q.2.1, q.2.2)) (fun i => Bool.casesOn (motive := fun _ => OutT) (Nat.beq i id) (some (.exit i, q.2.1, q.2.2)) (some (.normal, q.2.1, q.2.2))) (some (.ret, q.2.1, q.2.2)) | none => none
def cLoop (self : CodeF) (c : Code) (t : Tm) (H : List Blk) : OutT := match self c t H with | some q => Out.casesOn (motive := fun _ => OutT) q.1 (self (.loop c) q.2.1 q.2.2) (fun i => some (.exit i, q.2.1, q.2.2)) (some (.ret, q.2.1, q.2.2)) | none => none
def codeStepF (P : Program) (L : Lore) (call : CallF) (self : CodeF) (c : Code) : Tm → List Blk → OutT := Code.casesOn (motive := fun _ => Tm → List Blk → OutT) c
  (fun t H => some (.normal, t, H))
  (fun _ ops draw t H => Bool.casesOn (motive := fun _ => OutT) draw (normalOut (opsF call P L ops ops.toList t H)) (normalOut (evPlanF call P L ops t H)))
  (fun a b => cSeq self a b)
  (fun c x y => cCond self c x y)
  (fun id c => cBlock self id c)
  (fun c => cLoop self c)
  (fun _ _ _ _ _ _ => none)
  (fun id t H => some (.exit id, t, H))
  (fun c => self c) (fun _ t H => some (.normal, t, H)) (fun _ _ _ => none)
  (fun t H => some (.ret, t, H))
  (fun _ _ _ => none)
theorem codeStepF_eq (P : Program) (L : Lore) (call : CallF) (self : CodeF) (c : Code) (t : Tm) (H : List Blk) : codeStepF P L call self c t H = codeStep P L call self c t H := by
  cases c
  case region id ops draw =>
    cases draw with
    | false =>
      show normalOut (opsF call P L ops ops.toList t H) = _
      rw [opsF_eq]
      simp only [codeStep]
      cases evOps call P L ops ops.toList t H <;> rfl
    | true =>
      show normalOut (evPlanF call P L ops t H) = _
      rw [evPlanF_eq]
      simp only [codeStep]
      cases evPlan call P L ops t H <;> rfl
  case seq a b =>
    show cSeq self a b t H = _
    simp only [cSeq, codeStep]
    cases self a t H with
    | none => rfl
    | some q =>
      obtain ⟨o, t1, H1⟩ := q
      cases o <;> rfl
  case cond c x y =>
    show cCond self c x y t H = _
    simp only [cCond, codeStep, evGetF_eq]
    cases evGet t c with
    | none => rfl
    | some v =>
      rcases v with (s | l) | l
      · cases s <;> first | rfl | (rename_i b; cases b <;> rfl)
      · rfl
      · rfl
  case block id c =>
    show cBlock self id c t H = _
    simp only [cBlock, codeStep]
    cases self c t H with
    | none => rfl
    | some q =>
      obtain ⟨o, t1, H1⟩ := q
      cases o with
      | normal => rfl
      | ret => rfl
      | exit i =>
        simp only [boolCase]
        by_cases e : i = id
        · subst e; simp
        · have : Nat.beq i id = false := by
            cases hq : Nat.beq i id with
            | false => rfl
            | true => exact absurd (Nat.eq_of_beq_eq_true hq) e
          simp [this, e]
  case loop c =>
    show cLoop self c t H = _
    simp only [cLoop, codeStep]
    cases self c t H with
    | none => rfl
    | some q =>
      obtain ⟨o, t1, H1⟩ := q
      cases o <;> rfl
  all_goals rfl
def evGF (P : Program) (L : Lore) (mk : CodeF → CallF) (n : Nat) : CodeF := Nat.rec (motive := fun _ => CodeF) (fun _ _ _ => none) (fun _ ih => codeStepF P L (mk ih) ih) n
theorem evGF_eq (P : Program) (L : Lore) (mk : CodeF → CallF) : ∀ n, evGF P L mk n = evG P L mk n
  | 0 => rfl
  | n + 1 => by
    show codeStepF P L (mk (evGF P L mk n)) (evGF P L mk n) = _
    rw [evGF_eq P L mk n]
    funext c t H
    rw [codeStepF_eq]
    rfl
def evCF (P : Program) (L : Lore) (con : ConF) (n : Nat) : CodeF := evGF P L (callStep P con) n
theorem evCF_eq (P : Program) (L : Lore) (con : ConF) (n : Nat) : evCF P L con n = evC P L con n := evGF_eq P L _ n
def mkT (P : Program) (con : ConF) (tab : CallF) : CodeF → CallF := fun self g xs H => match tab g xs H with | some r => some r | none => callStep P con self g xs H
theorem mkT_ok {P : Program} {ρ : Env} {con : ConF} (hcon : ConOk P ρ con) {tab : CallF} (htab : CallOk P ρ tab) (self : CodeF) (hs : CodeOk P ρ self) : CallOk P ρ (mkT P con tab self) := by
  intro g xs H v H' h
  unfold mkT at h
  split at h
  · rename_i r hr
    cases h
    exact htab g xs H v H' hr
  · exact callStep_ok hcon hs g xs H v H' h
def evCallT (P : Program) (L : Lore) (con : ConF) (tab : CallF) (n : Nat) : CallF := mkT P con tab (evGF P L (mkT P con tab) n)
theorem evCallT_ok {P : Program} {ρ : Env} {L : Lore} (hL : LoreOk ρ L) {con : ConF} (hcon : ConOk P ρ con) {tab : CallF} (htab : CallOk P ρ tab) (hm : P.follows .mixedOrders = true) (n : Nat) : CallOk P ρ (evCallT P L con tab n) := by
  unfold evCallT
  rw [evGF_eq]
  exact mkT_ok hcon htab _ (evG_ok hL (mkT_ok hcon htab) hm n)
def evCallF (P : Program) (L : Lore) (con : ConF) (n : Nat) : CallF := callStep P con (evCF P L con n)
theorem evCallF_eq (P : Program) (L : Lore) (con : ConF) (n : Nat) : evCallF P L con n = evCall P L con n := by
  unfold evCallF evCall
  rw [evCF_eq]
theorem calls_of_evHF {P : Program} {ρ : Env} {L : Lore} (hL : LoreOk ρ L) {con : ConF} (hcon : ConOk P ρ con) (hm : P.follows .mixedOrders = true) (n : Nat) {g : Nat} {xs : List AV} {v : AV} {ms : List Nat} {H H' : List Blk} (h : evCallF P L con n g xs H = some (v, H')) {args : Array Value} (w : World) (ha : xs.map (AV.inst ρ ms) = args.toList.map some) (hH : Holds ρ ms H w.heap.size w) :
    Calls P g args w fun e w' => ∃ ms' u, e = .returned u ∧ ms <+: ms' ∧ v.inst ρ ms' = some u ∧ Holds ρ ms' H' w.heap.size w' ∧ Below w.heap.size w w' :=
  calls_of_evH hL hcon hm n (by rw [← evCallF_eq]; exact h) w ha hH
theorem calls_of_evF {P : Program} {ρ : Env} {L : Lore} (hL : LoreOk ρ L) {con : ConF} (hcon : ConOk P ρ con) (hm : P.follows .mixedOrders = true) (n : Nat) {g : Nat} {xs : List AV} {v : AV} {H' : List Blk} (h : evCallF P L con n g xs [] = some (v, H')) {args : Array Value} (w : World) (ha : xs.map (AV.inst ρ []) = args.toList.map some) :
    Calls P g args w fun e w' => ∃ ms u, e = .returned u ∧ v.inst ρ ms = some u ∧ Holds ρ ms H' w.heap.size w' ∧ Below w.heap.size w w' :=
  calls_of_ev hL hcon hm n (by rw [← evCallF_eq]; exact h) w ha
end
end Go.Proofs.Ytbiplflejijbeaa.Ev
namespace Go.Proofs.Ytbiplflejijbeaa
open Go Go.RowKit Ev
def TV.plainT : TV → Bool
  | .sc s => s.plain
  | .agg l => l.all SV.plain
def plainA : AV → Bool
  | .tv v => TV.plainT v
  | .tup l => l.all TV.plainT
theorem sv_any {ρ : Env} {ms ms' : List Nat} {s : SV} (h : s.plain = true) : s.inst ρ ms = s.inst ρ ms' := by
  cases s <;> simp [SV.plain] at h <;> simp only [SV.inst]
  subst h; rfl
theorem tv_any {ρ : Env} {ms ms' : List Nat} {s : TV} (h : TV.plainT s = true) : s.inst ρ ms = s.inst ρ ms' := by
  cases s with
  | sc s => exact sv_any h
  | agg l =>
    simp only [TV.inst]
    congr 2
    refine List.map_congr_left fun p hp => sv_any ?_
    simp only [TV.plainT, List.all_eq_true] at h
    exact h p hp
theorem av_any {ρ : Env} {ms ms' : List Nat} {s : AV} (h : plainA s = true) : s.inst ρ ms = s.inst ρ ms' := by
  cases s with
  | tv s => exact tv_any h
  | tup l =>
    simp only [AV.inst]
    congr 2
    refine List.map_congr_left fun p hp => tv_any ?_
    simp only [plainA, List.all_eq_true] at h
    exact h p hp
def con1 (g : Nat) (xs : List AV) (v : AV) : ConF := fun g' xs' _ => if g' = g then (if xs' = xs then some v else none) else none
theorem con1_ok {ρ : Env} {con : ConF} (hcon : ConOk Try.prog ρ con) (hm : Try.prog.follows .mixedOrders = true) {n g : Nat} {xs : List AV} {v : AV} {H' : List Blk} (h : evCallF Try.prog noLore con n g xs H0 = some (v, H')) (hx : xs.all plainA = true) (hv : plainA v = true) : ConOk Try.prog ρ (con1 g xs v) := by
  intro g' xs' H u hu ms B w args ha hH
  unfold con1 at hu
  split at hu
  case isFalse => cases hu
  rename_i e
  subst e
  split at hu <;> cases hu
  rename_i e
  subst e
  have ha0 : xs'.map (AV.inst ρ ms0) = args.toList.map some := by
    rw [← ha]
    exact List.map_congr_left fun x hx' => av_any (List.all_eq_true.1 hx x hx')
  refine (calls_of_evHF (noLore_ok ρ) hcon hm n h w ha0 (holds_nil ρ w)).mono ?_
  rintro e w' ⟨ms', u', rfl, _, h1, _, h3⟩
  exact ⟨u', rfl, by rw [av_any hv (ms' := ms')]; exact h1, h3⟩
def conOr (c d : ConF) : ConF := fun g xs H => match c g xs H with | some v => some v | none => d g xs H
theorem conOr_ok {ρ : Env} {c d : ConF} (hc : ConOk Try.prog ρ c) (hd : ConOk Try.prog ρ d) : ConOk Try.prog ρ (conOr c d) := by
  intro g xs H v h
  unfold conOr at h
  split at h
  · rename_i u hu
    cases h
    exact hc g xs H _ hu
  · exact hd g xs H v h
def litB (l : List Nat) : List SV := l.map fun x : Nat => .int .u8 (.lit (x : Int))
theorem mixedOrders : Try.prog.follows .mixedOrders = true := by kernel_rfl
theorem litB_inst (ρ : Env) (ms : List Nat) (l : List Nat) : (TV.agg (litB l)).inst ρ ms = some (.agg (cells8 l)) := by
  simp only [TV.inst]
  rw [(seqO_iff _ (l.map fun x : Nat => Value.int .u8 (x : Int))).2 (by simp [litB, SV.inst, Ex.den])]
  rfl
theorem powers_ev : evCallF Try.prog noLore noCon 1000 59 [] H0 = some (.tv (.agg (litB powLit)), H0) := by kernel_rfl
def conPowers : ConF := con1 59 [] (.tv (.agg (litB powLit)))
theorem conPowers_ok (ρ : Env) : ConOk Try.prog ρ conPowers := con1_ok (noCon_ok _ _) mixedOrders powers_ev rfl (by kernel_rfl)
theorem exponents_ev : evCallF Try.prog noLore conPowers 1000 58 [] H0 = some (.tv (.agg (litB lgLit)), H0) := by kernel_rfl
def conExps : ConF := con1 58 [] (.tv (.agg (litB lgLit)))
theorem conExps_ok (ρ : Env) : ConOk Try.prog ρ conExps := con1_ok (conPowers_ok ρ) mixedOrders exponents_ev rfl (by kernel_rfl)
def env0 : Env := ⟨fun _ => 0, fun _ => .tuple #[], fun _ _ _ => 0⟩
theorem powers_any (w : World) : Calls Try.prog 59 #[] w fun e w' => e = .returned (.agg (cells8 powLit)) ∧ Below w.heap.size w w' := by
  refine (calls_of_evF (noLore_ok env0) (noCon_ok _ env0) mixedOrders 1000 powers_ev (args := #[]) w rfl).mono ?_
  rintro e w' ⟨ms, u, rfl, h1, _, h3⟩
  simp only [AV.inst, litB_inst, Option.some.injEq] at h1
  subst h1
  exact ⟨rfl, h3⟩
theorem exponents_any (w : World) : Calls Try.prog 58 #[] w fun e w' => e = .returned (.agg (cells8 lgLit)) ∧ Below w.heap.size w w' := by
  refine (calls_of_evF (noLore_ok env0) (conPowers_ok env0) mixedOrders 1000 exponents_ev (args := #[]) w rfl).mono ?_
  rintro e w' ⟨ms, u, rfl, h1, _, h3⟩
  simp only [AV.inst, litB_inst, Option.some.injEq] at h1
  subst h1
  exact ⟨rfl, h3⟩
end Go.Proofs.Ytbiplflejijbeaa
namespace Go.Proofs.Ytbiplflejijbeaa
open Go Go.RowKit
theorem tmod_cases (n : Int) : (n.tmod 255 < 0 ∧ n.tmod 255 + 255 = n % 255 ∧ -255 < n.tmod 255) ∨ (¬ n.tmod 255 < 0 ∧ n.tmod 255 = n % 255) := by
  have h := Int.tmod_eq_emod (a := n) (b := 255)
  have h1 : (if 0 ≤ n ∨ (255 : Int) ∣ n then 0 else Int.natAbs 255) = 0 ∨ (if 0 ≤ n ∨ (255 : Int) ∣ n then 0 else Int.natAbs 255) = 255 ∧ ¬ (255 : Int) ∣ n := by
    split
    · exact .inl rfl
    · rename_i q; exact .inr ⟨rfl, fun hd => q (.inr hd)⟩
  rcases h1 with h1 | ⟨h1, h2⟩
  · rw [h1] at h
    right
    omega
  · rw [h1] at h
    left
    have : n % 255 ≠ 0 := fun e => h2 (Int.dvd_of_emod_eq_zero e)
    omega
theorem powLit_length : powLit.length = 255 := by decide +kernel
theorem lgLit_length : lgLit.length = 256 := by decide +kernel
theorem powLit_get (i : Nat) (h : i < 255) : powLit.getD i 0 = pw i := by
  rw [← powL_lit]
  simp [powL, List.getD, h]
set_option maxHeartbeats 1000000 in
theorem exp_any (w : World) (n : Int) (h1 : -9223372036854775808 ≤ n) (h2 : n ≤ 9223372036854775807) : Calls Try.prog 52 #[.int .i64 n] w fun e w' => e = .returned (.int .u8 ((ex n : Nat) : Int)) ∧ Below w.heap.size w w' := by
  have C := hid (powers_any w)
  obtain ⟨m, HM⟩ : ∃ m, Hid (cells8 powLit = m) := ⟨_, rfl⟩
  obtain ⟨j, hj⟩ : ∃ j : Nat, (j : Int) = n % 255 := ⟨(n % 255).toNat, by omega⟩
  have hjl : j < 255 := by omega
  have HIX : Hid (∀ W, (Instr.index 96 (.agg m) (.int .i64 (j : Int))).run Try.prog W = .ok (.int .u8 ((ex n : Nat) : Int)) W) := fun W => by
    rw [← HM.out]
    have := run_index8 W Try.underlying96 powLit powLit_length j hjl .i64
    rw [powLit_get j hjl] at this
    rw [this]
    unfold ex
    rw [← hj, Int.toNat_natCast]
  obtain ⟨x, HX⟩ : ∃ x, Hid (ex n = x) := ⟨_, rfl⟩
  rw [HX.out]
  rw [HX.out] at HIX
  rcases tmod_cases n with ⟨q1, q2, q3⟩ | ⟨q1, q2⟩
  · obtain ⟨t, ht⟩ : ∃ t, n.tmod 255 = t := ⟨_, rfl⟩
    rw [ht] at q1 q2 q3
    have e : t + 255 = (j : Int) := by omega
    have hix := HIX.out
    clear q2 hj
    go_enter Try.func52, Try.ntmps52
    go_wp2_with fail
    refine C.out.mono ?_
    rintro e w' ⟨rfl, hB⟩
    rw [HM.out]
    have B := hid hB
    clear hB C
    go_wp2
    go_ret
    exact ⟨rfl, B.out⟩
  · obtain ⟨t, ht⟩ : ∃ t, n.tmod 255 = t := ⟨_, rfl⟩
    rw [ht] at q1 q2
    have e : t = (j : Int) := by omega
    have hix := HIX.out
    clear q2 hj
    rw [e] at ht q1
    clear e
    go_enter Try.func52, Try.ntmps52
    go_wp2_with fail
    refine C.out.mono ?_
    rintro e w' ⟨rfl, hB⟩
    rw [HM.out]
    have B := hid hB
    clear hB C
    go_wp2
    go_ret
    exact ⟨rfl, B.out⟩
set_option maxHeartbeats 1000000 in
theorem log_any (w : World) (a : Nat) (ha : a < 256) (h0 : a ≠ 0) : Calls Try.prog 51 #[.int .u8 (a : Int)] w fun e w' => e = .returned (.tuple #[.int .i64 ((lg a : Nat) : Int), .int .i64 0]) ∧ Below w.heap.size w w' := by
  have C := hid (exponents_any w)
  obtain ⟨m, HM⟩ : ∃ m, Hid (cells8 lgLit = m) := ⟨_, rfl⟩
  have hx := lg_lt a ha
  have hix : ∀ W, (Instr.index 72 (.agg m) (.int .u8 (a : Int))).run Try.prog W = .ok (.int .u8 ((lg a : Nat) : Int)) W := fun W => by
    rw [← HM.out]
    exact run_index8 W Try.underlying72 lgLit lgLit_length a ha .u8
  obtain ⟨x, HX⟩ : ∃ x, Hid (lg a = x) := ⟨_, rfl⟩
  rw [HX.out]
  rw [HX.out] at hix hx
  go_enter Try.func51, Try.ntmps51
  go_wp2_with fail
  refine C.out.mono ?_
  rintro e w' ⟨rfl, hB⟩
  rw [HM.out]
  have B := hid hB
  clear hB C
  go_wp2
  go_ret2
  exact ⟨rfl, B.out⟩
set_option maxHeartbeats 1000000 in
theorem log_none (w : World) : Calls Try.prog 51 #[.int .u8 0] w fun e w' => e = .returned (.tuple #[.int .i64 0, .int .i64 60]) ∧ Below w.heap.size w w' := by
  go_enter Try.func51, Try.ntmps51
  go_wp2
  go_ret2
  exact ⟨rfl, Below.refl _ _⟩
set_option maxHeartbeats 1000000 in
theorem inv_any (w : World) (a : Nat) (ha : a < 256) (h0 : a ≠ 0) : Calls Try.prog 33 #[.int .u8 (a : Int)] w fun e w' => e = .returned (.tuple #[.int .u8 ((inv a : Nat) : Int), .int .i64 0]) ∧ Below w.heap.size w w' := by
  have C := hid (log_any w a ha h0)
  have hx := lg_lt a ha
  have E : Hid (∀ W, Calls Try.prog 52 #[.int .i64 (-((lg a : Nat) : Int))] W fun e w' => e = .returned (.int .u8 ((inv a : Nat) : Int)) ∧ Below W.heap.size W w') := fun W => by
    rw [inv, if_neg h0]
    exact exp_any W (-((lg a : Nat) : Int)) (by omega) (by omega)
  obtain ⟨x, HX⟩ : ∃ x, Hid (lg a = x) := ⟨_, rfl⟩
  rw [HX.out] at hx C E
  go_enter Try.func33, Try.ntmps33
  go_wp2_with fail
  refine C.out.mono ?_
  rintro e w1 ⟨rfl, hB⟩
  have B := hid hB
  clear hB C
  go_wp2_with fail
  refine (E.out _).mono ?_
  rintro e w2 ⟨rfl, hB2⟩
  have B2 := hid (B.out.trans (hB2.mono B.out.size))
  clear hB2 E B
  go_wp2
  go_ret2
  exact ⟨rfl, B2.out⟩
set_option maxHeartbeats 1000000 in
theorem inv_none (w : World) : Calls Try.prog 33 #[.int .u8 0] w fun e w' => e = .returned (.tuple #[.int .u8 0, .int .i64 60]) ∧ Below w.heap.size w w' := by
  have C := hid (log_none w)
  go_enter Try.func33, Try.ntmps33
  go_wp2_with fail
  refine C.out.mono ?_
  rintro e w1 ⟨rfl, hB⟩
  have B := hid hB
  clear hB C
  go_wp2
  go_ret2
  exact ⟨rfl, B.out⟩
def powV (a : Nat) (n : Int) : Nat × Int := if n = 0 then (1, 0) else if a = 0 then (if 0 < n then (0, 0) else (0, 60)) else (powA a (n % 255).toNat, 0)
theorem powV_lt (a : Nat) (n : Int) : (powV a n).1 < 256 := by
  unfold powV
  split
  · show 1 < 256; decide
  · split
    · split <;> (show 0 < 256; decide)
    · exact powA_lt _ _
theorem ex_pow (a : Nat) (n : Int) (ha : a < 256) (h0 : a ≠ 0) : ex ((lg a : Int) * n.tmod 255) = powA a (n % 255).toNat := by
  rw [powA_lg a ha h0, ← ex_nat]
  have e1 : ex ((lg a : Int) * n.tmod 255) = ex ((lg a : Int) * (n % 255)) := by
    rcases tmod_cases n with ⟨q1, q2, q3⟩ | ⟨q1, q2⟩
    · rw [← q2]
      unfold ex
      rw [Int.mul_add, show ((lg a : Int) * n.tmod 255 + (lg a : Int) * 255) % 255 = ((lg a : Int) * n.tmod 255) % 255 by omega]
    · rw [q2]
  rw [e1]
  congr 1
  rw [Int.natCast_mul, Int.toNat_of_nonneg (by omega)]
theorem bmMul (w : World) (x y : Nat) (hx : x < 256) (hy : y < 256) : Calls Try.prog 88 #[.agg #[], .int .u8 (x : Int), .int .u8 (y : Int)] w fun e w' => e = .returned (.int .u8 ((prod x y : Nat) : Int)) ∧ Below w.heap.size w w' := by
  have C := hid (mul_any (w.alloc (.cells #[] 47)) x y hx hy)
  go_enter Try.func88, Try.ntmps88
  go_wp2_with fail
  refine C.out.mono ?_
  rintro e wq ⟨rfl, hwq⟩
  rw [hwq]
  clear hwq wq C
  go_wp2
  go_ret
  exact ⟨rfl, (Below.refl _ w).alloc (Nat.le_refl _) _⟩
theorem bmSub (w : World) (x y : Nat) (hx : x < 256) (hy : y < 256) : Calls Try.prog 90 #[.agg #[], .int .u8 (x : Int), .int .u8 (y : Int)] w fun e w' => e = .returned (.int .u8 ((x ^^^ y : Nat) : Int)) ∧ Below w.heap.size w w' := by
  have q := u8_xor_nat x y hx hy
  go_enter Try.func90, Try.ntmps90
  go_wp2
  go_ret
  exact ⟨rfl, (Below.refl _ w).alloc (Nat.le_refl _) _⟩
theorem bmAdd (w : World) (x y : Nat) (hx : x < 256) (hy : y < 256) : Calls Try.prog 86 #[.agg #[], .int .u8 (x : Int), .int .u8 (y : Int)] w fun e w' => e = .returned (.int .u8 ((x ^^^ y : Nat) : Int)) ∧ Below w.heap.size w w' := by
  have q := u8_xor_nat x y hx hy
  go_enter Try.func86, Try.ntmps86
  go_wp2
  go_ret
  exact ⟨rfl, (Below.refl _ w).alloc (Nat.le_refl _) _⟩
theorem bmOne (w : World) : Calls Try.prog 89 #[.agg #[]] w fun e w' => e = .returned (.int .u8 1) ∧ Below w.heap.size w w' := by
  go_enter Try.func89, Try.ntmps89
  go_wp2
  go_ret
  exact ⟨rfl, (Below.refl _ w).alloc (Nat.le_refl _) _⟩
theorem bmInv (w : World) (x : Nat) (hx : x < 256) : Calls Try.prog 87 #[.agg #[], .int .u8 (x : Int)] w fun e w' => (∃ y : Nat, y < 256 ∧ (x ≠ 0 → y = inv x) ∧ e = .returned (.tuple #[.int .u8 (y : Int), .bool (x != 0)])) ∧ Below w.heap.size w w' := by
  by_cases h0 : x = 0
  · subst h0
    have C := hid (inv_none (w.alloc (.cells #[] 47)))
    have ba : Hid (Below w.heap.size w (w.alloc (.cells #[] 47))) := hid ((Below.refl _ w).alloc (Nat.le_refl _) _)
    go_enter Try.func87, Try.ntmps87
    go_wp2_with fail
    refine C.out.mono ?_
    rintro e w1 ⟨rfl, hb⟩
    have hB := hid (ba.out.trans (hb.mono ba.out.size))
    clear hb C ba
    go_wp2
    go_ret2
    exact ⟨⟨0, by decide, fun h => absurd rfl h, rfl⟩, hB.out⟩
  · have C := hid (inv_any (w.alloc (.cells #[] 47)) x hx h0)
    have ba : Hid (Below w.heap.size w (w.alloc (.cells #[] 47))) := hid ((Below.refl _ w).alloc (Nat.le_refl _) _)
    have hx0 : (x != 0) = true := by simpa using h0
    rw [hx0]
    clear hx0
    obtain ⟨y, HY⟩ : ∃ y, Hid (inv x = y) := ⟨_, rfl⟩
    have hy : y < 256 := by rw [← HY.out]; exact inv_lt _
    rw [HY.out] at C
    go_enter Try.func87, Try.ntmps87
    go_wp2_with fail
    refine C.out.mono ?_
    rintro e w1 ⟨rfl, hb⟩
    have hB := hid (ba.out.trans (hb.mono ba.out.size))
    clear hb C ba
    go_wp2
    go_ret2
    exact ⟨⟨y, hy, fun _ => HY.out.symm, rfl⟩, hB.out⟩
theorem alike_door_b (w : World) : CallsD Try.prog 69 #[] .returning w fun e u' w' => e = .returned (.tuple #[]) ∧ u' = .returning ∧ w' = w := by
  refine callsD_of_wpS Try.func69 rfl fun c₀ cs hu => ?_
  apply wpS_region
  simp [wpOpsS, go_sem, recoverD, hu, Try.ntmps69, Exit.thenS]
  cases c₀
  simp_all [bodyPostS, results, Try.results69]
theorem alike_b (w : World) (a b : Int) : Calls Try.prog 66 #[.int .u8 a, .int .u8 b] w fun e w' => e = .returned (.bool (a == b)) ∧ w' = w := by
  go_enter_defers Try.func66, Try.ntmps66
  go_wp2
  refine leaves_cons (f := 69) (args := #[]) (by simp) (by simp [go_sem]) ?_
  refine (alike_door_b w).mono ?_
  rintro e u' w'' ⟨rfl, rfl, rfl⟩
  exact ⟨_, results_tmp rfl _ _ _, rfl, rfl⟩
structure RM (B : Nat) (w : World) (v : Value) (R L : Nat) (rs : Nat → Value) (M : Nat → Nat → Nat) : Prop where
  o : w.ownsRow B 22 1 v R ((List.range R).map rs)
  r : ∀ i, i < R → w.ownsRow B 5 1 (rs i) L ((tbL L (M i)).map (Value.int .u8))
  d : ∀ i j, i < R → j < R → i ≠ j → (rs i).ownBlock = none ∨ (rs i).ownBlock ≠ (rs j).ownBlock
  b : ∀ i j, M i j < 256
section
variable {B R L : Nat} {w w' : World} {v : Value} {rs : Nat → Value} {M : Nat → Nat → Nat}
theorem own_blkR {w w1 : World} {B n : Nat} {e : TypeId} {v : Value} {xs : List Value} (h : w.ownsRow B e 1 v n xs) (hb : ∀ k, v.ownBlock = some k → w1.heap[k]? = w.heap[k]?) : w1.ownsRow B e 1 v n xs := by
  refine ⟨h.1, ?_⟩
  rcases h.2 with hn | ⟨g, cap, cur, rfl, h1, h2, rest⟩
  · exact .inl hn
  · exact .inr ⟨g, cap, cur, rfl, h1, (hb g rfl).trans h2, rest⟩
theorem own_typR {w : World} {B n : Nat} {e : TypeId} {v : Value} {xs : List Value} (h : w.ownsRow B e 1 v n xs) {k : Nat} (hk : v.ownBlock = some k) : k < w.heap.size ∧ B ≤ k ∧ ∃ cur, w.heap[k]? = some (.cells cur e (0, 0)) := by
  rcases h.2 with ⟨rfl, _⟩ | ⟨g, cap, cur, rfl, hB, hh, _⟩
  · cases hk
  · cases hk
    exact ⟨(Array.getElem?_eq_some_iff.1 hh).1, hB, _, hh⟩
theorem own_nothR {w : World} {B B' n n' : Nat} {e e' : TypeId} {v v' : Value} {xs xs' : List Value} (h : w.ownsRow B e 1 v n xs) (h' : w.ownsRow B' e' 1 v' n' xs') (he : e ≠ e') {k : Nat} (hk : v.ownBlock = some k) : v'.ownBlock ≠ some k := fun q => by
  obtain ⟨_, _, c1, h1⟩ := own_typR h hk
  obtain ⟨_, _, c2, h2⟩ := own_typR h' q
  rw [h1] at h2
  simp only [Option.some.injEq, Obj.cells.injEq] at h2
  exact he h2.2.1
theorem RM.below (h : RM B w v R L rs M) (hb : Below w.heap.size w w') : RM B w' v R L rs M :=
  ⟨own_blkR h.o fun k e => hb.block _ (h.o.lt k e).2, fun i hi => own_blkR (h.r i hi) fun k e => hb.block _ ((h.r i hi).lt k e).2, h.d, h.b⟩
theorem RM.row (h : RM B w v R L rs M) {i : Nat} (hi : i < R) : HB w (rs i) (tbL L (M i)) := HB.of_own (by rw [tbL_length]; exact h.r i hi) (tbL_byt L (h.b i))
theorem RM.slc (h : RM B w v R L rs M) {i : Nat} (hi : i < R) (hL : 0 < L) : ∃ g c, rs i = .slice (some ⟨g, 0, none⟩) L c ∧ B ≤ g ∧ g < w.heap.size ∧ L ≤ c ∧ c ≤ 9223372036854775807 := by
  rcases (h.r i hi).2 with ⟨_, h0⟩ | ⟨g, cap, cur, e, hB, hh, h3, h4, _⟩
  · omega
  · unfold maxLen at h4
    exact ⟨g, cap, e, hB, (Array.getElem?_eq_some_iff.1 hh).1, h3, h4⟩
theorem RM.top (h : RM B w v R L rs M) (hR : 0 < R) : ∃ g c, v = .slice (some ⟨g, 0, none⟩) R c ∧ B ≤ g ∧ g < w.heap.size ∧ R ≤ c ∧ c ≤ 9223372036854775807 ∧ ∀ i, i < R → w.cell? ⟨g, i, none⟩ = some (rs i) ∧ w.frozen? ⟨g, i, none⟩ = false := by
  rcases h.o.2 with ⟨_, h0⟩ | ⟨g, cap, cur, e, hB, hh, h3, h4, h5, h6⟩
  · omega
  · unfold maxLen at h4
    refine ⟨g, cap, e, hB, (Array.getElem?_eq_some_iff.1 hh).1, h3, h4, fun i hi => ⟨?_, by simp [World.frozen?, hh]⟩⟩
    rw [cell_of_row _ _ _ _ _ _ hh]
    rw [Nat.mul_one] at h5 h6
    have : ((List.range R).map rs)[i]? = cur[i]? := by rw [← h6, List.getElem?_take, if_pos (by omega)]; simp
    rw [← this]
    simp [hi]
theorem RM.set (h : RM B w v R L rs M) {i j x : Nat} (hi : i < R) (hj : j < L) (hx : x < 256) {g c : Nat} (hg : rs i = .slice (some ⟨g, 0, none⟩) L c) : RM B (w.setCell ⟨g, j, none⟩ (.int .u8 (x : Int))) v R L rs (fun a b => if a = i ∧ b = j then x else M a b) := by
  have nb : ∀ k, k ≠ g → (w.setCell ⟨g, j, none⟩ (.int .u8 (x : Int))).heap[k]? = w.heap[k]? := fun k hk => heap_setCell_other _ _ _ _ (by simpa using hk)
  have hgb : (rs i).ownBlock = some g := by rw [hg]; rfl
  refine ⟨own_blkR h.o fun k e => nb k fun q => ?_, fun a ha => ?_, h.d, fun a b => ?_⟩
  · subst q
    exact own_nothR (h.r i hi) h.o (by decide) hgb e
  · by_cases e : a = i
    · subst e
      have := ((h.r a ha)).2
      have hs := (h.r a ha)
      rw [hg] at hs ⊢
      have h2 := (hs.stored j (.int .u8 (x : Int))).1
      rw [← List.map_set, tbL_set _ _ _ _ hj] at h2
      have e2 : (tbL L fun b => if a = a ∧ b = j then x else M a b) = tbL L fun b => if b = j then x else M a b := tbL_congr fun b _ => by simp
      rw [e2]
      exact h2
    · have e2 : (tbL L fun b => if a = i ∧ b = j then x else M a b) = tbL L (M a) := tbL_congr fun b _ => by rw [if_neg (fun q => e q.1)]
      rw [e2]
      refine own_blkR (h.r a ha) fun k q => nb k fun r => ?_
      subst r
      rcases h.d a i ha hi e with s | s
      · rw [s] at q; cases q
      · exact s (q.trans hgb.symm)
  · show (if _ then _ else _) < 256
    split
    · exact hx
    · exact h.b a b
theorem RM.congr {M' : Nat → Nat → Nat} (h : RM B w v R L rs M) (he : ∀ i j, i < R → j < L → M i j = M' i j) (hb : ∀ i j, M' i j < 256) : RM B w v R L rs M' :=
  ⟨h.o, fun i hi => by rw [← tbL_congr fun j hj => he i j hi hj]; exact h.r i hi, h.d, hb⟩
end
end Go.Proofs.Ytbiplflejijbeaa
namespace Go.Proofs.Ytbiplflejijbeaa
open Go.RowKit
theorem info_int : (Try.prog.info? 3).map (fun i => (i.zero, i.size, i.bytes)) = some (some (.int .i64 0), 1, 8) := by kernel_rfl
theorem run_append_int (w : World) (base : Nat) (ty : TypeId) (v : Value) (n : Nat) (xs : List Value) (hown : w.ownsRow base 3 1 v n xs) (a : Addr) (c : Nat) (x : Int) (hx : w.cell? a = some (.int .i64 x)) (hn : n + 1 ≤ 1000000) (hbase : base ≤ w.heap.size) :
    ∃ v' w', (Builtin.append_ #[23, 23] ty #[v, .slice (some a) 1 c]).run Try.prog w = .ok v' w' ∧ w'.ownsRow base 3 1 v' (n + 1) (xs ++ [.int .i64 x]) ∧ w.grownBy w' v.ownBlock ∧
      (v'.ownBlock = v.ownBlock ∨ (v'.ownBlock = some w.heap.size ∧ w.grownBy w' none)) := by
  obtain ⟨i0, hi, hz0, hz1, hz2⟩ := info_parts info_int
  have hnews : ∀ j u, [Value.int .i64 x][j]? = some u → w.cell? (a.add j) = some u := by
    intro j u hj
    match j, hj with
    | 0, hj => simp at hj; subst hj; simpa [Addr.add] using hx
  have h1 : ∀ u ∈ [Value.int .i64 x], u.oneCell' = true := by intro u hu; simp at hu; subst hu; rfl
  obtain ⟨v', w', hr, h2, h3, _⟩ := run_append_own (P := Try.prog) w base 23 ty 3 i0 (.int .i64 0) 1 8 Try.underlying23 hi hz0 hz1 hz2 rfl (by decide) v n xs hown a 1 c [.int .i64 x] rfl hnews h1 (by unfold maxLen; omega) (by omega) hbase
  refine ⟨v', w', hr, h2, h3, ?_⟩
  rcases hown.2 with ⟨rfl, rfl⟩ | ⟨g, cap, cur, rfl, hbg, hg, hnc, hcm, hcs, htake⟩
  · have hr2 := run_append_nil (P := Try.prog) w 23 ty 3 i0 (.int .i64 0) Try.underlying23 hi hz0 a 1 c [.int .i64 x] (by rw [hz1]; rfl) hnews (by omega) (by omega) (by rw [hz2]; omega)
    rw [hr] at hr2
    simp only [Result.ok.injEq] at hr2
    obtain ⟨rfl, rfl⟩ := hr2
    exact .inr ⟨rfl, ⟨rfl, rfl, rfl, by simp, fun k hk _ => heap_alloc_old w.drew _ hk⟩⟩
  · by_cases hroom : n + 1 ≤ cap
    · obtain ⟨w2, hr2, _⟩ := run_append_fits (P := Try.prog) w base 23 ty 3 i0 1 Try.underlying23 hi hz1 g n cap xs hown a 1 c [.int .i64 x] rfl hnews h1 hroom
      rw [hr] at hr2
      simp only [Result.ok.injEq] at hr2
      obtain ⟨rfl, rfl⟩ := hr2
      exact .inl rfl
    · have hr2 := run_append_grow (P := Try.prog) w 23 ty 3 i0 (.int .i64 0) Try.underlying23 hi hz0 ⟨g, 0, none⟩ n cap xs (by rw [hz1]; exact hown.1) (hown.cells (g := g) rfl) a 1 c [.int .i64 x] (by rw [hz1]; rfl) hnews (by omega) (by omega) (growslice_fits (by omega) (by rw [hz2]; omega))
      rw [hr] at hr2
      simp only [Result.ok.injEq] at hr2
      obtain ⟨rfl, rfl⟩ := hr2
      exact .inr ⟨rfl, ⟨rfl, rfl, rfl, by simp, fun k hk _ => heap_alloc_old w.drew _ hk⟩⟩
theorem wpList_append_int {w : World} {ops : Array Oper} {rest : List Oper} {o : Oper} {a : Act} {Q : Exit → Act → World → Prop} (hgd : o.guard = none) (s x : Operand)
    (ho : o.op = .call { callee := .builtin .append, args := #[s, x], argTypes := #[23, 23] })
    (base : Nat) (v : Value) (n : Nat) (xs : List Value) (hs : a.eval s = v) (hown : w.ownsRow base 3 1 v n xs)
    (ad : Addr) (c : Nat) (y : Int) (hx : a.eval x = .slice (some ad) 1 c) (hy : w.cell? ad = some (.int .i64 y)) (hn : n + 1 ≤ 1000000) (hbase : base ≤ w.heap.size)
    (h : ∀ v' w', w'.ownsRow base 3 1 v' (n + 1) (xs ++ [.int .i64 y]) → w.grownBy w' v.ownBlock → (v'.ownBlock = v.ownBlock ∨ (v'.ownBlock = some w.heap.size ∧ w.grownBy w' none)) → wpList Try.prog ops Q rest (a.put o.dst v') w') : wpList Try.prog ops Q (o :: rest) a w := by
  refine wpList_plain hgd fun K hK => ?_
  obtain ⟨v', w', hr, h2, h3, h4⟩ := run_append_int w base o.type v n xs hown ad c y hy hn hbase
  unfold Oper.wp execOp
  simp only [ho, resolve, invoke, builtin, Sem.run_bind, Sem.run_pure, Result.andThen_ok, List.map_toArray, List.map_cons, List.map_nil, hs, hx, hr]
  exact hK _ _ (h v' w' h2 h3 h4)
end Go.Proofs.Ytbiplflejijbeaa
namespace Go.Proofs.Ytbiplflejijbeaa
open Go Go.RowKit
section
variable {P : Program} {ops : Array Oper} {Q : Exit → Act → World → Prop} {md : Region.Mode} {S : World → Prop} {L : Nat}
def wpAnyL (P : Program) (md : Region.Mode) (ops : Array Oper) (Q : Exit → Act → World → Prop) (S : World → Prop) (L : Nat) : Nat → Array Bool → Act → World → Prop
  | 0, listed, a, w => Region.ready md ops listed = [] ∧ Q .normal a w
  | fuel + 1, listed, a, w =>
    (Region.ready md ops listed = [] → Q .normal a w) ∧
    ∀ i ∈ Region.ready md ops listed, wpOp P ops Q i (fun a' w' => (i ≠ L → S w') ∧ wpAnyL P md ops Q S L fuel (listed.setIfInBounds i true) a' w') a w
theorem wpAny_of_last : ∀ (fuel : Nat) (listed : Array Bool) (a : Act) (w : World), wpAnyL P md ops Q S L fuel listed a w → wpAny P md ops Q fuel listed a w
  | 0, _, _, _, h => h
  | fuel + 1, _, _, _, h => ⟨h.1, fun i hi => wpOp_mono (fun a' w' h' => wpAny_of_last fuel _ a' w' h'.2) (h.2 i hi)⟩
theorem wpAnyL_first {i : Nat} {oi : Oper} {v : Value} (hi : ops[i]? = some oi) (hiL : i ≠ L) (hwait : ∀ o, ops[L]? = some o → ∃ e ∈ o.after, Region.binds md e = true ∧ e.on = i) (hsel : ∀ (j : Nat) (o : Oper) cs b, ops[j]? = some o → o.op ≠ .select cs b)
    (hQ : ∀ c a w, Q (.panic c) (a.put oi.dst v) w → Q (.panic c) a w) :
    ∀ (fuel : Nat) (listed : Array Bool) (a : Act) (w : World),
      (∀ j oj, ops[j]? = some oj → j ≠ i → listed.getD j true = false → (∀ e ∈ oj.after, Region.binds md e = true → e.on ≠ i) → oi.apart ops oj = true) →
      i ∈ Region.ready md ops listed → YieldsIf P ops S oi v a → S w →
      wpAnyL P md ops Q S L fuel (listed.setIfInBounds i true) (a.put oi.dst v) w → wpAnyL P md ops Q S L (fuel + 1) listed a w := by
  intro fuel
  induction fuel with
  | zero =>
    intro listed a w _ hr hy hS H
    refine ⟨fun h => (by rw [h] at hr; cases hr), fun j hj => ?_⟩
    by_cases hji : j = i
    · subst hji; exact hy.wpOp hi hS ⟨fun _ => hS, H⟩
    · have := ready_mono hj hji
      rw [H.1] at this
      cases this
  | succ fuel ih =>
    intro listed a w hfree hr hy hS H
    refine ⟨fun h => (by rw [h] at hr; cases hr), fun j hj => ?_⟩
    by_cases hji : j = i
    · subst hji; exact hy.wpOp hi hS ⟨fun _ => hS, H⟩
    · have h1 := H.2 j (ready_mono hj hji)
      obtain ⟨hjun, oj, hoj, hall⟩ := mem_ready.1 hj
      have hnot : ∀ e ∈ oj.after, Region.binds md e = true → e.on ≠ i := fun e he hb heq => by
        have h1 := hall e he hb
        have h0 := (mem_ready.1 hr).1
        rw [heq] at h1
        rcases Nat.lt_or_ge i listed.size with h' | h'
        · simp [h'] at h0 h1; rw [h0] at h1; cases h1
        · simp [Array.getElem?_eq_none h'] at h1
      have hjL : j ≠ L := fun e => by
        rw [e] at hoj
        obtain ⟨x, hx, hb, he⟩ := hwait oj hoj
        exact hnot x hx hb he
      have h1' : wpOp P ops Q j (fun a' w' => S w' ∧ wpAnyL P md ops Q S L fuel ((listed.setIfInBounds i true).setIfInBounds j true) a' w') (a.put oi.dst v) w := wpOp_mono (fun a' w' q => ⟨q.1 hjL, q.2⟩) h1
      have h2 := wpOp_putIf hoj (hfree j oj hoj hji hjun hnot) (fun cs b => hsel i oi cs b hi) (fun cs b => hsel j oj cs b hoj) hQ hy h1'
      have hfree' : ∀ k ok, ops[k]? = some ok → k ≠ i → (listed.setIfInBounds j true).getD k true = false →
          (∀ e ∈ ok.after, Region.binds md e = true → e.on ≠ i) → oi.apart ops ok = true := fun k ok hk hki hun hno => by
        refine hfree k ok hk hki ?_ hno
        by_cases hjk : j = k
        · subst hjk; exact hjun
        · rw [getD_set_ne true hjk] at hun; exact hun
      refine wpOp_mono (fun a' w' h3 => ⟨fun _ => h3.2.1, ih (listed.setIfInBounds j true) a' w' hfree' (ready_mono hr (Ne.symm hji)) h3.1 h3.2.1 ?_⟩) h2
      rw [Array.setIfInBounds_comm _ _ hji]
      exact h3.2.2
def waitsL (md : Region.Mode) (ops : Array Oper) (L i : Nat) : Bool :=
  match ops[L]? with
  | some o => o.after.any fun e => Region.binds md e && e.on == i
  | none => true
theorem waitsL_spec {i : Nat} (h : waitsL md ops L i = true) : ∀ o, ops[L]? = some o → ∃ e ∈ o.after, Region.binds md e = true ∧ e.on = i := fun o ho => by
  unfold waitsL at h
  rw [ho] at h
  obtain ⟨k, hk, he⟩ := Array.any_eq_true.1 h
  simp only [Bool.and_eq_true, beq_iff_eq] at he
  exact ⟨_, Array.getElem_mem hk, he⟩
theorem wpAnyL_take {i : Nat} {oi : Oper} {v : Value} {fuel : Nat} {listed : Array Bool} {a : Act} {w : World} (hi : ops[i]? = some oi) (hiL : (i == L) = false) (hwt : waitsL md ops L i = true)
    (hs : Region.noSelect ops = true) (hf : Region.free md ops listed i = true) (hr : (Region.ready md ops listed).contains i = true)
    (hQ : ∀ c a w, Q (.panic c) (a.put oi.dst v) w → Q (.panic c) a w) (hy : YieldsIf P ops S oi v a) (hS : S w)
    (h : wpAnyL P md ops Q S L fuel (listed.setIfInBounds i true) (a.put oi.dst v) w) : wpAnyL P md ops Q S L (fuel + 1) listed a w :=
  wpAnyL_first hi (by simpa using hiL) (waitsL_spec hwt) (Region.noSelect_spec hs) hQ fuel listed a w (Region.free_spec hi hf) (by simpa using hr) hy hS h
theorem wpAnyL_done {listed : Array Bool} {a : Act} {w : World} (hr : Region.ready md ops listed = []) (h : Q .normal a w) :
    ∀ fuel, wpAnyL P md ops Q S L fuel listed a w
  | 0 => ⟨hr, h⟩
  | _ + 1 => ⟨fun _ => h, by rw [hr]; simp⟩
theorem wpAnyL_one {i : Nat} {o : Oper} {fuel : Nat} {listed : Array Bool} {a : Act} {w : World} (hr : Region.ready md ops listed = [i]) (ho : ops[i]? = some o)
    (h : ∀ K' : Act → World → Prop, Shut (∀ a w, (i ≠ L → S w) → wpAnyL P md ops Q S L fuel (listed.setIfInBounds i true) a w → K' a w) → if Region.wanted o (yielded ops a.tmps) = true then Oper.wp P o a w K' Q else K' (a.put o.dst undef) w) :
    wpAnyL P md ops Q S L (fuel + 1) listed a w := by
  refine ⟨fun h0 => (by rw [hr] at h0; cases h0), fun j hj => ?_⟩
  rw [hr] at hj
  rcases List.mem_singleton.1 hj with rfl
  exact wpOp_step ho (fun K' hK => h K' (fun a w hS hW => hK a w ⟨hS, hW⟩))
theorem wp_region_last {id : Nat} {a : Act} {w : World} (L : Nat) (hm : P.follows .mixedOrders = true) (hS : S w.drew)
    (h : S w.drew → wpAnyL P .any ops Q S L ops.size (Array.replicate ops.size false) a w.drew) : (Code.region id ops true).wp P Q a w :=
  wp_region_any hm (wpAny_of_last _ _ _ _ (h hS))
end
end Go.Proofs.Ytbiplflejijbeaa
