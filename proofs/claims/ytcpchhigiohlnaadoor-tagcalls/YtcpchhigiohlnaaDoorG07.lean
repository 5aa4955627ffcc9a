/- Of the road to tagCallsUptoCard_holds: EvPlan, EvRun, EvFast, EvPart, EvSha, ShaLives, ShaSumAny, ShaSums. -/
import Derived.Test.YtcpchhigiohlnaaDoorG06
import Derived.Scope
import Derived.Test.YtcpchhigiohlnaaDoorG00
import Derived.Test.YtcpchhigiohlnaaDoorChecked
import Derived.Test.YtcpchhigiohlnaaDoorG03
set_option linter.unusedVariables false
set_option linter.unusedSimpArgs false
set_option maxRecDepth 100000
set_option maxHeartbeats 16000000
namespace Go.Proofs.YtcpchhigiohlnaaDoor.Ev
open Go Go.RowKit
def isLoad : Op -> Bool
 | .load _ _ => true
 | _ => false
def pureOp (P : Program) : Op -> Bool
 | .move _ | .assign _ | .pick _ _ _ | .load _ _ | .nilCheck _ | .binOp _ _ _ _ _ | .unOp _ _ _ | .sliceToArrayPointer _ _ | .slice _ _ _ _ _ | .fieldAddr _ _ _ | .field _ _ _ | .indexAddr _ _ _ | .index _ _ _ | .makeFunc _ _ _ | .extract _ _ | .build _ _ | .makeInterface _ _ => true
 | .convert _ d _ => match P.underlying d with | some (.int _) => true | _ => false
 | _ => false
theorem pureOp_carry {P : Program} {op : Op} (h : pureOp P op = true) : carry op = false := by
 cases op <;> first | rfl | (simp [pureOp] at h)
def loadAt (ops : Array Oper) (i : Nat) : Bool := match ops[i]? with | some o => isLoad o.op | none => false
def pickS (P : Program) (ops : Array Oper) (loads : Bool) (listed : Array Bool) : List Nat -> Option Nat
 | [] => none
 | i :: r =>
  match ops[i]? with
  | some o => if pureOp P o.op && (loads || !isLoad o.op) && Region.free .any ops listed i then some i else pickS P ops loads listed r
  | none => pickS P ops loads listed r
theorem pickS_ok {P : Program} {ops : Array Oper} {loads : Bool} {listed : Array Bool} : ∀ (rd : List Nat) (i : Nat), pickS P ops loads listed rd = some i →
  i ∈ rd /\ ∃ o, ops[i]? = some o /\ carry o.op = false /\ (loads = false -> isLoad o.op = false) /\ Region.free .any ops listed i = true
 | [], _, h => by simp [pickS] at h
 | j :: r, i, h => by
  have again : pickS P ops loads listed r = some i -> i ∈ j :: r /\ ∃ o, ops[i]? = some o /\ carry o.op = false /\ (loads = false -> isLoad o.op = false) /\ Region.free .any ops listed i = true := fun h' => by
   obtain ⟨h1, h2⟩ := pickS_ok r i h'
   exact ⟨List.mem_cons_of_mem _ h1, h2⟩
  simp only [pickS] at h
  split at h
  case h_2 => exact again h
  rename_i o ho
  split at h
  case isFalse => exact again h
  rename_i hc
  simp only [Option.some.injEq] at h
  subst h
  simp only [Bool.and_eq_true, Bool.or_eq_true, Bool.not_eq_true'] at hc
  exact ⟨List.mem_cons_self, o, ho, pureOp_carry hc.1.1, fun e => by subst e; simpa using hc.1.2, hc.2⟩
def planA (P : Program) (ops : Array Oper) : Nat -> Array Bool -> List Nat × Nat × Array Bool
 | 0, listed => ([], 0, listed)
 | f + 1, listed =>
  match pickS P ops true listed (Region.ready .any ops listed) with
  | some i => (i :: (planA P ops f (listed.setIfInBounds i true)).1, (planA P ops f (listed.setIfInBounds i true)).2)
  | none => ([], f + 1, listed)
def planB (P : Program) (ops : Array Oper) : Nat -> Array Bool -> Option (List (Nat × Bool))
 | 0, listed => match Region.ready .any ops listed with | [] => some [] | _ => none
 | f + 1, listed =>
  match Region.ready .any ops listed with
  | [] => some []
  | i0 :: rest =>
   match pickS P ops false listed (i0 :: rest) with
   | some i => (planB P ops f (listed.setIfInBounds i true)).map ((i, true) :: ·)
   | none => match rest with
    | [] => (planB P ops f (listed.setIfInBounds i0 true)).map ((i0, false) :: ·)
    | _ => none
def planOf (P : Program) (ops : Array Oper) : Option (List Nat × List Nat × List (Nat × Bool)) :=
 if Region.noSelect ops then
  match planA P ops ops.size (Array.replicate ops.size false) with
  | (A, f, l) => (planB P ops f l).map fun B => (A, A.filter (loadAt ops), B)
 else none
def spanOf (P : Program) (t : Tm) : Op -> Option (Nat × Nat × Nat)
 | .load T x => (gPtr t x).map fun p => (p.1, p.2, loadLen P T)
 | _ => none
def addSpan (P : Program) (t : Tm) (op : Op) (L : List (Nat × Nat × Nat)) : List (Nat × Nat × Nat) := match spanOf P t op with | some s => s :: L | none => L
def runA (P : Program) (Lo : Lore) (ops : Array Oper) (H : List Blk) : List Nat -> Tm -> List (Nat × Nat × Nat) -> Option (Tm × List (Nat × Nat × Nat))
 | [], t, L => some (t, L)
 | i :: r, t, L =>
  match ops[i]? with
  | some o =>
   match wantA ops t o with
   | some true =>
    match evRead P Lo t H o.op with
    | some v => runA P Lo ops H r (putA t o.dst v) (addSpan P t o.op L)
    | none => none
   | some false => runA P Lo ops H r (putA t o.dst (.tup [])) L
   | none => none
  | none => none
theorem runA_grows {P : Program} {Lo : Lore} {ops : Array Oper} {H : List Blk} : ∀ (A : List Nat) (t : Tm) (L : List (Nat × Nat × Nat)) (t' : Tm) (L' : List (Nat × Nat × Nat)), runA P Lo ops H A t L = some (t', L') -> ∀ x ∈ L, x ∈ L'
 | [], t, L, t', L', h => by
  simp only [runA, Option.some.injEq, Prod.mk.injEq] at h
  obtain ⟨_, rfl⟩ := h
  exact fun _ h => h
 | i :: r, t, L, t', L', h => by
  simp only [runA] at h
  split at h
  case h_2 => cases h
  split at h
  ·split at h
   ·intro x hx
    refine runA_grows r _ _ _ _ h x ?_
    unfold addSpan
    split
    ·exact List.mem_cons_of_mem _ hx
    ·exact hx
   ·cases h
  ·exact runA_grows r _ _ _ _ h
  ·cases h
def Saw (ρ : Env) (ms : List Nat) (H : List Blk) (L : List (Nat × Nat × Nat)) (w : World) : Prop := ∀ s ∈ L, SeesAt ρ ms H w s.1 s.2.1 s.2.2
section
variable {P : Program} {ρ : Env} {Lo : Lore} {ops : Array Oper} {Q : Exit -> Act -> World -> Prop} {B : Nat}
theorem runA_ok (hLo : LoreOk ρ Lo) {ms : List Nat} {H : List Blk} (hsel : Region.noSelect ops = true) (hQ : ∀ c a w, ¬ Q (.panic c) a w) {N' : List Nat} {L' : List (Nat × Nat × Nat)} {w : World} (hSw : Saw ρ ms H L' w) :
  ∀ (f : Nat) (listed : Array Bool) (A : List Nat) (f' : Nat) (l' : Array Bool) (t t' : Tm) (L : List (Nat × Nat × Nat)) (a : Act), planA P ops f listed = (A, f', l') -> (∀ i ∈ A, loadAt ops i = true -> i ∈ N') -> runA P Lo ops H A t L = some (t', L') -> RelT ρ ms t a.tmps →
   (∀ a', RelT ρ ms t' a'.tmps -> a'.defers = a.defers -> wpN P ops Q (Saw ρ ms H L') (waits ops N') f' false l' a' w) →
   wpN P ops Q (Saw ρ ms H L') (waits ops N') f false listed a w
 | 0, listed, A, f', l', t, t', L, a, h, hN, hr, hT, hk => by
  simp only [planA, Prod.mk.injEq] at h
  obtain ⟨rfl, rfl, rfl⟩ := h
  simp only [runA, Option.some.injEq, Prod.mk.injEq] at hr
  obtain ⟨rfl, _⟩ := hr
  exact hk a hT rfl
 | f + 1, listed, A, f', l', t, t', L, a, h, hN, hr, hT, hk => by
  simp only [planA] at h
  split at h
  ·rename_i i hp
   obtain ⟨p1, o, p2, p3, _, p4⟩ := pickS_ok _ _ hp
   generalize hq : planA P ops f (listed.setIfInBounds i true) = q at h
   obtain ⟨A1, f1, l1⟩ := q
   simp only [Prod.mk.injEq] at h
   obtain ⟨rfl, rfl, rfl⟩ := h
   simp only [runA, p2] at hr
   have fin : ∀ (x : AV) (L1 : List (Nat × Nat × Nat)), runA P Lo ops H A1 (putA t o.dst x) L1 = some (t', L') -> ∀ u, x.inst ρ ms = some u →
     wpN P ops Q (Saw ρ ms H L') (waits ops N') f false (listed.setIfInBounds i true) (a.put o.dst u) w := fun x L1 h' u hu =>
    runA_ok hLo hsel hQ hSw f _ A1 f1 l1 _ _ _ _ hq (fun j hj => hN j (List.mem_cons_of_mem _ hj)) h' (hT.putA o.dst hu) (fun a' h1 h2 => hk a' h1 (h2.trans (put_defers _ _ _)))
   have go : ∀ (x : AV) (L1 : List (Nat × Nat × Nat)), ((wantA ops t o = some true /\ evRead P Lo t H o.op = some x /\ L1 = addSpan P t o.op L) \/ (wantA ops t o = some false /\ x = .tup [])) -> runA P Lo ops H A1 (putA t o.dst x) L1 = some (t', L') -> wpN P ops Q (Saw ρ ms H L') (waits ops N') (f + 1) false listed a w := by
    intro x L1 hx h'
    have hx2 : (wantA ops t o = some true /\ evRead P Lo t H o.op = some x) \/ (wantA ops t o = some false /\ x = .tup []) := hx.imp (fun q => ⟨q.1, q.2.1⟩) id
    by_cases hld : isLoad o.op = true /\ wantA ops t o = some true
    ·have hin := hN i List.mem_cons_self (by unfold loadAt; rw [p2]; exact hld.1)
     have hL1 : L1 = addSpan P t o.op L := by
      rcases hx with q | q
      ·exact q.2.2
      ·rw [hld.2] at q; simp at q
     have hgr := runA_grows _ _ _ _ _ h'
     obtain ⟨u, e1, e2⟩ := pick_yields hLo (P := P) (ops := ops) (S := Saw ρ ms H L') hT hx2 hSw (fun w' hw' T y m c hop hg => by
      refine hw' (m, c, loadLen P T) (hgr _ ?_)
      rw [hL1]
      simp [addSpan, spanOf, hop, hg])
     exact wpN_take p2 hsel hQ (waits_carry p2 p3) f false listed a w (.inr ⟨rfl, rfl, fun j oj hj hw => waits_edge hj hw hin⟩) (Region.free_spec p2 p4) p1 e2 hSw (.inl hSw) (fin _ _ h' u e1)
    ·obtain ⟨u, e1, e2⟩ : ∃ u, x.inst ρ ms = some u /\ YieldsIf P ops (fun _ => True) o u a := by
      rcases hx2 with ⟨q1, q2⟩ | ⟨q1, q2⟩
      ·refine pick_yields hLo (P := P) (ops := ops) (S := fun _ => True) (w := w) hT (.inl ⟨q1, q2⟩) trivial (fun w' _ T y m c hop hg => ?_)
       exact absurd ⟨by rw [hop]; rfl, q1⟩ hld
      ·refine pick_yields hLo (P := P) (ops := ops) (S := fun _ => True) (w := w) hT (H := []) (.inr ⟨q1, q2⟩) trivial (fun w' _ T y m c hop hg b k hb hk => by simp at hk)
     exact wpN_take p2 hsel hQ (waits_carry p2 p3) f false listed a w (.inl fun _ => trivial) (Region.free_spec p2 p4) p1 e2 trivial (.inl hSw) (fin _ _ h' u e1)
   split at hr
   ·rename_i hw
    split at hr
    ·rename_i v hv
     exact go v _ (.inl ⟨hw, hv, rfl⟩) hr
    ·cases hr
   ·rename_i hw
    exact go _ _ (.inr ⟨hw, rfl⟩) hr
   ·cases hr
  ·simp only [Prod.mk.injEq] at h
   obtain ⟨rfl, rfl, rfl⟩ := h
   simp only [runA, Option.some.injEq, Prod.mk.injEq] at hr
   obtain ⟨rfl, _⟩ := hr
   exact hk a hT rfl
end
def cellsAt (H : List Blk) (s : Nat × Nat × Nat) : Option (List SV) := (H[s.1]?).map fun k => (k.cells.drop s.2.1).take s.2.2
def keeps (L : List (Nat × Nat × Nat)) (H0 H : List Blk) : Bool := L.all fun s => decide (cellsAt H s = cellsAt H0 s)
def runB (call : CallF) (P : Program) (Lo : Lore) (ops : Array Oper) (H0 : List Blk) (N : List Nat) (L : List (Nat × Nat × Nat)) : List (Nat × Bool) -> Bool -> Tm -> List Blk -> Option (Tm × List Blk)
 | [], _, t, H => some (t, H)
 | (i, true) :: r, late, t, H =>
  match ops[i]? with
  | some o =>
   match wantA ops t o with
   | some true => match evRead P Lo t [] o.op with | some v => runB call P Lo ops H0 N L r late (putA t o.dst v) H | none => none
   | some false => runB call P Lo ops H0 N L r late (putA t o.dst (.tup [])) H
   | none => none
  | none => none
 | (i, false) :: r, late, t, H =>
  match ops[i]? with
  | some o =>
   match wantA ops t o with
   | some true =>
    match evStep call P Lo t H o with
    | some (v, H') => if late || waits ops N i || keeps L H0 H' then runB call P Lo ops H0 N L r (late || waits ops N i) (putA t o.dst v) H' else none
    | none => none
   | some false => runB call P Lo ops H0 N L r (late || waits ops N i) (putA t o.dst (.tup [])) H
   | none => none
  | none => none
theorem runB_ok {P : Program} {ρ : Env} {Lo : Lore} (hLo : LoreOk ρ Lo) {call : CallF} (hc : CallOk P ρ call) {ops : Array Oper} {Q : Exit -> Act -> World -> Prop} {B : Nat} {ms : List Nat} {H0 : List Blk} {w0 : World} (hH0 : Holds ρ ms H0 B w0) (hsel : Region.noSelect ops = true) (hQ : ∀ c a w, ¬ Q (.panic c) a w) {N : List Nat} {L : List (Nat × Nat × Nat)} {tF : Tm} {HF : List Blk} :
  ∀ (f : Nat) (listed : Array Bool) (bp : List (Nat × Bool)) (late : Bool) (t : Tm) (H : List Blk) (ms1 : List Nat) (a : Act) (w : World), planB P ops f listed = some bp -> runB call P Lo ops H0 N L bp late t H = some (tF, HF) -> RelT ρ ms1 t a.tmps -> Holds ρ ms1 H B w -> ms <+: ms1 →
   (Saw ρ ms H0 L w \/ late = true) →
   (∀ ms2 a' w', ms1 <+: ms2 -> RelT ρ ms2 tF a'.tmps -> a'.defers = a.defers -> Holds ρ ms2 HF B w' -> Bel B w w' -> Q .normal a' w') →
   wpN P ops Q (Saw ρ ms H0 L) (waits ops N) f late listed a w
 | 0, listed, bp, late, t, H, ms1, a, w, hp0, h, hT, hH, hp, hS, hk => by
  simp only [planB] at hp0
  split at hp0
  ·rename_i hr
   simp only [Option.some.injEq] at hp0
   subst hp0
   simp only [runB, Option.some.injEq, Prod.mk.injEq] at h
   obtain ⟨rfl, rfl⟩ := h
   exact ⟨hr, hk ms1 a w (List.prefix_refl _) hT rfl hH (Bel.refl _ _)⟩
  ·cases hp0
 | f + 1, listed, bp, late, t, H, ms1, a, w, hp0, h, hT, hH, hp, hS, hk => by
  simp only [planB] at hp0
  split at hp0
  ·rename_i hr
   simp only [Option.some.injEq] at hp0
   subst hp0
   simp only [runB, Option.some.injEq, Prod.mk.injEq] at h
   obtain ⟨rfl, rfl⟩ := h
   exact ⟨fun _ => hk ms1 a w (List.prefix_refl _) hT rfl hH (Bel.refl _ _), fun i hi => by rw [hr] at hi; cases hi⟩
  ·rename_i i0 rest hr
   split at hp0
   ·rename_i i hpk
    obtain ⟨p1, o, p2, p3, p5, p4⟩ := pickS_ok _ _ hpk
    rw [Option.map_eq_some_iff] at hp0
    obtain ⟨bp1, hb1, rfl⟩ := hp0
    simp only [runB, p2] at h
    have go : ∀ x : AV, ((wantA ops t o = some true /\ evRead P Lo t [] o.op = some x) \/ (wantA ops t o = some false /\ x = .tup [])) -> runB call P Lo ops H0 N L bp1 late (putA t o.dst x) H = some (tF, HF) -> wpN P ops Q (Saw ρ ms H0 L) (waits ops N) (f + 1) late listed a w := by
     intro x hx h'
     obtain ⟨u, e1, e2⟩ := pick_yields hLo (P := P) (ops := ops) (S := fun _ => True) (w := w) hT hx trivial (fun w' _ T y m c hop hg b k hb hk => by simp at hk)
     refine wpN_take p2 hsel hQ (waits_carry p2 p3) f late listed a w (.inl fun _ => trivial) (Region.free_spec p2 p4) (by rw [hr]; exact p1) e2 trivial hS ?_
     exact runB_ok hLo hc hH0 hsel hQ f _ bp1 late _ H ms1 _ w hb1 h' (hT.putA o.dst e1) hH hp hS (fun ms2 a' w' q1 q2 q3 q4 q5 => hk ms2 a' w' q1 q2 (q3.trans (put_defers _ _ _)) q4 q5)
    split at h
    ·rename_i hw
     split at h
     ·rename_i v hv
      exact go v (.inl ⟨hw, hv⟩) h
     ·cases h
    ·rename_i hw
     exact go _ (.inr ⟨hw, rfl⟩) h
    ·cases h
   ·split at hp0
    case h_2 => cases hp0
    rw [Option.map_eq_some_iff] at hp0
    obtain ⟨bp1, hb1, rfl⟩ := hp0
    simp only [runB] at h
    split at h
    case h_2 => cases h
    rename_i o ho
    refine ⟨fun h0 => (by rw [hr] at h0; cases h0), fun i hi => ?_⟩
    rw [hr] at hi
    obtain rfl : i = i0 := by simpa using hi
    refine wpOp_step ho fun K hK => ?_
    split at h
    ·rename_i hw
     have hw2 := wantA_ok hT hw
     rw [hw2, if_pos rfl]
     split at h
     case h_2 => cases h
     rename_i v H1 hs
     split at h
     case isFalse => cases h
     rename_i hcond
     refine evStep_ok hLo hc hT hH hs fun ms2 u w2 p1 p2 p3 p4 => hK _ _ ?_
     have hS2 : Saw ρ ms H0 L w2 \/ (late || waits ops N i) = true := by
      rw [Bool.or_eq_true] at hcond
      rcases hcond with hcond | hcond
      ·exact .inr hcond
      ·refine .inl fun s hs' b k hb hk' j sv h1 h2 hsv => ?_
       have e1 : cellsAt H1 s = cellsAt H0 s := by
        have := List.all_eq_true.1 hcond s hs'
        simpa using this
       simp only [cellsAt, hk', Option.map_some, Option.map_eq_some_iff] at e1
       obtain ⟨k1, hk1, e2⟩ := e1
       have hc1 : k1.cells[j]? = some sv := by
        have e3 : ((k1.cells.drop s.2.1).take s.2.2)[j - s.2.1]? = ((k.cells.drop s.2.1).take s.2.2)[j - s.2.1]? := by rw [e2]
        rw [List.getElem?_take, List.getElem?_take, if_pos (by omega), if_pos (by omega), List.getElem?_drop, List.getElem?_drop, show s.2.1 + (j - s.2.1) = j by omega, hsv] at e3
        exact e3
       obtain ⟨v0, q1, _, _⟩ := hH0.cell s.1 b k hb hk' j sv hsv
       obtain ⟨v1, r1, r2, r3⟩ := p3.cell s.1 b k1 (pre_get (hp.trans p1) hb) hk1 j sv hc1
       have := sv.inst_mono (hp.trans p1) v0 q1
       rw [r1] at this
       cases this
       exact ⟨_, q1, r2⟩
     refine ⟨hS2, ?_⟩
     exact runB_ok hLo hc hH0 hsel hQ f _ bp1 _ _ H1 ms2 _ w2 hb1 h ((hT.mono p1).putA o.dst p2) p3 (hp.trans p1) hS2 (fun ms3 a' w' q1 q2 q3 q4 q5 => hk ms3 a' w' (p1.trans q1) q2 (q3.trans (put_defers _ _ _)) q4 (p4.trans q5))
    ·rename_i hw
     have hw2 := wantA_ok hT hw
     rw [hw2, if_neg (by decide)]
     refine hK _ _ ?_
     have hS2 : Saw ρ ms H0 L w \/ (late || waits ops N i) = true := hS.imp id (fun e => by rw [e]; rfl)
     refine ⟨hS2, ?_⟩
     exact runB_ok hLo hc hH0 hsel hQ f _ bp1 _ _ H ms1 _ w hb1 h (hT.putA o.dst (v := undef) rfl) hH hp hS2 (fun ms3 a' w' q1 q2 q3 q4 q5 => hk ms3 a' w' q1 q2 (q3.trans (put_defers _ _ _)) q4 q5)
    ·cases h
def evPlan (call : CallF) (P : Program) (Lo : Lore) (ops : Array Oper) (t : Tm) (H : List Blk) : Option (Tm × List Blk) :=
 match planOf P ops with
 | some (A, N, bp) =>
  match runA P Lo ops H A t [] with
  | some (t', L) => runB call P Lo ops H N L bp false t' H
  | none => none
 | none => evDraw call P Lo ops t H
theorem evPlan_any {P : Program} {ρ : Env} {Lo : Lore} (hLo : LoreOk ρ Lo) {call : CallF} (hc : CallOk P ρ call) {ops : Array Oper} {Q : Exit -> Act -> World -> Prop} {B : Nat} {ms : List Nat} {t t' : Tm} {H H' : List Blk} {a : Act} {w : World}
  (hT : RelT ρ ms t a.tmps) (hH : Holds ρ ms H B w) (h : evPlan call P Lo ops t H = some (t', H'))
  (hQ : ∀ ms' a' w', ms <+: ms' -> RelT ρ ms' t' a'.tmps -> a'.defers = a.defers -> Holds ρ ms' H' B w' -> Bel B w w' -> Q .normal a' w') : wpAny P .any ops (fun e a w => e = .normal /\ Q .normal a w) ops.size (Array.replicate ops.size false) a { w with drawn := w.drawn + 1 } := by
 unfold evPlan at h
 split at h
 case h_2 => exact evDraw_any hLo hc hT hH h hQ
 rename_i A N bp hplan
 split at h
 case h_2 => cases h
 rename_i t1 L hA
 unfold planOf at hplan
 split at hplan
 case isFalse => cases hplan
 rename_i hsel
 generalize hq : planA P ops ops.size (Array.replicate ops.size false) = q at hplan
 obtain ⟨A1, f, l⟩ := q
 simp only [Option.map_eq_some_iff] at hplan
 obtain ⟨bp1, hb1, hb2⟩ := hplan
 simp only [Prod.mk.injEq] at hb2
 obtain ⟨rfl, rfl, rfl⟩ := hb2
 have hH1 := hH.drawn (w.drawn + 1)
 have hsaw : Saw ρ ms H L { w with drawn := w.drawn + 1 } := fun s _ => (hH1.sees s.1).at _ _
 refine (wpAny_of_N (S := Saw ρ ms H L) (W := waits ops (A1.filter (loadAt ops))) _ false _ _ _ ?_)
 refine runA_ok hLo hsel (fun c a w q => by cases q.1) hsaw _ _ A1 f l t t1 [] a hq (fun i hi hl => List.mem_filter.2 ⟨hi, hl⟩) hA hT fun a1 q1 q2 => ?_
 refine runB_ok hLo hc hH1 hsel (fun c a w q => by cases q.1) f l bp1 false t1 H ms a1 _ hb1 h q1 hH1 (List.prefix_refl _) (.inl hsaw) fun ms2 a' w' r1 r2 r3 r4 r5 => ⟨rfl, ?_⟩
 exact hQ ms2 a' w' r1 r2 (r3.trans q2) r4 ((Bel.drawn B w (w.drawn + 1)).trans r5)
theorem evPlan_ok {P : Program} {ρ : Env} {Lo : Lore} (hLo : LoreOk ρ Lo) {call : CallF} (hc : CallOk P ρ call) (hm : P.follows .mixedOrders = true) {ops : Array Oper} {Q : Exit -> Act -> World -> Prop} {B : Nat} {ms : List Nat} {t t' : Tm} {H H' : List Blk} {a : Act} {w : World} (id : Nat)
  (hT : RelT ρ ms t a.tmps) (hH : Holds ρ ms H B w) (h : evPlan call P Lo ops t H = some (t', H'))
  (hQ : ∀ ms' a' w', ms <+: ms' -> RelT ρ ms' t' a'.tmps -> a'.defers = a.defers -> Holds ρ ms' H' B w' -> Bel B w w' -> Q .normal a' w') : (Code.region id ops true).wp P Q a w :=
 Code.wp_mono (Q := fun e a w => e = .normal /\ Q .normal a w) (fun e a w q => by rw [q.1]; exact q.2) (wp_region_any hm (evPlan_any hLo hc hT hH h hQ))
end Go.Proofs.YtcpchhigiohlnaaDoor.Ev
namespace Go.Proofs.YtcpchhigiohlnaaDoor.Ev
open Go Go.RowKit
inductive Out where
 | normal
 | exit (id : Nat)
 | ret
 deriving DecidableEq, Repr, Inhabited
def Out.to : Out -> Exit
 | .normal => .normal
 | .exit i => .exit i
 | .ret => .ret
abbrev CodeF := Code -> Tm -> List Blk -> Option (Out × Tm × List Blk)
abbrev ConF := Nat -> List AV -> List Blk -> Option AV
def callStep (P : Program) (con : ConF) (self : CodeF) : CallF := fun g aas H =>
 match con g aas H with
 | some v => some (v, H)
 | none =>
  match P.funcs[g]? with
  | some fn =>
   match fn.body with
   | some c =>
    match Nat.ble fn.ntmps 512 && Nat.ble aas.length fn.ntmps with
    | true =>
     match self c (Tm.make fn.ntmps aas) H with
     | some (.normal, t, H') => (evResults P fn t H').map fun v => (v, trim H.length v H')
     | some (.ret, t, H') => (evResults P fn t H').map fun v => (v, trim H.length v H')
     | _ => none
    | false => none
   | none => none
  | none => none
def codeStep (P : Program) (L : Lore) (call : CallF) (self : CodeF) : CodeF := fun c t H =>
 match c with
 | .skip => some (.normal, t, H)
 | .region _ ops false => (evOps call P L ops ops.toList t H).map fun r => (.normal, r.1, r.2)
 | .region _ ops true => (evPlan call P L ops t H).map fun r => (.normal, r.1, r.2)
 | .seq a b =>
  match self a t H with
  | some (.normal, t', H') => self b t' H'
  | r => r
 | .cond c x y =>
  match evGet t c with
  | some (.tv (.sc (.bool true))) => self x t H
  | some (.tv (.sc (.bool false))) => self y t H
  | _ => none
 | .block id c =>
  match self c t H with
  | some (.exit i, t', H') => if i = id then some (.normal, t', H') else some (.exit i, t', H')
  | r => r
 | .loop c =>
  match self c t H with
  | some (.normal, t', H') => self (.loop c) t' H'
  | r => r
 | .exit id => some (.exit id, t, H)
 | .ret => some (.ret, t, H)
 | .label _ => some (.normal, t, H)
 | .scope c => self c t H
 | _ => none
def evG (P : Program) (L : Lore) (mk : CodeF -> CallF) : Nat -> CodeF
 | 0 => fun _ _ _ => none
 | n + 1 => codeStep P L (mk (evG P L mk n)) (evG P L mk n)
def evC (P : Program) (L : Lore) (con : ConF) : Nat -> CodeF := evG P L (callStep P con)
def evCall (P : Program) (L : Lore) (con : ConF) (n : Nat) : CallF := callStep P con (evC P L con n)
def ConOk (P : Program) (ρ : Env) (con : ConF) : Prop :=
 ∀ g aas H v, con g aas H = some v -> ∀ (ms : List Nat) (B : Nat) (w : World) (args : Array Value), aas.map (AV.inst ρ ms) = args.toList.map some -> Holds ρ ms H B w →
  Calls P g args w fun e w' => ∃ u, e = .returned u /\ v.inst ρ ms = some u /\ Below w.heap.size w w'
def CodeOk (P : Program) (ρ : Env) (self : CodeF) : Prop :=
 ∀ c t H o t' H', self c t H = some (o, t', H') -> ∀ (ms : List Nat) (B : Nat) (a : Act) (w : World) (Q : Exit -> Act -> World -> Prop), RelT ρ ms t a.tmps -> Holds ρ ms H B w →
  (∀ ms' a' w', ms <+: ms' -> RelT ρ ms' t' a'.tmps -> a'.defers = a.defers -> Holds ρ ms' H' B w' -> Bel B w w' -> Q o.to a' w') -> c.wp P Q a w
theorem Holds.below {ρ : Env} {ms : List Nat} {H : List Blk} {B : Nat} {w w' : World} (h : Holds ρ ms H B w) (hb : Below w.heap.size w w') : Holds ρ ms H B w' where
 len := h.len
 gl := h.gl
 inj := h.inj
 low := h.low
 bnd := fun i b k hi hk hne => Nat.lt_of_lt_of_le (h.bnd i b k hi hk hne) hb.size
 big := Nat.le_trans h.big hb.size
 plain := h.plain
 cell := fun i b k hi hk j s hs => by
  obtain ⟨v, h1, h2, h3⟩ := h.cell i b k hi hk j s hs
  have := hb.block b (h.bnd i b k hi hk (mem_nil_of_get hs))
  refine ⟨v, h1, ?_, fun hr => ?_⟩
  ·rw [<- h2]; unfold World.cell?; rw [this]
  ·rw [<- h3 hr]; unfold World.frozen?; rw [this]
 room := fun i b c k0 k hi hc hk0 hr0 hn0 hk hcap j hj => by
  obtain ⟨e1, e2⟩ := h.room i b c k0 k hi hc hk0 hr0 hn0 hk hcap j hj
  have hlt : b < w.heap.size := by
   cases hx : w.cell? ⟨b, j, none⟩ with
   | none => rw [hx] at e1; simp at e1
   | some x => exact World.block_lt_of_cell? w _ hx
  have := hb.block b hlt
  refine ⟨?_, ?_⟩
  ·rw [<- e1]; unfold World.cell?; rw [this]
  ·rw [<- e2]; unfold World.frozen?; rw [this]
theorem callStep_ok {P : Program} {ρ : Env} {con : ConF} {self : CodeF} (hcon : ConOk P ρ con) (hs : CodeOk P ρ self) : CallOk P ρ (callStep P con self) := by
 intro g aas H v H' h ms B w args hargs hH
 unfold callStep at h
 split at h
 ·rename_i v' hc
  simp only [Option.some.injEq, Prod.mk.injEq] at h
  obtain ⟨rfl, rfl⟩ := h
  refine (hcon g aas H v' hc ms B w args hargs hH).mono ?_
  rintro e w' ⟨u, rfl, h1, h2⟩
  exact ⟨ms, u, rfl, List.prefix_refl _, h1, hH.below h2, (Bel.all h2).mono hH.big⟩
 ·split at h
  case h_2 => cases h
  rename_i fn hfn
  split at h
  case h_2 => cases h
  rename_i c hb
  split at h
  case h_2 => cases h
  rename_i hbd
  rw [Bool.and_eq_true] at hbd
  have hT : RelT ρ ms (Tm.make fn.ntmps aas) (args ++ Array.replicate (fn.ntmps - args.size) undef) := RelT.make hargs (Nat.le_of_ble_eq_true hbd.1) (Nat.le_of_ble_eq_true hbd.2) hH.gl
  have fin : ∀ (o : Out) t H1, (o = .normal \/ o = .ret) -> self c (Tm.make fn.ntmps aas) H = some (o, t, H1) -> (evResults P fn t H1).map (fun v => (v, trim H.length v H1)) = some (v, H') →
    Calls P g args w fun e w' => ∃ ms' u, e = .returned u /\ ms <+: ms' /\ v.inst ρ ms' = some u /\ Holds ρ ms' H' B w' /\ Bel B w w' := by
   intro o t H1 ho hrun hres
   rw [Option.map_eq_some_iff] at hres
   obtain ⟨v', hr, hv⟩ := hres
   simp only [Prod.mk.injEq] at hv
   obtain ⟨rfl, rfl⟩ := hv
   refine calls_of_wp hfn hb ?_
   refine hs c _ H o t H1 hrun ms B _ w _ hT hH fun ms' a' w' q1 q2 q3 q4 q5 => ?_
   obtain ⟨u, e1, e2⟩ := evResults_ok q2 q4 hr
   obtain ⟨ms2, r1, r2, r3⟩ := trim_ok q1 hH.gl hH.len e1 q4
   have : a'.defers = [] /\ ∃ v, (results fn a'.tmps).run P w' = .ok v w' /\ ∃ ms' u, (Ending.returned v) = .returned u /\ ms <+: ms' /\ v'.inst ρ ms' = some u /\ Holds ρ ms' (trim H.length v' H1) B w' /\ Bel B w w' :=
    ⟨q3, u, e2, ms2, u, rfl, r1, r2, r3, q5⟩
   rcases ho with rfl | rfl
   ·exact this
   ·exact this
  split at h
  ·rename_i t H1 hr
   exact fin .normal t H1 (.inl rfl) hr h
  ·rename_i t H1 hr
   exact fin .ret t H1 (.inr rfl) hr h
  ·cases h
theorem has_least {p : Nat -> Prop} (h : ∃ k, p k) : ∃ k, p k /\ ∀ j, p j -> k <= j := by
 obtain ⟨k, hk⟩ := h
 induction k using Nat.strongRecOn with
 | _ k ih =>
  by_cases hj : ∃ j, j < k /\ p j
  ·obtain ⟨j, h1, h2⟩ := hj
   exact ih j h1 h2
  ·exact ⟨k, hk, fun j h => Nat.le_of_not_lt fun h1 => hj ⟨j, h1, h⟩⟩
theorem evG_ok {P : Program} {ρ : Env} {L : Lore} (hL : LoreOk ρ L) {mk : CodeF -> CallF} (hmk : ∀ self, CodeOk P ρ self -> CallOk P ρ (mk self)) (hm : P.follows .mixedOrders = true) : ∀ n, CodeOk P ρ (evG P L mk n) := by
 intro n
 induction n using Nat.strongRecOn with
 | _ n ih =>
  cases n with
  | zero => intro c t H o t' H' h; simp [evG] at h
  | succ n =>
   have ihn := ih n (by omega)
   have hcall : CallOk P ρ (mk (evG P L mk n)) := hmk _ ihn
   intro c t H o t' H' h ms B a w Q hT hH hQ
   rw [evG] at h
   unfold codeStep at h
   split at h
   ·-- skip
    simp only [Option.some.injEq, Prod.mk.injEq] at h
    obtain ⟨rfl, rfl, rfl⟩ := h
    exact wp_skip (hQ ms a w (List.prefix_refl _) hT rfl hH (Bel.refl _ _))
   ·-- a region
    rw [Option.map_eq_some_iff] at h
    obtain ⟨r, h1, h2⟩ := h
    simp only [Prod.mk.injEq] at h2
    obtain ⟨rfl, rfl, rfl⟩ := h2
    exact wp_region_list (evOps_ok hL hcall _ ms t H a w r.1 r.2 hT hH h1 fun ms' a' w' q1 q2 q3 q4 q5 => hQ ms' a' w' q1 q2 q3 q4 q5)
   ·-- a region whose order is open
    rw [Option.map_eq_some_iff] at h
    obtain ⟨r, h1, h2⟩ := h
    simp only [Prod.mk.injEq] at h2
    obtain ⟨rfl, rfl, rfl⟩ := h2
    exact evPlan_ok hL hcall hm _ hT hH h1 fun ms' a' w' q1 q2 q3 q4 q5 => hQ ms' a' w' q1 q2 q3 q4 q5
   ·-- one behind the other
    rename_i x y
    split at h
    ·rename_i t1 H1 h1
     refine wp_seq (ihn x t H .normal t1 H1 h1 ms B a w _ hT hH fun ms1 a1 w1 q1 q2 q3 q4 q5 => ?_)
     exact ihn y t1 H1 o t' H' h ms1 B a1 w1 Q q2 q4 fun ms2 a2 w2 r1 r2 r3 r4 r5 => hQ ms2 a2 w2 (q1.trans r1) r2 (r3.trans q3) r4 (q5.trans r5)
    ·rename_i hne
     have hno : o ≠ .normal := fun e => by subst e; exact hne t' H' h
     refine wp_seq (ihn x t H o t' H' h ms B a w _ hT hH fun ms1 a1 w1 q1 q2 q3 q4 q5 => ?_)
     have := hQ ms1 a1 w1 q1 q2 q3 q4 q5
     cases o with
     | normal => exact absurd rfl hno
     | exit i => exact this
     | ret => exact this
   ·-- a choice
    rename_i cc x y
    split at h
    ·rename_i hc
     have e := evGet_ok hT hc
     simp only [AV.inst, TV.inst, SV.inst, Option.some.injEq] at e
     exact wp_cond_true e.symm (ihn x t H o t' H' h ms B a w Q hT hH hQ)
    ·rename_i hc
     have e := evGet_ok hT hc
     simp only [AV.inst, TV.inst, SV.inst, Option.some.injEq] at e
     exact wp_cond_false e.symm (ihn y t H o t' H' h ms B a w Q hT hH hQ)
    ·cases h
   ·-- a block
    rename_i id x
    split at h
    ·rename_i i t1 H1 h1
     refine wp_block (ihn x t H (.exit i) t1 H1 h1 ms B a w _ hT hH fun ms1 a1 w1 q1 q2 q3 q4 q5 => ?_)
     simp only [Out.to, Exit.inBlock]
     split at h
     ·rename_i e
      rw [if_pos e]
      simp only [Option.some.injEq, Prod.mk.injEq] at h
      obtain ⟨rfl, rfl, rfl⟩ := h
      exact hQ ms1 a1 w1 q1 q2 q3 q4 q5
     ·rename_i e
      rw [if_neg e]
      simp only [Option.some.injEq, Prod.mk.injEq] at h
      obtain ⟨rfl, rfl, rfl⟩ := h
      exact hQ ms1 a1 w1 q1 q2 q3 q4 q5
    ·rename_i hne
     refine wp_block (ihn x t H o t' H' h ms B a w _ hT hH fun ms1 a1 w1 q1 q2 q3 q4 q5 => ?_)
     have := hQ ms1 a1 w1 q1 q2 q3 q4 q5
     cases o with
     | normal => exact this
     | exit i => exact absurd h (hne i t' H')
     | ret => exact this
   ·-- a loop
    rename_i x
    have start : evG P L mk (n + 1) (.loop x) t H = some (o, t', H') := by rw [evG]; exact h
    let R : Nat -> Act -> World -> Prop := fun k a1 w1 => k <= n + 1 /\ ∃ ms1 t1 H1, evG P L mk k (.loop x) t1 H1 = some (o, t', H') /\ ms <+: ms1 /\ RelT ρ ms1 t1 a1.tmps /\ a1.defers = a.defers /\ Holds ρ ms1 H1 B w1 /\ Bel B w w1
    classical
    refine wp_loop (fun a1 w1 => ∃ k, R k a1 w1) (fun a1 w1 => if hx : ∃ k, R k a1 w1 then Classical.choose (has_least hx) else 0) ⟨n + 1, Nat.le_refl _, ms, t, H, start, List.prefix_refl _, hT, rfl, hH, Bel.refl _ _⟩ ?_
    intro a1 w1 hI
    have hmin := (Classical.choose_spec (has_least hI)).1
    have hall := (Classical.choose_spec (has_least hI)).2
    generalize hk : Classical.choose (has_least hI) = k at hmin hall
    obtain ⟨hle, ms1, t1, H1, hev, p1, p2, p3, p4, p5⟩ := hmin
    cases k with
    | zero => simp [evG] at hev
    | succ k =>
     have ihk := ih k (by omega)
     rw [evG] at hev
     simp only [codeStep] at hev
     split at hev
     ·rename_i t2 H2 h2
      refine ihk x t1 H1 .normal t2 H2 h2 ms1 B a1 w1 _ p2 p4 fun ms2 a2 w2 q1 q2 q3 q4 q5 => ?_
      have hR : R k a2 w2 := ⟨by omega, ms2, t2, H2, hev, p1.trans q1, q2, q3.trans p3, q4, p5.trans q5⟩
      have hE : ∃ j, R j a2 w2 := ⟨k, hR⟩
      refine ⟨hE, ?_⟩
      rw [dif_pos hE, dif_pos hI, hk]
      exact Nat.lt_succ_of_le ((Classical.choose_spec (has_least hE)).2 k hR)
     ·rename_i hne
      refine ihk x t1 H1 o t' H' hev ms1 B a1 w1 _ p2 p4 fun ms2 a2 w2 q1 q2 q3 q4 q5 => ?_
      have := hQ ms2 a2 w2 (p1.trans q1) q2 (q3.trans p3) q4 (p5.trans q5)
      cases o with
      | normal => exact absurd hev (hne t' H')
      | exit i => exact this
      | ret => exact this
   ·simp only [Option.some.injEq, Prod.mk.injEq] at h
    obtain ⟨rfl, rfl, rfl⟩ := h
    exact wp_exit (hQ ms a w (List.prefix_refl _) hT rfl hH (Bel.refl _ _))
   ·simp only [Option.some.injEq, Prod.mk.injEq] at h
    obtain ⟨rfl, rfl, rfl⟩ := h
    exact wp_ret (hQ ms a w (List.prefix_refl _) hT rfl hH (Bel.refl _ _))
   ·simp only [Option.some.injEq, Prod.mk.injEq] at h
    obtain ⟨rfl, rfl, rfl⟩ := h
    exact wp_label (hQ ms a w (List.prefix_refl _) hT rfl hH (Bel.refl _ _))
   ·refine wp_scope_straight (ihn _ t H o t' H' h ms B a w _ hT hH fun ms2 a2 w2 q1 q2 q3 q4 q5 => ?_)
    have := hQ ms2 a2 w2 q1 q2 q3 q4 q5
    cases o <;> exact this
   ·cases h
theorem evC_ok {P : Program} {ρ : Env} {L : Lore} (hL : LoreOk ρ L) {con : ConF} (hcon : ConOk P ρ con) (hm : P.follows .mixedOrders = true) : ∀ n, CodeOk P ρ (evC P L con n) := evG_ok hL (fun _ hs => callStep_ok hcon hs) hm
theorem evCall_ok {P : Program} {ρ : Env} {L : Lore} (hL : LoreOk ρ L) {con : ConF} (hcon : ConOk P ρ con) (hm : P.follows .mixedOrders = true) (n : Nat) : CallOk P ρ (evCall P L con n) := callStep_ok hcon (evC_ok hL hcon hm n)
def noLore : Lore := ⟨fun _ _ _ => none, id, fun _ _ => none⟩
theorem noLore_ok (ρ : Env) : LoreOk ρ noLore := ⟨fun _ _ _ _ h => by simp [noLore] at h, fun _ => rfl, fun _ _ _ h => by simp [noLore] at h⟩
def noCon : ConF := fun _ _ _ => none
theorem noCon_ok (P : Program) (ρ : Env) : ConOk P ρ noCon := fun _ _ _ _ h => by simp [noCon] at h
def ms0 : List Nat := List.range nGl
def H0 : List Blk := List.replicate nGl dead
theorem gl0 : Gl ms0 := fun g hg => by simp [ms0, hg]
theorem holds_nil (ρ : Env) (w : World) : Holds ρ ms0 H0 w.heap.size w := by
 have hd : ∀ (i : Nat) (k : Blk), H0[i]? = some k -> k = dead := fun i k hk => by
  have := List.mem_of_getElem? hk
  unfold H0 at this
  exact (List.mem_replicate.1 this).2
 refine ⟨by simp [ms0, H0], gl0, ?_, ?_, ?_, Nat.le_refl _, ?_, ?_, ?_⟩
 ·intro i j b k k' _ _ hk _ hne; exact absurd (by rw [hd i k hk]; rfl) hne
 ·intro i b k _ hk hr; rw [hd i k hk] at hr; simp [dead] at hr
 ·intro i b k _ hk hne; exact absurd (by rw [hd i k hk]; rfl) hne
 ·intro i k hk _; rw [hd i k hk]; rfl
 ·intro i b k _ hk j s hs; rw [hd i k hk] at hs; simp [dead] at hs
 ·intro i b c k0 k _ _ _ _ _ hk hcap; rw [hd _ k hk] at hcap; simp [dead] at hcap
theorem calls_of_evH {P : Program} {ρ : Env} {L : Lore} (hL : LoreOk ρ L) {con : ConF} (hcon : ConOk P ρ con) (hm : P.follows .mixedOrders = true) (n : Nat) {g : Nat} {aas : List AV} {v : AV} {ms : List Nat} {H H' : List Blk} (h : evCall P L con n g aas H = some (v, H')) {args : Array Value} (w : World) (ha : aas.map (AV.inst ρ ms) = args.toList.map some) (hH : Holds ρ ms H w.heap.size w) :
  Calls P g args w fun e w' => ∃ ms' u, e = .returned u /\ ms <+: ms' /\ v.inst ρ ms' = some u /\ Holds ρ ms' H' w.heap.size w' /\ Below w.heap.size w w' :=
 (evCall_ok hL hcon hm n g aas H v H' h ms w.heap.size w args ha hH).mono fun _ _ ⟨ms', u, h1, h2, h3, h4, h5⟩ => ⟨ms', u, h1, h2, h3, h4, h5.toBelow⟩
noncomputable section
def Ex.asLit (e : Ex) : Option Int := Ex.casesOn (motive := fun _ => Option Int) e some (fun _ => none) (fun _ _ _ _ => none) (fun _ _ _ _ => none) (fun _ _ _ => none) (fun _ _ => none) (fun _ _ => none) (fun _ _ _ => none)
theorem Ex.asLit_eq {e : Ex} {n : Int} (h : e.asLit = some n) : e = .lit n := by
 cases e <;> first | (cases h; rfl) | (cases h)
def SV.asInt (s : SV) : Option (IntKind × Ex) := SV.casesOn (motive := fun _ => Option (IntKind × Ex)) s (fun k e => some (k, e)) (fun _ => none) none (fun _ _ => none) none (fun _ _ => none) (fun _ _ _ _ => none) (fun _ _ _ _ => none) (fun _ => none) (fun _ _ => none) (fun _ => none) none (fun _ _ _ => none) (fun _ => none) (fun _ _ _ _ => none) (fun _ _ => none) (fun _ _ _ => none) none
theorem SV.asInt_eq {s : SV} {k : IntKind} {e : Ex} (h : s.asInt = some (k, e)) : s = .int k e := by
 cases s <;> first | (cases h; rfl) | (cases h)
def SV.asPtr (s : SV) : Option (Nat × Nat) := SV.casesOn (motive := fun _ => Option (Nat × Nat)) s (fun _ _ => none) (fun _ => none) none (fun _ _ => none) none (fun n o => some (n, o)) (fun _ _ _ _ => none) (fun _ _ _ _ => none) (fun _ => none) (fun _ _ => none) (fun _ => none) none (fun _ _ _ => none) (fun _ => none) (fun _ _ _ _ => none) (fun _ _ => none) (fun _ _ _ => none) none
def SV.asSl (s : SV) : Option (Nat × Nat × Nat) := SV.casesOn (motive := fun _ => Option (Nat × Nat × Nat)) s (fun _ _ => none) (fun _ => none) none (fun _ _ => none) none (fun _ _ => none) (fun n o l _ => some (n, o, l)) (fun n o _ l => some (n, o, l)) (fun _ => none) (fun _ _ => none) (fun _ => none) none (fun _ _ _ => none) (fun _ => none) (fun _ _ _ _ => none) (fun _ _ => none) (fun _ _ _ => none) none
def SV.asBool (s : SV) : Option Bool := SV.casesOn (motive := fun _ => Option Bool) s (fun _ _ => none) some none (fun _ _ => none) none (fun _ _ => none) (fun _ _ _ _ => none) (fun _ _ _ _ => none) (fun _ => none) (fun _ _ => none) (fun _ => none) none (fun _ _ _ => none) (fun _ => none) (fun _ _ _ _ => none) (fun _ _ => none) (fun _ _ _ => none) none
def AV.asSV (v : AV) : Option SV := AV.casesOn (motive := fun _ => Option SV) v (fun t => TV.casesOn (motive := fun _ => Option SV) t some (fun _ => none)) (fun _ => none)
theorem AV.asSV_eq {v : AV} {s : SV} (h : v.asSV = some s) : v = .tv (.sc s) := by
 rcases v with (x | l) | l <;> first | (cases h; rfl) | (cases h)
def AV.asInt (v : AV) : Option (IntKind × Ex) := v.asSV.bind SV.asInt
theorem AV.asInt_eq {v : AV} {k : IntKind} {e : Ex} (h : v.asInt = some (k, e)) : v = .tv (.sc (.int k e)) := by
 unfold AV.asInt at h
 rw [Option.bind_eq_some_iff] at h
 obtain ⟨s, h1, h2⟩ := h
 rw [AV.asSV_eq h1, SV.asInt_eq h2]
def nthF {α : Type} (l : List α) : Nat -> Option α := List.rec (motive := fun _ => Nat -> Option α) (fun _ => none) (fun x _ ih i => Nat.casesOn (motive := fun _ => Option α) i (some x) (fun j => ih j)) l
theorem nthF_eq {α : Type} : ∀ (l : List α) (i : Nat), nthF l i = l[i]?
 | [], i => by simp [nthF]
 | x :: l, 0 => rfl
 | x :: l, i + 1 => by rw [List.getElem?_cons_succ, <- nthF_eq l i]; rfl
def setF {α : Type} (l : List α) (v : α) : Nat -> List α := List.rec (motive := fun _ => Nat -> List α) (fun _ => []) (fun x r ih i => Nat.casesOn (motive := fun _ => List α) i (v :: r) (fun j => x :: ih j)) l
theorem setF_eq {α : Type} (v : α) : ∀ (l : List α) (i : Nat), setF l v i = l.set i v
 | [], i => by simp [setF]
 | x :: l, 0 => rfl
 | x :: l, i + 1 => by rw [List.set_cons_succ, <- setF_eq v l i]; rfl
theorem setF_over (v : SV) : ∀ (l : List SV) (i : Nat), setF l v i = over l i [v]
 | [], i => by simp [setF, over]
 | x :: l, 0 => by cases l <;> rfl
 | x :: l, i + 1 => by rw [over, <- setF_over v l i]; rfl
theorem set_over (v : SV) (l : List SV) (i : Nat) : l.set i v = over l i [v] := by rw [<- setF_eq, setF_over]
def ofScalarF (v : Value) : Option SV := Value.casesOn (motive_1 := fun _ => Option SV) v (fun b => some (.bool b)) (fun k n => some (.int k (.lit n))) (fun _ _ => none) (fun _ _ _ => none) (fun s => some (.str (s.data.toList.map UInt8.toNat)))
 (fun a => Option.casesOn (motive := fun _ => Option SV) a (some .nilp) (fun _ => none)) (fun a l c => Option.casesOn (motive := fun _ => Option SV) a (some (.nils l c)) (fun _ => none)) (fun a => Option.casesOn (motive := fun _ => Option SV) a (some .nilm) (fun _ => none)) (fun _ => none) (fun _ _ _ => none) (some .nilf) (fun _ _ => none) (some .nili) (fun _ => none) (fun _ => none)
theorem ofScalarF_eq (v : Value) : ofScalarF v = ofScalar v := by
 cases v <;> first | rfl | (rename_i a; cases a <;> rfl) | (rename_i a l c; cases a <;> rfl)
def evGetF (t : Tm) (x : Operand) : Option AV :=
 match x with
 | .tmp i => t.get i
 | .const v => (ofScalarF v).map fun s => .tv (.sc s)
 | .func f => some (.tv (.sc (.clo f [])))
 | .global g => if g < nGl then some (.tv (.sc (.ptr g 0))) else none
theorem evGetF_eq (t : Tm) (x : Operand) : evGetF t x = evGet t x := by
 cases x <;> simp only [evGetF, evGet, ofScalarF_eq]
def gPtrF (t : Tm) (x : Operand) : Option (Nat × Nat) := (evGetF t x).bind fun v => v.asSV.bind SV.asPtr
theorem gPtrF_eq (t : Tm) (x : Operand) : gPtrF t x = gPtr t x := by
 unfold gPtrF gPtr
 rw [evGetF_eq]
 cases evGet t x with
 | none => rfl
 | some v =>
  rcases v with (s | l) | l
  ·cases s <;> rfl
  ·rfl
  ·rfl
def kIdx (k : IntKind) : Nat := IntKind.casesOn (motive := fun _ => Nat) k 0 1 2 3 4 5 6 7
def kEq (k k' : IntKind) : Bool := Nat.beq (kIdx k) (kIdx k')
theorem kEq_eq (k k' : IntKind) : kEq k k' = decide (k = k') := by cases k <;> cases k' <;> rfl
def wrapF (k : IntKind) (n : Int) : Int := IntKind.casesOn (motive := fun _ => Int) k (IntKind.i8.wrap n) (IntKind.i16.wrap n) (IntKind.i32.wrap n) (IntKind.i64.wrap n) (n % 256) (n % 65536) (n % 4294967296) (n % 18446744073709551616)
theorem wrapF_eq (k : IntKind) (n : Int) : wrapF k n = k.wrap n := by
 cases k <;> first | rfl | (simp [wrapF, IntKind.wrap, IntKind.signed, IntKind.bits])
def ariF (op : BinOp) (k : IntKind) (x y : Int) : Int := BinOp.casesOn (motive := fun _ => Int) op (wrapF k (x + y)) (wrapF k (x - y)) (wrapF k (x * y)) (wrapF k (x.tdiv y)) (x.tmod y) (wrapF k (x * y)) (wrapF k (x * y)) (wrapF k (x * y)) (wrapF k (x * y)) (wrapF k (x * y)) (wrapF k (x * y)) (wrapF k (x * y)) (wrapF k (x * y)) (wrapF k (x * y)) (wrapF k (x * y)) (wrapF k (x * y)) (wrapF k (x * y))
theorem ariF_eq (op : BinOp) (k : IntKind) (x y : Int) : ariF op k x y = ariOf op k x y := by
 cases op <;> simp only [ariF, ariOf, wrapF_eq]
def natOf (k : IntKind) (x : Int) : Nat := (BitVec.ofInt k.bits x).toNat
def bitF (op : BinOp) (k : IntKind) (x y : Int) : Int := BinOp.casesOn (motive := fun _ => Int) op (bitsOf .add k x y) (bitsOf .sub k x y) (bitsOf .mul k x y) (bitsOf .quo k x y) (bitsOf .rem k x y) (wrapF k (Nat.land (natOf k x) (natOf k y) : Nat)) (wrapF k (Nat.lor (natOf k x) (natOf k y) : Nat)) (wrapF k (Nat.xor (natOf k x) (natOf k y) : Nat)) (bitsOf .shl k x y) (bitsOf .shr k x y) (bitsOf .andNot k x y) (bitsOf .eql k x y) (bitsOf .neq k x y) (bitsOf .lss k x y) (bitsOf .leq k x y) (bitsOf .gtr k x y) (bitsOf .geq k x y)
theorem bitF_eq (op : BinOp) (k : IntKind) (x y : Int) : bitF op k x y = bitsOf op k x y := by
 cases op <;> first | rfl | (simp only [bitF, wrapF_eq, natOf, bitsOf]; rfl)
def mkAriF (op : BinOp) (k : IntKind) (a b : Ex) : Ex :=
 match a.asLit with
 | some x => match b.asLit with | some y => .lit (ariF op k x y) | none => .ari op k a b
 | none => .ari op k a b
theorem mkAriF_eq (op : BinOp) (k : IntKind) (a b : Ex) : mkAriF op k a b = mkAri op k a b := by
 cases a <;> first | rfl | (cases b <;> first | rfl | (simp only [mkAriF, Ex.asLit, mkAri, ariF_eq]))
def mkBitF (op : BinOp) (k : IntKind) (a b : Ex) : Ex :=
 match a.asLit with
 | some x => match b.asLit with | some y => .lit (bitF op k x y) | none => .bit op k a b
 | none => .bit op k a b
theorem mkBitF_eq (op : BinOp) (k : IntKind) (a b : Ex) : mkBitF op k a b = mkBit op k a b := by
 cases a <;> first | rfl | (cases b <;> first | rfl | (simp only [mkBitF, Ex.asLit, mkBit, bitF_eq]))
def nmOfF (L : Lore) (e : Ex) : Ex := match e.asLit with | some n => .lit n | none => L.nm e
theorem nmOfF_eq (L : Lore) (e : Ex) : nmOfF L e = nmOf L e := by cases e <;> rfl
def iAri (op : BinOp) (k : IntKind) (a : Ex) (k' : IntKind) (b : Ex) : Option SV := Bool.casesOn (motive := fun _ => Option SV) (kEq k k') none (some (.int k (mkAriF op k a b)))
def iBit (L : Lore) (op : BinOp) (k : IntKind) (a : Ex) (k' : IntKind) (b : Ex) : Option SV := Bool.casesOn (motive := fun _ => Option SV) (kEq k k') none (some (.int k (nmOfF L (mkBitF op k a b))))
def iCmp (L : Lore) (op : BinOp) (k : IntKind) (a : Ex) (k' : IntKind) (b : Ex) : Option SV :=
 match a.asLit with
 | some x =>
  match b.asLit with
  | some y => Bool.casesOn (motive := fun _ => Option SV) (kEq k k') none ((cmpOf op x y).map .bool)
  | none => evInt L op k a k' b
 | none => evInt L op k a k' b
def evIntF (L : Lore) (op : BinOp) (k : IntKind) (a : Ex) (k' : IntKind) (b : Ex) : Option SV := BinOp.casesOn (motive := fun _ => Option SV) op
 (iAri .add k a k' b) (iAri .sub k a k' b) (iAri .mul k a k' b) (evInt L .quo k a k' b) (evInt L .rem k a k' b) (iBit L .and k a k' b) (iBit L .or k a k' b) (iBit L .xor k a k' b) (evInt L .shl k a k' b) (evInt L .shr k a k' b) (iBit L .andNot k a k' b)
 (iCmp L .eql k a k' b) (iCmp L .neq k a k' b) (iCmp L .lss k a k' b) (iCmp L .leq k a k' b) (iCmp L .gtr k a k' b) (iCmp L .geq k a k' b)
theorem boolCase {α : Type} (b : Bool) (x y : α) : (Bool.casesOn (motive := fun _ => α) b x y) = if b = true then y else x := by cases b <;> rfl
theorem iCmp_eq (L : Lore) (op : BinOp) (k : IntKind) (a : Ex) (k' : IntKind) (b : Ex) (h : ∀ x y, evInt L op k (.lit x) k' (.lit y) = if k = k' then (cmpOf op x y).map .bool else none) : iCmp L op k a k' b = evInt L op k a k' b := by
 unfold iCmp
 split
 ·rename_i x hx
  split
  ·rename_i y hy
   rw [Ex.asLit_eq hx, Ex.asLit_eq hy, h, boolCase, kEq_eq]
   simp
  ·rfl
 ·rfl
theorem evIntF_eq (L : Lore) (op : BinOp) (k : IntKind) (a : Ex) (k' : IntKind) (b : Ex) : evIntF L op k a k' b = evInt L op k a k' b := by
 cases op
 case add => show iAri .add k a k' b = _; unfold iAri evInt; rw [boolCase, kEq_eq, mkAriF_eq]; simp
 case sub => show iAri .sub k a k' b = _; unfold iAri evInt; rw [boolCase, kEq_eq, mkAriF_eq]; simp
 case mul => show iAri .mul k a k' b = _; unfold iAri evInt; rw [boolCase, kEq_eq, mkAriF_eq]; simp
 case and => show iBit L .and k a k' b = _; unfold iBit evInt; rw [boolCase, kEq_eq, mkBitF_eq, nmOfF_eq]; simp
 case or => show iBit L .or k a k' b = _; unfold iBit evInt; rw [boolCase, kEq_eq, mkBitF_eq, nmOfF_eq]; simp
 case xor => show iBit L .xor k a k' b = _; unfold iBit evInt; rw [boolCase, kEq_eq, mkBitF_eq, nmOfF_eq]; simp
 case andNot => show iBit L .andNot k a k' b = _; unfold iBit evInt; rw [boolCase, kEq_eq, mkBitF_eq, nmOfF_eq]; simp
 case eql => exact iCmp_eq L .eql k a k' b fun x y => rfl
 case neq => exact iCmp_eq L .neq k a k' b fun x y => rfl
 case lss => exact iCmp_eq L .lss k a k' b fun x y => rfl
 case leq => exact iCmp_eq L .leq k a k' b fun x y => rfl
 case gtr => exact iCmp_eq L .gtr k a k' b fun x y => rfl
 case geq => exact iCmp_eq L .geq k a k' b fun x y => rfl
 all_goals rfl
def evBinF (P : Program) (L : Lore) (op : BinOp) (T : TypeId) (x y : AV) : Option AV :=
 match x.asInt with
 | some p => match y.asInt with | some q => (evIntF L op p.1 p.2 q.1 q.2).map fun s => .tv (.sc s) | none => evBin P L op T x y
 | none => evBin P L op T x y
theorem evBinF_eq (P : Program) (L : Lore) (op : BinOp) (T : TypeId) (x y : AV) : evBinF P L op T x y = evBin P L op T x y := by
 unfold evBinF
 split
 ·rename_i p hx
  split
  ·rename_i q hy
   obtain ⟨k, a⟩ := p
   obtain ⟨k', b⟩ := q
   rw [AV.asInt_eq hx, AV.asInt_eq hy, evIntF_eq]
   rfl
  ·rfl
 ·rfl
def cell1 (H : List Blk) (p : Nat × Nat) : Option AV := (nthF H p.1).bind fun k => (nthF k.cells p.2).map fun s => .tv (.sc s)
theorem span_one (H : List Blk) (i o : Nat) : span H i o 1 = (H[i]?).bind fun k => (k.cells[o]?).map fun s => [s] := by
 unfold span
 cases hk : H[i]? with
 | none => rfl
 | some k =>
  simp only [Option.bind_some]
  cases hc : k.cells[o]? with
  | none =>
   have : k.cells.length <= o := by simpa using hc
   rw [List.drop_eq_nil_of_le this]
   simp
  | some x =>
   have hlt := (List.getElem?_eq_some_iff.1 hc).1
   have e : (k.cells.drop o).take 1 = [x] := by
    rw [List.drop_eq_getElem_cons hlt]
    simp [(List.getElem?_eq_some_iff.1 hc).2]
   rw [e]
   simp
def load1 (H : List Blk) (p : Nat × Nat) (r : Bool) (s : Nat) : Option AV := Bool.casesOn (motive := fun _ => Option AV) r (cell1 H p) ((span H p.1 p.2 s).map fun l => .tv (.agg l))
def evLoadF (P : Program) (t : Tm) (H : List Blk) (T : TypeId) (x : Operand) : Option AV :=
 match gPtrF t x with
 | some p => match rowOf P T with | some (r, s) => load1 H p r s | none => none
 | none => none
theorem evLoadF_eq (P : Program) (t : Tm) (H : List Blk) (T : TypeId) (x : Operand) : evLoadF P t H T x = evLoad P t H T x := by
 unfold evLoadF evLoad
 rw [gPtrF_eq]
 cases gPtr t x with
 | none => cases rowOf P T <;> rfl
 | some p =>
  obtain ⟨n, o⟩ := p
  cases rowOf P T with
  | none => rfl
  | some q =>
   obtain ⟨r, s⟩ := q
   cases r with
   | true => rfl
   | false =>
    show cell1 H (n, o) = _
    unfold cell1
    simp only [nthF_eq, span_one]
    cases H[n]? with
    | none => rfl
    | some k =>
     simp only [Option.bind_some]
     cases k.cells[o]? <;> rfl
def store1 (H : List Blk) (p : Nat × Nat) (v : SV) : Option (List Blk) :=
 match nthF H p.1 with
 | some k => match k.ro with
  | false => match nthF k.cells p.2 with
   | some _ => some (setF H ⟨false, k.pl && v.plain, 0, setF k.cells v p.2⟩ p.1)
   | none => none
  | true => none
 | none => none
def evStoreF (P : Program) (t : Tm) (H : List Blk) (T : TypeId) (x y : Operand) : Option (List Blk) :=
 match (evGetF t y).bind AV.asSV with
 | some v =>
  match gPtrF t x with
  | some p => match rowOf P T with
   | some (_, s) => match Nat.beq s 1 with | true => store1 H p v | false => evStore P t H T x y
   | none => none
  | none => none
 | none => evStore P t H T x y
theorem evStoreF_eq (P : Program) (t : Tm) (H : List Blk) (T : TypeId) (x y : Operand) : evStoreF P t H T x y = evStore P t H T x y := by
 unfold evStoreF
 rw [evGetF_eq, gPtrF_eq]
 split
 case h_2 => rfl
 rename_i v hv
 rw [Option.bind_eq_some_iff] at hv
 obtain ⟨av, hv1, hv2⟩ := hv
 have hc : gCells t y = some [v] := by unfold gCells; rw [hv1, AV.asSV_eq hv2]
 cases hp : gPtr t x with
 | none => unfold evStore; rw [hp]
 | some p =>
  obtain ⟨n, o⟩ := p
  cases hr : rowOf P T with
  | none => unfold evStore; rw [hp, hc, hr]
  | some q =>
   obtain ⟨r, s⟩ := q
   simp only
   cases hb : Nat.beq s 1 with
   | false => rfl
   | true =>
    have hs : s = 1 := Nat.eq_of_beq_eq_true hb
    subst hs
    unfold evStore store1
    rw [hp, hc, hr]
    simp only [nthF_eq, setF_eq]
    cases hk : H[n]? with
    | none => rfl
    | some k =>
     simp only
     cases hro : k.ro with
     | true => simp
     | false =>
      simp only
      cases hcell : k.cells[o]? with
      | none =>
       have : k.cells.length <= o := by simpa using hcell
       rw [if_neg]
       rintro ⟨_, _, _, h4⟩
       rw [List.drop_eq_nil_of_le this] at h4
       simp at h4
      | some z =>
       have hlt := (List.getElem?_eq_some_iff.1 hcell).1
       rw [if_pos ⟨by simp, rfl, by decide, by rw [List.length_take, List.length_drop]; omega⟩]
       simp [set_over]
def idx2 (r : Option (Bool × Nat)) (m o n : Nat) (j : Int) : Option AV :=
 match r with
 | some q => Int.casesOn (motive := fun _ => Option AV) j (fun a => match Nat.blt a n with | true => some (.tv (.sc (.ptr m (o + a * q.2)))) | false => none) (fun _ => none)
 | none => none
theorem idx2_eq (r : Option (Bool × Nat)) (m o n : Nat) (j : Int) : idx2 r m o n j = (match r with
  | some (_, s) => if 0 <= j /\ j < n then some (.tv (.sc (.ptr m (o + j.toNat * s)))) else none
  | none => none) := by
 cases r with
 | none => rfl
 | some q =>
  obtain ⟨q1, q2⟩ := q
  cases j with
  | ofNat a =>
   simp only [idx2]
   by_cases h : a < n
   ·have hb : Nat.blt a n = true := Nat.ble_eq_true_of_le h
    rw [hb, if_pos ⟨by simp, by simpa using h⟩]
    rfl
   ·have hb : Nat.blt a n = false := by
     cases hq : Nat.blt a n with
     | false => rfl
     | true => exact absurd (Nat.le_of_ble_eq_true hq) h
    rw [hb, if_neg (fun q => h (by simpa using q.2))]
  | negSucc a =>
   simp only [idx2]
   rw [if_neg (fun q => by simp at q)]
def descArr (d : TypeDesc) : Option (Nat × TypeId) := TypeDesc.casesOn (motive := fun _ => Option (Nat × TypeId)) d none none (fun _ => none) (fun _ => none) (fun _ => none) none none (fun _ => none) (fun _ => none) (fun n e => some (n, e)) (fun _ _ => none) (fun _ _ => none) (fun _ => none) (fun _ _ _ => none) (fun _ => none) (fun _ => none) (fun _ _ => none)
def descSl (d : TypeDesc) : Option TypeId := TypeDesc.casesOn (motive := fun _ => Option TypeId) d none none (fun _ => none) (fun _ => none) (fun _ => none) none none (fun _ => none) (fun e => some e) (fun _ _ => none) (fun _ _ => none) (fun _ _ => none) (fun _ => none) (fun _ _ _ => none) (fun _ => none) (fun _ => none) (fun _ _ => none)
def descInt (d : TypeDesc) : Option IntKind := TypeDesc.casesOn (motive := fun _ => Option IntKind) d none none (fun k => some k) (fun _ => none) (fun _ => none) none none (fun _ => none) (fun _ => none) (fun _ _ => none) (fun _ _ => none) (fun _ _ => none) (fun _ => none) (fun _ _ _ => none) (fun _ => none) (fun _ => none) (fun _ _ => none)
def idxF (P : Program) (d : TypeDesc) (s : SV) (j : Int) : Option AV :=
 match s.asPtr with
 | some p => match descArr d with | some q => idx2 (rowOf P q.2) p.1 p.2 q.1 j | none => none
 | none => match s.asSl with
  | some p => match descSl d with | some e => idx2 (rowOf P e) p.1 p.2.1 p.2.2 j | none => none
  | none => none
def evIndexAddrF (P : Program) (T : TypeId) (x i : AV) : Option AV :=
 match i.asInt.bind (fun p => p.2.asLit) with
 | some j => match x.asSV with
  | some s => match P.underlying T with | some d => idxF P d s j | none => none
  | none => none
 | none => none
theorem evIndexAddrF_eq (P : Program) (T : TypeId) (x i : AV) : evIndexAddrF P T x i = evIndexAddr P T x i := by
 unfold evIndexAddrF
 cases hj : i.asInt.bind (fun p => p.2.asLit) with
 | none =>
  simp only
  unfold evIndexAddr
  split
  all_goals first | rfl | (exfalso; simp [AV.asInt, AV.asSV, SV.asInt, Ex.asLit] at hj)
 | some j =>
  rw [Option.bind_eq_some_iff] at hj
  obtain ⟨⟨k, e⟩, h1, h2⟩ := hj
  have hi : i = .tv (.sc (.int k (.lit j))) := by rw [AV.asInt_eq h1, Ex.asLit_eq (show e.asLit = some j from h2)]
  subst hi
  simp only
  rcases x with (s | l) | l
  ·simp only [AV.asSV]
   cases hd : P.underlying T with
   | none => simp only [evIndexAddr, hd]
   | some d =>
    simp only
    cases d <;> cases s <;> simp only [evIndexAddr, hd, idxF, SV.asPtr, SV.asSl, descArr, descSl, idx2_eq] <;> rfl
  ·simp only [AV.asSV, evIndexAddr]
   cases P.underlying T with
   | none => rfl
   | some d => cases d <;> rfl
  ·simp only [AV.asSV, evIndexAddr]
   cases P.underlying T with
   | none => rfl
   | some d => cases d <;> rfl
def evConvF (P : Program) (t : Tm) (H : List Blk) (src dst : TypeId) (x : Operand) : Option (AV × List Blk) :=
 match (evGetF t x).bind AV.asInt with
 | some q => match P.underlying src with
  | some _ => match (P.underlying dst).bind descInt with
   | some k => some (.tv (.sc (.int k (mkCon k q.2))), H)
   | none => evConvX P t H src dst x
  | none => evConvX P t H src dst x
 | none => evConvX P t H src dst x
theorem evConvF_eq (P : Program) (t : Tm) (H : List Blk) (src dst : TypeId) (x : Operand) : evConvF P t H src dst x = evConvX P t H src dst x := by
 unfold evConvF
 rw [evGetF_eq]
 split
 case h_2 => rfl
 rename_i q hq
 split
 case h_2 => rfl
 rename_i d hd
 split
 case h_2 => rfl
 rename_i k hk
 rw [Option.bind_eq_some_iff] at hq hk
 obtain ⟨v, h1, h2⟩ := hq
 obtain ⟨k0, e⟩ := q
 have hv := AV.asInt_eq h2
 subst hv
 obtain ⟨d2, h3, h4⟩ := hk
 have hd2 : d2 = .int k := by cases d2 <;> first | (cases h4; rfl) | (cases h4)
 subst hd2
 unfold evConvX
 rw [hd, h3, h1]
 cases d <;> simp only [evConv, hd, h3] <;> rfl
abbrev StepT := CallF -> Program -> Lore -> Tm -> List Blk -> Option (AV × List Blk)
def rdH (r : Option AV) (H : List Blk) : Option (AV × List Blk) := r.map fun v => (v, H)
def evBinOF (P : Program) (L : Lore) (op : BinOp) (T : TypeId) (x y : Operand) (a b : AV) : Option AV := Option.casesOn (motive := fun _ => Option AV) (evBinF P L op T a b) (evNil P op T x y a b) (fun r => some r)
theorem evBinOF_eq (P : Program) (L : Lore) (op : BinOp) (T : TypeId) (x y : Operand) (a b : AV) : evBinOF P L op T x y a b = evBinO P L op T x y a b := by
 unfold evBinOF evBinO
 rw [evBinF_eq]
 cases evBin P L op T a b <;> rfl
def fBin (P : Program) (L : Lore) (t : Tm) (op : BinOp) (T : TypeId) (x y : Operand) : Option AV := match evGetF t x with | some a => (match evGetF t y with | some b => evBinOF P L op T x y a b | none => none) | none => none
def fIdx (P : Program) (t : Tm) (T : TypeId) (x i : Operand) : Option AV := match evGetF t x with | some a => (match evGetF t i with | some b => evIndexAddrF P T a b | none => none) | none => none
def fStore (P : Program) (t : Tm) (H : List Blk) (T : TypeId) (x y : Operand) : Option (AV × List Blk) := (evStoreF P t H T x y).map fun H' => (.tup [], H')
def fCallV (call : CallF) (P : Program) (t : Tm) (H : List Blk) (f : Operand) (c : Call) : Option (AV × List Blk) :=
 match evGet t f, seqO (c.args.toList.map (evGet t)) with
 | some (.tv (.sc (.clo g caps))), some aas => if canCall P g then call g (aas ++ ptrs caps) H else none
 | _, _ => none
def old (op : Op) : StepT := fun call P L t H => evStepX op call P L t H
def evStepF (op : Op) : StepT := Op.casesOn (motive := fun _ => StepT) op
 (fun x _ _ _ t H => rdH (evGetF t x) H)
 (fun x _ _ _ t H => rdH (evGetF t x) H)
 (fun c a b => old (.pick c a b))
 (fun T => old (.alloc T))
 (fun T x => old (.box T x))
 (fun T ps _ P _ t H => rdH (evBuild P t T ps.toList) H)
 (fun T n ps => old (.buildSlice T n ps))
 (fun a b c d => old (.insert a b c d))
 (fun T x _ P _ t H => rdH (evLoadF P t H T x) H)
 (fun T x y _ P _ t H => fStore P t H T x y)
 (fun g => old (.ready g))
 (fun g => old (.waits g))
 (fun x => old (.nilCheck x))
 (fun op T x y _ _ P L t H => rdH (fBin P L t op T x y) H)
 (fun op T x => old (.unOp op T x))
 (fun s d x _ P _ t H => evConvF P t H s d x)
 (fun T x => old (.sliceToArrayPointer T x))
 (fun T x => old (.makeInterface T x))
 (fun f a c => old (.makeFunc f a c))
 (fun T r => old (.makeMap T r))
 (fun T r => old (.makeChan T r))
 (fun T x y => old (.makeSlice T x y))
 (fun T x l h m _ P _ t H => rdH (evSlice P t T x l h m) H)
 (fun T x f => old (.fieldAddr T x f))
 (fun T x f => old (.field T x f))
 (fun T x i _ P _ t H => rdH (fIdx P t T x i) H)
 (fun T x i => old (.index T x i))
 (fun a b c d => old (.lookup a b c d))
 (fun a b c d => old (.mapUpdate a b c d))
 (fun a b c => old (.mapEntry a b c))
 (fun a b c d => old (.entryStore a b c d))
 (fun a b => old (.range a b))
 (fun a b => old (.next a b))
 (fun a => old (.entry a))
 (fun a b c d => old (.typeAssert a b c d))
 (fun x i => old (.extract x i))
 (fun c => old (.call c))
 (fun c => old (.go c))
 (fun c => old (.defer c))
 (fun x => old (.panic x))
 (fun a b => old (.send a b))
 (fun a b c => old (.recv a b c))
 (fun a b => old (.select a b))
theorem fBin_eq (P : Program) (L : Lore) (t : Tm) (op : BinOp) (T : TypeId) (x y : Operand) : fBin P L t op T x y = match evGet t x, evGet t y with | some a, some b => evBinO P L op T x y a b | _, _ => none := by
 unfold fBin
 rw [evGetF_eq, evGetF_eq]
 cases evGet t x <;> cases evGet t y <;> simp only [evBinOF_eq]
theorem fIdx_eq (P : Program) (t : Tm) (T : TypeId) (x i : Operand) : fIdx P t T x i = match evGet t x, evGet t i with | some a, some b => evIndexAddr P T a b | _, _ => none := by
 unfold fIdx
 rw [evGetF_eq, evGetF_eq]
 cases evGet t x <;> cases evGet t i <;> simp only [evIndexAddrF_eq]
theorem evStepF_eq (op : Op) (call : CallF) (P : Program) (L : Lore) (t : Tm) (H : List Blk) : evStepF op call P L t H = evStepX op call P L t H := by
 cases op
 case move x => show rdH (evGetF t x) H = _; rw [evGetF_eq]; rfl
 case assign x => show rdH (evGetF t x) H = _; rw [evGetF_eq]; rfl
 case load T x => show rdH (evLoadF P t H T x) H = _; rw [evLoadF_eq]; rfl
 case store T x y => show fStore P t H T x y = _; unfold fStore; rw [evStoreF_eq]; rfl
 case binOp op T x y T' => show rdH (fBin P L t op T x y) H = _; rw [fBin_eq]; rfl
 case convert s d x => show evConvF P t H s d x = _; rw [evConvF_eq]; rfl
 case indexAddr T x i => show rdH (fIdx P t T x i) H = _; rw [fIdx_eq]; rfl
 all_goals rfl
abbrev ReadT := Program -> Lore -> Tm -> List Blk -> Option AV
def convR (P : Program) (s d : TypeId) (a : AV) : Option AV :=
 match a.asInt with
 | some q => match P.underlying s with
  | some _ => match (P.underlying d).bind descInt with | some k => some (.tv (.sc (.int k (mkCon k q.2)))) | none => evConv P s d a
  | none => evConv P s d a
 | none => evConv P s d a
theorem convR_eq (P : Program) (s d : TypeId) (a : AV) : convR P s d a = evConv P s d a := by
 unfold convR
 split
 case h_2 => rfl
 rename_i q hq
 split
 case h_2 => rfl
 rename_i d1 hd
 split
 case h_2 => rfl
 rename_i k hk
 rw [Option.bind_eq_some_iff] at hk
 obtain ⟨k0, e⟩ := q
 have hv := AV.asInt_eq hq
 subst hv
 obtain ⟨d2, h3, h4⟩ := hk
 have hd2 : d2 = .int k := by cases d2 <;> first | (cases h4; rfl) | (cases h4)
 subst hd2
 simp only [evConv, hd, h3]
def fConvR (P : Program) (t : Tm) (s d : TypeId) (x : Operand) : Option AV := match evGetF t x with | some a => convR P s d a | none => none
def oldR (op : Op) : ReadT := fun P L t H => evReadX op P L t H
def evReadF (op : Op) : ReadT := Op.casesOn (motive := fun _ => ReadT) op
 (fun x _ _ t _ => evGetF t x)
 (fun x _ _ t _ => evGetF t x)
 (fun c a b => oldR (.pick c a b))
 (fun T => oldR (.alloc T))
 (fun T x => oldR (.box T x))
 (fun T ps P _ t _ => evBuild P t T ps.toList)
 (fun T n ps => oldR (.buildSlice T n ps))
 (fun a b c d => oldR (.insert a b c d))
 (fun T x P _ t H => evLoadF P t H T x)
 (fun T x y => oldR (.store T x y))
 (fun g => oldR (.ready g))
 (fun g => oldR (.waits g))
 (fun x => oldR (.nilCheck x))
 (fun op T x y _ P L t _ => fBin P L t op T x y)
 (fun op T x => oldR (.unOp op T x))
 (fun s d x P _ t _ => fConvR P t s d x)
 (fun T x => oldR (.sliceToArrayPointer T x))
 (fun T x => oldR (.makeInterface T x))
 (fun f a c => oldR (.makeFunc f a c))
 (fun T r => oldR (.makeMap T r))
 (fun T r => oldR (.makeChan T r))
 (fun T x y => oldR (.makeSlice T x y))
 (fun T x l h m P _ t _ => evSlice P t T x l h m)
 (fun T x f => oldR (.fieldAddr T x f))
 (fun T x f => oldR (.field T x f))
 (fun T x i P _ t _ => fIdx P t T x i)
 (fun T x i => oldR (.index T x i))
 (fun a b c d => oldR (.lookup a b c d))
 (fun a b c d => oldR (.mapUpdate a b c d))
 (fun a b c => oldR (.mapEntry a b c))
 (fun a b c d => oldR (.entryStore a b c d))
 (fun a b => oldR (.range a b))
 (fun a b => oldR (.next a b))
 (fun a => oldR (.entry a))
 (fun a b c d => oldR (.typeAssert a b c d))
 (fun x i => oldR (.extract x i))
 (fun c => oldR (.call c))
 (fun c => oldR (.go c))
 (fun c => oldR (.defer c))
 (fun x => oldR (.panic x))
 (fun a b => oldR (.send a b))
 (fun a b c => oldR (.recv a b c))
 (fun a b => oldR (.select a b))
theorem evReadF_eq (op : Op) (P : Program) (L : Lore) (t : Tm) (H : List Blk) : evReadF op P L t H = evReadX op P L t H := by
 cases op
 case move x => exact evGetF_eq t x
 case assign x => exact evGetF_eq t x
 case load T x => exact evLoadF_eq P t H T x
 case binOp op T x y T' => exact fBin_eq P L t op T x y
 case convert s d x =>
  show fConvR P t s d x = _
  unfold fConvR
  rw [evGetF_eq]
  cases hx : evGet t x with
  | none => simp only [evReadX, hx]
  | some a => simp only [evReadX, hx, convR_eq]
 case indexAddr T x i => exact fIdx_eq P t T x i
 all_goals rfl
def opF (call : CallF) (P : Program) (L : Lore) (ops : Array Oper) (o : Oper) (ih : Tm -> List Blk -> Option (Tm × List Blk)) (t : Tm) (H : List Blk) : Option (Tm × List Blk) :=
 match wantA ops t o with
 | some b => Bool.casesOn (motive := fun _ => Option (Tm × List Blk)) b (ih (putA t o.dst (.tup [])) H) (match evStepF o.op call P L t H with | some r => ih (putA t o.dst r.1) r.2 | none => none)
 | none => none
def opsF (call : CallF) (P : Program) (L : Lore) (ops : Array Oper) (l : List Oper) : Tm -> List Blk -> Option (Tm × List Blk) :=
 List.rec (motive := fun _ => Tm -> List Blk -> Option (Tm × List Blk)) (fun t H => some (t, H)) (fun o _ ih t H => opF call P L ops o ih t H) l
theorem opsF_eq (call : CallF) (P : Program) (L : Lore) (ops : Array Oper) : ∀ (l : List Oper) (t : Tm) (H : List Blk), opsF call P L ops l t H = evOps call P L ops l t H
 | [], _, _ => rfl
 | o :: r, t, H => by
  show opF call P L ops o (opsF call P L ops r) t H = _
  unfold opF
  simp only [evOps, evStep, evStepF_eq]
  cases wantA ops t o with
  | none => rfl
  | some b =>
   cases b with
   | false => exact opsF_eq call P L ops r _ _
   | true =>
    simp only
    cases evStepX o.op call P L t H with
    | none => rfl
    | some q => exact opsF_eq call P L ops r _ _
abbrev RunA := Tm -> List (Nat × Nat × Nat) -> Option (Tm × List (Nat × Nat × Nat))
def takeF (P : Program) (Lo : Lore) (ops : Array Oper) (H : List Blk) (o : Oper) (ih : RunA) (t : Tm) (L : List (Nat × Nat × Nat)) : Option (Tm × List (Nat × Nat × Nat)) :=
 match wantA ops t o with
 | some b => Bool.casesOn (motive := fun _ => Option (Tm × List (Nat × Nat × Nat))) b (ih (putA t o.dst (.tup [])) L) (match evReadF o.op P Lo t H with | some v => ih (putA t o.dst v) (addSpan P t o.op L) | none => none)
 | none => none
def runAF (P : Program) (Lo : Lore) (ops : Array Oper) (H : List Blk) (l : List Nat) : RunA :=
 List.rec (motive := fun _ => RunA) (fun t L => some (t, L)) (fun i _ ih t L => match ops[i]? with | some o => takeF P Lo ops H o ih t L | none => none) l
theorem runAF_eq (P : Program) (Lo : Lore) (ops : Array Oper) (H : List Blk) : ∀ (l : List Nat) (t : Tm) (L : List (Nat × Nat × Nat)), runAF P Lo ops H l t L = runA P Lo ops H l t L
 | [], _, _ => rfl
 | i :: r, t, L => by
  show (match ops[i]? with | some o => takeF P Lo ops H o (runAF P Lo ops H r) t L | none => none) = _
  simp only [runA]
  cases ops[i]? with
  | none => rfl
  | some o =>
   simp only [takeF, evRead, evReadF_eq]
   cases wantA ops t o with
   | none => rfl
   | some b =>
    cases b with
    | false => exact runAF_eq P Lo ops H r _ _
    | true =>
     simp only
     cases evReadX o.op P Lo t H with
     | none => rfl
     | some q => exact runAF_eq P Lo ops H r _ _
abbrev RunB := Bool -> Tm -> List Blk -> Option (Tm × List Blk)
def takeB (P : Program) (Lo : Lore) (ops : Array Oper) (o : Oper) (ih : RunB) (late : Bool) (t : Tm) (H : List Blk) : Option (Tm × List Blk) :=
 match wantA ops t o with
 | some b => Bool.casesOn (motive := fun _ => Option (Tm × List Blk)) b (ih late (putA t o.dst (.tup [])) H) (match evReadF o.op P Lo t [] with | some v => ih late (putA t o.dst v) H | none => none)
 | none => none
def doB (call : CallF) (P : Program) (Lo : Lore) (ops : Array Oper) (H0 : List Blk) (L : List (Nat × Nat × Nat)) (wt : Bool) (o : Oper) (ih : RunB) (late : Bool) (t : Tm) (H : List Blk) : Option (Tm × List Blk) :=
 match wantA ops t o with
 | some b => Bool.casesOn (motive := fun _ => Option (Tm × List Blk)) b (ih (late || wt) (putA t o.dst (.tup [])) H)
  (match evStepF o.op call P Lo t H with | some r => Bool.casesOn (motive := fun _ => Option (Tm × List Blk)) (late || wt || keeps L H0 r.2) none (ih (late || wt) (putA t o.dst r.1) r.2) | none => none)
 | none => none
def runBF (call : CallF) (P : Program) (Lo : Lore) (ops : Array Oper) (H0 : List Blk) (N : List Nat) (L : List (Nat × Nat × Nat)) (l : List (Nat × Bool)) : RunB :=
 List.rec (motive := fun _ => RunB) (fun _ t H => some (t, H)) (fun q _ ih late t H => match ops[q.1]? with
  | some o => Bool.casesOn (motive := fun _ => Option (Tm × List Blk)) q.2 (doB call P Lo ops H0 L (waits ops N q.1) o ih late t H) (takeB P Lo ops o ih late t H)
  | none => none) l
theorem runBF_eq (call : CallF) (P : Program) (Lo : Lore) (ops : Array Oper) (H0 : List Blk) (N : List Nat) (L : List (Nat × Nat × Nat)) : ∀ (l : List (Nat × Bool)) (late : Bool) (t : Tm) (H : List Blk), runBF call P Lo ops H0 N L l late t H = runB call P Lo ops H0 N L l late t H
 | [], _, _, _ => rfl
 | (i, true) :: r, late, t, H => by
  show (match ops[i]? with | some o => takeB P Lo ops o (runBF call P Lo ops H0 N L r) late t H | none => none) = _
  simp only [runB]
  cases ops[i]? with
  | none => rfl
  | some o =>
   simp only [takeB, evRead, evReadF_eq]
   cases wantA ops t o with
   | none => rfl
   | some b =>
    cases b with
    | false => exact runBF_eq call P Lo ops H0 N L r _ _ _
    | true =>
     simp only
     cases evReadX o.op P Lo t [] with
     | none => rfl
     | some q => exact runBF_eq call P Lo ops H0 N L r _ _ _
 | (i, false) :: r, late, t, H => by
  show (match ops[i]? with | some o => doB call P Lo ops H0 L (waits ops N i) o (runBF call P Lo ops H0 N L r) late t H | none => none) = _
  simp only [runB]
  cases ops[i]? with
  | none => rfl
  | some o =>
   simp only [doB, evStep, evStepF_eq]
   cases wantA ops t o with
   | none => rfl
   | some b =>
    cases b with
    | false => exact runBF_eq call P Lo ops H0 N L r _ _ _
    | true =>
     simp only
     cases evStepX o.op call P Lo t H with
     | none => rfl
     | some q =>
      simp only [boolCase]
      rw [runBF_eq call P Lo ops H0 N L r _ _ _]
def evPlanF (call : CallF) (P : Program) (Lo : Lore) (ops : Array Oper) (t : Tm) (H : List Blk) : Option (Tm × List Blk) :=
 match planOf P ops with
 | some q => match runAF P Lo ops H q.1 t [] with | some r => runBF call P Lo ops H q.2.1 r.2 q.2.2 false r.1 H | none => none
 | none => evDraw call P Lo ops t H
theorem evPlanF_eq (call : CallF) (P : Program) (Lo : Lore) (ops : Array Oper) (t : Tm) (H : List Blk) : evPlanF call P Lo ops t H = evPlan call P Lo ops t H := by
 unfold evPlanF evPlan
 cases planOf P ops with
 | none => rfl
 | some q =>
  obtain ⟨A, N, bp⟩ := q
  simp only [runAF_eq]
  cases runA P Lo ops H A t [] with
  | none => rfl
  | some r =>
   obtain ⟨t1, L⟩ := r
   simp only [runBF_eq]
abbrev OutT := Option (Out × Tm × List Blk)
def normalOut (r : Option (Tm × List Blk)) : OutT := match r with | some q => some (.normal, q.1, q.2) | none => none
def cSeq (self : CodeF) (a b : Code) (t : Tm) (H : List Blk) : OutT := match self a t H with | some q => Out.casesOn (motive := fun _ => OutT) q.1 (self b q.2.1 q.2.2) (fun i => some (.exit i, q.2.1, q.2.2)) (some (.ret, q.2.1, q.2.2)) | none => none
def cCond (self : CodeF) (c : Operand) (x y : Code) (t : Tm) (H : List Blk) : OutT := match (evGetF t c).bind fun v => v.asSV.bind SV.asBool with | some b => Bool.casesOn (motive := fun _ => OutT) b (self y t H) (self x t H) | none => none
def cBlock (self : CodeF) (id : Nat) (c : Code) (t : Tm) (H : List Blk) : OutT := match self c t H with | some q => Out.casesOn (motive := fun _ => OutT) q.1 (some (.normal, q.2.1, q.2.2)) (fun i => Bool.casesOn (motive := fun _ => OutT) (Nat.beq i id) (some (.exit i, q.2.1, q.2.2)) (some (.normal, q.2.1, q.2.2))) (some (.ret, q.2.1, q.2.2)) | none => none
def cLoop (self : CodeF) (c : Code) (t : Tm) (H : List Blk) : OutT := match self c t H with | some q => Out.casesOn (motive := fun _ => OutT) q.1 (self (.loop c) q.2.1 q.2.2) (fun i => some (.exit i, q.2.1, q.2.2)) (some (.ret, q.2.1, q.2.2)) | none => none
def codeStepF (P : Program) (L : Lore) (call : CallF) (self : CodeF) (c : Code) : Tm -> List Blk -> OutT := Code.casesOn (motive := fun _ => Tm -> List Blk -> OutT) c
 (fun t H => some (.normal, t, H))
 (fun _ ops draw t H => Bool.casesOn (motive := fun _ => OutT) draw (normalOut (opsF call P L ops ops.toList t H)) (normalOut (evPlanF call P L ops t H)))
 (fun a b => cSeq self a b)
 (fun c x y => cCond self c x y)
 (fun id c => cBlock self id c)
 (fun c => cLoop self c)
 (fun _ _ _ _ _ _ => none)
 (fun id t H => some (.exit id, t, H))
 (fun c => self c) (fun _ t H => some (.normal, t, H)) (fun _ _ _ => none)
 (fun t H => some (.ret, t, H))
 (fun _ _ _ => none)
theorem codeStepF_eq (P : Program) (L : Lore) (call : CallF) (self : CodeF) (c : Code) (t : Tm) (H : List Blk) : codeStepF P L call self c t H = codeStep P L call self c t H := by
 cases c
 case region id ops draw =>
  cases draw with
  | false =>
   show normalOut (opsF call P L ops ops.toList t H) = _
   rw [opsF_eq]
   simp only [codeStep]
   cases evOps call P L ops ops.toList t H <;> rfl
  | true =>
   show normalOut (evPlanF call P L ops t H) = _
   rw [evPlanF_eq]
   simp only [codeStep]
   cases evPlan call P L ops t H <;> rfl
 case seq a b =>
  show cSeq self a b t H = _
  simp only [cSeq, codeStep]
  cases self a t H with
  | none => rfl
  | some q =>
   obtain ⟨o, t1, H1⟩ := q
   cases o <;> rfl
 case cond c x y =>
  show cCond self c x y t H = _
  simp only [cCond, codeStep, evGetF_eq]
  cases evGet t c with
  | none => rfl
  | some v =>
   rcases v with (s | l) | l
   ·cases s <;> first | rfl | (rename_i b; cases b <;> rfl)
   ·rfl
   ·rfl
 case block id c =>
  show cBlock self id c t H = _
  simp only [cBlock, codeStep]
  cases self c t H with
  | none => rfl
  | some q =>
   obtain ⟨o, t1, H1⟩ := q
   cases o with
   | normal => rfl
   | ret => rfl
   | exit i =>
    simp only [boolCase]
    by_cases e : i = id
    ·subst e; simp
    ·have : Nat.beq i id = false := by
      cases hq : Nat.beq i id with
      | false => rfl
      | true => exact absurd (Nat.eq_of_beq_eq_true hq) e
     simp [this, e]
 case loop c =>
  show cLoop self c t H = _
  simp only [cLoop, codeStep]
  cases self c t H with
  | none => rfl
  | some q =>
   obtain ⟨o, t1, H1⟩ := q
   cases o <;> rfl
 all_goals rfl
def evGF (P : Program) (L : Lore) (mk : CodeF -> CallF) (n : Nat) : CodeF := Nat.rec (motive := fun _ => CodeF) (fun _ _ _ => none) (fun _ ih => codeStepF P L (mk ih) ih) n
theorem evGF_eq (P : Program) (L : Lore) (mk : CodeF -> CallF) : ∀ n, evGF P L mk n = evG P L mk n
 | 0 => rfl
 | n + 1 => by
  show codeStepF P L (mk (evGF P L mk n)) (evGF P L mk n) = _
  rw [evGF_eq P L mk n]
  funext c t H
  rw [codeStepF_eq]
  rfl
def evCF (P : Program) (L : Lore) (con : ConF) (n : Nat) : CodeF := evGF P L (callStep P con) n
theorem evCF_eq (P : Program) (L : Lore) (con : ConF) (n : Nat) : evCF P L con n = evC P L con n := evGF_eq P L _ n
def evCallF (P : Program) (L : Lore) (con : ConF) (n : Nat) : CallF := callStep P con (evCF P L con n)
theorem evCallF_eq (P : Program) (L : Lore) (con : ConF) (n : Nat) : evCallF P L con n = evCall P L con n := by
 unfold evCallF evCall
 rw [evCF_eq]
theorem calls_of_evHF {P : Program} {ρ : Env} {L : Lore} (hL : LoreOk ρ L) {con : ConF} (hcon : ConOk P ρ con) (hm : P.follows .mixedOrders = true) (n : Nat) {g : Nat} {xs : List AV} {v : AV} {ms : List Nat} {H H' : List Blk} (h : evCallF P L con n g xs H = some (v, H')) {args : Array Value} (w : World) (ha : xs.map (AV.inst ρ ms) = args.toList.map some) (hH : Holds ρ ms H w.heap.size w) :
  Calls P g args w fun e w' => ∃ ms' u, e = .returned u /\ ms <+: ms' /\ v.inst ρ ms' = some u /\ Holds ρ ms' H' w.heap.size w' /\ Below w.heap.size w w' :=
 calls_of_evH hL hcon hm n (by rw [<- evCallF_eq]; exact h) w ha hH
end
def tailN : Nat -> Code -> Code
 | n + 1, .seq _ b => tailN n b
 | _, c => c
def tm2 (n i : Nat) (x : AV) (j : Nat) (y : AV) : Tm := ((⟨n, .emp⟩ : Tm).set i x).set j y
theorem RelT.two {ρ : Env} {ms : List Nat} {n i j : Nat} {x y : AV} {tmps : Array Value} {u v : Value} (hn : n = tmps.size) (h5 : n <= 512) (hi : tmps[i]? = some u) (hx : x.inst ρ ms = some u) (hj : tmps[j]? = some v) (hy : y.inst ρ ms = some v) (hg : Gl ms) : RelT ρ ms (tm2 n i x j y) tmps := by
 have e0 : ((⟨n, .emp⟩ : Tm).set i x).n <= 512 := by rw [Tm.set_n]; exact h5
 refine ⟨by unfold tm2; rw [Tm.set_n, Tm.set_n]; exact hn, by unfold tm2; rw [Tm.set_n]; exact e0, ?_, hg⟩
 intro k z hz
 unfold tm2 at hz
 rw [Tm.get_set e0] at hz
 split at hz
 ·rename_i e
  cases hz
  rw [<- e.1]
  exact ⟨v, hj, hy⟩
 ·rw [Tm.get_set (show (⟨n, .emp⟩ : Tm).n <= 512 from h5)] at hz
  split at hz
  ·rename_i e
   cases hz
   rw [<- e.1]
   exact ⟨u, hi, hx⟩
  ·unfold Tm.get at hz
   split at hz
   ·rw [Tr.law3.emp] at hz; cases hz
   ·cases hz
theorem part_ret {P : Program} {ρ : Env} (hm : P.follows .mixedOrders = true) {n : Nat} {fn : Func} {c : Code} {t : Tm} {H : List Blk} {x : AV} (h : (evCF P noLore noCon n c t H).map (fun r => (r.1, evResults P fn r.2.1 r.2.2)) = some (.ret, some x)) {ms : List Nat} {B : Nat} {a : Act} {w : World} {post : Ending -> World -> Prop}
  (hT : RelT ρ ms t a.tmps) (hH : Holds ρ ms H B w) (hd : a.defers = []) (hpost : ∀ (ms' : List Nat) (u : Value) (w' : World), x.inst ρ ms' = some u -> Below B w w' -> post (.returned u) w') : c.wp P (bodyPost P fn post) a w := by
 rw [evCF_eq, Option.map_eq_some_iff] at h
 obtain ⟨⟨o, t', H'⟩, h1, h2⟩ := h
 simp only [Prod.mk.injEq] at h2
 obtain ⟨rfl, h3⟩ := h2
 refine evC_ok (noLore_ok ρ) (noCon_ok P ρ) hm n c t H .ret t' H' h1 ms B a w _ hT hH fun ms' a' w' q1 q2 q3 q4 q5 => ?_
 obtain ⟨u, e1, e2⟩ := evResults_ok q2 q4 h3
 exact ⟨q3.trans hd, u, e2, hpost ms' u w' e1 q5.toBelow⟩
theorem holds_any (ρ : Env) (w : World) {B : Nat} (hB : B <= w.heap.size) : Holds ρ ms0 H0 B w := by
 have h := holds_nil ρ w
 refine ⟨h.len, h.gl, h.inj, ?_, h.bnd, hB, h.plain, h.cell, h.room⟩
 intro i b k hi hk hr
 have := h.low i b k hi hk hr
 omega
theorem Holds.known {ρ : Env} {ms : List Nat} {H : List Blk} {B : Nat} {w : World} (h : Holds ρ ms H B w) {l : List SV} {vs : List Value} (hl : l.map (SV.inst ρ ms) = vs.map some) {b0 : Nat} (hB0 : B <= b0) (hb0 : b0 < w.heap.size)
  (hfar : ∀ (i b : Nat) (k : Blk), ms[i]? = some b -> H[i]? = some k -> k.cells ≠ [] -> b ≠ b0) (hnew : ∀ j v, vs[j]? = some v -> w.cell? ⟨b0, j, none⟩ = some v /\ w.frozen? ⟨b0, j, none⟩ = false) : Holds ρ (ms ++ [b0]) (H ++ [newBlk l]) B w :=
 h.pushAt hl (Nat.le_refl _) hB0 hb0 hfar (fun _ _ _ _ => ⟨rfl, rfl⟩) (fun _ _ _ q1 q2 => ⟨q1, q2⟩) hnew
theorem dead0 {i : Nat} {k : Blk} (h : H0[i]? = some k) : k.cells = [] := by
 have := List.mem_of_getElem? h
 unfold H0 at this
 rw [(List.mem_replicate.1 this).2]
 rfl
end Go.Proofs.YtcpchhigiohlnaaDoor.Ev
namespace Go.Proofs.YtcpchhigiohlnaaDoor
open Go Go.RowKit Ev
def litW (l : List Nat) : List SV := l.map fun x : Nat => .int .u32 (.lit (x : Int))
def kBlk : Blk := ⟨true, true, 0, litW kW⟩
def HK : List Blk := [kBlk, dead]
def unW : SV -> Option Nat
 | .int .u32 (.lit n) => if 0 <= n /\ n < 4294967296 then some n.toNat else none
 | _ => none
def unB : SV -> Option Int
 | .int .u8 (.lit n) => if 0 <= n /\ n < 256 then some n else none
 | _ => none
def hasK (H : List Blk) : Bool :=
 match H[0]? with
 | some b => decide (b.cells = litW kW)
 | none => false
def conMix : ConF := fun g xs H =>
 if g = 77 then
  match xs with
  | [.tv (.agg a), .tv (.agg b)] =>
   match seqO (a.map unW), seqO (b.map unB) with
   | some hs, some l => if hs.length = 8 /\ l.length = 64 /\ hasK H = true then some (.tv (.agg (litW (mixL hs l)))) else none
   | _, _ => none
  | _ => none
 else none
theorem unW_ok {ρ : Env} {ms : List Nat} : ∀ (l : List SV) (b : List Nat) (vs : List Value), l.map unW = b.map some -> l.map (SV.inst ρ ms) = vs.map some -> vs = b.map (fun x : Nat => Value.int .u32 (x : Int)) /\ ∀ x ∈ b, x < 4294967296
 | [], b, vs, h, hv => by cases b <;> cases vs <;> simp at h hv ⊢
 | s :: l, b, vs, h, hv => by
  match b, vs, h, hv with
  | x :: b, v :: vs, h, hv =>
   simp only [List.map_cons, List.cons.injEq] at h hv ⊢
   obtain ⟨q1, q2⟩ := unW_ok l b vs h.2 hv.2
   have h1 := h.1
   unfold unW at h1
   split at h1
   ·rename_i n
    split at h1 <;> cases h1
    rename_i hn
    have h2 := hv.1
    simp only [SV.inst, Ex.den, Option.some.injEq] at h2
    refine ⟨⟨?_, q1⟩, ?_⟩
    ·rw [<- h2]; congr 1; omega
    ·intro y hy
     rcases List.mem_cons.1 hy with rfl | hy
     ·omega
     ·exact q2 y hy
   ·cases h1
theorem unB_ok {ρ : Env} {ms : List Nat} : ∀ (l : List SV) (b : List Int) (vs : List Value), l.map unB = b.map some -> l.map (SV.inst ρ ms) = vs.map some -> vs = b.map (Value.int .u8) /\ ∀ x ∈ b, 0 <= x /\ x < 256
 | [], b, vs, h, hv => by cases b <;> cases vs <;> simp at h hv ⊢
 | s :: l, b, vs, h, hv => by
  match b, vs, h, hv with
  | x :: b, v :: vs, h, hv =>
   simp only [List.map_cons, List.cons.injEq] at h hv ⊢
   obtain ⟨q1, q2⟩ := unB_ok l b vs h.2 hv.2
   have h1 := h.1
   unfold unB at h1
   split at h1
   ·rename_i n
    split at h1 <;> cases h1
    rename_i hn
    have h2 := hv.1
    simp only [SV.inst, Ex.den, Option.some.injEq] at h2
    refine ⟨⟨h2.symm, q1⟩, ?_⟩
    intro y hy
    rcases List.mem_cons.1 hy with rfl | hy
    ·exact hn
    ·exact q2 y hy
   ·cases h1
theorem litW_map (ρ : Env) (ms : List Nat) (l : List Nat) : (litW l).map (SV.inst ρ ms) = (l.map fun x : Nat => Value.int .u32 (x : Int)).map some := by
 simp [litW, SV.inst, Ex.den]
theorem hasK_ok {ρ : Env} {ms : List Nat} {H : List Blk} {B : Nat} {w : World} (hH : Holds ρ ms H B w) (h : hasK H = true) : KC w := by
 unfold hasK at h
 split at h
 ·rename_i b hHb
  have hb : b.cells = litW kW := by simpa using h
  intro t ht
  have hg := hH.gl 0 (by decide)
  have hc : b.cells[t]? = some (.int .u32 (.lit ((kW.getD t 0 : Nat) : Int))) := by
   rw [hb, litW, List.getElem?_map]
   have : t < kW.length := by rw [kW_length]; exact ht
   simp [List.getD, List.getElem?_eq_getElem this]
  obtain ⟨v, h1, h2, _⟩ := hH.cell 0 0 b hg hHb t _ hc
  simp only [SV.inst, Ex.den, Option.some.injEq] at h1
  rw [h2, h1]
 ·cases h
theorem conMix_ok (ρ : Env) : ConOk Tryd.prog ρ conMix := by
 intro g xs H v h ms B w args ha hH
 unfold conMix at h
 split at h
 case isFalse => cases h
 rename_i hg
 subst hg
 split at h
 case h_2 => cases h
 rename_i a b
 split at h
 case h_2 => cases h
 rename_i hs l h1 h2
 split at h <;> cases h
 rename_i hc
 obtain ⟨c1, c2, c3⟩ := hc
 rw [seqO_iff] at h1 h2
 obtain ⟨al⟩ := args
 have hl2 : al.length = 2 := by have := congrArg List.length ha; simpa using this.symm
 match al, hl2, ha with
 | [u, u'], _, ha =>
  simp only [List.map_cons, List.map_nil, List.cons.injEq, and_true, AV.inst, TV.inst, Option.map_eq_some_iff] at ha
  obtain ⟨⟨vs, e1, rfl⟩, ⟨us, e2, rfl⟩⟩ := ha
  rw [seqO_iff] at e1 e2
  obtain ⟨q1, q2⟩ := unW_ok _ _ _ h1 e1
  obtain ⟨q3, q4⟩ := unB_ok _ _ _ h2 e2
  subst q1 q3
  refine (mix_any w hs l ⟨c1, q2⟩ c2 q4 (hasK_ok hH c3)).mono fun e w' ⟨r1, r2⟩ => ⟨_, r1, ?_, r2⟩
  simp only [AV.inst, TV.inst]
  rw [(seqO_iff _ _).2 (litW_map ρ ms _)]
  rfl
theorem holdsK (ρ : Env) (w : World) (h : KC w) : Holds ρ ms0 HK w.heap.size w := by
 have h0 := World.block_lt_of_cell? w _ (h 0 (by decide))
 have cases2 : ∀ (i : Nat) (k : Blk), HK[i]? = some k -> k.cells ≠ [] -> i = 0 /\ k = kBlk := fun i k hk hne => by
  match i, hk with
  | 0, hk => exact ⟨rfl, by simpa [HK] using hk.symm⟩
  | 1, hk => simp [HK] at hk; subst hk; exact absurd rfl hne
  | i + 2, hk => simp [HK] at hk
 have ro : ∀ (i : Nat) (k : Blk), HK[i]? = some k -> k.ro = true /\ k.cap = 0 := fun i k hk => by
  match i, hk with
  | 0, hk => simp [HK] at hk; subst hk; exact ⟨rfl, rfl⟩
  | 1, hk => simp [HK] at hk; subst hk; exact ⟨rfl, rfl⟩
  | i + 2, hk => simp [HK] at hk
 refine ⟨rfl, gl0, ?_, ?_, ?_, Nat.le_refl _, ?_, ?_, ?_⟩
 ·intro i j b k k' _ _ hk hk' hne hne'
  rw [(cases2 i k hk hne).1, (cases2 j k' hk' hne').1]
 ·intro i b k _ hk hr
  rw [(ro i k hk).1] at hr
  cases hr
 ·intro i b k hi hk hne
  obtain ⟨rfl, rfl⟩ := cases2 i k hk hne
  have : b = 0 := by simpa [ms0, nGl] using hi.symm
  subst this
  exact h0
 ·intro i k hk hp
  match i, hk with
  | 0, hk => simp [HK] at hk; subst hk; simp [kBlk, litW, SV.plain]
  | 1, hk => simp [HK] at hk; subst hk; rfl
  | i + 2, hk => simp [HK] at hk
 ·intro i b k hi hk j s hs
  obtain ⟨rfl, rfl⟩ := cases2 i k hk (mem_nil_of_get hs)
  have : b = 0 := by simpa [ms0, nGl] using hi.symm
  subst this
  simp only [kBlk, litW, List.getElem?_map, Option.map_eq_some_iff] at hs
  obtain ⟨x, hx, rfl⟩ := hs
  have hj : j < 64 := by
   have := (List.getElem?_eq_some_iff.1 hx).1
   rw [kW_length] at this
   exact this
  refine ⟨_, rfl, ?_, fun hr => by simp [kBlk] at hr⟩
  rw [h j hj]
  simp [List.getD, hx, Ex.den]
 ·intro i b c k0 k _ _ _ _ _ hk hcap
  rw [(ro _ k hk).2] at hcap
  omega
theorem mixedOrders : Tryd.prog.follows .mixedOrders = true := by kernel_rfl
end Go.Proofs.YtcpchhigiohlnaaDoor
namespace Go.Proofs.YtcpchhigiohlnaaDoor
open Go.RowKit
section
open Ev
noncomputable def sumRest : Code := tailN 5 (Tryd.f69.body.getD .skip)
def wv8 : List SV := (List.range 8).map fun i => .int .u32 (.var i)
def zero32 : List SV := List.replicate 32 (.int .u8 (.lit 0))
def ivLit : List SV := iv.map fun x : Nat => .int .u32 (.lit (x : Int))
def HSum : List Blk := (H0 ++ [newBlk zero32]) ++ [newBlk (ivLit ++ wv8)]
def tSum : Tm := tm2 40 2 (.tv (.sc (.ptr 2 0))) 3 (.tv (.sc (.ptr 3 0)))
def digE : List Ex := (List.range 8).flatMap fun i => [.con .u8 (.shr (.con .u64 (.var i)) 24), .con .u8 (.shr (.con .u64 (.var i)) 16), .con .u8 (.shr (.con .u64 (.var i)) 8), .con .u8 (.con .u64 (.var i))]
theorem sumTail_ev : (evCF Tryd.prog noLore noCon 60 sumRest tSum HSum).map (fun r => (r.1, evResults Tryd.prog Tryd.f69 r.2.1 r.2.2)) = some (.ret, some (.tv (.agg (digE.map (.int .u8))))) := by kernel_rfl
def envW (W : List Nat) : Env := ⟨fun i => ((W.getD i 0 : Nat) : Int), fun _ => .tuple #[], fun _ _ _ => 0⟩
theorem ivLit_inst (ρ : Env) (ms : List Nat) : ivLit.map (SV.inst ρ ms) = (wcells iv).map some := by simp [ivLit, wcells, SV.inst, Ex.den]
theorem wv8_inst {W : List Nat} (hW : W8 W) (ms : List Nat) : wv8.map (SV.inst (envW W) ms) = (wcells W).map some := by
 obtain ⟨a, b, c, d, e, f, g, h, rfl, _⟩ := hW.open
 rfl
theorem zero32_inst (ρ : Env) (ms : List Nat) : zero32.map (SV.inst ρ ms) = (List.replicate 32 (Value.int .u8 0)).map some := by
 simp [zero32, SV.inst, Ex.den]
theorem dig_bytes (x : Nat) (hx : x < 4294967296) : IntKind.u8.wrap ((IntKind.u64.wrap (x : Int)).fdiv (2 ^ 24)) = ((x / 256 ^ 3 % 256 : Nat) : Int) /\ IntKind.u8.wrap ((IntKind.u64.wrap (x : Int)).fdiv (2 ^ 16)) = ((x / 256 ^ 2 % 256 : Nat) : Int) ∧
  IntKind.u8.wrap ((IntKind.u64.wrap (x : Int)).fdiv (2 ^ 8)) = ((x / 256 ^ 1 % 256 : Nat) : Int) /\ IntKind.u8.wrap (IntKind.u64.wrap (x : Int)) = ((x / 256 ^ 0 % 256 : Nat) : Int) := by
 have e : IntKind.u64.wrap (x : Int) = (x : Int) := by rw [IntKind.wrap_u64]; omega
 rw [e]
 simp only [IntKind.wrap_u8]
 rw [Int.fdiv_eq_ediv_of_nonneg _ (by decide), Int.fdiv_eq_ediv_of_nonneg _ (by decide), Int.fdiv_eq_ediv_of_nonneg _ (by decide)]
 refine ⟨?_, ?_, ?_, ?_⟩
 ·rw [show ((2 : Int) ^ 24) = 16777216 by decide, show (256 : Nat) ^ 3 = 16777216 by decide]; omega
 ·rw [show ((2 : Int) ^ 16) = 65536 by decide, show (256 : Nat) ^ 2 = 65536 by decide]; omega
 ·rw [show ((2 : Int) ^ 8) = 256 by decide, show (256 : Nat) ^ 1 = 256 by decide]; omega
 ·rw [show (256 : Nat) ^ 0 = 1 by decide]; omega
theorem dig_inst {W : List Nat} (hW : W8 W) (ms : List Nat) : (AV.tv (.agg (digE.map (.int .u8)))).inst (envW W) ms = some (.agg (cellsB (W.flatMap (bigL 4)))) := by
 obtain ⟨a, b, c, d, e, f, g, h, rfl, ha, hb, hc, hd, he, hf, hg, hh⟩ := hW.open
 simp only [AV.inst, TV.inst]
 rw [(seqO_iff _ ((([a, b, c, d, e, f, g, h] : List Nat).flatMap (bigL 4)).map (Value.int .u8))).2 ?_]
 ·rfl
 ·obtain ⟨a1, a2, a3, a4⟩ := dig_bytes a ha
  obtain ⟨b1, b2, b3, b4⟩ := dig_bytes b hb
  obtain ⟨c1, c2, c3, c4⟩ := dig_bytes c hc
  obtain ⟨d1, d2, d3, d4⟩ := dig_bytes d hd
  obtain ⟨e1, e2, e3, e4⟩ := dig_bytes e he
  obtain ⟨f1, f2, f3, f4⟩ := dig_bytes f hf
  obtain ⟨g1, g2, g3, g4⟩ := dig_bytes g hg
  obtain ⟨h1, h2, h3, h4⟩ := dig_bytes h hh
  simp only [digE, List.range, List.range.loop, List.flatMap_cons, List.flatMap_nil, List.cons_append, List.nil_append, List.append_nil, List.map_cons, List.map_nil, SV.inst, Ex.den, envW, List.getD_cons_zero, List.getD_cons_succ, bigL, a1, a2, a3, a4, b1, b2, b3, b4, c1, c2, c3, c4, d1, d2, d3, d4, e1, e2, e3, e4, f1, f2, f3, f4, g1, g2, g3, g4, h1, h2, h3, h4]
end
def padded (m : List Int) : List Int := m ++ padL m.length
theorem sum_any (w : World) (g : Nat) (m : List Int) (h : HM w g m) (hk : KC w) (hlen : m.length <= 576460752303423488) :
  Calls Tryd.prog 69 #[.pointer (some ⟨g, 0, none⟩)] w fun e w' => e = .returned (.agg (cellsB ((wAt (padded m) ((padded m).length / 64)).flatMap (bigL 4)))) /\ Below w.heap.size w w' := by
 obtain ⟨zd, HZD⟩ : ∃ zd, Hid (cellsB zeros32 = zd) := ⟨_, rfl⟩
 obtain ⟨zh, HZH⟩ : ∃ zh, Hid ((hcells (zerosW 8) (zerosW 8) (List.replicate 64 0) 0).toArray = zh) := ⟨_, rfl⟩
 have hzh := zero_hash
 rw [HZH.out] at hzh
 have HZ1 := hid hzh
 have hzl : zh.size = 81 := by rw [<- HZH.out]; simp [hcells, wcells_length, bcells_length, zerosW_length]
 obtain ⟨W0, hW0⟩ : ∃ W0, Hid (w.alloc (.cells zd 34) = W0) := ⟨_, rfl⟩
 have HB0 : Hid (Below w.heap.size w W0) := by rw [<- hW0.out]; exact (Below.refl _ w).alloc (Nat.le_refl _) _
 have HR0 : Hid (W0.heap[w.heap.size]? = some (.cells zd 34 (0, 0))) := by rw [<- hW0.out]; exact heap_alloc_new w _
 have hS0 : W0.heap.size = w.heap.size + 1 := by rw [<- hW0.out]; simp
 have hm0 := h.below HB0.out
 have HM0 := hid hm0
 have CM := hid (made_yes W0 g m hm0)
 have hkb : 0 < w.heap.size := World.block_lt_of_cell? w _ (hk 0 (by decide))
 have HK := hid hk
 have hgl := h.lt
 clear h hk hzh hm0
 go_enter Tryd.func69, Tryd.ntmps69
 go_wp2_with (refine wpList_alloc_digest rfl rfl ?_; rw [HZD.out, hW0.out])
 refine CM.out.mono ?_
 rintro e w1 ⟨rfl, hB1⟩
 obtain ⟨rest, hs1, hrt, hmb⟩ := HM0.out.below hB1
 obtain ⟨n, HN⟩ : ∃ n, Hid (m.length = n) := ⟨_, rfl⟩
 obtain ⟨hc, HC⟩ : ∃ hc, Hid ((hcells iv (wAt m (m.length / 64)) rest m.length).toArray = hc) := ⟨_, rfl⟩
 have hcl : (hcells iv (wAt m (m.length / 64)) rest m.length).length = 81 := hcells_length iv_W8.1 hs1.w8.1 hs1.rl
 have hcs : hc.size = 81 := by rw [<- HC.out, List.size_toArray, hcl]
 have SH : Hid ((Tryd.prog.info? 109).map (·.size) = some (hcells iv (wAt m (m.length / 64)) rest m.length).length) := by rw [hcl]; exact size_hash
 have SH2 : Hid ((Tryd.prog.info? 109).map (·.size) = some hc.size) := by rw [hcs]; exact size_hash
 have OH : Hid (hc.all (·.oneCell') = true) := by
  rw [<- HC.out]
  refine all_oneCell_toArray (fun v hv => ?_)
  unfold hcells at hv
  rcases List.mem_append.1 hv with h1 | h1
  ·obtain ⟨x, _, rfl⟩ := List.mem_map.1 h1; rfl
  ·rcases List.mem_append.1 h1 with h2 | h2
   ·obtain ⟨x, _, rfl⟩ := List.mem_map.1 h2; rfl
   ·rcases List.mem_append.1 h2 with h3 | h3
    ·obtain ⟨x, _, rfl⟩ := List.mem_map.1 h3; rfl
    ·have : v = .int .i64 (m.length : Int) := by simpa using h3
     rw [this]; rfl
 have ZH : Hid (zh.size = hc.size) := by rw [hzl, hcs]; exact rfl
 have RA : Hid (w1.rangeAt g 0 (hcells iv (wAt m (m.length / 64)) rest m.length)) := hs1.all
 have HF1 : Hid ((w1.alloc (.cells zh 109)).heap[w1.heap.size]? = some (.cells zh 109 (0, 0))) := heap_alloc_new w1 _
 have HS1 := hid hs1
 have HB1 := hid hB1
 have HRT := hid hrt
 have HMB := hid hmb
 have hsz1 : w.heap.size + 1 <= w1.heap.size := by have := hB1.size; omega
 obtain ⟨W2, hW2⟩ : ∃ W2, Hid ((w1.alloc (.cells zh 109)).setRow w1.heap.size hc = W2) := ⟨_, rfl⟩
 have HB12 : Hid (Below w1.heap.size w1 W2) := by
  rw [<- hW2.out]
  exact below_setRow ((Below.refl _ w1).alloc (Nat.le_refl _) _) (Nat.le_refl _) hc
 have HBK2 : Hid (W2.heap[w1.heap.size]? = some (.cells hc 109 (0, 0))) := by
  rw [<- hW2.out]
  exact setRow_heap _ _ _ _ _ _ HF1.out
 have hS2 : W2.heap.size = w1.heap.size + 1 := by rw [<- hW2.out]; simp [World.setRow]
 have HS2 : Hid (HSt W2 w1.heap.size (wAt m (m.length / 64)) rest m.length) := by
  have hb := HBK2.out
  rw [<- HC.out] at hb
  exact HSt.of_block hb hs1.w8 hs1.rl hs1.rb
 have HM2 : Hid (HM W2 w1.heap.size m) := ⟨rest, HS2.out, HRT.out, HMB.out⟩
 have c80 : W2.cell? ⟨g, 80, none⟩ = some (.int .i64 (n : Int)) := by rw [<- HN.out]; exact (hs1.below HB12.out).sz
 have HK2 := hid (((HK.out.below HB0.out).below hB1).below HB12.out)
 have HB02 := hid ((HB0.out.trans (hB1.mono (by omega))).trans (HB12.out.mono (by omega)))
 clear hs1 hB1 hrt hmb CM hcl hcs hzl
 go_wp2_with (first | (refine wpList_load_mid rfl 109 _ rfl g 0 rfl _ _ RA.out Tryd.underlying109 rfl SH.out ?_; rw [HC.out]) | (refine wpList_alloc_agg HZ1.out rfl rfl ?_) | (refine wpList_store_row rfl 109 _ _ rfl w1.heap.size hc rfl rfl 109 _ HF1.out SH2.out ZH.out OH.out ?_; rw [hW2.out]))
 refine (pad_ok W2 n (by rw [<- HN.out]; omega)).mono ?_
 rintro e w3 ⟨v3, rfl, ho3, hB3⟩
 have P3 := HB.of_own ho3 (padL_byt n)
 obtain ⟨p3, c3, e3, _, _⟩ := P3.open
 have hpl := padL_length n
 have hpz : padZ n < 64 := by unfold padZ; omega
 have CT := take_hash w3 w1.heap.size m v3 (padL n) (HM2.out.below hB3) P3 (fun _ _ _ _ _ e => by have := (ho3.lt _ e).1; omega) (HK2.out.below hB3) (by omega) (by have hl2 := hlen; rw [HN.out] at hl2 ⊢; omega)
 have HB03 := hid (HB02.out.trans (hB3.mono HB02.out.size))
 have hs3 := hB3.size
 obtain ⟨ql, hql⟩ : ∃ ql, ql = (padL n).length := ⟨_, rfl⟩
 rw [<- hql] at e3
 subst e3
 obtain ⟨P, HP⟩ : ∃ P, Hid (padL n = P) := ⟨_, rfl⟩
 rw [HP.out] at CT
 have CT2 := hid CT
 have HQ := hid hql
 have HB3 := hid hB3
 clear CT P3 ho3 hB3 c80 hpl hpz hql
 go_wp2_with fail
 refine CT2.out.mono ?_
 rintro e w4 ⟨rfl, hm4, hg4⟩
 rename_i K1 h1 K2 h2
 refine h2 _ _ (show K1 _ _ from h1 _ _ ?_)
 clear h1 h2 CT2
 obtain ⟨rest4, hs4, hrt4, hmb4⟩ := hm4
 obtain ⟨W, HW⟩ : ∃ W, Hid (wAt (m ++ P) ((m ++ P).length / 64) = W) := ⟨_, rfl⟩
 rw [HW.out] at hs4
 have hsz2 := HB12.out.size
 have HB04 : Below w.heap.size w w4 := HB03.out.grown hg4 (by omega) (fun k e => by cases e; omega)
 have HD : w4.heap[w.heap.size]? = some (.cells zd 34 (0, 0)) := by
  rw [hg4.block _ (by omega) (fun e => by have := Option.some.inj e; omega), HB3.out.block _ (by omega), HB12.out.block _ (by omega), HB1.out.block _ (by omega)]
  exact HR0.out
 have hlt4 := hs4.lt
 have hHo : Ev.Holds (envW W) ((Ev.ms0 ++ [w.heap.size]) ++ [w1.heap.size]) HSum w.heap.size w4 := by
  have h1 := (Ev.holds_any (envW W) w4 HB04.size).known (l := zero32) (zero32_inst _ _) (b0 := w.heap.size) (Nat.le_refl _) (by have := HB04.size; omega) (fun i b k _ hk hne => absurd (Ev.dead0 hk) hne) (fun j v hv => by
   refine ⟨?_, by simp [World.frozen?, HD]⟩
   rw [cell_of_row w4 w.heap.size j _ _ _ HD, <- HZD.out]
   simpa [cellsB, zeros32] using hv)
  refine h1.known (l := ivLit ++ wv8) (vs := wcells iv ++ wcells W) (by rw [List.map_append, List.map_append, ivLit_inst, wv8_inst hs4.w8]) (b0 := w1.heap.size) (by omega) hlt4 (fun i b k hi hk hne => ?_) (fun j v hv => ?_)
  ·by_cases h3 : i < Ev.H0.length
   ·rw [List.getElem?_append_left h3] at hk
    exact absurd (Ev.dead0 hk) hne
   ·have h4 : Ev.ms0.length = Ev.H0.length := (Ev.holds_any (envW W) w4 HB04.size).len
    rw [List.getElem?_append_right (by omega)] at hi
    have := List.mem_of_getElem? hi
    simp at this
    omega
  ·have hj : j < 16 := by
    have := (List.getElem?_eq_some_iff.1 hv).1
    simpa [wcells_length, hs4.w8.1, iv_W8.1] using this
   have hr := range_app hs4.bw (ys := wcells W) (by rw [wcells_length, iv_W8.1]; exact hs4.wv) j v hv
   rw [Nat.zero_add] at hr
   have ht := (hs4.th j (by omega)).2
   rw [Nat.zero_add] at ht
   exact ⟨hr, ht⟩
 refine Ev.part_ret (t := tSum) (ρ := envW W) mixedOrders sumTail_ev (Ev.RelT.two rfl (by decide) (u := .pointer (some ⟨w.heap.size, 0, none⟩)) rfl rfl (v := .pointer (some ⟨w1.heap.size, 0, none⟩)) rfl rfl hHo.gl) hHo rfl fun ms' u w' hu hb => ?_
 rw [dig_inst hs4.w8] at hu
 cases hu
 have hpd : padded m = m ++ P := by unfold padded; rw [HN.out, HP.out]
 refine ⟨by rw [hpd, HW.out], HB04.trans hb⟩
def digL (m : List Int) : List Int := (wAt (padded m) ((padded m).length / 64)).flatMap (bigL 4)
theorem digL_length (m : List Int) : (digL m).length = 32 := by
 obtain ⟨a, b, c, d, e, f, g, h, e1, _⟩ := (wAt_W8 (padded m) ((padded m).length / 64)).open
 unfold digL
 rw [e1]
 simp [bigL_length]
theorem HB.off {w : World} {u : Value} {l : List Int} {g : Nat} (h : HB w u l) (hg : w.heap.size <= g) : Off u g := by
 intro p n c e hn
 obtain ⟨p', c', e', _, _⟩ := h.open
 have hl : 0 < l.length := by rw [e] at e'; simp only [Value.slice.injEq] at e'; omega
 obtain ⟨b, off, c2, rfl, _, _, hh⟩ := h.ne hl
 have hlt : b < w.heap.size := World.block_lt_of_cell? w _ (hh 0 hl)
 intro e2
 have e3 : b = g := by simpa [Value.ownBlock] using e2
 omega
theorem flat_step (ps : List (List Int)) (k : Nat) (hk : k < ps.length) : (ps.take (k + 1)).flatten = (ps.take k).flatten ++ ps.getD k [] := by
 rw [List.take_succ_eq_append_getElem hk, List.flatten_append]
 simp [List.getD, List.getElem?_eq_getElem hk]
theorem flat_le (ps : List (List Int)) (k : Nat) : (ps.take k).flatten.length <= ps.flatten.length := by
 conv => rhs; rw [<- List.take_append_drop k ps, List.flatten_append, List.length_append]
 omega
theorem HM.nil {w : World} {g : Nat} (hb : w.heap[g]? = some (.cells (hashC iv iv (List.replicate 64 0) 0).toArray 109 (0, 0))) : HM w g [] := by
 refine ⟨List.replicate 64 0, HSt.of_block hb iv_W8 (by simp) (fun x hx => by have := (List.mem_replicate.1 hx).2; omega), rfl, fun x hx => by cases hx⟩
theorem sums_any (w : World) (v : Value) (ps : List (List Int)) (h : HL w v ps) (hk : KC w) (hlen : ps.flatten.length <= 576460752303423488) :
  Calls Tryd.prog 37 #[v] w fun e w' => e = .returned (.agg (cellsB (digL ps.flatten))) /\ Below w.heap.size w w' := by
 obtain ⟨zd, HZD⟩ : ∃ zd, Hid (cellsB zeros32 = zd) := ⟨_, rfl⟩
 obtain ⟨W0, hW0⟩ : ∃ W0, Hid (w.alloc (.cells zd 34) = W0) := ⟨_, rfl⟩
 have HB0 : Hid (Below w.heap.size w W0) := by rw [<- hW0.out]; exact (Below.refl _ w).alloc (Nat.le_refl _) _
 have HR0 : Hid (W0.heap[w.heap.size]? = some (.cells zd 34 (0, 0))) := by rw [<- hW0.out]; exact heap_alloc_new w _
 have hS0 : W0.heap.size = w.heap.size + 1 := by rw [<- hW0.out]; simp
 obtain ⟨p, c, ev, hlc, hcm⟩ := h.open
 unfold maxLen at hcm
 have A : Hid (0 < ps.length -> ∃ b off, p = some ⟨b, off, none⟩ /\ ∀ j, j < ps.length -> ∃ u, w.cell? ⟨b, off + j, none⟩ = some u /\ HB w u (ps.getD j [])) := by
  intro h0
  obtain ⟨b, off, c', e', _, _, hh⟩ := h.ne h0
  rw [ev] at e'
  simp only [Value.slice.injEq, true_and] at e'
  exact ⟨b, off, e'.1, hh⟩
 have hkb : 0 < w.heap.size := World.block_lt_of_cell? w _ (hk 0 (by decide))
 have HK := hid hk
 have h0b := World.block_lt_of_cell? w _ (hk 0 (by decide))
 obtain ⟨n, HN⟩ : ∃ n, Hid (ps.length = n) := ⟨_, rfl⟩
 rw [HN.out] at ev hlc
 have HLen := hid hlen
 subst ev
 clear h hk hlen
 go_enter Tryd.func37, Tryd.ntmps37
 go_wp2_with (refine wpList_alloc_digest rfl rfl ?_; rw [HZD.out, hW0.out])
 refine (new_any W0).mono ?_
 rintro e w1 ⟨g, rfl, hg1, hblk, hB1⟩
 have HM1 := hid (HM.nil hblk)
 have hgl := HM1.out.lt
 have HB1 := hid hB1
 clear hblk hB1
 go_wp2
 go_loopw [9] (fun i wr => ∃ k : Nat, k <= n /\ i = .int .i64 k /\ Hid (HM wr g (ps.take k).flatten) /\ Hid (Below g w1 wr)) (fun i _ => n - (intOf i).toNat)
 case atStart => exact ⟨0, Nat.zero_le _, rfl, HM1, Below.refl _ _⟩
 case round =>
  obtain ⟨k, hkn, rfl, HMk, HBk⟩ := hrel
  have HBW : Hid (Below w.heap.size w wr) := (HB0.out.trans (HB1.out.mono (by omega))).trans (HBk.out.mono (by omega))
  have HKr : Hid (KC wr) := HK.out.below HBW.out
  by_cases hlt : k < n
  ·obtain ⟨b, off, rfl, hh⟩ := A.out (by rw [HN.out]; omega)
   obtain ⟨u, hu, hbu⟩ := hh k (by rw [HN.out]; exact hlt)
   have hur := (HBW.out.cell (World.block_lt_of_cell? w _ hu)).trans hu
   obtain ⟨l, HL⟩ : ∃ l, Hid (ps.getD k [] = l) := ⟨_, rfl⟩
   rw [HL.out] at hbu
   have HS : Hid ((ps.take (k + 1)).flatten = (ps.take k).flatten ++ l) := by
    show _ = _
    rw [flat_step ps k (by rw [HN.out]; exact hlt), HL.out]
   have CT := hid (take_hash wr g _ u l HMk.out (hbu.below HBW.out) (hbu.off (by omega)) HKr.out (by omega) (by
    have h1 := flat_le ps (k + 1)
    rw [HS.out, List.length_append] at h1
    have := HLen.out
    omega))
   clear hh hu hbu
   go_wp2_with fail
   refine CT.out.mono ?_
   rintro e w2 ⟨rfl, hm2, hg2⟩
   have HM2 : Hid (HM w2 g (ps.take (k + 1)).flatten) := by rw [HS.out]; exact hm2
   have HB2 : Hid (Below g w1 w2) := HBk.out.grown hg2 (Nat.le_of_lt HMk.out.lt) (fun q e => by cases e; exact Nat.le_refl _)
   clear hm2 hg2 CT
   go_wp2
   exact ⟨⟨k + 1, by omega, by go_num, HM2, HB2⟩, by simp [intOf]; omega⟩
  ·have hkn2 : k = n := by omega
   have HF : Hid ((ps.take k).flatten = ps.flatten) := by
    show _ = _
    rw [hkn2, <- HN.out, List.take_length]
   have CS := hid (sum_any wr g _ HMk.out HKr.out (by rw [HF.out]; exact HLen.out))
   go_wp2_with fail
   refine CS.out.mono ?_
   rintro e w3 ⟨rfl, hB3⟩
   rw [HF.out]
   obtain ⟨dm, HD⟩ : ∃ dm, Hid (cellsB (digL ps.flatten) = dm) := ⟨_, rfl⟩
   have hds : dm.size = 32 := by rw [<- HD.out]; simp [cellsB, digL_length]
   have SD : Hid ((Tryd.prog.info? 34).map (·.size) = some dm.size) := by rw [hds]; exact size_digest
   have OD : Hid (dm.all (·.oneCell') = true) := by
    rw [<- HD.out]
    exact all_oneCell_toArray (fun v hv => by obtain ⟨x, _, rfl⟩ := List.mem_map.1 hv; rfl)
   have ZD : Hid (zd.size = dm.size) := by rw [hds, <- HZD.out]; rfl
   have hwg : w.heap.size < g := by omega
   have HR3 : Hid (w3.heap[w.heap.size]? = some (.cells zd 34 (0, 0))) := by
    show _ = _
    rw [hB3.block _ (by have := HBW.out.size; have := HMk.out.lt; omega), HBk.out.block _ hwg, HB1.out.block _ (by omega)]
    exact HR0.out
   have HB3 := hid (HBW.out.trans (hB3.mono HBW.out.size))
   have HBF := hid (below_setRow HB3.out (g := w.heap.size) (Nat.le_refl _) dm)
   have HE : Hid (List.flatMap (bigL 4) (wAt (padded ps.flatten) ((padded ps.flatten).length / 64)) = digL ps.flatten) := rfl
   rw [HE.out, HD.out]
   clear hB3 CS hds hlt
   go_wp2_with (refine wpList_store_row rfl 34 _ _ rfl w.heap.size dm rfl rfl 34 _ HR3.out SD.out ZD.out OD.out ?_)
   refine bodyPost_ret (v := .agg dm) (results_cell_row (p := 2) (ty := 34) rfl _ _ w.heap.size 34 dm (0, 0) _ rfl (setRow_heap _ _ _ _ _ _ HR3.out) Tryd.underlying34 rfl SD.out) rfl ?_
   exact ⟨by rw [HD.out], HBF.out⟩
end Go.Proofs.YtcpchhigiohlnaaDoor
