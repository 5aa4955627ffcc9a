/- Of the road to ctrCiphers_holds: EvPlan, EvRun, EvBytes, AesFun, AesChain, AesSched, AesAlg, EvTab, EvRows, AesNe. -/
import Derived.Test.YtmpdmkckjajhiaaG02
import Derived.Scope
import Derived.Test.YtmpdmkckjajhiaaG00
set_option linter.unusedVariables false
set_option linter.unusedSimpArgs false
namespace Go.Proofs.Ytmpdmkckjajhiaa.Ev
open Go Go.RowKit
def isLoad : Op → Bool
  | .load _ _ => true
  | _ => false
def pureOp (P : Program) : Op → Bool
  | .move _ | .assign _ | .pick _ _ _ | .load _ _ | .nilCheck _ | .binOp _ _ _ _ _ | .unOp _ _ _ | .sliceToArrayPointer _ _ | .slice _ _ _ _ _ | .fieldAddr _ _ _ | .field _ _ _ | .indexAddr _ _ _ | .index _ _ _ | .makeFunc _ _ _ | .extract _ _ | .build _ _ | .makeInterface _ _ => true
  | .convert _ d _ => match P.underlying d with | some (.int _) => true | _ => false
  | _ => false
theorem pureOp_carry {P : Program} {op : Op} (h : pureOp P op = true) : carry op = false := by
  cases op <;> first | rfl | (simp [pureOp] at h)
def loadAt (ops : Array Oper) (i : Nat) : Bool := match ops[i]? with | some o => isLoad o.op | none => false
def pickS (P : Program) (ops : Array Oper) (loads : Bool) (listed : Array Bool) : List Nat → Option Nat
  | [] => none
  | i :: r =>
    match ops[i]? with
    | some o => if pureOp P o.op && (loads || !isLoad o.op) && Region.free .any ops listed i then some i else pickS P ops loads listed r
    | none => pickS P ops loads listed r
theorem pickS_ok {P : Program} {ops : Array Oper} {loads : Bool} {listed : Array Bool} : ∀ (rd : List Nat) (i : Nat), pickS P ops loads listed rd = some i →
    i ∈ rd ∧ ∃ o, ops[i]? = some o ∧ carry o.op = false ∧ (loads = false → isLoad o.op = false) ∧ Region.free .any ops listed i = true
  | [], _, h => by simp [pickS] at h
  | j :: r, i, h => by
    have again : pickS P ops loads listed r = some i → i ∈ j :: r ∧ ∃ o, ops[i]? = some o ∧ carry o.op = false ∧ (loads = false → isLoad o.op = false) ∧ Region.free .any ops listed i = true := fun h' => by
      obtain ⟨h1, h2⟩ := pickS_ok r i h'
      exact ⟨List.mem_cons_of_mem _ h1, h2⟩
    simp only [pickS] at h
    split at h
    case h_2 => exact again h
    rename_i o ho
    split at h
    case isFalse => exact again h
    rename_i hc
    simp only [Option.some.injEq] at h
    subst h
    simp only [Bool.and_eq_true, Bool.or_eq_true, Bool.not_eq_true'] at hc
    exact ⟨List.mem_cons_self, o, ho, pureOp_carry hc.1.1, fun e => by subst e; simpa using hc.1.2, hc.2⟩
def planA (P : Program) (ops : Array Oper) : Nat → Array Bool → List Nat × Nat × Array Bool
  | 0, listed => ([], 0, listed)
  | f + 1, listed =>
    match pickS P ops true listed (Region.ready .any ops listed) with
    | some i => (i :: (planA P ops f (listed.setIfInBounds i true)).1, (planA P ops f (listed.setIfInBounds i true)).2)
    | none => ([], f + 1, listed)
def planB (P : Program) (ops : Array Oper) : Nat → Array Bool → Option (List (Nat × Bool))
  | 0, listed => match Region.ready .any ops listed with | [] => some [] | _ => none
  | f + 1, listed =>
    match Region.ready .any ops listed with
    | [] => some []
    | i0 :: rest =>
      match pickS P ops false listed (i0 :: rest) with
      | some i => (planB P ops f (listed.setIfInBounds i true)).map ((i, true) :: ·)
      | none => match rest with
        | [] => (planB P ops f (listed.setIfInBounds i0 true)).map ((i0, false) :: ·)
        | _ => none
def planOf (P : Program) (ops : Array Oper) : Option (List Nat × List Nat × List (Nat × Bool)) :=
  if Region.noSelect ops then
    match planA P ops ops.size (Array.replicate ops.size false) with
    | (A, f, l) => (planB P ops f l).map fun B => (A, A.filter (loadAt ops), B)
  else none
def spanOf (P : Program) (t : Tm) : Op → Option (Nat × Nat × Nat)
  | .load T x => (gPtr t x).map fun p => (p.1, p.2, loadLen P T)
  | _ => none
def addSpan (P : Program) (t : Tm) (op : Op) (L : List (Nat × Nat × Nat)) : List (Nat × Nat × Nat) := match spanOf P t op with | some s => s :: L | none => L
def runA (P : Program) (Lo : Lore) (ops : Array Oper) (H : List Blk) : List Nat → Tm → List (Nat × Nat × Nat) → Option (Tm × List (Nat × Nat × Nat))
  | [], t, L => some (t, L)
  | i :: r, t, L =>
    match ops[i]? with
    | some o =>
      match wantA ops t o with
      | some true =>
        match evRead P Lo t H o.op with
        | some v => runA P Lo ops H r (putA t o.dst v) (addSpan P t o.op L)
        | none => none
      | some false => runA P Lo ops H r (putA t o.dst (.tup [])) L
      | none => none
    | none => none
theorem runA_grows {P : Program} {Lo : Lore} {ops : Array Oper} {H : List Blk} : ∀ (A : List Nat) (t : Tm) (L : List (Nat × Nat × Nat)) (t' : Tm) (L' : List (Nat × Nat × Nat)), runA P Lo ops H A t L = some (t', L') → ∀ x ∈ L, x ∈ L'
  | [], t, L, t', L', h => by
    simp only [runA, Option.some.injEq, Prod.mk.injEq] at h
    obtain ⟨_, rfl⟩ := h
    exact fun _ h => h
  | i :: r, t, L, t', L', h => by
    simp only [runA] at h
    split at h
    case h_2 => cases h
    split at h
    · split at h
      · intro x hx
        refine runA_grows r _ _ _ _ h x ?_
        unfold addSpan
        split
        · exact List.mem_cons_of_mem _ hx
        · exact hx
      · cases h
    · exact runA_grows r _ _ _ _ h
    · cases h
def Saw (ρ : Env) (ms : List Nat) (H : List Blk) (L : List (Nat × Nat × Nat)) (w : World) : Prop := ∀ s ∈ L, SeesAt ρ ms H w s.1 s.2.1 s.2.2
section
variable {P : Program} {ρ : Env} {Lo : Lore} {ops : Array Oper} {Q : Exit → Act → World → Prop} {B : Nat}
theorem runA_ok (hLo : LoreOk ρ Lo) {ms : List Nat} {H : List Blk} (hsel : Region.noSelect ops = true) (hQ : ∀ c a w, ¬ Q (.panic c) a w) {N' : List Nat} {L' : List (Nat × Nat × Nat)} {w : World} (hSw : Saw ρ ms H L' w) :
    ∀ (f : Nat) (listed : Array Bool) (A : List Nat) (f' : Nat) (l' : Array Bool) (t t' : Tm) (L : List (Nat × Nat × Nat)) (a : Act), planA P ops f listed = (A, f', l') → (∀ i ∈ A, loadAt ops i = true → i ∈ N') → runA P Lo ops H A t L = some (t', L') → RelT ρ ms t a.tmps →
      (∀ a', RelT ρ ms t' a'.tmps → a'.defers = a.defers → wpN P ops Q (Saw ρ ms H L') (waits ops N') f' false l' a' w) →
      wpN P ops Q (Saw ρ ms H L') (waits ops N') f false listed a w
  | 0, listed, A, f', l', t, t', L, a, h, hN, hr, hT, hk => by
    simp only [planA, Prod.mk.injEq] at h
    obtain ⟨rfl, rfl, rfl⟩ := h
    simp only [runA, Option.some.injEq, Prod.mk.injEq] at hr
    obtain ⟨rfl, _⟩ := hr
    exact hk a hT rfl
  | f + 1, listed, A, f', l', t, t', L, a, h, hN, hr, hT, hk => by
    simp only [planA] at h
    split at h
    · rename_i i hp
      obtain ⟨p1, o, p2, p3, _, p4⟩ := pickS_ok _ _ hp
      generalize hq : planA P ops f (listed.setIfInBounds i true) = q at h
      obtain ⟨A1, f1, l1⟩ := q
      simp only [Prod.mk.injEq] at h
      obtain ⟨rfl, rfl, rfl⟩ := h
      simp only [runA, p2] at hr
      have fin : ∀ (x : AV) (L1 : List (Nat × Nat × Nat)), runA P Lo ops H A1 (putA t o.dst x) L1 = some (t', L') → ∀ u, x.inst ρ ms = some u →
          wpN P ops Q (Saw ρ ms H L') (waits ops N') f false (listed.setIfInBounds i true) (a.put o.dst u) w := fun x L1 h' u hu =>
        runA_ok hLo hsel hQ hSw f _ A1 f1 l1 _ _ _ _ hq (fun j hj => hN j (List.mem_cons_of_mem _ hj)) h' (hT.putA o.dst hu) (fun a' h1 h2 => hk a' h1 (h2.trans (put_defers _ _ _)))
      have go : ∀ (x : AV) (L1 : List (Nat × Nat × Nat)), ((wantA ops t o = some true ∧ evRead P Lo t H o.op = some x ∧ L1 = addSpan P t o.op L) ∨ (wantA ops t o = some false ∧ x = .tup [])) → runA P Lo ops H A1 (putA t o.dst x) L1 = some (t', L') → wpN P ops Q (Saw ρ ms H L') (waits ops N') (f + 1) false listed a w := by
        intro x L1 hx h'
        have hx2 : (wantA ops t o = some true ∧ evRead P Lo t H o.op = some x) ∨ (wantA ops t o = some false ∧ x = .tup []) := hx.imp (fun q => ⟨q.1, q.2.1⟩) id
        by_cases hld : isLoad o.op = true ∧ wantA ops t o = some true
        · have hin := hN i List.mem_cons_self (by unfold loadAt; rw [p2]; exact hld.1)
          have hL1 : L1 = addSpan P t o.op L := by
            rcases hx with q | q
            · exact q.2.2
            · rw [hld.2] at q; simp at q
          have hgr := runA_grows _ _ _ _ _ h'
          obtain ⟨u, e1, e2⟩ := pick_yields hLo (P := P) (ops := ops) (S := Saw ρ ms H L') hT hx2 hSw (fun w' hw' T y m c hop hg => by
            refine hw' (m, c, loadLen P T) (hgr _ ?_)
            rw [hL1]
            simp [addSpan, spanOf, hop, hg])
          exact wpN_take p2 hsel hQ (waits_carry p2 p3) f false listed a w (.inr ⟨rfl, rfl, fun j oj hj hw => waits_edge hj hw hin⟩) (Region.free_spec p2 p4) p1 e2 hSw (.inl hSw) (fin _ _ h' u e1)
        · obtain ⟨u, e1, e2⟩ : ∃ u, x.inst ρ ms = some u ∧ YieldsIf P ops (fun _ => True) o u a := by
            rcases hx2 with ⟨q1, q2⟩ | ⟨q1, q2⟩
            · refine pick_yields hLo (P := P) (ops := ops) (S := fun _ => True) (w := w) hT (.inl ⟨q1, q2⟩) trivial (fun w' _ T y m c hop hg => ?_)
              exact absurd ⟨by rw [hop]; rfl, q1⟩ hld
            · refine pick_yields hLo (P := P) (ops := ops) (S := fun _ => True) (w := w) hT (H := []) (.inr ⟨q1, q2⟩) trivial (fun w' _ T y m c hop hg b k hb hk => by simp at hk)
          exact wpN_take p2 hsel hQ (waits_carry p2 p3) f false listed a w (.inl fun _ => trivial) (Region.free_spec p2 p4) p1 e2 trivial (.inl hSw) (fin _ _ h' u e1)
      split at hr
      · rename_i hw
        split at hr
        · rename_i v hv
          exact go v _ (.inl ⟨hw, hv, rfl⟩) hr
        · cases hr
      · rename_i hw
        exact go _ _ (.inr ⟨hw, rfl⟩) hr
      · cases hr
    · simp only [Prod.mk.injEq] at h
      obtain ⟨rfl, rfl, rfl⟩ := h
      simp only [runA, Option.some.injEq, Prod.mk.injEq] at hr
      obtain ⟨rfl, _⟩ := hr
      exact hk a hT rfl
end
def cellsAt (H : List Blk) (s : Nat × Nat × Nat) : Option (List SV) := (H[s.1]?).map fun k => (k.cells.drop s.2.1).take s.2.2
def keeps (L : List (Nat × Nat × Nat)) (H0 H : List Blk) : Bool := L.all fun s => decide (cellsAt H s = cellsAt H0 s)
def runB (call : CallF) (P : Program) (Lo : Lore) (ops : Array Oper) (H0 : List Blk) (N : List Nat) (L : List (Nat × Nat × Nat)) : List (Nat × Bool) → Bool → Tm → List Blk → Option (Tm × List Blk)
  | [], _, t, H => some (t, H)
  | (i, true) :: r, late, t, H =>
    match ops[i]? with
    | some o =>
      match wantA ops t o with
      | some true => match evRead P Lo t [] o.op with | some v => runB call P Lo ops H0 N L r late (putA t o.dst v) H | none => none
      | some false => runB call P Lo ops H0 N L r late (putA t o.dst (.tup [])) H
      | none => none
    | none => none
  | (i, false) :: r, late, t, H =>
    match ops[i]? with
    | some o =>
      match wantA ops t o with
      | some true =>
        match evStep call P Lo t H o with
        | some (v, H') => if late || waits ops N i || keeps L H0 H' then runB call P Lo ops H0 N L r (late || waits ops N i) (putA t o.dst v) H' else none
        | none => none
      | some false => runB call P Lo ops H0 N L r (late || waits ops N i) (putA t o.dst (.tup [])) H
      | none => none
    | none => none
theorem runB_ok {P : Program} {ρ : Env} {Lo : Lore} (hLo : LoreOk ρ Lo) {call : CallF} (hc : CallOk P ρ call) {ops : Array Oper} {Q : Exit → Act → World → Prop} {B : Nat} {ms : List Nat} {H0 : List Blk} {w0 : World} (hH0 : Holds ρ ms H0 B w0) (hsel : Region.noSelect ops = true) (hQ : ∀ c a w, ¬ Q (.panic c) a w) {N : List Nat} {L : List (Nat × Nat × Nat)} {tF : Tm} {HF : List Blk} :
    ∀ (f : Nat) (listed : Array Bool) (bp : List (Nat × Bool)) (late : Bool) (t : Tm) (H : List Blk) (ms1 : List Nat) (a : Act) (w : World), planB P ops f listed = some bp → runB call P Lo ops H0 N L bp late t H = some (tF, HF) → RelT ρ ms1 t a.tmps → Holds ρ ms1 H B w → ms <+: ms1 →
      (Saw ρ ms H0 L w ∨ late = true) →
      (∀ ms2 a' w', ms1 <+: ms2 → RelT ρ ms2 tF a'.tmps → a'.defers = a.defers → Holds ρ ms2 HF B w' → Bel B w w' → Q .normal a' w') →
      wpN P ops Q (Saw ρ ms H0 L) (waits ops N) f late listed a w
  | 0, listed, bp, late, t, H, ms1, a, w, hp0, h, hT, hH, hp, hS, hk => by
    simp only [planB] at hp0
    split at hp0
    · rename_i hr
      simp only [Option.some.injEq] at hp0
      subst hp0
      simp only [runB, Option.some.injEq, Prod.mk.injEq] at h
      obtain ⟨rfl, rfl⟩ := h
      exact ⟨hr, hk ms1 a w (List.prefix_refl _) hT rfl hH (Bel.refl _ _)⟩
    · cases hp0
  | f + 1, listed, bp, late, t, H, ms1, a, w, hp0, h, hT, hH, hp, hS, hk => by
    simp only [planB] at hp0
    split at hp0
    · rename_i hr
      simp only [Option.some.injEq] at hp0
      subst hp0
      simp only [runB, Option.some.injEq, Prod.mk.injEq] at h
      obtain ⟨rfl, rfl⟩ := h
      exact ⟨fun _ => hk ms1 a w (List.prefix_refl _) hT rfl hH (Bel.refl _ _), fun i hi => by rw [hr] at hi; cases hi⟩
    · rename_i i0 rest hr
      split at hp0
      · rename_i i hpk
        obtain ⟨p1, o, p2, p3, p5, p4⟩ := pickS_ok _ _ hpk
        rw [Option.map_eq_some_iff] at hp0
        obtain ⟨bp1, hb1, rfl⟩ := hp0
        simp only [runB, p2] at h
        have go : ∀ x : AV, ((wantA ops t o = some true ∧ evRead P Lo t [] o.op = some x) ∨ (wantA ops t o = some false ∧ x = .tup [])) → runB call P Lo ops H0 N L bp1 late (putA t o.dst x) H = some (tF, HF) → wpN P ops Q (Saw ρ ms H0 L) (waits ops N) (f + 1) late listed a w := by
          intro x hx h'
          obtain ⟨u, e1, e2⟩ := pick_yields hLo (P := P) (ops := ops) (S := fun _ => True) (w := w) hT hx trivial (fun w' _ T y m c hop hg b k hb hk => by simp at hk)
          refine wpN_take p2 hsel hQ (waits_carry p2 p3) f late listed a w (.inl fun _ => trivial) (Region.free_spec p2 p4) (by rw [hr]; exact p1) e2 trivial hS ?_
          exact runB_ok hLo hc hH0 hsel hQ f _ bp1 late _ H ms1 _ w hb1 h' (hT.putA o.dst e1) hH hp hS (fun ms2 a' w' q1 q2 q3 q4 q5 => hk ms2 a' w' q1 q2 (q3.trans (put_defers _ _ _)) q4 q5)
        split at h
        · rename_i hw
          split at h
          · rename_i v hv
            exact go v (.inl ⟨hw, hv⟩) h
          · cases h
        · rename_i hw
          exact go _ (.inr ⟨hw, rfl⟩) h
        · cases h
      · split at hp0
        case h_2 => cases hp0
        rw [Option.map_eq_some_iff] at hp0
        obtain ⟨bp1, hb1, rfl⟩ := hp0
        simp only [runB] at h
        split at h
        case h_2 => cases h
        rename_i o ho
        refine ⟨fun h0 => (by rw [hr] at h0; cases h0), fun i hi => ?_⟩
        rw [hr] at hi
        obtain rfl : i = i0 := by simpa using hi
        refine wpOp_step ho fun K hK => ?_
        split at h
        · rename_i hw
          have hw2 := wantA_ok hT hw
          rw [hw2, if_pos rfl]
          split at h
          case h_2 => cases h
          rename_i v H1 hs
          split at h
          case isFalse => cases h
          rename_i hcond
          refine evStep_ok hLo hc hT hH hs fun ms2 u w2 p1 p2 p3 p4 => hK _ _ ?_
          have hS2 : Saw ρ ms H0 L w2 ∨ (late || waits ops N i) = true := by
            rw [Bool.or_eq_true] at hcond
            rcases hcond with hcond | hcond
            · exact .inr hcond
            · refine .inl fun s hs' b k hb hk' j sv h1 h2 hsv => ?_
              have e1 : cellsAt H1 s = cellsAt H0 s := by
                have := List.all_eq_true.1 hcond s hs'
                simpa using this
              simp only [cellsAt, hk', Option.map_some, Option.map_eq_some_iff] at e1
              obtain ⟨k1, hk1, e2⟩ := e1
              have hc1 : k1.cells[j]? = some sv := by
                have e3 : ((k1.cells.drop s.2.1).take s.2.2)[j - s.2.1]? = ((k.cells.drop s.2.1).take s.2.2)[j - s.2.1]? := by rw [e2]
                rw [List.getElem?_take, List.getElem?_take, if_pos (by omega), if_pos (by omega), List.getElem?_drop, List.getElem?_drop, show s.2.1 + (j - s.2.1) = j by omega, hsv] at e3
                exact e3
              obtain ⟨v0, q1, _, _⟩ := hH0.cell s.1 b k hb hk' j sv hsv
              obtain ⟨v1, r1, r2, r3⟩ := p3.cell s.1 b k1 (pre_get (hp.trans p1) hb) hk1 j sv hc1
              have := sv.inst_mono (hp.trans p1) v0 q1
              rw [r1] at this
              cases this
              exact ⟨_, q1, r2⟩
          refine ⟨hS2, ?_⟩
          exact runB_ok hLo hc hH0 hsel hQ f _ bp1 _ _ H1 ms2 _ w2 hb1 h ((hT.mono p1).putA o.dst p2) p3 (hp.trans p1) hS2 (fun ms3 a' w' q1 q2 q3 q4 q5 => hk ms3 a' w' (p1.trans q1) q2 (q3.trans (put_defers _ _ _)) q4 (p4.trans q5))
        · rename_i hw
          have hw2 := wantA_ok hT hw
          rw [hw2, if_neg (by decide)]
          refine hK _ _ ?_
          have hS2 : Saw ρ ms H0 L w ∨ (late || waits ops N i) = true := hS.imp id (fun e => by rw [e]; rfl)
          refine ⟨hS2, ?_⟩
          exact runB_ok hLo hc hH0 hsel hQ f _ bp1 _ _ H ms1 _ w hb1 h (hT.putA o.dst (v := undef) rfl) hH hp hS2 (fun ms3 a' w' q1 q2 q3 q4 q5 => hk ms3 a' w' q1 q2 (q3.trans (put_defers _ _ _)) q4 q5)
        · cases h
def evPlan (call : CallF) (P : Program) (Lo : Lore) (ops : Array Oper) (t : Tm) (H : List Blk) : Option (Tm × List Blk) :=
  match planOf P ops with
  | some (A, N, bp) =>
    match runA P Lo ops H A t [] with
    | some (t', L) => runB call P Lo ops H N L bp false t' H
    | none => none
  | none => evDraw call P Lo ops t H
theorem evPlan_any {P : Program} {ρ : Env} {Lo : Lore} (hLo : LoreOk ρ Lo) {call : CallF} (hc : CallOk P ρ call) {ops : Array Oper} {Q : Exit → Act → World → Prop} {B : Nat} {ms : List Nat} {t t' : Tm} {H H' : List Blk} {a : Act} {w : World}
    (hT : RelT ρ ms t a.tmps) (hH : Holds ρ ms H B w) (h : evPlan call P Lo ops t H = some (t', H'))
    (hQ : ∀ ms' a' w', ms <+: ms' → RelT ρ ms' t' a'.tmps → a'.defers = a.defers → Holds ρ ms' H' B w' → Bel B w w' → Q .normal a' w') : wpAny P .any ops (fun e a w => e = .normal ∧ Q .normal a w) ops.size (Array.replicate ops.size false) a { w with drawn := w.drawn + 1 } := by
  unfold evPlan at h
  split at h
  case h_2 => exact evDraw_any hLo hc hT hH h hQ
  rename_i A N bp hplan
  split at h
  case h_2 => cases h
  rename_i t1 L hA
  unfold planOf at hplan
  split at hplan
  case isFalse => cases hplan
  rename_i hsel
  generalize hq : planA P ops ops.size (Array.replicate ops.size false) = q at hplan
  obtain ⟨A1, f, l⟩ := q
  simp only [Option.map_eq_some_iff] at hplan
  obtain ⟨bp1, hb1, hb2⟩ := hplan
  simp only [Prod.mk.injEq] at hb2
  obtain ⟨rfl, rfl, rfl⟩ := hb2
  have hH1 := hH.drawn (w.drawn + 1)
  have hsaw : Saw ρ ms H L { w with drawn := w.drawn + 1 } := fun s _ => (hH1.sees s.1).at _ _
  refine (wpAny_of_N (S := Saw ρ ms H L) (W := waits ops (A1.filter (loadAt ops))) _ false _ _ _ ?_)
  refine runA_ok hLo hsel (fun c a w q => by cases q.1) hsaw _ _ A1 f l t t1 [] a hq (fun i hi hl => List.mem_filter.2 ⟨hi, hl⟩) hA hT fun a1 q1 q2 => ?_
  refine runB_ok hLo hc hH1 hsel (fun c a w q => by cases q.1) f l bp1 false t1 H ms a1 _ hb1 h q1 hH1 (List.prefix_refl _) (.inl hsaw) fun ms2 a' w' r1 r2 r3 r4 r5 => ⟨rfl, ?_⟩
  exact hQ ms2 a' w' r1 r2 (r3.trans q2) r4 ((Bel.drawn B w (w.drawn + 1)).trans r5)
theorem evPlan_ok {P : Program} {ρ : Env} {Lo : Lore} (hLo : LoreOk ρ Lo) {call : CallF} (hc : CallOk P ρ call) (hm : P.follows .mixedOrders = true) {ops : Array Oper} {Q : Exit → Act → World → Prop} {B : Nat} {ms : List Nat} {t t' : Tm} {H H' : List Blk} {a : Act} {w : World} (id : Nat)
    (hT : RelT ρ ms t a.tmps) (hH : Holds ρ ms H B w) (h : evPlan call P Lo ops t H = some (t', H'))
    (hQ : ∀ ms' a' w', ms <+: ms' → RelT ρ ms' t' a'.tmps → a'.defers = a.defers → Holds ρ ms' H' B w' → Bel B w w' → Q .normal a' w') : (Code.region id ops true).wp P Q a w :=
  Code.wp_mono (Q := fun e a w => e = .normal ∧ Q .normal a w) (fun e a w q => by rw [q.1]; exact q.2) (wp_region_any hm (evPlan_any hLo hc hT hH h hQ))
end Go.Proofs.Ytmpdmkckjajhiaa.Ev
namespace Go.Proofs.Ytmpdmkckjajhiaa.Ev
open Go Go.RowKit
inductive Out where
  | normal
  | exit (id : Nat)
  | ret
  deriving DecidableEq, Repr, Inhabited
def Out.to : Out → Exit
  | .normal => .normal
  | .exit i => .exit i
  | .ret => .ret
abbrev CodeF := Code → Tm → List Blk → Option (Out × Tm × List Blk)
abbrev ConF := Nat → List AV → List Blk → Option AV
def callStep (P : Program) (con : ConF) (self : CodeF) : CallF := fun g aas H =>
  match con g aas H with
  | some v => some (v, H)
  | none =>
    match P.funcs[g]? with
    | some fn =>
      match fn.body with
      | some c =>
        match Nat.ble fn.ntmps 512 && Nat.ble aas.length fn.ntmps with
        | true =>
          match self c (Tm.make fn.ntmps aas) H with
          | some (.normal, t, H') => (evResults P fn t H').map fun v => (v, trim H.length v H')
          | some (.ret, t, H') => (evResults P fn t H').map fun v => (v, trim H.length v H')
          | _ => none
        | false => none
      | none => none
    | none => none
def codeStep (P : Program) (L : Lore) (call : CallF) (self : CodeF) : CodeF := fun c t H =>
  match c with
  | .skip => some (.normal, t, H)
  | .region _ ops false => (evOps call P L ops ops.toList t H).map fun r => (.normal, r.1, r.2)
  | .region _ ops true => (evPlan call P L ops t H).map fun r => (.normal, r.1, r.2)
  | .seq a b =>
    match self a t H with
    | some (.normal, t', H') => self b t' H'
    | r => r
  | .cond c x y =>
    match evGet t c with
    | some (.tv (.sc (.bool true))) => self x t H
    | some (.tv (.sc (.bool false))) => self y t H
    | _ => none
  | .block id c =>
    match self c t H with
    | some (.exit i, t', H') => if i = id then some (.normal, t', H') else some (.exit i, t', H')
    | r => r
  | .loop c =>
    match self c t H with
    | some (.normal, t', H') => self (.loop c) t' H'
    | r => r
  | .exit id => some (.exit id, t, H)
  | .ret => some (.ret, t, H)
  | .label _ => some (.normal, t, H)
  | .scope c => self c t H
  | _ => none
def evG (P : Program) (L : Lore) (mk : CodeF → CallF) : Nat → CodeF
  | 0 => fun _ _ _ => none
  | n + 1 => codeStep P L (mk (evG P L mk n)) (evG P L mk n)
def evC (P : Program) (L : Lore) (con : ConF) : Nat → CodeF := evG P L (callStep P con)
def evCall (P : Program) (L : Lore) (con : ConF) (n : Nat) : CallF := callStep P con (evC P L con n)
def ConOk (P : Program) (ρ : Env) (con : ConF) : Prop :=
  ∀ g aas H v, con g aas H = some v → ∀ (ms : List Nat) (B : Nat) (w : World) (args : Array Value), aas.map (AV.inst ρ ms) = args.toList.map some → Holds ρ ms H B w →
    Calls P g args w fun e w' => ∃ u, e = .returned u ∧ v.inst ρ ms = some u ∧ Below w.heap.size w w'
def CodeOk (P : Program) (ρ : Env) (self : CodeF) : Prop :=
  ∀ c t H o t' H', self c t H = some (o, t', H') → ∀ (ms : List Nat) (B : Nat) (a : Act) (w : World) (Q : Exit → Act → World → Prop), RelT ρ ms t a.tmps → Holds ρ ms H B w →
    (∀ ms' a' w', ms <+: ms' → RelT ρ ms' t' a'.tmps → a'.defers = a.defers → Holds ρ ms' H' B w' → Bel B w w' → Q o.to a' w') → c.wp P Q a w
theorem Holds.below {ρ : Env} {ms : List Nat} {H : List Blk} {B : Nat} {w w' : World} (h : Holds ρ ms H B w) (hb : Below w.heap.size w w') : Holds ρ ms H B w' where
  len := h.len
  gl := h.gl
  inj := h.inj
  low := h.low
  bnd := fun i b k hi hk hne => Nat.lt_of_lt_of_le (h.bnd i b k hi hk hne) hb.size
  big := Nat.le_trans h.big hb.size
  plain := h.plain
  cell := fun i b k hi hk j s hs => by
    obtain ⟨v, h1, h2, h3⟩ := h.cell i b k hi hk j s hs
    have := hb.block b (h.bnd i b k hi hk (mem_nil_of_get hs))
    refine ⟨v, h1, ?_, fun hr => ?_⟩
    · rw [← h2]; unfold World.cell?; rw [this]
    · rw [← h3 hr]; unfold World.frozen?; rw [this]
  room := fun i b c k0 k hi hc hk0 hr0 hn0 hk hcap j hj => by
    obtain ⟨e1, e2⟩ := h.room i b c k0 k hi hc hk0 hr0 hn0 hk hcap j hj
    have hlt : b < w.heap.size := by
      cases hx : w.cell? ⟨b, j, none⟩ with
      | none => rw [hx] at e1; simp at e1
      | some x => exact World.block_lt_of_cell? w _ hx
    have := hb.block b hlt
    refine ⟨?_, ?_⟩
    · rw [← e1]; unfold World.cell?; rw [this]
    · rw [← e2]; unfold World.frozen?; rw [this]
theorem callStep_ok {P : Program} {ρ : Env} {con : ConF} {self : CodeF} (hcon : ConOk P ρ con) (hs : CodeOk P ρ self) : CallOk P ρ (callStep P con self) := by
  intro g aas H v H' h ms B w args hargs hH
  unfold callStep at h
  split at h
  · rename_i v' hc
    simp only [Option.some.injEq, Prod.mk.injEq] at h
    obtain ⟨rfl, rfl⟩ := h
    refine (hcon g aas H v' hc ms B w args hargs hH).mono ?_
    rintro e w' ⟨u, rfl, h1, h2⟩
    exact ⟨ms, u, rfl, List.prefix_refl _, h1, hH.below h2, (Bel.all h2).mono hH.big⟩
  · split at h
    case h_2 => cases h
    rename_i fn hfn
    split at h
    case h_2 => cases h
    rename_i c hb
    split at h
    case h_2 => cases h
    rename_i hbd
    rw [Bool.and_eq_true] at hbd
    have hT : RelT ρ ms (Tm.make fn.ntmps aas) (args ++ Array.replicate (fn.ntmps - args.size) undef) := RelT.make hargs (Nat.le_of_ble_eq_true hbd.1) (Nat.le_of_ble_eq_true hbd.2) hH.gl
    have fin : ∀ (o : Out) t H1, (o = .normal ∨ o = .ret) → self c (Tm.make fn.ntmps aas) H = some (o, t, H1) → (evResults P fn t H1).map (fun v => (v, trim H.length v H1)) = some (v, H') →
        Calls P g args w fun e w' => ∃ ms' u, e = .returned u ∧ ms <+: ms' ∧ v.inst ρ ms' = some u ∧ Holds ρ ms' H' B w' ∧ Bel B w w' := by
      intro o t H1 ho hrun hres
      rw [Option.map_eq_some_iff] at hres
      obtain ⟨v', hr, hv⟩ := hres
      simp only [Prod.mk.injEq] at hv
      obtain ⟨rfl, rfl⟩ := hv
      refine calls_of_wp hfn hb ?_
      refine hs c _ H o t H1 hrun ms B _ w _ hT hH fun ms' a' w' q1 q2 q3 q4 q5 => ?_
      obtain ⟨u, e1, e2⟩ := evResults_ok q2 q4 hr
      obtain ⟨ms2, r1, r2, r3⟩ := trim_ok q1 hH.gl hH.len e1 q4
      have : a'.defers = [] ∧ ∃ v, (results fn a'.tmps).run P w' = .ok v w' ∧ ∃ ms' u, (Ending.returned v) = .returned u ∧ ms <+: ms' ∧ v'.inst ρ ms' = some u ∧ Holds ρ ms' (trim H.length v' H1) B w' ∧ Bel B w w' :=
        ⟨q3, u, e2, ms2, u, rfl, r1, r2, r3, q5⟩
      rcases ho with rfl | rfl
      · exact this
      · exact this
    split at h
    · rename_i t H1 hr
      exact fin .normal t H1 (.inl rfl) hr h
    · rename_i t H1 hr
      exact fin .ret t H1 (.inr rfl) hr h
    · cases h
theorem has_least {p : Nat → Prop} (h : ∃ k, p k) : ∃ k, p k ∧ ∀ j, p j → k ≤ j := by
  obtain ⟨k, hk⟩ := h
  induction k using Nat.strongRecOn with
  | _ k ih =>
    by_cases hj : ∃ j, j < k ∧ p j
    · obtain ⟨j, h1, h2⟩ := hj
      exact ih j h1 h2
    · exact ⟨k, hk, fun j h => Nat.le_of_not_lt fun h1 => hj ⟨j, h1, h⟩⟩
theorem evG_ok {P : Program} {ρ : Env} {L : Lore} (hL : LoreOk ρ L) {mk : CodeF → CallF} (hmk : ∀ self, CodeOk P ρ self → CallOk P ρ (mk self)) (hm : P.follows .mixedOrders = true) : ∀ n, CodeOk P ρ (evG P L mk n) := by
  intro n
  induction n using Nat.strongRecOn with
  | _ n ih =>
    cases n with
    | zero => intro c t H o t' H' h; simp [evG] at h
    | succ n =>
      have ihn := ih n (by omega)
      have hcall : CallOk P ρ (mk (evG P L mk n)) := hmk _ ihn
      intro c t H o t' H' h ms B a w Q hT hH hQ
      rw [evG] at h
      unfold codeStep at h
      split at h
      · -- skip
        simp only [Option.some.injEq, Prod.mk.injEq] at h
        obtain ⟨rfl, rfl, rfl⟩ := h
        exact wp_skip (hQ ms a w (List.prefix_refl _) hT rfl hH (Bel.refl _ _))
      · -- a region
        rw [Option.map_eq_some_iff] at h
        obtain ⟨r, h1, h2⟩ := h
        simp only [Prod.mk.injEq] at h2
        obtain ⟨rfl, rfl, rfl⟩ := h2
        exact wp_region_list (evOps_ok hL hcall _ ms t H a w r.1 r.2 hT hH h1 fun ms' a' w' q1 q2 q3 q4 q5 => hQ ms' a' w' q1 q2 q3 q4 q5)
      · -- a region whose order is open
        rw [Option.map_eq_some_iff] at h
        obtain ⟨r, h1, h2⟩ := h
        simp only [Prod.mk.injEq] at h2
        obtain ⟨rfl, rfl, rfl⟩ := h2
        exact evPlan_ok hL hcall hm _ hT hH h1 fun ms' a' w' q1 q2 q3 q4 q5 => hQ ms' a' w' q1 q2 q3 q4 q5
      · -- one behind the other
        rename_i x y
        split at h
        · rename_i t1 H1 h1
          refine wp_seq (ihn x t H .normal t1 H1 h1 ms B a w _ hT hH fun ms1 a1 w1 q1 q2 q3 q4 q5 => ?_)
          exact ihn y t1 H1 o t' H' h ms1 B a1 w1 Q q2 q4 fun ms2 a2 w2 r1 r2 r3 r4 r5 => hQ ms2 a2 w2 (q1.trans r1) r2 (r3.trans q3) r4 (q5.trans r5)
        · rename_i hne
          have hno : o ≠ .normal := fun e => by subst e; exact hne t' H' h
          refine wp_seq (ihn x t H o t' H' h ms B a w _ hT hH fun ms1 a1 w1 q1 q2 q3 q4 q5 => ?_)
          have := hQ ms1 a1 w1 q1 q2 q3 q4 q5
          cases o with
          | normal => exact absurd rfl hno
          | exit i => exact this
          | ret => exact this
      · -- a choice
        rename_i cc x y
        split at h
        · rename_i hc
          have e := evGet_ok hT hc
          simp only [AV.inst, TV.inst, SV.inst, Option.some.injEq] at e
          exact wp_cond_true e.symm (ihn x t H o t' H' h ms B a w Q hT hH hQ)
        · rename_i hc
          have e := evGet_ok hT hc
          simp only [AV.inst, TV.inst, SV.inst, Option.some.injEq] at e
          exact wp_cond_false e.symm (ihn y t H o t' H' h ms B a w Q hT hH hQ)
        · cases h
      · -- a block
        rename_i id x
        split at h
        · rename_i i t1 H1 h1
          refine wp_block (ihn x t H (.exit i) t1 H1 h1 ms B a w _ hT hH fun ms1 a1 w1 q1 q2 q3 q4 q5 => ?_)
          simp only [Out.to, Exit.inBlock]
          split at h
          · rename_i e
            rw [if_pos e]
            simp only [Option.some.injEq, Prod.mk.injEq] at h
            obtain ⟨rfl, rfl, rfl⟩ := h
            exact hQ ms1 a1 w1 q1 q2 q3 q4 q5
          · rename_i e
            rw [if_neg e]
            simp only [Option.some.injEq, Prod.mk.injEq] at h
            obtain ⟨rfl, rfl, rfl⟩ := h
            exact hQ ms1 a1 w1 q1 q2 q3 q4 q5
        · rename_i hne
          refine wp_block (ihn x t H o t' H' h ms B a w _ hT hH fun ms1 a1 w1 q1 q2 q3 q4 q5 => ?_)
          have := hQ ms1 a1 w1 q1 q2 q3 q4 q5
          cases o with
          | normal => exact this
          | exit i => exact absurd h (hne i t' H')
          | ret => exact this
      · -- a loop
        rename_i x
        have start : evG P L mk (n + 1) (.loop x) t H = some (o, t', H') := by rw [evG]; exact h
        let R : Nat → Act → World → Prop := fun k a1 w1 => k ≤ n + 1 ∧ ∃ ms1 t1 H1, evG P L mk k (.loop x) t1 H1 = some (o, t', H') ∧ ms <+: ms1 ∧ RelT ρ ms1 t1 a1.tmps ∧ a1.defers = a.defers ∧ Holds ρ ms1 H1 B w1 ∧ Bel B w w1
        classical
        refine wp_loop (fun a1 w1 => ∃ k, R k a1 w1) (fun a1 w1 => if hx : ∃ k, R k a1 w1 then Classical.choose (has_least hx) else 0) ⟨n + 1, Nat.le_refl _, ms, t, H, start, List.prefix_refl _, hT, rfl, hH, Bel.refl _ _⟩ ?_
        intro a1 w1 hI
        have hmin := (Classical.choose_spec (has_least hI)).1
        have hall := (Classical.choose_spec (has_least hI)).2
        generalize hk : Classical.choose (has_least hI) = k at hmin hall
        obtain ⟨hle, ms1, t1, H1, hev, p1, p2, p3, p4, p5⟩ := hmin
        cases k with
        | zero => simp [evG] at hev
        | succ k =>
          have ihk := ih k (by omega)
          rw [evG] at hev
          simp only [codeStep] at hev
          split at hev
          · rename_i t2 H2 h2
            refine ihk x t1 H1 .normal t2 H2 h2 ms1 B a1 w1 _ p2 p4 fun ms2 a2 w2 q1 q2 q3 q4 q5 => ?_
            have hR : R k a2 w2 := ⟨by omega, ms2, t2, H2, hev, p1.trans q1, q2, q3.trans p3, q4, p5.trans q5⟩
            have hE : ∃ j, R j a2 w2 := ⟨k, hR⟩
            refine ⟨hE, ?_⟩
            rw [dif_pos hE, dif_pos hI, hk]
            exact Nat.lt_succ_of_le ((Classical.choose_spec (has_least hE)).2 k hR)
          · rename_i hne
            refine ihk x t1 H1 o t' H' hev ms1 B a1 w1 _ p2 p4 fun ms2 a2 w2 q1 q2 q3 q4 q5 => ?_
            have := hQ ms2 a2 w2 (p1.trans q1) q2 (q3.trans p3) q4 (p5.trans q5)
            cases o with
            | normal => exact absurd hev (hne t' H')
            | exit i => exact this
            | ret => exact this
      · simp only [Option.some.injEq, Prod.mk.injEq] at h
        obtain ⟨rfl, rfl, rfl⟩ := h
        exact wp_exit (hQ ms a w (List.prefix_refl _) hT rfl hH (Bel.refl _ _))
      · simp only [Option.some.injEq, Prod.mk.injEq] at h
        obtain ⟨rfl, rfl, rfl⟩ := h
        exact wp_ret (hQ ms a w (List.prefix_refl _) hT rfl hH (Bel.refl _ _))
      · simp only [Option.some.injEq, Prod.mk.injEq] at h
        obtain ⟨rfl, rfl, rfl⟩ := h
        exact wp_label (hQ ms a w (List.prefix_refl _) hT rfl hH (Bel.refl _ _))
      · refine wp_scope_straight (ihn _ t H o t' H' h ms B a w _ hT hH fun ms2 a2 w2 q1 q2 q3 q4 q5 => ?_)
        have := hQ ms2 a2 w2 q1 q2 q3 q4 q5
        cases o <;> exact this
      · cases h
theorem evC_ok {P : Program} {ρ : Env} {L : Lore} (hL : LoreOk ρ L) {con : ConF} (hcon : ConOk P ρ con) (hm : P.follows .mixedOrders = true) : ∀ n, CodeOk P ρ (evC P L con n) := evG_ok hL (fun _ hs => callStep_ok hcon hs) hm
theorem evCall_ok {P : Program} {ρ : Env} {L : Lore} (hL : LoreOk ρ L) {con : ConF} (hcon : ConOk P ρ con) (hm : P.follows .mixedOrders = true) (n : Nat) : CallOk P ρ (evCall P L con n) := callStep_ok hcon (evC_ok hL hcon hm n)
def noLore : Lore := ⟨fun _ _ _ => none, id, fun _ _ => none⟩
theorem noLore_ok (ρ : Env) : LoreOk ρ noLore := ⟨fun _ _ _ _ h => by simp [noLore] at h, fun _ => rfl, fun _ _ _ h => by simp [noLore] at h⟩
def noCon : ConF := fun _ _ _ => none
theorem noCon_ok (P : Program) (ρ : Env) : ConOk P ρ noCon := fun _ _ _ _ h => by simp [noCon] at h
def ms0 : List Nat := List.range nGl
def H0 : List Blk := List.replicate nGl dead
theorem gl0 : Gl ms0 := fun g hg => by simp [ms0, hg]
theorem holds_nil (ρ : Env) (w : World) : Holds ρ ms0 H0 w.heap.size w := by
  have hd : ∀ (i : Nat) (k : Blk), H0[i]? = some k → k = dead := fun i k hk => by
    have := List.mem_of_getElem? hk
    unfold H0 at this
    exact (List.mem_replicate.1 this).2
  refine ⟨by simp [ms0, H0], gl0, ?_, ?_, ?_, Nat.le_refl _, ?_, ?_, ?_⟩
  · intro i j b k k' _ _ hk _ hne; exact absurd (by rw [hd i k hk]; rfl) hne
  · intro i b k _ hk hr; rw [hd i k hk] at hr; simp [dead] at hr
  · intro i b k _ hk hne; exact absurd (by rw [hd i k hk]; rfl) hne
  · intro i k hk _; rw [hd i k hk]; rfl
  · intro i b k _ hk j s hs; rw [hd i k hk] at hs; simp [dead] at hs
  · intro i b c k0 k _ _ _ _ _ hk hcap; rw [hd _ k hk] at hcap; simp [dead] at hcap
theorem calls_of_evH {P : Program} {ρ : Env} {L : Lore} (hL : LoreOk ρ L) {con : ConF} (hcon : ConOk P ρ con) (hm : P.follows .mixedOrders = true) (n : Nat) {g : Nat} {aas : List AV} {v : AV} {ms : List Nat} {H H' : List Blk} (h : evCall P L con n g aas H = some (v, H')) {args : Array Value} (w : World) (ha : aas.map (AV.inst ρ ms) = args.toList.map some) (hH : Holds ρ ms H w.heap.size w) :
    Calls P g args w fun e w' => ∃ ms' u, e = .returned u ∧ ms <+: ms' ∧ v.inst ρ ms' = some u ∧ Holds ρ ms' H' w.heap.size w' ∧ Below w.heap.size w w' :=
  (evCall_ok hL hcon hm n g aas H v H' h ms w.heap.size w args ha hH).mono fun _ _ ⟨ms', u, h1, h2, h3, h4, h5⟩ => ⟨ms', u, h1, h2, h3, h4, h5.toBelow⟩
theorem calls_of_ev {P : Program} {ρ : Env} {L : Lore} (hL : LoreOk ρ L) {con : ConF} (hcon : ConOk P ρ con) (hm : P.follows .mixedOrders = true) (n : Nat) {g : Nat} {aas : List AV} {v : AV} {H' : List Blk} (h : evCall P L con n g aas [] = some (v, H')) {args : Array Value} (w : World) (ha : aas.map (AV.inst ρ []) = args.toList.map some) :
    Calls P g args w fun e w' => ∃ ms u, e = .returned u ∧ v.inst ρ ms = some u ∧ Holds ρ ms H' w.heap.size w' ∧ Below w.heap.size w w' :=
  (calls_of_evH (ms := ms0) (H := H0) hL hcon hm n h w ha (holds_nil ρ w)).mono fun _ _ ⟨ms, u, h1, _, h2, h3, h4⟩ => ⟨ms, u, h1, h2, h3, h4⟩
end Go.Proofs.Ytmpdmkckjajhiaa.Ev
namespace Go.Proofs.Ytmpdmkckjajhiaa
open Go Go.RowKit Ev
def nfn (f a b : Nat) : Nat :=
  match f with
  | 0 => prod a b
  | 1 => sub a
  | 2 => unsub a
  | _ => inv a
theorem nfn_lt (f a b : Nat) (ha : a < 256) : nfn f a b < 256 := by
  unfold nfn
  split
  · exact prod_lt b ha
  · exact sub_lt a
  · exact unsub_lt a
  · exact inv_lt a
def envB (s : Nat → Nat) : Env := ⟨fun i => ((s i : Nat) : Int), fun _ => .tuple #[], fun f a b => ((nfn f a.toNat b.toNat : Nat) : Int)⟩
def nden (s : Nat → Nat) : Ex → Nat
  | .lit n => n.toNat
  | .var i => s i
  | .bit .xor _ a b => nden s a ^^^ nden s b
  | .bit .or _ a b => nden s a ||| nden s b
  | .bit _ _ a b => nden s a &&& nden s b
  | .ari .mul _ a b => nden s a * nden s b % 256
  | .ari _ _ a b => (nden s a + nden s b) % 256
  | .shl _ a n => nden s a * 2 ^ n % 256
  | .shr a n => nden s a / 2 ^ n
  | .con _ a => nden s a % 256
  | .app f a b => nfn f (nden s a) (nden s b)
def okB : Ex → Bool
  | .lit n => decide (0 ≤ n ∧ n < 256)
  | .var _ => true
  | .bit .xor k a b => decide (k = .u8) && okB a && okB b
  | .bit .or k a b => decide (k = .u8) && okB a && okB b
  | .bit .and k a b => decide (k = .u8) && okB a && okB b
  | .bit _ _ _ _ => false
  | .ari .mul k a b => decide (k = .u8) && okB a && okB b
  | .ari .add k a b => decide (k = .u8) && okB a && okB b
  | .ari _ _ _ _ => false
  | .shl k a _ => decide (k = .u8) && okB a
  | .shr a _ => okB a
  | .con k a => decide (k = .u8) && okB a
  | .app _ a b => okB a && okB b
theorem wrap8 (n : Nat) : IntKind.u8.wrap (n : Int) = ((n % 256 : Nat) : Int) := by rw [IntKind.wrap_u8]; rfl
theorem bits8 (op : BinOp) (a b : Nat) : bitsOf op .u8 (a : Int) (b : Int) = bits op .u8 (a : Int) (b : Int) := by
  cases op <;> rfl
theorem nden_ok {s : Nat → Nat} (hs : ∀ i, s i < 256) : ∀ e : Ex, okB e = true → e.den (envB s) = ((nden s e : Nat) : Int) ∧ nden s e < 256
  | .lit n, h => by
    simp only [okB, decide_eq_true_eq] at h
    simp only [Ex.den, nden]
    omega
  | .var i, _ => ⟨rfl, hs i⟩
  | .bit op k a b, h => by
    have key : (op = .xor ∨ op = .or ∨ op = .and) ∧ k = .u8 ∧ okB a = true ∧ okB b = true := by
      cases op <;> simp [okB] at h <;> simp [h]
    obtain ⟨hop, rfl, h1, h2⟩ := key
    obtain ⟨e1, l1⟩ := nden_ok hs a h1
    obtain ⟨e2, l2⟩ := nden_ok hs b h2
    simp only [Ex.den, e1, e2, bits8]
    rcases hop with rfl | rfl | rfl
    · exact ⟨u8_xor_nat _ _ l1 l2, xor8 l1 l2⟩
    · exact ⟨u8_or_nat _ _ l1 l2, or8 l1 l2⟩
    · exact ⟨u8_and_nat _ _ l1 l2, Nat.lt_of_le_of_lt Nat.and_le_left l1⟩
  | .ari op k a b, h => by
    have key : (op = .mul ∨ op = .add) ∧ k = .u8 ∧ okB a = true ∧ okB b = true := by
      cases op <;> simp [okB] at h <;> simp [h]
    obtain ⟨hop, rfl, h1, h2⟩ := key
    obtain ⟨e1, l1⟩ := nden_ok hs a h1
    obtain ⟨e2, l2⟩ := nden_ok hs b h2
    simp only [Ex.den, e1, e2]
    rcases hop with rfl | rfl
    · refine ⟨?_, Nat.mod_lt _ (by decide)⟩
      show IntKind.u8.wrap _ = _
      rw [← Int.natCast_mul, wrap8]; rfl
    · refine ⟨?_, Nat.mod_lt _ (by decide)⟩
      show IntKind.u8.wrap _ = _
      rw [← Int.natCast_add, wrap8]; rfl
  | .shl k a n, h => by
    simp only [okB, Bool.and_eq_true, decide_eq_true_eq] at h
    obtain ⟨rfl, h1⟩ := h
    obtain ⟨e1, l1⟩ := nden_ok hs a h1
    refine ⟨?_, Nat.mod_lt _ (by decide)⟩
    simp only [Ex.den, e1]
    rw [show ((nden s a : Nat) : Int) * 2 ^ n = ((nden s a * 2 ^ n : Nat) : Int) by simp, wrap8]; rfl
  | .shr a n, h => by
    obtain ⟨e1, l1⟩ := nden_ok hs a h
    refine ⟨?_, Nat.lt_of_le_of_lt (Nat.div_le_self _ _) l1⟩
    simp only [Ex.den, e1, nden]
    rw [show (2 : Int) ^ n = ((2 ^ n : Nat) : Int) by simp, Int.ofNat_fdiv]
  | .con k a, h => by
    simp only [okB, Bool.and_eq_true, decide_eq_true_eq] at h
    obtain ⟨rfl, h1⟩ := h
    obtain ⟨e1, l1⟩ := nden_ok hs a h1
    refine ⟨?_, Nat.mod_lt _ (by decide)⟩
    simp only [Ex.den, e1, wrap8]; rfl
  | .app f a b, h => by
    simp only [okB, Bool.and_eq_true] at h
    obtain ⟨e1, l1⟩ := nden_ok hs a h.1
    obtain ⟨e2, l2⟩ := nden_ok hs b h.2
    refine ⟨?_, nfn_lt _ _ _ l1⟩
    simp only [Ex.den, e1, e2, nden]
    simp [envB]
def lits (l : List Nat) : List SV := l.map fun x : Nat => .int .u8 (.lit (x : Int))
def vars (o n : Nat) : List SV := (List.range n).map fun i => .int .u8 (.var (o + i))
def bytesE (l : List Ex) : List SV := l.map (.int .u8)
theorem lits_inst (ρ : Env) (ms : List Nat) (l : List Nat) : (TV.agg (lits l)).inst ρ ms = some (.agg (cells8 l)) := by
  simp only [TV.inst]
  rw [(seqO_iff _ (l.map fun x : Nat => Value.int .u8 (x : Int))).2 (by simp [lits, SV.inst, Ex.den])]
  rfl
theorem bytesE_inst {s : Nat → Nat} (hs : ∀ i, s i < 256) (ms : List Nat) {l : List Ex} (hl : l.all okB = true) : (TV.agg (bytesE l)).inst (envB s) ms = some (.agg (cells8 (l.map (nden s)))) := by
  simp only [TV.inst]
  rw [(seqO_iff _ ((l.map (nden s)).map fun x : Nat => Value.int .u8 (x : Int))).2 ?_]
  · rfl
  · simp only [bytesE, List.map_map]
    refine List.map_congr_left fun e he => ?_
    simp only [Function.comp, SV.inst, (nden_ok hs e (List.all_eq_true.1 hl e he)).1]
theorem vars_inst {s : Nat → Nat} (hs : ∀ i, s i < 256) (ms : List Nat) (o n : Nat) (t : List Nat) (ht : t.length = n) (h : ∀ i, i < n → s (o + i) = t.getD i 0) : (TV.agg (vars o n)).inst (envB s) ms = some (.agg (cells8 t)) := by
  have e : vars o n = bytesE ((List.range n).map fun i => .var (o + i)) := by simp [vars, bytesE]
  rw [e, bytesE_inst hs ms (by simp [okB])]
  congr 3
  rw [List.map_map]
  refine List.ext_getElem (by simp [ht]) fun i h1 h2 => ?_
  have hi : i < n := by simpa using h1
  simp only [List.getElem_map, List.getElem_range, Function.comp, nden]
  rw [h i hi]
  simp [List.getD, List.getElem?_eq_getElem h2]
def at8 (s : List Nat) : Nat → Nat := fun i => s.getD i 0
theorem byt_get {s : List Nat} (h : Byt s) : ∀ i, at8 s i < 256 := h.get
def TabAt (w : World) (g : Nat) : Prop := ∀ i, i < 256 → w.cell? ⟨g, i, none⟩ = some (.int .u8 ((inv i : Nat) : Int))
set_option maxHeartbeats 1000000 in
theorem csub (w : World) (g : Nat) (hW : TabAt w g) (r c : Value) (a : Nat) (ha : a < 256) : Calls Try.prog 65 #[r, c, .int .u8 (a : Int), .pointer (some ⟨g, 0, none⟩)] w fun e w' => e = .returned (.int .u8 ((sub a : Nat) : Int)) ∧ w' = w := by
  have h1 := hW a ha
  have hx := inv_lt a
  have HX2 : Hid (sub a = blend (inv a)) := rfl
  obtain ⟨x, HX⟩ : ∃ x, Hid (inv a = x) := ⟨_, rfl⟩
  rw [HX.out] at h1 hx HX2
  rw [HX2.out]
  have C := hid (blend_any w x hx)
  clear hW HX HX2
  go_enter Try.func65, Try.ntmps65
  go_wp2_with fail
  refine C.out.mono ?_
  rintro e w1 ⟨rfl, hw⟩
  subst hw
  go_wp2
  go_ret
  exact ⟨rfl, rfl⟩
set_option maxHeartbeats 1000000 in
theorem csched (w : World) (g : Nat) (hW : TabAt w g) (a : Nat) (ha : a < 256) : Calls Try.prog 47 #[.int .u8 (a : Int), .pointer (some ⟨g, 0, none⟩)] w fun e w' => e = .returned (.int .u8 ((sub a : Nat) : Int)) ∧ w' = w := by
  have h1 := hW a ha
  have hx := inv_lt a
  have HX2 : Hid (sub a = blend (inv a)) := rfl
  obtain ⟨x, HX⟩ : ∃ x, Hid (inv a = x) := ⟨_, rfl⟩
  rw [HX.out] at h1 hx HX2
  rw [HX2.out]
  have C := hid (blend_any w x hx)
  clear hW HX HX2
  go_enter Try.func47, Try.ntmps47
  go_wp2_with fail
  refine C.out.mono ?_
  rintro e w1 ⟨rfl, hw⟩
  subst hw
  go_wp2
  go_ret
  exact ⟨rfl, rfl⟩
def mkApp (f : Nat) : Ex → Ex → Ex
  | .lit x, .lit y => .lit ((nfn f x.toNat y.toNat : Nat) : Int)
  | a, b => .app f a b
theorem mkApp_den {s : Nat → Nat} (f : Nat) (a b : Ex) : (mkApp f a b).den (envB s) = (Ex.app f a b).den (envB s) := by
  unfold mkApp
  split
  · simp [Ex.den, envB]
  · rfl
def tabIn (H : List Blk) (n : Nat) : Bool := match H[n]? with | some k => decide (k.cells = lits invLit) | none => false
def conOr (a b : ConF) : ConF := fun g xs H => match a g xs H with | some v => some v | none => b g xs H
theorem conOr_ok {P : Program} {ρ : Env} {a b : ConF} (ha : ConOk P ρ a) (hb : ConOk P ρ b) : ConOk P ρ (conOr a b) := by
  intro g xs H v h
  unfold conOr at h
  split at h
  · rename_i h1
    simp only [Option.some.injEq] at h
    subst h
    exact ha g xs H _ h1
  · exact hb g xs H v h
def conTab (f fn : Nat) : ConF := fun g xs H =>
  if g = f then
    match xs with
    | [_, _, .tv (.sc (.int .u8 a)), .tv (.sc (.ptr n 0))] => if okB a && tabIn H n then some (.tv (.sc (.int .u8 (mkApp fn a (.lit 0))))) else none
    | _ => none
  else none
def conTab1 (f fn : Nat) : ConF := fun g xs H =>
  if g = f then
    match xs with
    | [.tv (.sc (.int .u8 a)), .tv (.sc (.ptr n 0))] => if okB a && tabIn H n then some (.tv (.sc (.int .u8 (mkApp fn a (.lit 0))))) else none
    | _ => none
  else none
def conTwo (f fn : Nat) : ConF := fun g xs _ =>
  if g = f then
    match xs with
    | [.tv (.sc (.int .u8 a)), .tv (.sc (.int .u8 b))] => if okB a && okB b then some (.tv (.sc (.int .u8 (mkApp fn a b)))) else none
    | _ => none
  else none
def conOne (f fn : Nat) : ConF := fun g xs _ =>
  if g = f then
    match xs with
    | [.tv (.sc (.int .u8 a))] => if okB a then some (.tv (.sc (.int .u8 (mkApp fn a (.lit 0))))) else none
    | _ => none
  else none
def tabSV : List SV := lits invLit
def conInvs (f : Nat) : ConF := fun g xs _ => if g = f then (match xs with | [] => some (.tv (.agg tabSV)) | _ => none) else none
set_option maxRecDepth 100000 in
theorem tabAt_of {ρ : Env} {ms : List Nat} {H : List Blk} {B : Nat} {w : World} (hH : Holds ρ ms H B w) {n b : Nat} (h : tabIn H n = true) (hb : ms[n]? = some b) : TabAt w b := by
  unfold tabIn at h
  split at h
  case h_2 => cases h
  rename_i k hk
  simp only [decide_eq_true_eq] at h
  intro i hi
  have hl : invLit.length = 256 := by decide +kernel
  obtain ⟨v, h1, h2, _⟩ := hH.cell n b k hb hk i (.int .u8 (.lit ((invLit.getD i 0 : Nat) : Int))) (by rw [h]; simp [lits, List.getD, List.getElem?_eq_getElem (show i < invLit.length by omega)])
  simp only [SV.inst, Ex.den, Option.some.injEq] at h1
  rw [h2, ← h1]
  unfold inv
  rw [invT_lit]
theorem args4 {ρ : Env} {ms : List Nat} {x y : AV} {a : Ex} {n : Nat} {args : Array Value} (h : [x, y, .tv (.sc (.int .u8 a)), .tv (.sc (.ptr n 0))].map (AV.inst ρ ms) = args.toList.map some) :
    ∃ r c b, ms[n]? = some b ∧ args = #[r, c, .int .u8 (a.den ρ), .pointer (some ⟨b, 0, none⟩)] := by
  obtain ⟨l⟩ := args
  have hlen : l.length = 4 := by have := congrArg List.length h; simpa using this.symm
  match l, hlen, h with
  | [r, c, u, p], _, h =>
    simp only [List.map_cons, List.map_nil, List.cons.injEq, and_true, AV.inst, TV.inst, SV.inst, addr, Option.some.injEq, Option.map_eq_some_iff] at h
    obtain ⟨_, _, rfl, b, hb, rfl⟩ := h
    exact ⟨r, c, b, hb, rfl⟩
theorem args2 {ρ : Env} {ms : List Nat} {a : Ex} {n : Nat} {args : Array Value} (h : [.tv (.sc (.int .u8 a)), .tv (.sc (.ptr n 0))].map (AV.inst ρ ms) = args.toList.map some) :
    ∃ b, ms[n]? = some b ∧ args = #[.int .u8 (a.den ρ), .pointer (some ⟨b, 0, none⟩)] := by
  obtain ⟨l⟩ := args
  have hlen : l.length = 2 := by have := congrArg List.length h; simpa using this.symm
  match l, hlen, h with
  | [u, p], _, h =>
    simp only [List.map_cons, List.map_nil, List.cons.injEq, and_true, AV.inst, TV.inst, SV.inst, addr, Option.some.injEq, Option.map_eq_some_iff] at h
    obtain ⟨rfl, b, hb, rfl⟩ := h
    exact ⟨b, hb, rfl⟩
theorem argsB {ρ : Env} {ms : List Nat} {a b : Ex} {args : Array Value} (h : [.tv (.sc (.int .u8 a)), .tv (.sc (.int .u8 b))].map (AV.inst ρ ms) = args.toList.map some) :
    args = #[.int .u8 (a.den ρ), .int .u8 (b.den ρ)] := by
  obtain ⟨l⟩ := args
  have hlen : l.length = 2 := by have := congrArg List.length h; simpa using this.symm
  match l, hlen, h with
  | [u, p], _, h =>
    simp only [List.map_cons, List.map_nil, List.cons.injEq, and_true, AV.inst, TV.inst, SV.inst, Option.some.injEq] at h
    obtain ⟨rfl, rfl⟩ := h
    rfl
theorem conTab_ok {s : Nat → Nat} (hs : ∀ i, s i < 256) {f fn : Nat} (hf : ∀ (w : World) (g : Nat), TabAt w g → ∀ (r c : Value) (a : Nat), a < 256 → Calls Try.prog f #[r, c, .int .u8 (a : Int), .pointer (some ⟨g, 0, none⟩)] w fun e w' => e = .returned (.int .u8 ((nfn fn a 0 : Nat) : Int)) ∧ w' = w) :
    ConOk Try.prog (envB s) (conTab f fn) := by
  intro g xs H v h ms B w args ha hH
  unfold conTab at h
  split at h
  case isFalse => cases h
  rename_i hg
  subst hg
  split at h
  case h_2 => cases h
  rename_i x y a n
  split at h
  case isFalse => cases h
  rename_i hc
  rw [Bool.and_eq_true] at hc
  simp only [Option.some.injEq] at h
  subst h
  obtain ⟨r, c, b, hb, rfl⟩ := args4 ha
  obtain ⟨e1, l1⟩ := nden_ok hs a hc.1
  rw [e1]
  refine (hf w b (tabAt_of hH hc.2 hb) r c _ l1).mono ?_
  rintro e w' ⟨rfl, rfl⟩
  refine ⟨_, rfl, ?_, Below.refl _ _⟩
  simp only [AV.inst, TV.inst, SV.inst, mkApp_den, Ex.den, e1]
  simp [envB]
theorem conTab1_ok {s : Nat → Nat} (hs : ∀ i, s i < 256) {f fn : Nat} (hf : ∀ (w : World) (g : Nat), TabAt w g → ∀ (a : Nat), a < 256 → Calls Try.prog f #[.int .u8 (a : Int), .pointer (some ⟨g, 0, none⟩)] w fun e w' => e = .returned (.int .u8 ((nfn fn a 0 : Nat) : Int)) ∧ w' = w) :
    ConOk Try.prog (envB s) (conTab1 f fn) := by
  intro g xs H v h ms B w args ha hH
  unfold conTab1 at h
  split at h
  case isFalse => cases h
  rename_i hg
  subst hg
  split at h
  case h_2 => cases h
  rename_i a n
  split at h
  case isFalse => cases h
  rename_i hc
  rw [Bool.and_eq_true] at hc
  simp only [Option.some.injEq] at h
  subst h
  obtain ⟨b, hb, rfl⟩ := args2 ha
  obtain ⟨e1, l1⟩ := nden_ok hs a hc.1
  rw [e1]
  refine (hf w b (tabAt_of hH hc.2 hb) _ l1).mono ?_
  rintro e w' ⟨rfl, rfl⟩
  refine ⟨_, rfl, ?_, Below.refl _ _⟩
  simp only [AV.inst, TV.inst, SV.inst, mkApp_den, Ex.den, e1]
  simp [envB]
theorem conTwo_ok {s : Nat → Nat} (hs : ∀ i, s i < 256) {f fn : Nat} (hf : ∀ (w : World) (a b : Nat), a < 256 → b < 256 → Calls Try.prog f #[.int .u8 (a : Int), .int .u8 (b : Int)] w fun e w' => e = .returned (.int .u8 ((nfn fn a b : Nat) : Int)) ∧ Below w.heap.size w w') :
    ConOk Try.prog (envB s) (conTwo f fn) := by
  intro g xs H v h ms B w args ha hH
  unfold conTwo at h
  split at h
  case isFalse => cases h
  rename_i hg
  subst hg
  split at h
  case h_2 => cases h
  rename_i a b
  split at h
  case isFalse => cases h
  rename_i hc
  rw [Bool.and_eq_true] at hc
  simp only [Option.some.injEq] at h
  subst h
  obtain rfl := argsB ha
  obtain ⟨e1, l1⟩ := nden_ok hs a hc.1
  obtain ⟨e2, l2⟩ := nden_ok hs b hc.2
  rw [e1, e2]
  refine (hf w _ _ l1 l2).mono ?_
  rintro e w' ⟨rfl, hb⟩
  refine ⟨_, rfl, ?_, hb⟩
  simp only [AV.inst, TV.inst, SV.inst, mkApp_den, Ex.den, e1, e2]
  simp [envB]
theorem conOne_ok {s : Nat → Nat} (hs : ∀ i, s i < 256) {f fn : Nat} (hf : ∀ (w : World) (a : Nat), a < 256 → Calls Try.prog f #[.int .u8 (a : Int)] w fun e w' => e = .returned (.int .u8 ((nfn fn a 0 : Nat) : Int)) ∧ Below w.heap.size w w') :
    ConOk Try.prog (envB s) (conOne f fn) := by
  intro g xs H v h ms B w args ha hH
  unfold conOne at h
  split at h
  case isFalse => cases h
  rename_i hg
  subst hg
  split at h
  case h_2 => cases h
  rename_i a
  split at h
  case isFalse => cases h
  rename_i hc
  simp only [Option.some.injEq] at h
  subst h
  have ea : args = #[.int .u8 (a.den (envB s))] := by
    obtain ⟨l⟩ := args
    have hlen : l.length = 1 := by have := congrArg List.length ha; simpa using this.symm
    match l, hlen, ha with
    | [u], _, ha =>
      simp only [List.map_cons, List.map_nil, List.cons.injEq, and_true, AV.inst, TV.inst, SV.inst, Option.some.injEq] at ha
      subst ha
      rfl
  subst ea
  obtain ⟨e1, l1⟩ := nden_ok hs a hc
  rw [e1]
  refine (hf w _ l1).mono ?_
  rintro e w' ⟨rfl, hb⟩
  refine ⟨_, rfl, ?_, hb⟩
  simp only [AV.inst, TV.inst, SV.inst, mkApp_den, Ex.den, e1]
  simp [envB]
theorem tabSV_instT (ρ : Env) (ms : List Nat) : (TV.agg tabSV).inst ρ ms = some (.agg (cells8 invLit)) := by
  unfold tabSV
  exact lits_inst ρ ms invLit
theorem tabSV_inst (ρ : Env) (ms : List Nat) : (AV.tv (.agg tabSV)).inst ρ ms = some (.agg (cells8 invLit)) := by
  unfold tabSV
  simp only [AV.inst]
  exact lits_inst ρ ms invLit
theorem inverses_lit (w : World) : Calls Try.prog 46 #[] w fun e w' => e = .returned (.agg (cells8 invLit)) ∧ Below w.heap.size w w' := invT_lit ▸ inverses_any w
theorem conInvs_ok (ρ : Env) : ConOk Try.prog ρ (conInvs 46) := by
  intro g xs H v h ms B w args ha hH
  unfold conInvs at h
  split at h
  case isFalse => cases h
  rename_i hg
  subst hg
  split at h
  case h_2 => cases h
  simp only [Option.some.injEq] at h
  subst h
  have : args = #[] := by cases args; simp_all
  subst this
  refine (inverses_lit w).mono ?_
  rintro e w' ⟨he, hb⟩
  exact ⟨_, he, tabSV_inst _ ms, hb⟩
def conC : ConF :=
  conOr (conTab 65 1) <|
  conOr (conTab1 47 1) (conInvs 46)
theorem conC_ok {s : Nat → Nat} (hs : ∀ i, s i < 256) : ConOk Try.prog (envB s) conC :=
  conOr_ok (conTab_ok hs csub) <|
  conOr_ok (conTab1_ok hs csched) (conInvs_ok _)
theorem mixedOrders : Try.prog.follows .mixedOrders = true := by kernel_rfl
theorem fun1 {g fuel n : Nat} {out : List Ex} (h : evCall Try.prog noLore conC fuel g [.tv (.agg (vars 0 n))] [] = some (.tv (.agg (bytesE out)), [])) (hok : out.all okB = true) (w : World) (s : List Nat) (hl : s.length = n) (hb : Byt s) :
    Calls Try.prog g #[.agg (cells8 s)] w fun e w' => e = .returned (.agg (cells8 (out.map (nden (at8 s))))) ∧ Below w.heap.size w w' := by
  have hs := byt_get hb
  refine (calls_of_ev (noLore_ok (envB (at8 s))) (conC_ok hs) mixedOrders fuel h (args := #[.agg (cells8 s)]) w ?_).mono ?_
  · simp only [List.map_cons, List.map_nil, AV.inst]
    rw [vars_inst hs [] 0 n s hl (fun i _ => by rw [Nat.zero_add]; rfl)]
  · rintro e w' ⟨ms, u, rfl, h1, h2, h3⟩
    simp only [AV.inst, bytesE_inst hs ms hok, Option.some.injEq] at h1
    rw [← h1]
    exact ⟨rfl, h3⟩
theorem fun2 {g fuel n m : Nat} {out : List Ex} (h : evCall Try.prog noLore conC fuel g [.tv (.agg (vars 0 n)), .tv (.agg (vars n m))] [] = some (.tv (.agg (bytesE out)), [])) (hok : out.all okB = true) (w : World) (s t : List Nat) (hl : s.length = n) (hl2 : t.length = m) (hb : Byt s) (hb2 : Byt t) :
    Calls Try.prog g #[.agg (cells8 s), .agg (cells8 t)] w fun e w' => e = .returned (.agg (cells8 (out.map (nden (at8 (s ++ t)))))) ∧ Below w.heap.size w w' := by
  have hs : ∀ i, at8 (s ++ t) i < 256 := byt_get (fun x hx => by rcases List.mem_append.1 hx with h | h; exact hb x h; exact hb2 x h)
  refine (calls_of_ev (noLore_ok (envB (at8 (s ++ t)))) (conC_ok hs) mixedOrders fuel h (args := #[.agg (cells8 s), .agg (cells8 t)]) w ?_).mono ?_
  · simp only [List.map_cons, List.map_nil, AV.inst]
    rw [vars_inst hs [] 0 n s hl (fun i hi => by rw [Nat.zero_add]; simp [at8, List.getD, List.getElem?_append, hl, hi]), vars_inst hs [] n m t hl2 (fun i hi => by simp only [at8, List.getD]; rw [List.getElem?_append_right (by omega), hl, Nat.add_sub_cancel_left])]
  · rintro e w' ⟨ms, u, rfl, h1, h2, h3⟩
    simp only [AV.inst, bytesE_inst hs ms hok, Option.some.injEq] at h1
    rw [← h1]
    exact ⟨rfl, h3⟩
theorem funT {g fuel n : Nat} {out : List Ex} (h : evCall Try.prog noLore conC fuel g [.tv (.agg (vars 0 n)), .tv (.agg (lits invLit))] [] = some (.tv (.agg (bytesE out)), [])) (hok : out.all okB = true) (w : World) (s : List Nat) (hl : s.length = n) (hb : Byt s) :
    Calls Try.prog g #[.agg (cells8 s), .agg (cells8 invLit)] w fun e w' => e = .returned (.agg (cells8 (out.map (nden (at8 s))))) ∧ Below w.heap.size w w' := by
  have hs := byt_get hb
  refine (calls_of_ev (noLore_ok (envB (at8 s))) (conC_ok hs) mixedOrders fuel h (args := #[.agg (cells8 s), .agg (cells8 invLit)]) w ?_).mono ?_
  · simp only [List.map_cons, List.map_nil, AV.inst]
    rw [vars_inst hs [] 0 n s hl (fun i _ => by rw [Nat.zero_add]; rfl), lits_inst]
  · rintro e w' ⟨ms, u, rfl, h1, h2, h3⟩
    simp only [AV.inst, bytesE_inst hs ms hok, Option.some.injEq] at h1
    rw [← h1]
    exact ⟨rfl, h3⟩
def xorE (a b : Ex) : Ex := .bit .xor .u8 a b
def dblE (a : Ex) : Ex := xorE (.shl .u8 a 1) (.ari .mul .u8 (.shr a 7) (.lit 27))
def row (f : Nat → Nat → Ex) : List Ex := (List.range 16).map fun i => f (i / 4) (i % 4)
def spreadE : List Ex := row fun r c => .var (4 * c + r)
def gatherE : List Ex := (List.range 16).map fun i => .var (i % 4 * 4 + i / 4)
def shiftE : List Ex := row fun r c => .var (4 * r + (c + r) % 4)
def unshiftE : List Ex := row fun r c => .var (4 * r + (c + 4 - r) % 4)
def keyE : List Ex := row fun r c => xorE (.var (4 * r + c)) (.var (16 + (4 * c + r)))
def subE : List Ex := (List.range 16).map fun i => .app 1 (.var i) (.lit 0)
def unsubE : List Ex := (List.range 16).map fun i => .app 2 (.var i) (.lit 0)
def mixOf (v : Nat → Nat → Ex) : List Ex := row fun r c => xorE (xorE (dblE (xorE (v r c) (v ((r + 1) % 4) c))) (v r c)) (xorE (xorE (xorE (v 0 c) (v 1 c)) (v 2 c)) (v 3 c))
def mixE : List Ex := mixOf fun r c => .var (4 * r + c)
def unmixE : List Ex := mixOf fun r c => xorE (.var (4 * r + c)) (.app 0 (xorE (.var (4 * r + c)) (.var (4 * ((r + 2) % 4) + c))) (.lit 4))
theorem spread_ev : evCall Try.prog noLore conC 100 51 [.tv (.agg (vars 0 16))] [] = some (.tv (.agg (bytesE spreadE)), []) := by kernel_rfl
theorem gather_ev : evCall Try.prog noLore conC 100 55 [.tv (.agg (vars 0 16))] [] = some (.tv (.agg (bytesE gatherE)), []) := by kernel_rfl
theorem shift_ev : evCall Try.prog noLore conC 100 52 [.tv (.agg (vars 0 16))] [] = some (.tv (.agg (bytesE shiftE)), []) := by kernel_rfl
theorem mix_ev : evCall Try.prog noLore conC 100 54 [.tv (.agg (vars 0 16))] [] = some (.tv (.agg (bytesE mixE)), []) := by kernel_rfl
theorem key_ev : evCall Try.prog noLore conC 100 50 [.tv (.agg (vars 0 16)), .tv (.agg (vars 16 16))] [] = some (.tv (.agg (bytesE keyE)), []) := by kernel_rfl
theorem subbed_ev : evCall Try.prog noLore conC 100 53 [.tv (.agg (vars 0 16)), .tv (.agg (lits invLit))] [] = some (.tv (.agg (bytesE subE)), []) := by kernel_rfl
inductive St where
  | spread | gather | key (n : Nat) | sub | shift | mix | unsub | unshift | unmix
  deriving DecidableEq, Repr
def St.out : St → List Ex
  | .spread => spreadE
  | .gather => gatherE
  | .key _ => keyE
  | .sub => subE
  | .shift => shiftE
  | .mix => mixE
  | .unsub => unsubE
  | .unshift => unshiftE
  | .unmix => unmixE
theorem St.out_ok (st : St) : st.out.all okB = true ∧ st.out.length = 16 := by
  cases st
  case key => show keyE.all okB = true ∧ keyE.length = 16; decide +kernel
  all_goals decide +kernel
def keyAt (ks : List Nat) (n : Nat) : List Nat := (ks.drop (16 * n)).take 16
def St.env (ks : List Nat) : St → List Nat → Nat → Nat
  | .key n, s => at8 (s ++ keyAt ks n)
  | _, s => at8 s
def St.ap (ks : List Nat) (st : St) (s : List Nat) : List Nat := st.out.map (nden (st.env ks s))
theorem byt_app {a b : List Nat} (ha : Byt a) (hb : Byt b) : Byt (a ++ b) := fun x hx => by rcases List.mem_append.1 hx with h | h; exact ha x h; exact hb x h
theorem byt_keyAt {ks : List Nat} (h : Byt ks) (n : Nat) : Byt (keyAt ks n) := fun x hx => h x (List.mem_of_mem_drop (List.mem_of_mem_take hx))
theorem byt_at {s : List Nat} (h : Byt s) (i : Nat) : at8 s i < 256 := byt_get h i
theorem St.env_lt {ks s : List Nat} (hk : Byt ks) (hs : Byt s) (st : St) (i : Nat) : st.env ks s i < 256 := by
  cases st <;> first | exact byt_at hs i | exact byt_at (byt_app hs (byt_keyAt hk _)) i
theorem St.ap_ok {ks s : List Nat} (hk : Byt ks) (hs : Byt s) (st : St) : (st.ap ks s).length = 16 ∧ Byt (st.ap ks s) := by
  refine ⟨by simp [St.ap, st.out_ok.2], fun x hx => ?_⟩
  obtain ⟨e, he, rfl⟩ := List.mem_map.1 hx
  exact (nden_ok (st.env_lt hk hs) e (List.all_eq_true.1 st.out_ok.1 e he)).2
def runSt (ks : List Nat) : List St → List Nat → List Nat
  | [], s => s
  | st :: r, s => runSt ks r (st.ap ks s)
def stat (ks : List Nat) (steps : List St) (b : List Nat) (p : Nat) : List Nat := runSt ks (steps.take p) b
theorem runSt_ok {ks : List Nat} (hk : Byt ks) : ∀ (l : List St) (s : List Nat), s.length = 16 → Byt s → (runSt ks l s).length = 16 ∧ Byt (runSt ks l s)
  | [], _, h1, h2 => ⟨h1, h2⟩
  | st :: l, _, _, h2 => runSt_ok hk l _ (st.ap_ok hk h2).1 (st.ap_ok hk h2).2
theorem runSt_byt {ks : List Nat} (hk : Byt ks) : ∀ (l : List St) (s : List Nat), Byt s → Byt (runSt ks l s)
  | [], _, h2 => h2
  | st :: l, _, h2 => runSt_byt hk l _ (st.ap_ok hk h2).2
theorem runSt_append (ks : List Nat) : ∀ (l m : List St) (s : List Nat), runSt ks (l ++ m) s = runSt ks m (runSt ks l s)
  | [], _, _ => rfl
  | _ :: l, m, _ => runSt_append ks l m _
theorem stat_succ {ks : List Nat} {steps : List St} {b : List Nat} {p : Nat} {st : St} (h : steps[p]? = some st) : stat ks steps b (p + 1) = st.ap ks (stat ks steps b p) := by
  unfold stat
  have hp := (List.getElem?_eq_some_iff.1 h).1
  rw [List.take_succ_eq_append_getElem hp, runSt_append]
  rw [List.getElem?_eq_getElem hp] at h
  cases h
  rfl
def chEnv (ks : List Nat) (steps : List St) (b : List Nat) : Nat → Nat := fun i => if i < 176 then at8 ks i else at8 (stat ks steps b ((i - 176) / 16)) ((i - 176) % 16)
def nameOf (p : Nat) : List SV := vars (176 + 16 * p) 16
def pOf : List SV → Nat
  | .int .u8 (.var x) :: _ => (x - 176) / 16
  | _ => 0
def St.hits (g : Nat) (rest : List AV) : St → Bool
  | .spread => decide (g = 51) && decide (rest = [])
  | .gather => decide (g = 55) && decide (rest = [])
  | .key n => decide (g = 50) && decide (rest = [.tv (.agg (vars (16 * n) 16))]) && decide (n ≤ 10)
  | .sub => decide (g = 53) && decide (rest = [.tv (.agg tabSV)])
  | .shift => decide (g = 52) && decide (rest = [])
  | .mix => decide (g = 54) && decide (rest = [])
  | .unsub => false
  | .unshift => false
  | .unmix => false
def chCon (steps : List St) : ConF := fun g xs _ =>
  match xs with
  | .tv (.agg l) :: rest =>
    match steps[pOf l]? with
    | some st => if decide (l = nameOf (pOf l)) && st.hits g rest then some (.tv (.agg (nameOf (pOf l + 1)))) else none
    | none => none
  | _ => none
theorem chEnv_lt {ks : List Nat} (hk : Byt ks) {steps : List St} {b : List Nat} (hb : Byt b) (i : Nat) : chEnv ks steps b i < 256 := by
  unfold chEnv
  split
  · exact byt_at hk i
  · exact byt_at (runSt_byt hk _ b hb) _
theorem stat_ok {ks : List Nat} (hk : Byt ks) {steps : List St} {b : List Nat} (hb : Byt b) (hbl : b.length = 16) (p : Nat) : (stat ks steps b p).length = 16 ∧ Byt (stat ks steps b p) := runSt_ok hk _ b hbl hb
theorem name_inst {ks : List Nat} (hk : Byt ks) {steps : List St} {b : List Nat} (hb : Byt b) (hbl : b.length = 16) (ms : List Nat) (p : Nat) : (TV.agg (nameOf p)).inst (envB (chEnv ks steps b)) ms = some (.agg (cells8 (stat ks steps b p))) :=
  vars_inst (chEnv_lt hk hb) ms _ 16 _ (stat_ok hk hb hbl p).1 fun i hi => by
    unfold chEnv
    rw [if_neg (by omega), show (176 + 16 * p + i - 176) / 16 = p by omega, show (176 + 16 * p + i - 176) % 16 = i by omega]
    rfl
theorem key_inst {ks : List Nat} (hk : Byt ks) (hkl : ks.length = 176) {steps : List St} {b : List Nat} (hb : Byt b) (ms : List Nat) (n : Nat) (hn : n ≤ 10) : (TV.agg (vars (16 * n) 16)).inst (envB (chEnv ks steps b)) ms = some (.agg (cells8 (keyAt ks n))) :=
  vars_inst (chEnv_lt hk hb) ms _ 16 _ (by simp [keyAt]; omega) fun i hi => by
    unfold chEnv
    rw [if_pos (by omega)]
    simp only [at8, keyAt, List.getD, List.getElem?_take, List.getElem?_drop]
    rw [if_pos hi]
theorem keys_inst {ks : List Nat} (hk : Byt ks) (hkl : ks.length = 176) {steps : List St} {b : List Nat} (hb : Byt b) (ms : List Nat) : (TV.agg (vars 0 176)).inst (envB (chEnv ks steps b)) ms = some (.agg (cells8 ks)) :=
  vars_inst (chEnv_lt hk hb) ms _ 176 _ hkl fun i hi => by
    unfold chEnv
    rw [if_pos (by omega), Nat.zero_add]
    rfl
theorem chCon_ok {ks : List Nat} (hk : Byt ks) (hkl : ks.length = 176) {steps : List St} {b : List Nat} (hb : Byt b) (hbl : b.length = 16) : ConOk Try.prog (envB (chEnv ks steps b)) (chCon steps) := by
  intro g xs H v h ms B w args ha hH
  unfold chCon at h
  split at h
  case h_2 => cases h
  rename_i l rest
  split at h
  case h_2 => cases h
  rename_i st hst
  split at h
  case isFalse => cases h
  rename_i hc
  rw [Bool.and_eq_true, decide_eq_true_eq] at hc
  simp only [Option.some.injEq] at h
  subst h
  obtain ⟨hl, hh⟩ := hc
  generalize pOf l = p at *
  subst hl
  obtain ⟨hsl, hsb⟩ := stat_ok (steps := steps) hk hb hbl p
  have hout : (AV.tv (.agg (nameOf (p + 1)))).inst (envB (chEnv ks steps b)) ms = some (.agg (cells8 (st.ap ks (stat ks steps b p)))) := by
    rw [← stat_succ hst]
    exact name_inst hk hb hbl ms (p + 1)
  have h1 : rest = [] → args = #[.agg (cells8 (stat ks steps b p))] := fun hr => by
    subst hr
    obtain ⟨al⟩ := args
    have hlen : al.length = 1 := by have := congrArg List.length ha; simpa using this.symm
    match al, hlen, ha with
    | [u], _, ha =>
      simp only [List.map_cons, List.map_nil, List.cons.injEq, and_true, AV.inst, name_inst hk hb hbl, Option.some.injEq] at ha
      subst ha
      rfl
  have h2 : ∀ (x : TV) (t : List Nat), rest = [.tv x] → x.inst (envB (chEnv ks steps b)) ms = some (.agg (cells8 t)) → args = #[.agg (cells8 (stat ks steps b p)), .agg (cells8 t)] := fun x t hr hx => by
    subst hr
    obtain ⟨al⟩ := args
    have hlen : al.length = 2 := by have := congrArg List.length ha; simpa using this.symm
    match al, hlen, ha with
    | [u, u'], _, ha =>
      simp only [List.map_cons, List.map_nil, List.cons.injEq, and_true, AV.inst, name_inst hk hb hbl, hx, Option.some.injEq] at ha
      obtain ⟨rfl, rfl⟩ := ha
      rfl
  have fin : ∀ (Cl : Calls Try.prog g args w fun e w' => e = .returned (.agg (cells8 (st.ap ks (stat ks steps b p)))) ∧ Below w.heap.size w w'), Calls Try.prog g args w fun e w' => ∃ u, e = .returned u ∧ (AV.tv (.agg (nameOf (p + 1)))).inst (envB (chEnv ks steps b)) ms = some u ∧ Below w.heap.size w w' := fun Cl =>
    Cl.mono fun e w' ⟨q1, q2⟩ => ⟨_, q1, hout, q2⟩
  refine fin ?_
  clear fin hout
  have htab : (TV.agg tabSV).inst (envB (chEnv ks steps b)) ms = some (.agg (cells8 invLit)) := tabSV_instT _ ms
  cases st <;> simp only [St.hits, Bool.and_eq_true, decide_eq_true_eq, Bool.false_eq_true] at hh
  case spread => obtain ⟨rfl, hr⟩ := hh; rw [h1 hr]; exact fun1 spread_ev (St.out_ok .spread).1 w _ hsl hsb
  case gather => obtain ⟨rfl, hr⟩ := hh; rw [h1 hr]; exact fun1 gather_ev (St.out_ok .gather).1 w _ hsl hsb
  case key n =>
    obtain ⟨⟨rfl, hr⟩, hn⟩ := hh
    rw [h2 _ _ hr (key_inst hk hkl hb ms n hn)]
    exact fun2 key_ev (St.out_ok (.key n)).1 w _ _ hsl (by simp [keyAt]; omega) hsb (byt_keyAt hk n)
  case sub => obtain ⟨rfl, hr⟩ := hh; rw [h2 _ _ hr htab]; exact funT subbed_ev (St.out_ok .sub).1 w _ hsl hsb
  case shift => obtain ⟨rfl, hr⟩ := hh; rw [h1 hr]; exact fun1 shift_ev (St.out_ok .shift).1 w _ hsl hsb
  case mix => obtain ⟨rfl, hr⟩ := hh; rw [h1 hr]; exact fun1 mix_ev (St.out_ok .mix).1 w _ hsl hsb
def roundSt (n : Nat) : List St := [.sub, .shift] ++ (if n < 10 then [.mix] else []) ++ [.key n]
def forthSt (r : Nat) : List St := [.spread, .key 0] ++ (List.range r).flatMap (fun n => roundSt (n + 1)) ++ [.gather]
def unroundSt (n : Nat) : List St := [.key n] ++ (if n < 10 then [.unmix] else []) ++ [.unshift, .unsub]
def backSt : List St := [.spread] ++ (List.range 10).flatMap (fun n => unroundSt (10 - n)) ++ [.key 0, .gather]
def forthL (ks b : List Nat) (r : Nat) : List Nat := runSt ks (forthSt r) b
def backL (ks b : List Nat) : List Nat := runSt ks backSt b
def chAll (steps : List St) : ConF := conOr (chCon steps) (conInvs 46)
theorem forth_ev : (List.range 11).all (fun r => decide (evCall Try.prog noLore (chAll (forthSt r)) 100 37 [.tv (.agg (vars 0 176)), .tv (.agg (nameOf 0)), .tv (.sc (.int .i64 (.lit (r : Int))))] [] = some (.tv (.agg (nameOf (forthSt r).length)), []))) = true := by kernel_rfl
theorem forth_any (w : World) (ks b : List Nat) (hk : Byt ks) (hkl : ks.length = 176) (hb : Byt b) (hbl : b.length = 16) (r : Nat) (hr : r ≤ 10) :
    Calls Try.prog 37 #[.agg (cells8 ks), .agg (cells8 b), .int .i64 (r : Int)] w fun e w' => e = .returned (.agg (cells8 (forthL ks b r))) ∧ Below w.heap.size w w' := by
  have hev := List.all_eq_true.1 forth_ev r (List.mem_range.2 (by omega))
  rw [decide_eq_true_eq] at hev
  refine (calls_of_ev (noLore_ok (envB (chEnv ks (forthSt r) b))) (conOr_ok (chCon_ok hk hkl hb hbl) (conInvs_ok _)) mixedOrders 100 hev (args := #[.agg (cells8 ks), .agg (cells8 b), .int .i64 (r : Int)]) w ?_).mono ?_
  · have e1 : (AV.tv (.agg (vars 0 176))).inst (envB (chEnv ks (forthSt r) b)) [] = some (.agg (cells8 ks)) := by simp only [AV.inst]; exact keys_inst hk hkl hb []
    have e2 : (AV.tv (.agg (nameOf 0))).inst (envB (chEnv ks (forthSt r) b)) [] = some (.agg (cells8 b)) := by simp only [AV.inst]; exact name_inst hk hb hbl [] 0
    have e3 : (AV.tv (.sc (.int .i64 (.lit (r : Int))))).inst (envB (chEnv ks (forthSt r) b)) [] = some (.int .i64 (r : Int)) := rfl
    simp only [List.map_cons, List.map_nil, e1, e2, e3]
  · rintro e w' ⟨ms, u, rfl, h1, h2, h3⟩
    simp only [AV.inst, name_inst hk hb hbl, Option.some.injEq] at h1
    rw [← h1]
    refine ⟨?_, h3⟩
    unfold stat forthL
    rw [List.take_length]
def pwr : Nat → Nat
  | 0 => 1
  | n + 1 => dbl (pwr n)
theorem pwr_lt : ∀ n, pwr n < 256
  | 0 => by decide
  | n + 1 => dbl_lt (pwr_lt n)
def nextKey (g : Nat → Nat) (p : Nat) : List Nat :=
  let a0 := sub (g 13) ^^^ p ^^^ g 0
  let a1 := sub (g 14) ^^^ g 1
  let a2 := sub (g 15) ^^^ g 2
  let a3 := sub (g 12) ^^^ g 3
  let b0 := a0 ^^^ g 4
  let b1 := a1 ^^^ g 5
  let b2 := a2 ^^^ g 6
  let b3 := a3 ^^^ g 7
  let c0 := b0 ^^^ g 8
  let c1 := b1 ^^^ g 9
  let c2 := b2 ^^^ g 10
  let c3 := b3 ^^^ g 11
  [a0, a1, a2, a3, b0, b1, b2, b3, c0, c1, c2, c3, c0 ^^^ g 12, c1 ^^^ g 13, c2 ^^^ g 14, c3 ^^^ g 15]
theorem nextKey_length (g : Nat → Nat) (p : Nat) : (nextKey g p).length = 16 := rfl
theorem nextKey_ge (g : Nat → Nat) (p j : Nat) (h : 4 ≤ j) (h2 : j < 16) : at8 (nextKey g p) j = at8 (nextKey g p) (j - 4) ^^^ g j := by
  have : j = 4 ∨ j = 5 ∨ j = 6 ∨ j = 7 ∨ j = 8 ∨ j = 9 ∨ j = 10 ∨ j = 11 ∨ j = 12 ∨ j = 13 ∨ j = 14 ∨ j = 15 := by omega
  rcases this with rfl | rfl | rfl | rfl | rfl | rfl | rfl | rfl | rfl | rfl | rfl | rfl <;> rfl
theorem nextKey_zero (g : Nat → Nat) (p : Nat) : at8 (nextKey g p) 0 = sub (g 13) ^^^ p ^^^ g 0 := rfl
theorem nextKey_lt4 (g : Nat → Nat) (p j : Nat) (h : 1 ≤ j) (h2 : j < 4) : at8 (nextKey g p) j = sub (g (12 + (j + 1) % 4)) ^^^ g j := by
  have : j = 1 ∨ j = 2 ∨ j = 3 := by omega
  rcases this with rfl | rfl | rfl <;> rfl
def blk (k : List Nat) : Nat → List Nat
  | 0 => k
  | n + 1 => nextKey (at8 (blk k n)) (pwr n)
def schedF (k : List Nat) : Nat → Nat := fun i => at8 (blk k (i / 16)) (i % 16)
def schedL (k : List Nat) : List Nat := (List.range 11).flatMap (blk k)
theorem blk_ok {k : List Nat} (hl : k.length = 16) (hk : Byt k) : ∀ n, (blk k n).length = 16 ∧ Byt (blk k n)
  | 0 => ⟨hl, hk⟩
  | n + 1 => by
    refine ⟨rfl, ?_⟩
    have hg := byt_at (blk_ok hl hk n).2
    have key : ∀ j, at8 (blk k (n + 1)) j < 256 := by
      intro j
      induction j using Nat.strongRecOn with
      | _ j ih =>
        by_cases h16 : j < 16
        · show at8 (nextKey (at8 (blk k n)) (pwr n)) j < 256
          by_cases h4 : 4 ≤ j
          · rw [nextKey_ge _ _ _ h4 h16]
            exact xor8 (ih (j - 4) (by omega)) (hg j)
          · by_cases h0 : j = 0
            · subst h0
              rw [nextKey_zero]
              exact xor8 (xor8 (sub_lt _) (pwr_lt n)) (hg 0)
            · rw [nextKey_lt4 _ _ _ (by omega) (by omega)]
              exact xor8 (sub_lt _) (hg j)
        · show (nextKey (at8 (blk k n)) (pwr n)).getD j 0 < 256
          rw [List.getD, List.getElem?_eq_none (by rw [nextKey_length]; omega)]
          decide
    intro x hx
    obtain ⟨j, hj, rfl⟩ := List.getElem_of_mem hx
    have := key j
    simpa [at8, List.getD, List.getElem?_eq_getElem hj] using this
theorem schedF_lt {k : List Nat} (hl : k.length = 16) (hk : Byt k) (i : Nat) : schedF k i < 256 := byt_at (blk_ok hl hk _).2 _
theorem flat_get {f : Nat → List Nat} (hf : ∀ n, (f n).length = 16) : ∀ (n i : Nat), i < 16 * n → ((List.range n).flatMap f).getD i 0 = (f (i / 16)).getD (i % 16) 0
  | 0, i, h => by omega
  | n + 1, i, h => by
    have hlen : ((List.range n).flatMap f).length = 16 * n := by
      clear h
      induction n with
      | zero => rfl
      | succ n ih => rw [List.range_succ, List.flatMap_append, List.length_append, ih]; simp [hf]; omega
    rw [List.range_succ, List.flatMap_append, List.getD, List.getElem?_append, hlen]
    by_cases h1 : i < 16 * n
    · rw [if_pos h1]
      exact flat_get hf n i h1
    · rw [if_neg h1, show i / 16 = n by omega, show i % 16 = i - 16 * n by omega]
      simp [List.getD]
theorem flat_length {f : Nat → List Nat} (hf : ∀ n, (f n).length = 16) (n : Nat) : ((List.range n).flatMap f).length = 16 * n := by
  induction n with
  | zero => rfl
  | succ n ih => rw [List.range_succ, List.flatMap_append, List.length_append, ih]; simp [hf]; omega
theorem schedL_ok {k : List Nat} (hl : k.length = 16) (hk : Byt k) : (schedL k).length = 176 ∧ Byt (schedL k) ∧ ∀ i, i < 176 → schedF k i = at8 (schedL k) i := by
  refine ⟨flat_length (fun n => (blk_ok hl hk n).1) 11, fun x hx => ?_, fun i hi => (flat_get (fun n => (blk_ok hl hk n).1) 11 i hi).symm⟩
  obtain ⟨n, _, hn⟩ := List.mem_flatMap.1 hx
  exact (blk_ok hl hk n).2 x hn
def nmS : Ex → Ex
  | .bit .xor .u8 (.var p) (.var q) => if p = q + 12 ∧ 4 ≤ q % 16 then .var (q + 16) else .bit .xor .u8 (.var p) (.var q)
  | .bit .xor .u8 (.app 1 (.var x) (.lit 0)) (.var q) => if 1 ≤ q % 16 ∧ q % 16 < 4 ∧ x = q / 16 * 16 + (12 + (q % 16 + 1) % 4) then .var (q + 16) else .bit .xor .u8 (.app 1 (.var x) (.lit 0)) (.var q)
  | .bit .xor .u8 (.bit .xor .u8 (.app 1 (.var x) (.lit 0)) (.lit p)) (.var q) =>
    if q % 16 = 0 ∧ x = q + 13 ∧ p = ((pwr (q / 16) : Nat) : Int) then .var (q + 16) else .bit .xor .u8 (.bit .xor .u8 (.app 1 (.var x) (.lit 0)) (.lit p)) (.var q)
  | e => e
theorem nmS_ok {k : List Nat} (hl : k.length = 16) (hk : Byt k) (e : Ex) : (nmS e).den (envB (schedF k)) = e.den (envB (schedF k)) := by
  have hs := schedF_lt hl hk
  have step : ∀ q, schedF k (q + 16) = at8 (nextKey (at8 (blk k (q / 16))) (pwr (q / 16))) (q % 16) := fun q => by
    unfold schedF
    rw [show (q + 16) / 16 = q / 16 + 1 by omega, show (q + 16) % 16 = q % 16 by omega]
    rfl
  unfold nmS
  split
  · rename_i p q
    split
    · rename_i h
      obtain ⟨rfl, h4⟩ := h
      rw [(nden_ok hs _ (by rfl)).1, (nden_ok hs _ (by rfl)).1]
      congr 1
      show schedF k (q + 16) = schedF k (q + 12) ^^^ schedF k q
      rw [step, nextKey_ge _ _ _ h4 (Nat.mod_lt _ (by decide))]
      unfold schedF
      rw [show (q + 12) / 16 = q / 16 + 1 by omega, show (q + 12) % 16 = q % 16 - 4 by omega]
      rfl
    · rfl
  · rename_i x q
    split
    · rename_i h
      obtain ⟨h1, h2, rfl⟩ := h
      rw [(nden_ok hs _ (by rfl)).1, (nden_ok hs _ (by rfl)).1]
      congr 1
      show schedF k (q + 16) = sub (schedF k (q / 16 * 16 + (12 + (q % 16 + 1) % 4))) ^^^ schedF k q
      rw [step, nextKey_lt4 _ _ _ h1 h2]
      unfold schedF
      rw [show (q / 16 * 16 + (12 + (q % 16 + 1) % 4)) / 16 = q / 16 by omega, show (q / 16 * 16 + (12 + (q % 16 + 1) % 4)) % 16 = 12 + (q % 16 + 1) % 4 by omega]
    · rfl
  · rename_i x p q
    split
    · rename_i h
      obtain ⟨h1, rfl, rfl⟩ := h
      have hp := pwr_lt (q / 16)
      rw [(nden_ok hs _ (by rfl)).1, (nden_ok hs _ (by simp [okB]; omega)).1]
      congr 1
      show schedF k (q + 16) = sub (schedF k (q + 13)) ^^^ pwr (q / 16) ^^^ schedF k q
      rw [step, h1, nextKey_zero]
      unfold schedF
      rw [show (q + 13) / 16 = q / 16 by omega, show (q + 13) % 16 = 13 by omega, h1]
    · rfl
  · rfl
def loreS : Lore := ⟨fun _ _ _ => none, nmS, fun _ _ => none⟩
theorem loreS_ok {k : List Nat} (hl : k.length = 16) (hk : Byt k) : LoreOk (envB (schedF k)) loreS := ⟨fun _ _ _ _ h => by simp [loreS] at h, nmS_ok hl hk, fun _ _ _ h => by simp [loreS] at h⟩
theorem sched_ev : evCall Try.prog loreS conC 100 35 [.tv (.agg (vars 0 16))] [] = some (.tv (.agg (vars 0 176)), []) := by kernel_rfl
theorem sched_inst {k : List Nat} (hl : k.length = 16) (hk : Byt k) (ms : List Nat) : (TV.agg (vars 0 176)).inst (envB (schedF k)) ms = some (.agg (cells8 (schedL k))) :=
  vars_inst (schedF_lt hl hk) ms 0 176 _ (schedL_ok hl hk).1 fun i hi => by rw [Nat.zero_add]; exact (schedL_ok hl hk).2.2 i hi
theorem sched_any (w : World) (k : List Nat) (hk : Byt k) (hl : k.length = 16) : Calls Try.prog 35 #[.agg (cells8 k)] w fun e w' => e = .returned (.agg (cells8 (schedL k))) ∧ Below w.heap.size w w' := by
  refine (calls_of_ev (loreS_ok hl hk) (conC_ok (schedF_lt hl hk)) mixedOrders 100 sched_ev (args := #[.agg (cells8 k)]) w ?_).mono ?_
  · have e1 : (AV.tv (.agg (vars 0 16))).inst (envB (schedF k)) [] = some (.agg (cells8 k)) := by
      simp only [AV.inst]
      refine vars_inst (schedF_lt hl hk) [] 0 16 k hl fun i hi => ?_
      unfold schedF
      rw [show (0 + i) / 16 = 0 by omega, show (0 + i) % 16 = i by omega]
      rfl
    simp only [List.map_cons, List.map_nil, e1]
  · rintro e w' ⟨ms, u, rfl, h1, h2, h3⟩
    simp only [AV.inst, sched_inst hl hk, Option.some.injEq] at h1
    rw [← h1]
    exact ⟨rfl, h3⟩
theorem two_bytes {p : Nat → Nat → Bool} (h : ((List.range 256).all fun a => (List.range 256).all (p a)) = true) (a b : Nat) (ha : a < 256) (hb : b < 256) : p a b = true :=
  List.all_eq_true.1 (List.all_eq_true.1 h a (List.mem_range.2 ha)) b (List.mem_range.2 hb)
theorem dbl_xor (a b : Nat) (ha : a < 256) (hb : b < 256) : dbl (a ^^^ b) = dbl a ^^^ dbl b := by
  have h : ((List.range 256).all fun a => (List.range 256).all fun b => dbl (a ^^^ b) == dbl a ^^^ dbl b) = true := by decide +kernel
  simpa using two_bytes h a b ha hb
theorem prod4 (a : Nat) (ha : a < 256) : prod a 4 = dbl (dbl a) := by
  have h : (List.range 256).all (fun a => prod a 4 == dbl (dbl a)) = true := by decide +kernel
  simpa using byte_all h a ha
theorem list16 {s : List Nat} (h : s.length = 16) : ∃ x0 x1 x2 x3 x4 x5 x6 x7 x8 x9 x10 x11 x12 x13 x14 x15, s = [x0, x1, x2, x3, x4, x5, x6, x7, x8, x9, x10, x11, x12, x13, x14, x15] := by
  match s, h with
  | [x0, x1, x2, x3, x4, x5, x6, x7, x8, x9, x10, x11, x12, x13, x14, x15], _ => exact ⟨x0, x1, x2, x3, x4, x5, x6, x7, x8, x9, x10, x11, x12, x13, x14, x15, rfl⟩
theorem gather_spread {ks s : List Nat} (h : s.length = 16) : St.gather.ap ks (St.spread.ap ks s) = s := by
  obtain ⟨x0, x1, x2, x3, x4, x5, x6, x7, x8, x9, x10, x11, x12, x13, x14, x15, rfl⟩ := list16 h
  rfl
theorem spread_gather {ks s : List Nat} (h : s.length = 16) : St.spread.ap ks (St.gather.ap ks s) = s := by
  obtain ⟨x0, x1, x2, x3, x4, x5, x6, x7, x8, x9, x10, x11, x12, x13, x14, x15, rfl⟩ := list16 h
  rfl
theorem unshift_shift {ks s : List Nat} (h : s.length = 16) : St.unshift.ap ks (St.shift.ap ks s) = s := by
  obtain ⟨x0, x1, x2, x3, x4, x5, x6, x7, x8, x9, x10, x11, x12, x13, x14, x15, rfl⟩ := list16 h
  rfl
theorem shift_unshift {ks s : List Nat} (h : s.length = 16) : St.shift.ap ks (St.unshift.ap ks s) = s := by
  obtain ⟨x0, x1, x2, x3, x4, x5, x6, x7, x8, x9, x10, x11, x12, x13, x14, x15, rfl⟩ := list16 h
  rfl
theorem subE_ap {ks s : List Nat} (h : s.length = 16) : St.sub.ap ks s = s.map sub := by
  obtain ⟨x0, x1, x2, x3, x4, x5, x6, x7, x8, x9, x10, x11, x12, x13, x14, x15, rfl⟩ := list16 h
  rfl
theorem unsubE_ap {ks s : List Nat} (h : s.length = 16) : St.unsub.ap ks s = s.map unsub := by
  obtain ⟨x0, x1, x2, x3, x4, x5, x6, x7, x8, x9, x10, x11, x12, x13, x14, x15, rfl⟩ := list16 h
  rfl
theorem map_id_of {f : Nat → Nat} {s : List Nat} (h : ∀ x ∈ s, f x = x) : s.map f = s := by
  induction s with
  | nil => rfl
  | cons x s ih => rw [List.map_cons, h x List.mem_cons_self, ih fun y hy => h y (List.mem_cons_of_mem _ hy)]
theorem unsub_sub_ap {ks s : List Nat} (h : s.length = 16) (hs : Byt s) : St.unsub.ap ks (St.sub.ap ks s) = s := by
  rw [subE_ap h, unsubE_ap (by simpa using h), List.map_map]
  exact map_id_of fun x hx => by simp only [Function.comp]; exact unsub_sub x (hs x hx)
theorem sub_unsub_ap {ks s : List Nat} (h : s.length = 16) (hs : Byt s) : St.sub.ap ks (St.unsub.ap ks s) = s := by
  rw [unsubE_ap h, subE_ap (by simpa using h), List.map_map]
  exact map_id_of fun x hx => by simp only [Function.comp]; exact sub_unsub x (hs x hx)
theorem key_key {ks s : List Nat} (h : s.length = 16) (n : Nat) : (St.key n).ap ks ((St.key n).ap ks s) = s := by
  obtain ⟨x0, x1, x2, x3, x4, x5, x6, x7, x8, x9, x10, x11, x12, x13, x14, x15, rfl⟩ := list16 h
  have e : ∀ (y0 y1 y2 y3 y4 y5 y6 y7 y8 y9 y10 y11 y12 y13 y14 y15 : Nat) (k : List Nat), keyE.map (nden (at8 ([y0, y1, y2, y3, y4, y5, y6, y7, y8, y9, y10, y11, y12, y13, y14, y15] ++ k))) =
      [y0 ^^^ at8 k 0, y1 ^^^ at8 k 4, y2 ^^^ at8 k 8, y3 ^^^ at8 k 12, y4 ^^^ at8 k 1, y5 ^^^ at8 k 5, y6 ^^^ at8 k 9, y7 ^^^ at8 k 13, y8 ^^^ at8 k 2, y9 ^^^ at8 k 6, y10 ^^^ at8 k 10, y11 ^^^ at8 k 14, y12 ^^^ at8 k 3, y13 ^^^ at8 k 7, y14 ^^^ at8 k 11, y15 ^^^ at8 k 15] := by
    intros; rfl
  show keyE.map (nden (at8 (keyE.map (nden (at8 (_ ++ keyAt ks n))) ++ keyAt ks n))) = _
  rw [e, e]
  simp only [Nat.xor_assoc, Nat.xor_self, Nat.xor_zero]
theorem dblE_den (f : Nat → Nat) (e : Ex) (h : nden f e < 256) : nden f (dblE e) = dbl (nden f e) := by
  show (nden f e * 2 ^ 1 % 256) ^^^ ((nden f e / 2 ^ 7) * 27 % 256) = _
  unfold dbl
  congr 1
  omega
theorem mixOf_get (v : Nat → Nat → Ex) (r c : Nat) (hr : r < 4) (hc : c < 4) : (mixOf v)[4 * r + c]? = some (xorE (xorE (dblE (xorE (v r c) (v ((r + 1) % 4) c))) (v r c)) (xorE (xorE (xorE (v 0 c) (v 1 c)) (v 2 c)) (v 3 c))) := by
  have h : 4 * r + c < 16 := by omega
  simp only [mixOf, row, List.getElem?_map, List.getElem?_range h, Option.map_some]
  rw [show (4 * r + c) / 4 = r by omega, show (4 * r + c) % 4 = c by omega]
def mixB (a b t : Nat) : Nat := dbl (a ^^^ b) ^^^ a ^^^ t
theorem mixOf_den {f : Nat → Nat} (v : Nat → Nat → Ex) (hv : ∀ r c, nden f (v r c) < 256) (r c : Nat) (hr : r < 4) (hc : c < 4) :
    at8 ((mixOf v).map (nden f)) (4 * r + c) = mixB (nden f (v r c)) (nden f (v ((r + 1) % 4) c)) (nden f (v 0 c) ^^^ nden f (v 1 c) ^^^ nden f (v 2 c) ^^^ nden f (v 3 c)) := by
  simp only [at8, List.getD, List.getElem?_map, mixOf_get v r c hr hc, Option.map_some, Option.getD_some]
  show nden f (dblE (xorE (v r c) (v ((r + 1) % 4) c))) ^^^ nden f (v r c) ^^^ _ = _
  rw [dblE_den f (xorE (v r c) (v ((r + 1) % 4) c)) (xor8 (hv r c) (hv _ c))]
  rfl
theorem xor_left_self (x y : Nat) : x ^^^ (x ^^^ y) = y := by rw [← Nat.xor_assoc, Nat.xor_self, Nat.zero_xor]
def pre (a c : Nat) : Nat := a ^^^ dbl (dbl (a ^^^ c))
theorem pre_lt {a c : Nat} (ha : a < 256) (hc : c < 256) : pre a c < 256 := xor8 ha (dbl_lt (dbl_lt (xor8 ha hc)))
theorem mixB_lt {a b t : Nat} (ha : a < 256) (hb : b < 256) (ht : t < 256) : mixB a b t < 256 := xor8 (xor8 (dbl_lt (xor8 ha hb)) ha) ht
theorem xlc (x y z : Nat) : x ^^^ (y ^^^ z) = y ^^^ (x ^^^ z) := by rw [← Nat.xor_assoc, Nat.xor_comm x y, Nat.xor_assoc]
theorem pre_pre (a c : Nat) : pre (pre a c) (pre c a) = a := by
  have e : pre a c ^^^ pre c a = a ^^^ c := by
    unfold pre
    rw [Nat.xor_comm c a]
    simp only [Nat.xor_assoc, Nat.xor_comm, xlc, xor_left_self, Nat.xor_self, Nat.xor_zero, Nat.zero_xor]
  show pre a c ^^^ dbl (dbl (pre a c ^^^ pre c a)) = a
  rw [e]
  unfold pre
  simp only [Nat.xor_assoc, Nat.xor_comm, xlc, xor_left_self, Nat.xor_self, Nat.xor_zero, Nat.zero_xor]
theorem mix_two (a b c d T : Nat) (ha : a < 256) (hb : b < 256) (hc : c < 256) (hT : a ^^^ b ^^^ c ^^^ d = T) : mixB (mixB a b T) (mixB b c T) T = pre a c := by
  have lab := xor8 ha hb
  have lbc := xor8 hb hc
  have lac := xor8 ha hc
  have e1 : mixB a b T ^^^ mixB b c T = dbl (a ^^^ c) ^^^ (a ^^^ b) := by
    have : dbl (a ^^^ c) = dbl (a ^^^ b) ^^^ dbl (b ^^^ c) := by rw [← dbl_xor _ _ lab lbc]; congr 1; simp only [Nat.xor_assoc, xor_left_self]
    rw [this]
    unfold mixB
    simp only [Nat.xor_assoc, Nat.xor_comm, xlc, xor_left_self, Nat.xor_self, Nat.xor_zero, Nat.zero_xor]
  show dbl (mixB a b T ^^^ mixB b c T) ^^^ mixB a b T ^^^ T = pre a c
  rw [e1, dbl_xor _ _ (dbl_lt lac) lab]
  unfold mixB pre
  simp only [Nat.xor_assoc, Nat.xor_comm, xlc, xor_left_self, Nat.xor_self, Nat.xor_zero, Nat.zero_xor]
theorem mix_sum (a b c d T : Nat) (ha : a < 256) (hb : b < 256) (hc : c < 256) (hd : d < 256) (hT : a ^^^ b ^^^ c ^^^ d = T) : mixB a b T ^^^ mixB b c T ^^^ mixB c d T ^^^ mixB d a T = T := by
  have lab := xor8 ha hb
  have lbc := xor8 hb hc
  have lcd := xor8 hc hd
  have e : dbl (d ^^^ a) = dbl (a ^^^ b) ^^^ dbl (b ^^^ c) ^^^ dbl (c ^^^ d) := by
    rw [← dbl_xor _ _ lab lbc, ← dbl_xor _ _ (xor8 lab lbc) lcd]
    congr 1
    simp only [Nat.xor_assoc, Nat.xor_comm, xlc, xor_left_self, Nat.xor_self, Nat.xor_zero, Nat.zero_xor]
  unfold mixB
  rw [e, ← hT]
  simp only [Nat.xor_assoc, Nat.xor_comm, xlc, xor_left_self, Nat.xor_self, Nat.xor_zero, Nat.zero_xor]
theorem ext16 {s t : List Nat} (hs : s.length = 16) (ht : t.length = 16) (h : ∀ r c, r < 4 → c < 4 → at8 s (4 * r + c) = at8 t (4 * r + c)) : s = t := by
  refine List.ext_getElem (by omega) fun i h1 h2 => ?_
  have := h (i / 4) (i % 4) (by omega) (by omega)
  rw [show 4 * (i / 4) + i % 4 = i by omega] at this
  simpa [at8, List.getD, List.getElem?_eq_getElem h1, List.getElem?_eq_getElem h2] using this
def preL (s : List Nat) : List Nat := (List.range 16).map fun i => pre (at8 s i) (at8 s ((i + 8) % 16))
theorem preL_length (s : List Nat) : (preL s).length = 16 := by simp [preL]
theorem preL_get (s : List Nat) (r c : Nat) (hr : r < 4) (hc : c < 4) : at8 (preL s) (4 * r + c) = pre (at8 s (4 * r + c)) (at8 s (4 * ((r + 2) % 4) + c)) := by
  have h : 4 * r + c < 16 := by omega
  simp only [at8, preL, List.getD, List.getElem?_map, List.getElem?_range h, Option.map_some, Option.getD_some]
  rw [show (4 * r + c + 8) % 16 = 4 * ((r + 2) % 4) + c by omega]
theorem preL_byt {s : List Nat} (hs : Byt s) : Byt (preL s) := fun x hx => by
  obtain ⟨i, _, rfl⟩ := List.mem_map.1 hx
  exact pre_lt (byt_at hs _) (byt_at hs _)
theorem mixL_get {ks s : List Nat} (hs : Byt s) (r c : Nat) (hr : r < 4) (hc : c < 4) : at8 (St.mix.ap ks s) (4 * r + c) = mixB (at8 s (4 * r + c)) (at8 s (4 * ((r + 1) % 4) + c)) (at8 s c ^^^ at8 s (4 + c) ^^^ at8 s (8 + c) ^^^ at8 s (12 + c)) := by
  have := mixOf_den (f := at8 s) (fun r c => .var (4 * r + c)) (fun r c => byt_at hs _) r c hr hc
  simp only [nden, Nat.mul_zero, Nat.zero_add, Nat.mul_one, show 4 * 2 = 8 from rfl, show 4 * 3 = 12 from rfl] at this
  exact this
theorem mix_mix {ks s : List Nat} (hs : Byt s) (hk : Byt ks) : St.mix.ap ks (St.mix.ap ks s) = preL s := by
  have hm := (St.ap_ok hk hs .mix)
  refine ext16 (St.ap_ok hk hm.2 .mix).1 (preL_length s) fun r c hr hc => ?_
  have g := fun r hr => mixL_get (ks := ks) hs r c hr hc
  rw [mixL_get hm.2 r c hr hc, preL_get s r c hr hc]
  have g0 := g 0 (by decide)
  have g1 := g 1 (by decide)
  have g2 := g 2 (by decide)
  have g3 := g 3 (by decide)
  simp only [Nat.mul_zero, Nat.zero_add, Nat.mul_one, show 4 * 2 = 8 from rfl, show 4 * 3 = 12 from rfl, show (0 + 1) % 4 = 1 from rfl, show (1 + 1) % 4 = 2 from rfl, show (2 + 1) % 4 = 3 from rfl, show (3 + 1) % 4 = 0 from rfl] at g0 g1 g2 g3
  have ha := byt_at hs c
  have hb := byt_at hs (4 + c)
  have hcc := byt_at hs (8 + c)
  have hd := byt_at hs (12 + c)
  rw [g0, g1, g2, g3, mix_sum _ _ _ _ _ ha hb hcc hd rfl]
  have hcase : r = 0 ∨ r = 1 ∨ r = 2 ∨ r = 3 := by omega
  rcases hcase with rfl | rfl | rfl | rfl <;> simp only [Nat.mul_zero, Nat.zero_add, Nat.mul_one, show 4 * 2 = 8 from rfl, show 4 * 3 = 12 from rfl, show (0 + 1) % 4 = 1 from rfl, show (1 + 1) % 4 = 2 from rfl, show (2 + 1) % 4 = 3 from rfl, show (3 + 1) % 4 = 0 from rfl, show (0 + 2) % 4 = 2 from rfl, show (1 + 2) % 4 = 3 from rfl, show (2 + 2) % 4 = 0 from rfl, show (3 + 2) % 4 = 1 from rfl, g0, g1, g2, g3]
  · exact mix_two _ _ _ (at8 s (12 + c)) _ ha hb hcc rfl
  · exact mix_two _ _ _ (at8 s c) _ hb hcc hd (by simp only [Nat.xor_assoc, Nat.xor_comm, xlc])
  · exact mix_two _ _ _ (at8 s (4 + c)) _ hcc hd ha (by simp only [Nat.xor_assoc, Nat.xor_comm, xlc])
  · exact mix_two _ _ _ (at8 s (8 + c)) _ hd ha hb (by simp only [Nat.xor_assoc, Nat.xor_comm, xlc])
theorem preL_preL {s : List Nat} (hl : s.length = 16) : preL (preL s) = s := by
  refine ext16 (preL_length _) hl fun r c hr hc => ?_
  rw [preL_get _ r c hr hc, preL_get s r c hr hc, preL_get s _ c (Nat.mod_lt _ (by decide)) hc, show ((r + 2) % 4 + 2) % 4 = r by omega]
  exact pre_pre _ _
theorem unmix_mixpre {ks s : List Nat} (hs : Byt s) (hk : Byt ks) : St.unmix.ap ks s = St.mix.ap ks (preL s) := by
  have hp := preL_byt hs
  refine ext16 (St.ap_ok hk hs .unmix).1 (St.ap_ok hk hp .mix).1 fun r c hr hc => ?_
  have hv : ∀ r c, nden (at8 s) (xorE (.var (4 * r + c)) (.app 0 (xorE (.var (4 * r + c)) (.var (4 * ((r + 2) % 4) + c))) (.lit 4))) = pre (at8 s (4 * r + c)) (at8 s (4 * ((r + 2) % 4) + c)) := fun r c => by
    show at8 s (4 * r + c) ^^^ prod (at8 s (4 * r + c) ^^^ at8 s (4 * ((r + 2) % 4) + c)) 4 = _
    rw [prod4 _ (xor8 (byt_at hs _) (byt_at hs _))]
    rfl
  have e := mixOf_den (f := at8 s) (fun r c => xorE (.var (4 * r + c)) (.app 0 (xorE (.var (4 * r + c)) (.var (4 * ((r + 2) % 4) + c))) (.lit 4))) (fun r c => by rw [hv]; exact pre_lt (byt_at hs _) (byt_at hs _)) r c hr hc
  simp only [hv] at e
  rw [mixL_get hp r c hr hc]
  refine e.trans ?_
  have q := fun r hr => preL_get s r c hr hc
  have q0 := q 0 (by decide)
  have q1 := q 1 (by decide)
  have q2 := q 2 (by decide)
  have q3 := q 3 (by decide)
  simp only [Nat.mul_zero, Nat.zero_add, Nat.mul_one, show 4 * 2 = 8 from rfl, show 4 * 3 = 12 from rfl] at q0 q1 q2 q3
  rw [q r hr, q _ (Nat.mod_lt _ (by decide)), q0, q1, q2, q3]
  simp only [Nat.mul_zero, Nat.zero_add, Nat.mul_one, show 4 * 2 = 8 from rfl, show 4 * 3 = 12 from rfl]
theorem unmix_mix {ks s : List Nat} (hl : s.length = 16) (hs : Byt s) (hk : Byt ks) : St.unmix.ap ks (St.mix.ap ks s) = s := by
  have hm := (St.ap_ok hk hs .mix).2
  rw [unmix_mixpre hm hk, ← mix_mix hm hk, mix_mix hs hk, mix_mix (preL_byt hs) hk, preL_preL hl]
theorem mix_unmix {ks s : List Nat} (hl : s.length = 16) (hs : Byt s) (hk : Byt ks) : St.mix.ap ks (St.unmix.ap ks s) = s := by
  rw [unmix_mixpre hs hk, mix_mix (preL_byt hs) hk, preL_preL hl]
def St.inv : St → St
  | .spread => .gather
  | .gather => .spread
  | .key n => .key n
  | .sub => .unsub
  | .shift => .unshift
  | .mix => .unmix
  | .unsub => .sub
  | .unshift => .shift
  | .unmix => .mix
theorem St.inv_ap {ks s : List Nat} (hk : Byt ks) (hl : s.length = 16) (hs : Byt s) (st : St) : st.inv.ap ks (st.ap ks s) = s := by
  cases st
  · exact gather_spread hl
  · exact spread_gather hl
  · exact key_key hl _
  · exact unsub_sub_ap hl hs
  · exact unshift_shift hl
  · exact unmix_mix hl hs hk
  · exact sub_unsub_ap hl hs
  · exact shift_unshift hl
  · exact mix_unmix hl hs hk
theorem runSt_inv {ks : List Nat} (hk : Byt ks) : ∀ (l : List St) (s : List Nat), s.length = 16 → Byt s → runSt ks (l.reverse.map St.inv) (runSt ks l s) = s
  | [], _, _, _ => rfl
  | st :: l, s, hl, hs => by
    obtain ⟨h1, h2⟩ := st.ap_ok hk hs
    rw [List.reverse_cons, List.map_append, runSt_append]
    show runSt ks _ (runSt ks _ (runSt ks l (st.ap ks s))) = s
    rw [runSt_inv hk l _ h1 h2]
    exact st.inv_ap hk hl hs
theorem back_forth {ks b : List Nat} (hk : Byt ks) (hl : b.length = 16) (hb : Byt b) : backL ks (forthL ks b 10) = b := by
  have e : backSt = (forthSt 10).reverse.map St.inv := by decide +kernel
  unfold backL forthL
  rw [e]
  exact runSt_inv hk _ b hl hb
theorem forth_back {ks b : List Nat} (hk : Byt ks) (hl : b.length = 16) (hb : Byt b) : forthL ks (backL ks b) 10 = b := by
  have e : forthSt 10 = backSt.reverse.map St.inv := by decide +kernel
  unfold backL forthL
  rw [e]
  exact runSt_inv hk _ b hl hb
def named (f : Nat → Nat) (o n : Nat) : List Nat := (List.range n).map fun i => f (o + i)
theorem named_length (f : Nat → Nat) (o n : Nat) : (named f o n).length = n := by simp [named]
theorem named_byt {f : Nat → Nat} (hf : ∀ i, f i < 256) (o n : Nat) : Byt (named f o n) := fun x hx => by
  obtain ⟨i, _, rfl⟩ := List.mem_map.1 hx
  exact hf _
theorem named_inst {f : Nat → Nat} (hf : ∀ i, f i < 256) (ms : List Nat) (o n : Nat) : (TV.agg (vars o n)).inst (envB f) ms = some (.agg (cells8 (named f o n))) :=
  vars_inst hf ms o n _ (named_length f o n) fun i hi => by simp [named, List.getD, hi]
def V (o n : Nat) : AV := .tv (.agg (vars o n))
def N64 (n : Int) : AV := .tv (.sc (.int .i64 (.lit n)))
def B8 (i : Nat) : AV := .tv (.sc (.int .u8 (.var i)))
theorem V_inst {f : Nat → Nat} (hf : ∀ i, f i < 256) (ms : List Nat) (o n : Nat) : (V o n).inst (envB f) ms = some (.agg (cells8 (named f o n))) := by
  unfold V
  simp only [AV.inst]
  exact named_inst hf ms o n
def tabCon (t : List (Nat × List AV × AV)) : ConF := fun g xs _ => (t.find? fun e => decide (e.1 = g) && decide (e.2.1 = xs)).map (·.2.2)
def EntOk (ρ : Env) (e : Nat × List AV × AV) : Prop :=
  ∀ (ms : List Nat) (w : World) (args : Array Value), e.2.1.map (AV.inst ρ ms) = args.toList.map some → Calls Try.prog e.1 args w fun r w' => ∃ u, r = .returned u ∧ e.2.2.inst ρ ms = some u ∧ Below w.heap.size w w'
theorem tabCon_ok {ρ : Env} {t : List (Nat × List AV × AV)} (h : ∀ e ∈ t, EntOk ρ e) : ConOk Try.prog ρ (tabCon t) := by
  intro g xs H v hv ms B w args ha hH
  unfold tabCon at hv
  rw [Option.map_eq_some_iff] at hv
  obtain ⟨e, h1, rfl⟩ := hv
  have h2 := List.find?_some h1
  simp only [Bool.and_eq_true, decide_eq_true_eq] at h2
  obtain ⟨rfl, rfl⟩ := h2
  exact h e (List.mem_of_find?_eq_some h1) ms w args ha
theorem ent1 {f : Nat → Nat} (hf : ∀ i, f i < 256) {g o n o' n' : Nat} (h : ∀ w, Calls Try.prog g #[.agg (cells8 (named f o n))] w fun e w' => e = .returned (.agg (cells8 (named f o' n'))) ∧ Below w.heap.size w w') : EntOk (envB f) (g, [V o n], V o' n') := by
  intro ms w args ha
  have ea : args = #[.agg (cells8 (named f o n))] := by
    obtain ⟨l⟩ := args
    have hl : l.length = 1 := by have := congrArg List.length ha; simpa using this.symm
    match l, hl, ha with
    | [u], _, ha =>
      simp only [List.map_cons, List.map_nil, List.cons.injEq, and_true, V_inst hf, Option.some.injEq] at ha
      subst ha
      rfl
  subst ea
  exact (h w).mono fun e w' ⟨q1, q2⟩ => ⟨_, q1, V_inst hf ms o' n', q2⟩
theorem ent2 {f : Nat → Nat} (hf : ∀ i, f i < 256) {g o n p m o' n' : Nat} (h : ∀ w, Calls Try.prog g #[.agg (cells8 (named f o n)), .agg (cells8 (named f p m))] w fun e w' => e = .returned (.agg (cells8 (named f o' n'))) ∧ Below w.heap.size w w') : EntOk (envB f) (g, [V o n, V p m], V o' n') := by
  intro ms w args ha
  have ea : args = #[.agg (cells8 (named f o n)), .agg (cells8 (named f p m))] := by
    obtain ⟨l⟩ := args
    have hl : l.length = 2 := by have := congrArg List.length ha; simpa using this.symm
    match l, hl, ha with
    | [u, u'], _, ha =>
      simp only [List.map_cons, List.map_nil, List.cons.injEq, and_true, V_inst hf, Option.some.injEq] at ha
      obtain ⟨rfl, rfl⟩ := ha
      rfl
  subst ea
  exact (h w).mono fun e w' ⟨q1, q2⟩ => ⟨_, q1, V_inst hf ms o' n', q2⟩
theorem ent3 {f : Nat → Nat} (hf : ∀ i, f i < 256) {g o n p m o' n' : Nat} {k : Int} (h : ∀ w, Calls Try.prog g #[.agg (cells8 (named f o n)), .agg (cells8 (named f p m)), .int .i64 k] w fun e w' => e = .returned (.agg (cells8 (named f o' n'))) ∧ Below w.heap.size w w') : EntOk (envB f) (g, [V o n, V p m, N64 k], V o' n') := by
  intro ms w args ha
  have ea : args = #[.agg (cells8 (named f o n)), .agg (cells8 (named f p m)), .int .i64 k] := by
    obtain ⟨l⟩ := args
    have hl : l.length = 3 := by have := congrArg List.length ha; simpa using this.symm
    match l, hl, ha with
    | [u, u', u''], _, ha =>
      simp only [List.map_cons, List.map_nil, List.cons.injEq, and_true, V_inst hf, Option.some.injEq] at ha
      obtain ⟨rfl, rfl, ha⟩ := ha
      simp only [N64, AV.inst, TV.inst, SV.inst, Ex.den, Option.some.injEq] at ha
      subst ha
      rfl
  subst ea
  exact (h w).mono fun e w' ⟨q1, q2⟩ => ⟨_, q1, V_inst hf ms o' n', q2⟩
theorem ent0 {ρ : Env} {g : Nat} {b : Bool} (h : ∀ w, Calls Try.prog g #[] w fun e w' => e = .returned (.bool b) ∧ Below w.heap.size w w') : EntOk ρ (g, [], .tv (.sc (.bool b))) := by
  intro ms w args ha
  have ea : args = #[] := by cases args; simp_all
  subst ea
  exact (h w).mono fun e w' ⟨q1, q2⟩ => ⟨_, q1, rfl, q2⟩
theorem eq_cells : ∀ (l m : List Nat), l.length = m.length → all2 alike (l.map fun x : Nat => Value.int .u8 (x : Int)) (m.map fun x : Nat => Value.int .u8 (x : Int)) = true ∧ all2 eqv (l.map fun x : Nat => Value.int .u8 (x : Int)) (m.map fun x : Nat => Value.int .u8 (x : Int)) = decide (l = m)
  | [], [], _ => ⟨rfl, rfl⟩
  | [], _ :: _, h => by simp at h
  | _ :: _, [], h => by simp at h
  | x :: l, y :: m, h => by
    obtain ⟨h1, h2⟩ := eq_cells l m (by simpa using h)
    refine ⟨by simp [all2, alike, h1], ?_⟩
    simp only [List.map_cons, all2, h2, eqv, List.cons.injEq]
    by_cases e : x = y
    · subst e; simp
    · simp [e]
      intro h; omega
def tabFact (t : List (List SV × List SV × Bool)) (l m : List SV) : Option Bool := (t.find? fun e => decide (e.1 = l) && decide (e.2.1 = m)).map (·.2.2)
def FactOk (ρ : Env) (e : List SV × List SV × Bool) : Prop :=
  ∃ a b : List Nat, a.length = b.length ∧ (∀ ms, e.1.map (SV.inst ρ ms) = (a.map fun x : Nat => Value.int .u8 (x : Int)).map some) ∧ (∀ ms, e.2.1.map (SV.inst ρ ms) = (b.map fun x : Nat => Value.int .u8 (x : Int)).map some) ∧ e.2.2 = decide (a = b)
theorem some_inj {α : Type} : ∀ {a b : List α}, a.map some = b.map some → a = b
  | [], [], _ => rfl
  | [], _ :: _, h => by simp at h
  | _ :: _, [], h => by simp at h
  | x :: a, y :: b, h => by
    simp only [List.map_cons, List.cons.injEq, Option.some.injEq] at h
    rw [h.1, some_inj h.2]
theorem tabFact_ok {ρ : Env} {t : List (List SV × List SV × Bool)} (h : ∀ e ∈ t, FactOk ρ e) : LoreOk ρ ⟨fun _ _ _ => none, id, tabFact t⟩ := by
  refine ⟨fun _ _ _ _ h => by simp at h, fun _ => rfl, fun l m r hr ms vs us hv hu => ?_⟩
  simp only [tabFact] at hr
  rw [Option.map_eq_some_iff] at hr
  obtain ⟨e, h1, rfl⟩ := hr
  have h2 := List.find?_some h1
  simp only [Bool.and_eq_true, decide_eq_true_eq] at h2
  obtain ⟨rfl, rfl⟩ := h2
  obtain ⟨a, b, hab, ha, hb, hd⟩ := h e (List.mem_of_find?_eq_some h1)
  obtain rfl := some_inj (hv.symm.trans (ha ms))
  obtain rfl := some_inj (hu.symm.trans (hb ms))
  rw [hd]
  exact eq_cells a b hab
theorem entB1 {f : Nat → Nat} (hf : ∀ i, f i < 256) {g i j : Nat} (h : ∀ w, Calls Try.prog g #[.int .u8 ((f i : Nat) : Int)] w fun e w' => e = .returned (.int .u8 ((f j : Nat) : Int)) ∧ Below w.heap.size w w') : EntOk (envB f) (g, [B8 i], B8 j) := by
  intro ms w args ha
  have ea : args = #[.int .u8 ((f i : Nat) : Int)] := by
    obtain ⟨l⟩ := args
    have hl : l.length = 1 := by have := congrArg List.length ha; simpa using this.symm
    match l, hl, ha with
    | [u], _, ha =>
      simp only [B8, List.map_cons, List.map_nil, List.cons.injEq, and_true, AV.inst, TV.inst, SV.inst, Ex.den, Option.some.injEq] at ha
      subst ha
      rfl
  subst ea
  exact (h w).mono fun e w' ⟨q1, q2⟩ => ⟨_, q1, rfl, q2⟩
def tabCmp (t : List (BinOp × Ex × Ex × Bool)) (op : BinOp) (a b : Ex) : Option Bool := (t.find? fun e => decide (e.1 = op) && decide (e.2.1 = a) && decide (e.2.2.1 = b)).map (·.2.2.2)
def CmpOk (ρ : Env) (e : BinOp × Ex × Ex × Bool) : Prop := cmpOf e.1 (e.2.1.den ρ) (e.2.2.1.den ρ) = some e.2.2.2
def tabLore (c : List (BinOp × Ex × Ex × Bool)) (t : List (List SV × List SV × Bool)) : Lore := ⟨tabCmp c, id, tabFact t⟩
theorem tabLore_ok {ρ : Env} {c : List (BinOp × Ex × Ex × Bool)} {t : List (List SV × List SV × Bool)} (hc : ∀ e ∈ c, CmpOk ρ e) (h : ∀ e ∈ t, FactOk ρ e) : LoreOk ρ (tabLore c t) := by
  refine ⟨fun op a b r hr => ?_, fun _ => rfl, (tabFact_ok h).factA⟩
  simp only [tabLore, tabCmp] at hr
  rw [Option.map_eq_some_iff] at hr
  obtain ⟨e, h1, rfl⟩ := hr
  have h2 := List.find?_some h1
  simp only [Bool.and_eq_true, decide_eq_true_eq] at h2
  obtain ⟨⟨rfl, rfl⟩, rfl⟩ := h2
  exact hc e (List.mem_of_find?_eq_some h1)
theorem vars_map {f : Nat → Nat} (hf : ∀ i, f i < 256) (o n : Nat) (ms : List Nat) : (vars o n).map (SV.inst (envB f) ms) = ((named f o n).map fun x : Nat => Value.int .u8 (x : Int)).map some := by
  simp [vars, named, SV.inst, Ex.den, envB]
theorem lits_map (ρ : Env) (l : List Nat) (ms : List Nat) : (lits l).map (SV.inst ρ ms) = (l.map fun x : Nat => Value.int .u8 (x : Int)).map some := by
  simp [lits, SV.inst, Ex.den]
theorem ret_true {P : Program} {ρ : Env} {g : Nat} {args : Array Value} {w : World} (h : Calls P g args w fun e w' => ∃ ms u, e = .returned u ∧ (AV.tv (.sc (.bool true))).inst ρ ms = some u ∧ Holds ρ ms [] w.heap.size w' ∧ Below w.heap.size w w') :
    Calls P g args w fun e w' => e = .returned (.bool true) ∧ Below w.heap.size w w' :=
  h.mono fun e w' ⟨ms, u, q1, q2, _, q3⟩ => by
    simp only [AV.inst, TV.inst, SV.inst, Option.some.injEq] at q2
    subst q2
    exact ⟨q1, q3⟩
def rowsEnv (ks : List Nat) (l : List (List Nat)) : Nat → Nat := fun i => if i < 176 then at8 ks i else at8 (l.getD ((i - 176) / 16) []) ((i - 176) % 16)
theorem rowsEnv_lt {ks : List Nat} {l : List (List Nat)} (hk : Byt ks) (hl : ∀ x ∈ l, Byt x) (i : Nat) : rowsEnv ks l i < 256 := by
  unfold rowsEnv
  split
  · exact byt_get hk i
  · refine byt_get ?_ _
    by_cases h : (i - 176) / 16 < l.length
    · rw [show l.getD ((i - 176) / 16) [] = l[(i - 176) / 16] by simp [List.getD, List.getElem?_eq_getElem h]]
      exact hl _ (List.getElem_mem h)
    · rw [show l.getD ((i - 176) / 16) [] = [] by simp [List.getD, List.getElem?_eq_none (by omega : l.length ≤ (i - 176) / 16)]]
      exact fun x hx => by simp at hx
theorem named_row {ks : List Nat} {l : List (List Nat)} (p : Nat) {s : List Nat} (hs : l[p]? = some s) (hl : s.length = 16) : named (rowsEnv ks l) (176 + 16 * p) 16 = s := by
  refine List.ext_getElem (by rw [named_length, hl]) fun i h1 h2 => ?_
  have hi : i < 16 := by simpa [named_length] using h1
  simp only [named, List.getElem_map, List.getElem_range, rowsEnv]
  rw [if_neg (by omega), show (176 + 16 * p + i - 176) / 16 = p by omega, show (176 + 16 * p + i - 176) % 16 = i by omega]
  simp [at8, List.getD, hs, List.getElem?_eq_getElem h2]
theorem named_keys {ks : List Nat} {l : List (List Nat)} (hk : ks.length = 176) : named (rowsEnv ks l) 0 176 = ks := by
  refine List.ext_getElem (by rw [named_length, hk]) fun i h1 h2 => ?_
  have hi : i < 176 := by simpa [named_length] using h1
  simp only [named, List.getElem_map, List.getElem_range, rowsEnv, Nat.zero_add]
  rw [if_pos hi]
  simp [at8, List.getD, List.getElem?_eq_getElem h2]
theorem named_low {ks : List Nat} {l : List (List Nat)} {i : Nat} (hi : i < 176) : rowsEnv ks l i = at8 ks i := by
  unfold rowsEnv
  rw [if_pos hi]
theorem named_key {ks : List Nat} {l : List (List Nat)} {k : List Nat} (hl : k.length = 16) (hk : Byt k) (e : ks = schedL k) : named (rowsEnv ks l) 0 16 = k := by
  subst e
  refine List.ext_getElem (by rw [named_length, hl]) fun i h1 h2 => ?_
  have hi : i < 16 := by simpa [named_length] using h1
  simp only [named, List.getElem_map, List.getElem_range, rowsEnv, Nat.zero_add]
  rw [if_pos (by omega), ← (schedL_ok hl hk).2.2 i (by omega)]
  unfold schedF
  rw [show i / 16 = 0 by omega, show i % 16 = i by omega]
  simp [blk, at8, List.getD, List.getElem?_eq_getElem h2]
theorem zeros_at (n i : Nat) : at8 (zeros8 n) i = 0 := by
  simp only [at8, zeros8, List.getD, List.getElem?_replicate]
  split <;> rfl
theorem sched_ne {k : List Nat} (hl : k.length = 16) (hk : Byt k) : schedL k ≠ zeros8 176 := by
  intro e
  have h0 : ∀ i, i < 176 → schedF k i = 0 := fun i hi => by rw [(schedL_ok hl hk).2.2 i hi, e]; exact zeros_at 176 i
  have h1 : schedF k 16 = sub (schedF k 13) ^^^ 1 ^^^ schedF k 0 := rfl
  rw [h0 16 (by decide), h0 13 (by decide), h0 0 (by decide)] at h1
  revert h1
  decide +kernel
end Go.Proofs.Ytmpdmkckjajhiaa
