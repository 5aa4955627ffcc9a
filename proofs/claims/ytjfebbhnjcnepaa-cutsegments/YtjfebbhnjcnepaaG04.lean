/- Of the road to cutSegments_holds: EvRange, EvMarks, CutMath, CutLeaf, CutEnv, CutNamesLaw, CutShp, OpensCut, Range. -/
import Derived.Test.YtjfebbhnjcnepaaG03
import Derived.RangeFuncLeaves
import Derived.RangeFuncNested
import Derived.WalkKit
import Derived.Test.YtjfebbhnjcnepaaChecked
import Derived.Test.YtjfebbhnjcnepaaG00
import Derived.RangeFuncBound
import Derived.RangeFuncCalls
import Derived.RangeFuncBox
import Derived.Shelf.Abstract
import Derived.Shelf.RegionOpen
import Derived.OwnWalkIn
import Derived.TacticsInMore
import Derived.LoopNIn
import Derived.LoopIn
set_option linter.unusedVariables false
set_option linter.unusedSimpArgs false
namespace Go.Proofs.Ytjfebbhnjcnepaa.Ev
open Go Go.RowKit
theorem cells_of_cell {w : World} {b j : Nat} {v : Value} (h : (w.cell? ⟨b, j, none⟩) = some v) {o : Obj} (ho : w.heap[b]? = some o) : o.isCells = true := by
  unfold World.cell? at h
  rw [ho] at h
  cases o <;> simp_all [Obj.isCells]
theorem Holds.put {ρ : Env} {ms : List Nat} {H : List Blk} {B : Nat} {w : World} (h : Holds ρ ms H B w) {l : Nat} {o : Obj} (ho : w.heap[l]? = some o) (hc : o.isCells = false) (o' : Obj) : Holds ρ ms H B (w.putObj l o') where
  len := h.len
  gl := h.gl
  inj := h.inj
  low := h.low
  bnd := fun i b k hi hk hne => by simpa using h.bnd i b k hi hk hne
  big := by simpa using h.big
  plain := h.plain
  cell := fun i b k hi hk j s hs => by
    obtain ⟨v, h1, h2, h3⟩ := h.cell i b k hi hk j s hs
    have hbl : b ≠ l := fun e => by
      subst e
      have := cells_of_cell h2 ho
      rw [this] at hc; cases hc
    refine ⟨v, h1, ?_, fun hr => ?_⟩
    · rw [← h2]; unfold World.cell?; rw [World.putObj_heap_other hbl]
    · rw [← h3 hr]; unfold World.frozen?; rw [World.putObj_heap_other hbl]
  room := fun i b c k0 k hi hc' hk0 hr0 hn0 hk hcap j hj => by
    obtain ⟨e1, e2⟩ := h.room i b c k0 k hi hc' hk0 hr0 hn0 hk hcap j hj
    have hbl : b ≠ l := fun e => by
      subst e
      cases hx : w.cell? ⟨b, j, none⟩ with
      | none => rw [hx] at e1; simp at e1
      | some x =>
        have := cells_of_cell hx ho
        rw [this] at hc; cases hc
    refine ⟨?_, ?_⟩
    · rw [← e1]; unfold World.cell?; rw [World.putObj_heap_other hbl]
    · rw [← e2]; unfold World.frozen?; rw [World.putObj_heap_other hbl]
structure BelX (l B : Nat) (w w' : World) : Prop extends Below B w w' where
  kept : ∀ (i : Nat) (o : Obj), i ≠ l → w.heap[i]? = some o → o.isCells = false → w'.heap[i]? = some o
theorem BelX.refl (l B : Nat) (w : World) : BelX l B w w := ⟨Below.refl B w, fun _ _ _ h _ => h⟩
theorem BelX.trans {l B : Nat} {a b c : World} (h : BelX l B a b) (k : BelX l B b c) : BelX l B a c := ⟨h.toBelow.trans k.toBelow, fun i o hl hi hc => k.kept i o hl (h.kept i o hl hi hc) hc⟩
theorem Bel.x {l B : Nat} {w w' : World} (h : Bel B w w') : BelX l B w w' := ⟨h.toBelow, fun i o _ hi hc => h.kept i o hi hc⟩
theorem BelX.put {l B : Nat} (hl : B ≤ l) (w : World) (o : Obj) : BelX l B w (w.putObj l o) :=
  ⟨⟨rfl, rfl, rfl, by simp, fun k hk => World.putObj_heap_other (by omega)⟩, fun i o' hi h _ => (World.putObj_heap_other hi).trans h⟩
def Out.code : Out → Code
  | .normal => .skip
  | .exit i => .exit i
  | .ret => .ret
def pendOf : Out → Option Out
  | .normal => none
  | o => some o
def isN : Out → Bool
  | .normal => true
  | _ => false
def RecP (mkL : LoopState → Option Code → Loop) (l : Nat) (p : Option Out) (w : World) : Prop := w.heap[l]? = some (.loop (match p with | none => mkL .ready none | some o => mkL .done (some o.code)))
theorem RecP.bel {mkL : LoopState → Option Code → Loop} {l : Nat} {p : Option Out} {B : Nat} {w w' : World} (h : RecP mkL l p w) (hb : Bel B w w') : RecP mkL l p w' := hb.kept l _ h rfl
abbrev YF := List AV → List Blk → Option (Out × List Blk)
def yv (l : Nat) : Value := .func (.yield l) #[] #[]
def YOk (P : Program) (ρ : Env) (m0 : List Nat) (l B : Nat) (mkL : LoopState → Option Code → Loop) (yh : YF) : Prop :=
  ∀ aas H o H', yh aas H = some (o, H') → ∀ (n : Nat) (ms : List Nat) (w : World) (args : Array Value), m0 <+: ms → aas.map (AV.inst ρ ms) = args.toList.map some → Holds ρ ms H B w → RecP mkL l none w → ∀ (R : Ending → World → Prop),
    (∀ ms' w', ms <+: ms' → Holds ρ ms' H' B w' → RecP mkL l (pendOf o) w' → BelX l B w w' → R (.returned (.bool (isN o))) w') → YieldAt Fence.wide n P l args w R
def setL : List (Nat × AV) → Tm → Tm
  | [], t => t
  | p :: r, t => setL r (t.set p.1 p.2)
theorem relT_zip {ρ : Env} {ms : List Nat} : ∀ (ps : List Nat) (aas : List AV) (args : List Value) (t : Tm) (tmps : Array Value), aas.map (AV.inst ρ ms) = args.map some → RelT ρ ms t tmps →
    RelT ρ ms (setL (ps.zip aas) t) ((ps.zip args).foldl (fun (tm : Array Value) (p : Nat × Value) => tm.setIfInBounds p.1 p.2) tmps)
  | [], _, _, _, _, _, h => by simpa [setL] using h
  | p :: ps, [], [], t, tmps, _, h => by simpa [setL] using h
  | p :: ps, [], _ :: _, _, _, e, _ => by simp at e
  | p :: ps, _ :: _, [], _, _, e, _ => by simp at e
  | p :: ps, x :: aas, v :: args, t, tmps, e, h => by
    simp only [List.map_cons, List.cons.injEq] at e
    simp only [List.zip_cons_cons, setL, List.foldl_cons]
    exact relT_zip ps aas args _ _ e.2 (RelT.put (a := { tmps := tmps, defers := [] }) h p e.1)
def yhOf (self : CodeF) (ps : Array Tmp) (assign body : Code) (t0 : Tm) : YF := fun aas H =>
  match Nat.beq aas.length ps.size with
  | true =>
    match self assign (setL (ps.toList.zip aas) t0) H with
    | some (.normal, t2, H2) =>
      match self body t2 H2 with
      | some (o, _, H3) => some (o, H3)
      | none => none
    | _ => none
  | false => none
theorem yh_ok {P : Program} {ρ : Env} {self : CodeF} (hs : CodeOkG P ρ self) {fnn : FuncId} {tmps0 : Array Value} {ps : Array Tmp} {assign body : Code} {dd l B : Nat} (ha : calm assign = true) (hb : calm body = true) {m0 : List Nat} {t0 : Tm} (hT0 : RelT ρ m0 t0 tmps0) (hBl : B ≤ l) :
    YOk P ρ m0 l B (fun st pe => { state := st, pending := pe, fn := fnn, tmps := tmps0, params := ps, assign, body, defers := dd }) (yhOf self ps assign body t0) := by
  intro aas H o H' h n ms w args hms hargs hH hR R hK
  unfold yhOf at h
  split at h
  case h_2 => cases h
  rename_i hlen
  split at h
  case h_2 => cases h
  rename_i t2 H2 h1
  split at h
  case h_2 => cases h
  rename_i o' t3 H3 h2
  simp only [Option.some.injEq, Prod.mk.injEq] at h
  obtain ⟨rfl, rfl⟩ := h
  have hsz : args.size = ps.size := by
    have e1 := congrArg List.length hargs
    have e2 := Nat.eq_of_beq_eq_true hlen
    simp at e1
    omega
  unfold RecP at hR
  simp only at hR
  refine ⟨fnn, _, assign, body, run_yield (P := P) hR hsz, roundIn_of_wpIn (F := Fence.wide) trivial ?_⟩
  have hRel : RelT ρ ms (setL (ps.toList.zip aas) t0) ((ps.zip args).foldl (fun (tm : Array Value) (p : Nat × Value) => tm.setIfInBounds p.1 p.2) tmps0) := by
    have := relT_zip ps.toList aas args.toList t0 tmps0 hargs (hT0.mono hms)
    rw [← Array.foldl_toList, Array.toList_zip]
    exact this
  refine hs assign _ H .normal t2 H2 h1 (some l) (.inr ha) n ms B _ w _ hRel hH fun ms1 a1 w1 q1 q2 q3 q4 q5 => ?_
  have hR1 := q5.kept l _ hR rfl
  refine ⟨_, run_beginRound hR1 rfl, ?_⟩
  have hR2 := World.putObj_heap_same (o := Obj.loop { state := .busy, pending := none, fn := fnn, tmps := tmps0, params := ps, assign := assign, body := body, defers := dd }) (Array.getElem?_eq_some_iff.1 hR1).1
  refine hs body t2 H2 o' t3 H3 h2 (some l) (.inr hb) n ms1 B a1 _ _ q2 (q4.put hR1 rfl _) fun ms3 a3 w3 r1 r2 r3 r4 r5 => ?_
  have hR3 := r5.kept l _ hR2 rfl
  have hlt := (Array.getElem?_eq_some_iff.1 hR3).1
  have hB : ∀ o4, BelX l B w (w3.putObj l o4) := fun o4 => ((q5.x.trans (BelX.put hBl _ _)).trans r5.x).trans (BelX.put hBl _ _)
  cases o' with
  | normal => exact ⟨_, _, run_endRound (P := P) none hR3, hK ms3 _ (q1.trans r1) (r4.put hR3 rfl _) (World.putObj_heap_same hlt) (hB _)⟩
  | exit i => exact ⟨_, _, run_endRound (P := P) (some (.exit i)) hR3, hK ms3 _ (q1.trans r1) (r4.put hR3 rfl _) (World.putObj_heap_same hlt) (hB _)⟩
  | ret => exact ⟨_, _, run_endRound (P := P) (some .ret) hR3, hK ms3 _ (q1.trans r1) (r4.put hR3 rfl _) (World.putObj_heap_same hlt) (hB _)⟩
def yCall (Y : List Nat) (o : Oper) : Option (List Operand) :=
  match o.guard with
  | none =>
    match o.op with
    | .call c =>
      match c.callee with
      | .value (.tmp y) => if Y.contains y then some c.args.toList else none
      | _ => none
    | _ => none
  | some _ => none
def yMove (Y : List Nat) (t : Tm) (o : Oper) : Option Nat :=
  match o.guard with
  | none =>
    match o.op with
    | .move (.tmp y) =>
      match o.dst with
      | some d => if Y.contains y && (t.get d).isNone && Nat.blt d t.n then some d else none
      | none => none
    | _ => none
  | some _ => none
noncomputable def evIOps (yh : YF) (call : CallF) (P : Program) (L : Lore) (ops : Array Oper) : List Oper → List Nat → Tm → Option Out → List Blk → Option (Tm × Option Out × List Blk)
  | [], _, t, p, H => some (t, p, H)
  | o :: r, Y, t, p, H =>
    match yCall Y o with
    | some xs =>
      match p with
      | none =>
        match seqO (xs.map (evGet t)) with
        | some aas =>
          match dstFree Y o with
          | true =>
            match yh aas H with
            | some (out, H') => evIOps yh call P L ops r Y (putA t o.dst (.tv (.sc (.bool (isN out))))) (pendOf out) H'
            | none => none
          | false => none
        | none => none
      | some _ => none
    | none =>
      match yMove Y t o with
      | some d => evIOps yh call P L ops r (d :: Y) t p H
      | none =>
        match calmO o && dstFree Y o with
        | true =>
          match opsF call P L ops [o] t H with
          | some (t', H') => evIOps yh call P L ops r Y t' p H'
          | none => none
        | false => none
theorem wanted_none {o : Oper} (h : o.guard = none) (ops : Array Oper) (tm : Array Value) : Region.wanted o (yielded ops tm) = true := by
  unfold Region.wanted
  rw [h]
theorem evIOps_ok {P : Program} {ρ : Env} {L : Lore} (hL : LoreOk ρ L) {call : CallF} (hc : CallOk P ρ call) {m0 : List Nat} {l B : Nat} {mkL : LoopState → Option Code → Loop} {yh : YF} (hy : YOk P ρ m0 l B mkL yh) {ops : Array Oper} {n : Nat} {Q : Exit → Act → World → Prop} :
    ∀ (lst : List Oper) (Y : List Nat) (t : Tm) (p : Option Out) (H : List Blk) (t' : Tm) (p' : Option Out) (H' : List Blk), evIOps yh call P L ops lst Y t p H = some (t', p', H') →
    ∀ (ms : List Nat) (a : Act) (w : World), m0 <+: ms → RelT ρ ms t a.tmps → Ys Y (yv l) a.tmps → 0 ∈ Y → Holds ρ ms H B w → RecP mkL l p w →
    (∀ ms' a' w', ms <+: ms' → RelT ρ ms' t' a'.tmps → a'.tmps[0]? = some (yv l) → a'.defers = a.defers → Holds ρ ms' H' B w' → RecP mkL l p' w' → BelX l B w w' → Q .normal a' w') → wpListIn Fence.wide n P ops Q lst a w
  | [], Y, t, p, H, t', p', H', h, ms, a, w, hms, hT, hY, h0, hH, hR, hQ => by
    simp only [evIOps, Option.some.injEq, Prod.mk.injEq] at h
    obtain ⟨rfl, rfl, rfl⟩ := h
    exact hQ ms a w (List.prefix_refl _) hT (hY 0 h0) rfl hH hR (BelX.refl _ _ _)
  | o :: r, Y, t, p, H, t', p', H', h, ms, a, w, hms, hT, hY, h0, hH, hR, hQ => by
    simp only [evIOps] at h
    unfold wpListIn
    split at h
    · -- the yield
      rename_i xs hx
      unfold yCall at hx
      split at hx
      case h_2 => cases hx
      rename_i hg
      split at hx
      case h_2 => cases hx
      rename_i c hop
      split at hx
      case h_2 => cases hx
      rename_i y hcal
      split at hx
      case isFalse => cases hx
      rename_i hyY
      simp only [Option.some.injEq] at hx
      subst hx
      split at h
      case h_2 => cases h
      split at h
      case h_2 => cases h
      rename_i aas has
      split at h
      case h_2 => cases h
      rename_i hdf
      split at h
      case h_2 => cases h
      rename_i out H1 hyh
      rw [wanted_none hg, if_pos rfl]
      have hyv : a.eval (.tmp y) = yv l := by
        have := hY y (by simpa using hyY)
        simp [Act.eval, Array.getD_eq_getD_getElem?, this]
      have hargs : aas.map (AV.inst ρ ms) = (c.args.map a.eval).toList.map some := by
        rw [seqO_iff] at has
        have key : ∀ (xs : List Operand) (aas : List AV), xs.map (evGet t) = aas.map some → aas.map (AV.inst ρ ms) = (xs.map a.eval).map some := by
          intro xs
          induction xs with
          | nil => intro aas h; cases aas <;> simp at h ⊢
          | cons x xs ih =>
            intro aas h
            cases aas with
            | nil => simp at h
            | cons p aas =>
              simp only [List.map_cons, List.cons.injEq] at h ⊢
              exact ⟨evGet_ok hT h.1, ih aas h.2⟩
        have := key _ _ has
        rw [this]; simp
      obtain ⟨fnn, tm, as1, bd, hrun, hround⟩ := hy aas H out H1 hyh (n - 1) ms w (c.args.map a.eval) hms hargs hH hR (fun e w'' => match e with
        | .returned v => wpListIn Fence.wide n P ops Q r (a.put o.dst v) w''
        | .panicked chain => Q (.panic chain) a w''
        | .outgrown => LetsOut Q) (by
          intro ms1 w1 q1 q2 q3 q4
          have hT1 := (hT.mono q1).putA o.dst (x := .tv (.sc (.bool (isN out)))) (v := .bool (isN out)) rfl
          refine evIOps_ok hL hc hy r Y _ _ H1 t' p' H' h ms1 _ w1 (hms.trans q1) hT1 (hY.put hdf _) h0 q2 q3 fun ms2 a2 w2 r1 r2 r3 r4 r5 r6 r7 => ?_
          exact hQ ms2 a2 w2 (q1.trans r1) r2 r3 (r4.trans (put_defers _ _ _)) r5 r6 (q4.trans r7))
      refine ⟨fun f _ => trivial, ?_⟩
      rw [Oper.semAt_eq _ _ _ (fun c' e => by rw [hop] at e; cases e)]
      have hex : (execOp a.eval o).run P w = .ok (.round l fnn tm as1 bd) w := by
        simp only [execOp, hop, resolve, hcal, hyv, yv, Deferred.ofValue, Sem.run_bind, Sem.run_pure, Result.andThen_ok, invoke]
        simpa using hrun
      rw [hex]
      exact ⟨(fun e => by cases e), hround.mono fun e w1 he => by cases e <;> exact he⟩
    · split at h
      · -- the yield moved
        rename_i d hx
        unfold yMove at hx
        split at hx
        case h_2 => cases hx
        rename_i hg
        split at hx
        case h_2 => cases hx
        rename_i y hop
        split at hx
        case h_2 => cases hx
        rename_i d' hdst
        split at hx
        case isFalse => cases hx
        rename_i hcond
        simp only [Option.some.injEq] at hx
        subst hx
        simp only [Bool.and_eq_true] at hcond
        obtain ⟨⟨hyY, hnone⟩, hlt⟩ := hcond
        rw [wanted_none hg, if_pos rfl]
        have hyv : a.eval (.tmp y) = yv l := by
          have := hY y (by simpa using hyY)
          simp [Act.eval, Array.getD_eq_getD_getElem?, this]
        refine ⟨fun f _ => trivial, ?_⟩
        rw [Oper.semAt_eq _ _ _ (fun c' e => by rw [hop] at e; cases e)]
        have hex : (execOp a.eval o).run P w = .ok (.value (yv l)) w := by
          simp only [execOp, hop, hyv, Sem.run_pure]
        rw [hex]
        show wpListIn Fence.wide n P ops Q r (a.put o.dst (yv l)) w
        rw [hdst]
        have hdlt : d' < a.tmps.size := by rw [← hT.sz]; exact Nat.le_of_ble_eq_true hlt
        refine evIOps_ok hL hc hy r (d' :: Y) t p H t' p' H' h ms _ w hms ⟨?_, hT.le, fun i x hi => ?_, hT.gl⟩ ?_ (List.mem_cons_of_mem _ h0) hH hR fun ms2 a2 w2 r1 r2 r3 r4 r5 r6 r7 => hQ ms2 a2 w2 r1 r2 r3 r4 r5 r6 r7
        · simp [Act.put, hT.sz]
        · obtain ⟨v, h1, h2⟩ := hT.val i x hi
          refine ⟨v, ?_, h2⟩
          simp only [Act.put]
          rw [Array.getElem?_setIfInBounds, if_neg (fun e => by subst e; rw [hi] at hnone; cases hnone)]
          exact h1
        · intro z hz
          simp only [Act.put]
          rw [Array.getElem?_setIfInBounds]
          rcases List.mem_cons.1 hz with rfl | hz
          · rw [if_pos rfl, if_pos hdlt]
          · by_cases e : d' = z
            · rw [if_pos e, if_pos hdlt]
            · rw [if_neg e]; exact hY z hz
      · split at h
        case h_2 => cases h
        rename_i hcd
        rw [Bool.and_eq_true] at hcd
        split at h
        case h_2 => cases h
        rename_i t1 H1 h1
        rw [opsF_eq] at h1
        have key : wpList P ops (fun e a' w' => e = .normal ∧ ∃ ms', ms <+: ms' ∧ RelT ρ ms' t1 a'.tmps ∧ a'.defers = a.defers ∧ Holds ρ ms' H1 B w' ∧ Bel B w w') [o] a w :=
          evOps_ok hL hc [o] ms t H a w t1 H1 hT hH h1 fun ms' a' w' q1 q2 q3 q4 q5 => ⟨rfl, ms', q1, q2, q3, q4, q5⟩
        have go : ∀ a' w', (∃ ms', ms <+: ms' ∧ RelT ρ ms' t1 a'.tmps ∧ a'.defers = a.defers ∧ Holds ρ ms' H1 B w' ∧ Bel B w w') → (∃ v, a'.tmps = (a.put o.dst v).tmps) → wpListIn Fence.wide n P ops Q r a' w' := by
          rintro a' w' ⟨ms', q1, q2, q3, q4, q5⟩ ⟨v, hv⟩
          refine evIOps_ok hL hc hy r Y t1 p H1 t' p' H' h ms' a' w' (hms.trans q1) q2 (by rw [hv]; exact hY.put hcd.2 v) h0 q4 (hR.bel q5) fun ms2 a2 w2 r1 r2 r3 r4 r5 r6 r7 => ?_
          exact hQ ms2 a2 w2 (q1.trans r1) r2 r3 (r4.trans q3) r5 r6 (q5.x.trans r7)
        unfold wpList at key
        split at key
        · rename_i hw
          rw [if_pos hw]
          rcases key with key | ⟨_, a0, w0, q⟩
          · exact op_in (ro := none) key hcd.1 (fun e a w q => q.1) fun a' w' hk hv => go a' w' hk.2 hv
          · cases q.1
        · rename_i hw
          rw [if_neg hw]
          exact ⟨fun _ _ => trivial, go _ _ key.2 ⟨undef, rfl⟩⟩
noncomputable def evI (yh : YF) (call : CallF) (P : Program) (L : Lore) : Nat → Code → Tm → Option Out → List Blk → Option (Out × Tm × Option Out × List Blk)
  | 0, _, _, _, _ => none
  | n + 1, c, t, p, H =>
    match c with
    | .skip => some (.normal, t, p, H)
    | .region _ ops false => (evIOps yh call P L ops ops.toList [0] t p H).map fun r => (.normal, r.1, r.2.1, r.2.2)
    | .region _ ops true =>
      match ops.all fun o => calmO o && dstFree [0] o with
      | true => (evPlanF call P L ops t H).map fun r => (.normal, r.1, p, r.2)
      | false => none
    | .seq x y =>
      match evI yh call P L n x t p H with
      | some (.normal, t', p', H') => evI yh call P L n y t' p' H'
      | r => r
    | .cond c x y =>
      match evGet t c with
      | some (.tv (.sc (.bool true))) => evI yh call P L n x t p H
      | some (.tv (.sc (.bool false))) => evI yh call P L n y t p H
      | _ => none
    | .block id c =>
      match evI yh call P L n c t p H with
      | some (.exit i, t', p', H') => if i = id then some (.normal, t', p', H') else some (.exit i, t', p', H')
      | r => r
    | .loop c =>
      match evI yh call P L n c t p H with
      | some (.normal, t', p', H') => evI yh call P L n (.loop c) t' p' H'
      | r => r
    | .exit id => some (.exit id, t, p, H)
    | .ret => some (.ret, t, p, H)
    | .label _ => some (.normal, t, p, H)
    | _ => none
theorem evI_ok {P : Program} {ρ : Env} {L : Lore} (hL : LoreOk ρ L) (hm : P.follows .mixedOrders = true) {call : CallF} (hc : CallOk P ρ call) {m0 : List Nat} {l B : Nat} {mkL : LoopState → Option Code → Loop} {yh : YF} (hy : YOk P ρ m0 l B mkL yh) (nn : Nat) :
    ∀ (n : Nat) (c : Code) (t : Tm) (p : Option Out) (H : List Blk) (o : Out) (t' : Tm) (p' : Option Out) (H' : List Blk), evI yh call P L n c t p H = some (o, t', p', H') →
    ∀ (ms : List Nat) (a : Act) (w : World) (Q : Exit → Act → World → Prop), m0 <+: ms → RelT ρ ms t a.tmps → a.tmps[0]? = some (yv l) → Holds ρ ms H B w → RecP mkL l p w →
    (∀ ms' a' w', ms <+: ms' → RelT ρ ms' t' a'.tmps → a'.tmps[0]? = some (yv l) → a'.defers = a.defers → Holds ρ ms' H' B w' → RecP mkL l p' w' → BelX l B w w' → Q o.to a' w') → c.wpIn Fence.wide nn P Q a w := by
  intro n
  induction n using Nat.strongRecOn with
  | _ n ih =>
    cases n with
    | zero => intro c t p H o t' p' H' h; simp [evI] at h
    | succ n =>
      have ihn := ih n (by omega)
      intro c t p H o t' p' H' h ms a w Q hms hT h0 hH hR hQ
      have hstart := h
      unfold evI at h
      split at h
      · simp only [Option.some.injEq, Prod.mk.injEq] at h
        obtain ⟨rfl, rfl, rfl, rfl⟩ := h
        exact wpIn_skip (hQ ms a w (List.prefix_refl _) hT h0 rfl hH hR (BelX.refl _ _ _))
      · rw [Option.map_eq_some_iff] at h
        obtain ⟨r, h1, h2⟩ := h
        simp only [Prod.mk.injEq] at h2
        obtain ⟨rfl, rfl, rfl, rfl⟩ := h2
        exact wpIn_region_list (evIOps_ok hL hc hy _ [0] t p H r.1 r.2.1 r.2.2 h1 ms a w hms hT (fun y hy => by simp at hy; subst hy; exact h0) (by simp) hH hR hQ)
      · rename_i id ops
        split at h
        case h_2 => cases h
        rename_i hcm
        rw [Option.map_eq_some_iff] at h
        obtain ⟨r, h1, h2⟩ := h
        simp only [Prod.mk.injEq] at h2
        obtain ⟨rfl, rfl, rfl, rfl⟩ := h2
        rw [evPlanF_eq] at h1
        have key := evPlan_any (Q := fun e a' w' => ∃ ms', ms <+: ms' ∧ RelT ρ ms' r.1 a'.tmps ∧ a'.defers = a.defers ∧ Holds ρ ms' r.2 B w' ∧ Bel B w w') hL hc hT hH h1 fun ms' a' w' q1 q2 q3 q4 q5 => ⟨ms', q1, q2, q3, q4, q5⟩
        refine wpIn_mono (wpIn_region_any hm (any_in (ro := none) (Y := [0]) (yv := yv l) (fun e a w q => q.1) hcm _ _ a _ key (fun y hy => by simp at hy; subst hy; exact h0))) fun e a1 w1 q => ?_
        obtain ⟨⟨rfl, ms', q1, q2, q3, q4, q5⟩, q6⟩ := q
        exact hQ ms' a1 w1 q1 q2 (q6 0 (by simp)) q3 q4 (hR.bel q5) q5.x
      · rename_i x y
        split at h
        · rename_i t1 p1 H1 h1
          refine wpIn_seq (ihn x t p H .normal t1 p1 H1 h1 ms a w _ hms hT h0 hH hR fun ms1 a1 w1 q1 q2 q3 q4 q5 q6 q7 => ?_)
          exact ihn y t1 p1 H1 o t' p' H' h ms1 a1 w1 Q (hms.trans q1) q2 q3 q5 q6 fun ms2 a2 w2 r1 r2 r3 r4 r5 r6 r7 => hQ ms2 a2 w2 (q1.trans r1) r2 r3 (r4.trans q4) r5 r6 (q7.trans r7)
        · rename_i hne
          have hno : o ≠ .normal := fun e => by subst e; exact hne t' p' H' h
          refine wpIn_seq (ihn x t p H o t' p' H' h ms a w _ hms hT h0 hH hR fun ms1 a1 w1 q1 q2 q3 q4 q5 q6 q7 => ?_)
          have := hQ ms1 a1 w1 q1 q2 q3 q4 q5 q6 q7
          cases o with
          | normal => exact absurd rfl hno
          | exit i => exact this
          | ret => exact this
      · rename_i cc x y
        split at h
        · rename_i hcc
          have e := evGet_ok hT hcc
          simp only [AV.inst, TV.inst, SV.inst, Option.some.injEq] at e
          exact wpIn_cond_true e.symm (ihn x t p H o t' p' H' h ms a w Q hms hT h0 hH hR hQ)
        · rename_i hcc
          have e := evGet_ok hT hcc
          simp only [AV.inst, TV.inst, SV.inst, Option.some.injEq] at e
          exact wpIn_cond_false e.symm (ihn y t p H o t' p' H' h ms a w Q hms hT h0 hH hR hQ)
        · cases h
      · rename_i id x
        split at h
        · rename_i i t1 p1 H1 h1
          refine wpIn_block (ihn x t p H (.exit i) t1 p1 H1 h1 ms a w _ hms hT h0 hH hR fun ms1 a1 w1 q1 q2 q3 q4 q5 q6 q7 => ?_)
          simp only [Out.to, Exit.inBlock]
          split at h
          · rename_i e
            rw [if_pos e]
            simp only [Option.some.injEq, Prod.mk.injEq] at h
            obtain ⟨rfl, rfl, rfl, rfl⟩ := h
            exact hQ ms1 a1 w1 q1 q2 q3 q4 q5 q6 q7
          · rename_i e
            rw [if_neg e]
            simp only [Option.some.injEq, Prod.mk.injEq] at h
            obtain ⟨rfl, rfl, rfl, rfl⟩ := h
            exact hQ ms1 a1 w1 q1 q2 q3 q4 q5 q6 q7
        · rename_i hne
          refine wpIn_block (ihn x t p H o t' p' H' h ms a w _ hms hT h0 hH hR fun ms1 a1 w1 q1 q2 q3 q4 q5 q6 q7 => ?_)
          have := hQ ms1 a1 w1 q1 q2 q3 q4 q5 q6 q7
          cases o with
          | normal => exact this
          | exit i => exact absurd h (hne i t' p' H')
          | ret => exact this
      · rename_i x
        let R : Nat → Act → World → Prop := fun k a1 w1 => k ≤ n + 1 ∧ ∃ ms1 t1 p1 H1, evI yh call P L k (.loop x) t1 p1 H1 = some (o, t', p', H') ∧ ms <+: ms1 ∧ RelT ρ ms1 t1 a1.tmps ∧ a1.tmps[0]? = some (yv l) ∧ a1.defers = a.defers ∧ Holds ρ ms1 H1 B w1 ∧ RecP mkL l p1 w1 ∧ BelX l B w w1
        classical
        refine wpIn_loop (fun a1 w1 => ∃ k, R k a1 w1) (fun a1 w1 => if hx : ∃ k, R k a1 w1 then Classical.choose (has_least hx) else 0) ⟨n + 1, Nat.le_refl _, ms, t, p, H, hstart, List.prefix_refl _, hT, h0, rfl, hH, hR, BelX.refl _ _ _⟩ ?_
        intro a1 w1 hI
        have hmin := (Classical.choose_spec (has_least hI)).1
        have hall := (Classical.choose_spec (has_least hI)).2
        generalize hk : Classical.choose (has_least hI) = k at hmin hall
        obtain ⟨hle, ms1, t1, p1, H1, hev, s1, s2, s3, s4, s5, s6, s7⟩ := hmin
        cases k with
        | zero => simp [evI] at hev
        | succ k =>
          have ihk := ih k (by omega)
          simp only [evI] at hev
          split at hev
          · rename_i t2 p2 H2 h2
            refine ihk x t1 p1 H1 .normal t2 p2 H2 h2 ms1 a1 w1 _ (hms.trans s1) s2 s3 s5 s6 fun ms2 a2 w2 q1 q2 q3 q4 q5 q6 q7 => ?_
            have hRk : R k a2 w2 := ⟨by omega, ms2, t2, p2, H2, hev, s1.trans q1, q2, q3, q4.trans s4, q5, q6, s7.trans q7⟩
            have hE : ∃ j, R j a2 w2 := ⟨k, hRk⟩
            refine ⟨hE, ?_⟩
            rw [dif_pos hE, dif_pos hI, hk]
            exact Nat.lt_succ_of_le ((Classical.choose_spec (has_least hE)).2 k hRk)
          · rename_i hne
            refine ihk x t1 p1 H1 o t' p' H' hev ms1 a1 w1 _ (hms.trans s1) s2 s3 s5 s6 fun ms2 a2 w2 q1 q2 q3 q4 q5 q6 q7 => ?_
            have := hQ ms2 a2 w2 (s1.trans q1) q2 q3 (q4.trans s4) q5 q6 (s7.trans q7)
            cases o with
            | normal => exact absurd hev (hne t' p' H')
            | exit i => exact this
            | ret => exact this
      · simp only [Option.some.injEq, Prod.mk.injEq] at h
        obtain ⟨rfl, rfl, rfl, rfl⟩ := h
        exact wpIn_exit (hQ ms a w (List.prefix_refl _) hT h0 rfl hH hR (BelX.refl _ _ _))
      · simp only [Option.some.injEq, Prod.mk.injEq] at h
        obtain ⟨rfl, rfl, rfl, rfl⟩ := h
        exact wpIn_ret (hQ ms a w (List.prefix_refl _) hT h0 rfl hH hR (BelX.refl _ _ _))
      · simp only [Option.some.injEq, Prod.mk.injEq] at h
        obtain ⟨rfl, rfl, rfl, rfl⟩ := h
        exact wpIn_label (hQ ms a w (List.prefix_refl _) hT h0 rfl hH hR (BelX.refl _ _ _))
      · cases h
def markD (d : Nat) : Deferred := { target := .collected d, args := #[] }
def Out.ends : Out → Bool
  | .exit _ => false
  | _ => true
noncomputable def evRg (P : Program) (L : Lore) (call : CallF) (self : CodeF) (n : Nat) (g : Operand) (ps : Array Tmp) (assign body : Code) (t : Tm) (H : List Blk) : Option (Out × Tm × List Blk) :=
  match evGet t g with
  | some (.tv (.sc (.clo gi caps))) =>
    match canCall P gi && (calm assign && calm body) with
    | true =>
      match P.funcs[gi]? with
      | some fn =>
        match fn.body with
        | some c =>
          match Nat.ble fn.ntmps 512 && Nat.ble (caps.length + 1) fn.ntmps with
          | true =>
            match evI (yhOf self ps assign body t) call P L n c (Tm.fill 1 (ptrs caps) ⟨fn.ntmps, .emp⟩) none H with
            | some (o, t1, p1, H1) =>
              match o.ends with
              | true =>
                match evResults P fn t1 H1 with
                | some _ => some (match p1 with | none => .normal | some out => out, t, H1)
                | none => none
              | false => none
            | none => none
          | false => none
        | none => none
      | none => none
    | false => none
  | _ => none
theorem relT_iter {ρ : Env} {ms : List Nat} {caps : List (Nat × Nat)} {cvs : List Value} (e2 : caps.map (addr ms) = cvs.map some) {n : Nat} (hn : n ≤ 512) (hx : caps.length + 1 ≤ n) (hg : Gl ms) (y : Value) :
    RelT ρ ms (Tm.fill 1 (ptrs caps) ⟨n, .emp⟩) ((#[y] ++ cvs.toArray) ++ Array.replicate (n - (#[y] ++ cvs.toArray).size) undef) := by
  have hl : caps.length = cvs.length := by have := congrArg List.length e2; simpa using this
  refine ⟨by rw [Tm.fill_n]; simp; omega, by rw [Tm.fill_n]; exact hn, fun j x hj => ?_, hg⟩
  rcases Tm.get_fill (ptrs caps) 1 ⟨n, .emp⟩ hn j x hj with ⟨h1, h2⟩ | h1
  · unfold ptrs at h2
    rw [List.getElem?_map, Option.map_eq_some_iff] at h2
    obtain ⟨p, hp, rfl⟩ := h2
    have h3 := congrArg (fun l => l[j - 1]?) e2
    simp only [List.getElem?_map, hp, Option.map_some] at h3
    obtain ⟨v, hv, hv2⟩ := Option.map_eq_some_iff.1 h3.symm
    have hlt := (List.getElem?_eq_some_iff.1 hv).1
    refine ⟨v, ?_, ?_⟩
    · rw [Array.getElem?_append_left (by simp; omega), Array.getElem?_append_right (by simp; omega)]
      simpa using hv
    · simp only [AV.inst, TV.inst, SV.inst]
      rw [← hv2]
  · unfold Tm.get at h1
    split at h1
    · rw [Tr.law3.emp] at h1; cases h1
    · cases h1
theorem evRg_ok {P : Program} {ρ : Env} {L : Lore} (hL : LoreOk ρ L) (hm : P.follows .mixedOrders = true) {call : CallF} (hc : CallOk P ρ call) {self : CodeF} (hs : CodeOkG P ρ self) {n : Nat} {g : Operand} {ps : Array Tmp} {assign body : Code} {t t' : Tm} {H H' : List Blk} {o : Out}
    (h : evRg P L call self n g ps assign body t H = some (o, t', H')) {ms : List Nat} {B : Nat} {a : Act} {w : World} {Q : Exit → Act → World → Prop} (hT : RelT ρ ms t a.tmps) (hH : Holds ρ ms H B w)
    (hQ : ∀ ms' a' w' d, ms <+: ms' → RelT ρ ms' t' a'.tmps → a'.defers = markD d :: a.defers → w'.heap[d]? = some (.deferred (some [])) → w.heap.size ≤ d → Holds ρ ms' H' B w' → Bel B w w' → Q o.to a' w') : (Code.rangeFunc g ps assign body).wp P Q a w := by
  unfold evRg at h
  split at h
  case h_2 => cases h
  rename_i gi caps hgv
  split at h
  case h_2 => cases h
  rename_i hcan
  simp only [Bool.and_eq_true] at hcan
  obtain ⟨hcan, hca, hcb⟩ := hcan
  split at h
  case h_2 => cases h
  rename_i fn hfn
  split at h
  case h_2 => cases h
  rename_i c hb
  split at h
  case h_2 => cases h
  rename_i hbd
  rw [Bool.and_eq_true] at hbd
  split at h
  case h_2 => cases h
  rename_i o1 t1 p1 H1 hev
  split at h
  case h_2 => cases h
  rename_i hends
  split at h
  case h_2 => cases h
  rename_i v1 hres
  simp only [Option.some.injEq, Prod.mk.injEq] at h
  obtain ⟨rfl, rfl, rfl⟩ := h
  have e0 := evGet_ok hT hgv
  simp only [AV.inst, TV.inst, SV.inst, Option.map_eq_some_iff] at e0
  obtain ⟨cvs, e2, e3⟩ := e0
  rw [seqO_iff] at e2
  unfold canCall at hcan
  rw [hfn] at hcan
  simp only [Bool.and_eq_true, bne_iff_ne, ne_eq] at hcan
  have eg : ∀ args w, (callFunc gi args).run P w = .ok (.enter gi args) w := fun args w => by
    have hn : (fn.name == "runtime.NumGoroutine") = false := by simpa using hcan.1
    simp [callFunc, program, Sem.run, hfn, hn, hb, go_sem]
    exact hcan.1
  refine (wpIn_wide (n := 1)).1 (wpIn_rangeFunc fun fnn hfnn => ?_)
  let R : LoopState → Option Code → Loop := fun st pe => { state := st, pending := pe, fn := fnn, tmps := a.tmps, params := ps, assign, body, defers := w.heap.size }
  obtain ⟨W1, hW1⟩ : ∃ W1, (w.alloc (.deferred (some []))).alloc (.loop (R .ready none)) = W1 := ⟨_, rfl⟩
  have hg1 : Bel w.heap.size w W1 := by
    rw [← hW1]
    exact ((Bel.refl _ w).alloc (Nat.le_refl _) _).alloc (by simp) _
  have hl : RecP R (w.heap.size + 1) none W1 := by
    rw [← hW1]
    have := World.alloc_heap_new (w.alloc (.deferred (some []))) (.loop (R .ready none))
    rwa [World.size_alloc] at this
  have hd : W1.heap[w.heap.size]? = some (.deferred (some [])) := by
    rw [← hW1]
    exact (Below.heap_alloc _ _ _ (by simp)).trans (World.alloc_heap_new w _)
  have hBl : B ≤ w.heap.size + 1 := Nat.le_succ_of_le hH.big
  refine ⟨w.heap.size + 1, [markD w.heap.size], W1, { target := .fn (.func gi) cvs.toArray, args := #[yv (w.heap.size + 1)] }, W1, gi, #[yv (w.heap.size + 1)] ++ cvs.toArray, W1, ?_, ?_, ?_, ?_, fun _ => Nat.le_refl _, ?_⟩
  · rw [← hW1]; exact run_enterLoop_outer _ _ _ _ _
  · simp only [resolve, ← e3]; simp [go_sem, yv]
  · intro f' hf'; trivial
  · simp [invoke, go_sem, eg, yv]
  · refine callsIn_wide.2 (calls_of_wp hfn hb ((wpIn_wide (n := 0)).1 ?_))
    refine evI_ok hL hm hc (yh_ok hs hca hcb hT hBl) 0 n c _ none H o1 t1 p1 H1 hev ms _ W1 _ (List.prefix_refl _) (relT_iter e2 (Nat.le_of_ble_eq_true hbd.1) (Nat.le_of_ble_eq_true hbd.2) hT.gl _) ?_ (hH.below hg1.toBelow) hl fun ms' a' w' q1 q2 q3 q4 q5 q6 q7 => ?_
    · simp [Array.getElem?_append]
    obtain ⟨u, e4, e5⟩ := evResults_ok q2 q5 hres
    have hBel : ∀ o4, Bel B w (w'.putObj (w.heap.size + 1) o4) := fun o4 => by
      have h1 := q7.trans (BelX.put hBl w' o4)
      refine ⟨(hg1.toBelow.mono hH.big).trans h1.toBelow, fun i o hi hcl => h1.kept i o ?_ (hg1.kept i o hi hcl) hcl⟩
      have := (Array.getElem?_eq_some_iff.1 hi).1
      omega
    have hmk : ∀ o4, (w'.putObj (w.heap.size + 1) o4).heap[w.heap.size]? = some (.deferred (some [])) := fun o4 => (World.putObj_heap_other (by omega)).trans (q7.kept _ _ (by omega) hd rfl)
    have fin : rangePost Fence.wide 1 P (w.heap.size + 1) Q { a with defers := [markD w.heap.size] ++ a.defers } (.returned u) w' := by
      unfold RecP at q6
      cases p1 with
      | none =>
        refine ⟨none, _, run_endLoop (P := P) q6 (by simp [R]), ?_⟩
        exact hQ ms' _ _ w.heap.size q1 (hT.mono q1) rfl (hmk _) (Nat.le_refl _) (q5.put q6 rfl _) (hBel _)
      | some out =>
        refine ⟨some out.code, _, run_endLoop (P := P) q6 (by simp [R]), ?_⟩
        have := hQ ms' { a with defers := [markD w.heap.size] ++ a.defers } _ w.heap.size q1 (hT.mono q1) rfl (hmk (.loop { R .done (some out.code) with state := .exhausted })) (Nat.le_refl _) (q5.put q6 rfl _) (hBel _)
        cases out with
        | normal => exact wpIn_skip this
        | exit i => exact wpIn_exit this
        | ret => exact wpIn_ret this
    cases o1 with
    | normal => exact ⟨q4, u, e5, fin⟩
    | exit i => cases hends
    | ret => exact ⟨q4, u, e5, fin⟩
def hasRange : Code → Bool
  | .rangeFunc _ _ _ _ => true
  | .seq a b => hasRange a || hasRange b
  | .cond _ x y => hasRange x || hasRange y
  | .block _ c => hasRange c
  | .loop c => hasRange c
  | _ => false
noncomputable def evR (P : Program) (L : Lore) (call : CallF) (self : CodeF) : Nat → CodeF
  | 0, _, _, _ => none
  | n + 1, c, t, H =>
    match hasRange c with
    | false => self c t H
    | true =>
      match c with
      | .seq x y =>
        match evR P L call self n x t H with
        | some (.normal, t', H') => evR P L call self n y t' H'
        | r => r
      | .cond c x y =>
        match evGet t c with
        | some (.tv (.sc (.bool true))) => evR P L call self n x t H
        | some (.tv (.sc (.bool false))) => evR P L call self n y t H
        | _ => none
      | .block id c =>
        match evR P L call self n c t H with
        | some (.exit i, t', H') => if i = id then some (.normal, t', H') else some (.exit i, t', H')
        | r => r
      | .loop c =>
        match evR P L call self n c t H with
        | some (.normal, t', H') => evR P L call self n (.loop c) t' H'
        | r => r
      | .rangeFunc g ps assign body => evRg P L call self n g ps assign body t H
      | _ => none
structure Marks (b : Nat) (ds : List Nat) (w : World) : Prop where
  nodup : ds.Nodup
  ok : ∀ d ∈ ds, w.heap[d]? = some (.deferred (some [])) ∧ b ≤ d
theorem Marks.nil (b : Nat) (w : World) : Marks b [] w := ⟨List.nodup_nil, fun d hd => by cases hd⟩
theorem Marks.add {b B : Nat} {ds es : List Nat} {w1 w2 : World} (h : Marks b ds w1) (hb : b ≤ w1.heap.size) (hl : Bel B w1 w2) (k : Marks w1.heap.size es w2) : Marks b (es ++ ds) w2 := by
  refine ⟨List.nodup_append.2 ⟨k.nodup, h.nodup, fun x hx y hy e => ?_⟩, fun d hd => ?_⟩
  · subst e
    have h1 := (k.ok x hx).2
    have h2 := (Array.getElem?_eq_some_iff.1 (h.ok x hy).1).1
    omega
  · rcases List.mem_append.1 hd with hd | hd
    · exact ⟨(k.ok d hd).1, Nat.le_trans hb (k.ok d hd).2⟩
    · exact ⟨hl.kept d _ (h.ok d hd).1 rfl, (h.ok d hd).2⟩
theorem evR_ok {P : Program} {ρ : Env} {L : Lore} (hL : LoreOk ρ L) (hm : P.follows .mixedOrders = true) {call : CallF} (hc : CallOk P ρ call) {self : CodeF} (hs : CodeOkG P ρ self) :
    ∀ (n : Nat) (c : Code) (t : Tm) (H : List Blk) (o : Out) (t' : Tm) (H' : List Blk), evR P L call self n c t H = some (o, t', H') →
    ∀ (ms : List Nat) (B : Nat) (a : Act) (w : World) (Q : Exit → Act → World → Prop), RelT ρ ms t a.tmps → Holds ρ ms H B w →
    (∀ ms' a' w' ds, ms <+: ms' → RelT ρ ms' t' a'.tmps → a'.defers = ds.map markD ++ a.defers → Marks w.heap.size ds w' → Holds ρ ms' H' B w' → Bel B w w' → Q o.to a' w') → c.wp P Q a w := by
  intro n
  induction n using Nat.strongRecOn with
  | _ n ih =>
    cases n with
    | zero => intro c t H o t' H' h; simp [evR] at h
    | succ n =>
      have ihn := ih n (by omega)
      intro c t H o t' H' h ms B a w Q hT hH hQ
      have hstart := h
      unfold evR at h
      split at h
      · exact hs.plain c t H o t' H' h ms B a w Q hT hH fun ms' a' w' q1 q2 q3 q4 q5 => hQ ms' a' w' [] q1 q2 q3 (Marks.nil _ _) q4 q5
      rename_i hhas
      split at h
      · rename_i x y
        split at h
        · rename_i t1 H1 h1
          refine wp_seq (ihn x t H .normal t1 H1 h1 ms B a w _ hT hH fun ms1 a1 w1 ds1 q1 q2 q3 q4 q5 q6 => ?_)
          refine ihn y t1 H1 o t' H' h ms1 B a1 w1 Q q2 q5 fun ms2 a2 w2 ds2 r1 r2 r3 r4 r5 r6 => ?_
          exact hQ ms2 a2 w2 (ds2 ++ ds1) (q1.trans r1) r2 (by rw [r3, q3]; simp) (q4.add q6.size r6 r4) r5 (q6.trans r6)
        · rename_i hne
          have hno : o ≠ .normal := fun e => by subst e; exact hne t' H' h
          refine wp_seq (ihn x t H o t' H' h ms B a w _ hT hH fun ms1 a1 w1 ds1 q1 q2 q3 q4 q5 q6 => ?_)
          have := hQ ms1 a1 w1 ds1 q1 q2 q3 q4 q5 q6
          cases o with
          | normal => exact absurd rfl hno
          | exit i => exact this
          | ret => exact this
      · rename_i cc x y
        split at h
        · rename_i hcc
          have e := evGet_ok hT hcc
          simp only [AV.inst, TV.inst, SV.inst, Option.some.injEq] at e
          exact wp_cond_true e.symm (ihn x t H o t' H' h ms B a w Q hT hH hQ)
        · rename_i hcc
          have e := evGet_ok hT hcc
          simp only [AV.inst, TV.inst, SV.inst, Option.some.injEq] at e
          exact wp_cond_false e.symm (ihn y t H o t' H' h ms B a w Q hT hH hQ)
        · cases h
      · rename_i id x
        split at h
        · rename_i i t1 H1 h1
          refine wp_block (ihn x t H (.exit i) t1 H1 h1 ms B a w _ hT hH fun ms1 a1 w1 ds1 q1 q2 q3 q4 q5 q6 => ?_)
          simp only [Out.to, Exit.inBlock]
          split at h
          · rename_i e
            rw [if_pos e]
            simp only [Option.some.injEq, Prod.mk.injEq] at h
            obtain ⟨rfl, rfl, rfl⟩ := h
            exact hQ ms1 a1 w1 ds1 q1 q2 q3 q4 q5 q6
          · rename_i e
            rw [if_neg e]
            simp only [Option.some.injEq, Prod.mk.injEq] at h
            obtain ⟨rfl, rfl, rfl⟩ := h
            exact hQ ms1 a1 w1 ds1 q1 q2 q3 q4 q5 q6
        · rename_i hne
          refine wp_block (ihn x t H o t' H' h ms B a w _ hT hH fun ms1 a1 w1 ds1 q1 q2 q3 q4 q5 q6 => ?_)
          have := hQ ms1 a1 w1 ds1 q1 q2 q3 q4 q5 q6
          cases o with
          | normal => exact this
          | exit i => exact absurd h (hne i t' H')
          | ret => exact this
      · rename_i x
        let R : Nat → Act → World → Prop := fun k a1 w1 => k ≤ n + 1 ∧ ∃ ms1 t1 H1 ds, evR P L call self k (.loop x) t1 H1 = some (o, t', H') ∧ ms <+: ms1 ∧ RelT ρ ms1 t1 a1.tmps ∧ a1.defers = ds.map markD ++ a.defers ∧ Marks w.heap.size ds w1 ∧ Holds ρ ms1 H1 B w1 ∧ Bel B w w1
        classical
        refine wp_loop (fun a1 w1 => ∃ k, R k a1 w1) (fun a1 w1 => if hx : ∃ k, R k a1 w1 then Classical.choose (has_least hx) else 0) ⟨n + 1, Nat.le_refl _, ms, t, H, [], hstart, List.prefix_refl _, hT, rfl, Marks.nil _ _, hH, Bel.refl _ _⟩ ?_
        intro a1 w1 hI
        have hmin := (Classical.choose_spec (has_least hI)).1
        have hall := (Classical.choose_spec (has_least hI)).2
        generalize hk : Classical.choose (has_least hI) = k at hmin hall
        obtain ⟨hle, ms1, t1, H1, ds, hev, s1, s2, s3, s4, s5, s6⟩ := hmin
        cases k with
        | zero => simp [evR] at hev
        | succ k =>
          have ihk := ih k (by omega)
          unfold evR at hev
          rw [hhas] at hev
          simp only at hev
          split at hev
          · rename_i t2 H2 h2
            refine ihk x t1 H1 .normal t2 H2 h2 ms1 B a1 w1 _ s2 s5 fun ms2 a2 w2 ds2 q1 q2 q3 q4 q5 q6 => ?_
            have hRk : R k a2 w2 := ⟨by omega, ms2, t2, H2, ds2 ++ ds, hev, s1.trans q1, q2, by rw [q3, s3]; simp, s4.add s6.size q6 q4, q5, s6.trans q6⟩
            have hE : ∃ j, R j a2 w2 := ⟨k, hRk⟩
            refine ⟨hE, ?_⟩
            rw [dif_pos hE, dif_pos hI, hk]
            exact Nat.lt_succ_of_le ((Classical.choose_spec (has_least hE)).2 k hRk)
          · rename_i hne
            refine ihk x t1 H1 o t' H' hev ms1 B a1 w1 _ s2 s5 fun ms2 a2 w2 ds2 q1 q2 q3 q4 q5 q6 => ?_
            have := hQ ms2 a2 w2 (ds2 ++ ds) (s1.trans q1) q2 (by rw [q3, s3]; simp) (s4.add s6.size q6 q4) q5 (s6.trans q6)
            cases o with
            | normal => exact absurd hev (hne t' H')
            | exit i => exact this
            | ret => exact this
      · exact evRg_ok hL hm hc hs h hT hH fun ms' a' w' d q1 q2 q3 q4 q5 q6 q7 => hQ ms' a' w' [d] q1 q2 q3 ⟨by simp, fun e he => by simp at he; subst he; exact ⟨q4, q5⟩⟩ q6 q7
      · cases h
theorem leave_all {P : Program} {ρ : Env} {fn : Func} {tmps : Array Value} {R : Ending → World → Prop} {ms : List Nat} {H : List Blk} {B : Nat} {w0 : World} (hB : B ≤ w0.heap.size) (hfin : ∀ w, Holds ρ ms H B w → Bel B w0 w → ∃ v, (results fn tmps).run P w = .ok v w ∧ R (.returned v) w) :
    ∀ (ds : List Nat) (w : World), Marks w0.heap.size ds w → Holds ρ ms H B w → Bel B w0 w → LeavesInM Fence.wide 1 P fn tmps R (ds.map markD) .returning w
  | [], w, _, hH, hb => hfin w hH hb
  | d :: ds, w, hm, hH, hb => by
    obtain ⟨h1, h2⟩ := hm.ok d (List.mem_cons_self ..)
    obtain ⟨n1, n2⟩ := List.nodup_cons.1 hm.nodup
    refine ⟨by simp, .inl ⟨d, _, rfl, run_takeDeferred h1, ?_⟩⟩
    refine leave_all hB hfin ds _ ⟨n2, fun e he => ?_⟩ (hH.put h1 rfl _) ?_
    · obtain ⟨q1, q2⟩ := hm.ok e (List.mem_cons_of_mem _ he)
      exact ⟨(World.putObj_heap_other (show e ≠ d from fun h => n1 (h ▸ he))).trans q1, q2⟩
    · refine ⟨⟨hb.os, hb.tape, hb.output, by simpa using hb.size, fun k hk => (World.putObj_heap_other (by omega)).trans (hb.block k hk)⟩, fun i o hi hc => ?_⟩
      have := (Array.getElem?_eq_some_iff.1 hi).1
      exact (World.putObj_heap_other (by omega)).trans (hb.kept i o hi hc)
noncomputable def callR (P : Program) (L : Lore) (base : CodeF → CallF) (N : Nat) (self : CodeF) : CallF := fun g aas H =>
  match P.funcs[g]? with
  | some fn =>
    match fn.body with
    | some c =>
      match hasRange c with
      | true =>
        match Nat.ble fn.ntmps 512 && Nat.ble aas.length fn.ntmps with
        | true =>
          match evR P L (base self) self N c (Tm.make fn.ntmps aas) H with
          | some (o, t, H') =>
            match o.ends with
            | true => (evResults P fn t H').map fun v => (v, trim H.length v H')
            | false => none
          | none => none
        | false => none
      | false => base self g aas H
    | none => base self g aas H
  | none => none
theorem callR_ok {P : Program} {ρ : Env} {L : Lore} (hL : LoreOk ρ L) (hm : P.follows .mixedOrders = true) {base : CodeF → CallF} (hbase : ∀ self, CodeOk P ρ self → CallOk P ρ (base self)) (N : Nat) (self : CodeF) (hs : CodeOkG P ρ self) : CallOk P ρ (callR P L base N self) := by
  intro g aas H v H' h ms B w args hargs hH
  unfold callR at h
  split at h
  case h_2 => cases h
  rename_i fn hfn
  split at h
  case h_2 => exact hbase self hs.plain g aas H v H' h ms B w args hargs hH
  rename_i c hb
  split at h
  case h_2 => exact hbase self hs.plain g aas H v H' h ms B w args hargs hH
  split at h
  case h_2 => cases h
  rename_i hbd
  rw [Bool.and_eq_true] at hbd
  split at h
  case h_2 => cases h
  rename_i o t H1 hev
  split at h
  case h_2 => cases h
  rename_i hends
  rw [Option.map_eq_some_iff] at h
  obtain ⟨v', hr, hv⟩ := h
  simp only [Prod.mk.injEq] at hv
  obtain ⟨rfl, rfl⟩ := hv
  have hT : RelT ρ ms (Tm.make fn.ntmps aas) (args ++ Array.replicate (fn.ntmps - args.size) undef) := RelT.make hargs (Nat.le_of_ble_eq_true hbd.1) (Nat.le_of_ble_eq_true hbd.2) hH.gl
  refine (callsIn_wide (n := 1)).1 (callsIn_of_wp_marks hfn hb trivial (wpIn_wide.2 ?_) rfl)
  refine evR_ok hL hm (hbase self hs.plain) hs N c _ H o t H1 hev ms B _ w _ hT hH fun ms' a' w' ds q1 q2 q3 q4 q5 q6 => ?_
  have key : LeavesInM Fence.wide 1 P fn a'.tmps (fun e w' => ∃ ms' u, e = .returned u ∧ ms <+: ms' ∧ v'.inst ρ ms' = some u ∧ Holds ρ ms' (trim H.length v' H1) B w' ∧ Bel B w w') a'.defers .returning w' := by
    rw [q3, List.append_nil]
    refine leave_all hH.big (fun w2 hH2 hb2 => ?_) ds w' q4 q5 q6
    obtain ⟨u, e1, e2⟩ := evResults_ok q2 hH2 hr
    obtain ⟨ms2, r1, r2, r3⟩ := trim_ok q1 hH.gl hH.len e1 hH2
    exact ⟨u, e2, ms2, u, rfl, r1, r2, r3, hb2⟩
  cases o with
  | normal => exact key
  | exit i => cases hends
  | ret => exact key
noncomputable def evCallR (P : Program) (L : Lore) (base : CodeF → CallF) (N n : Nat) : CallF := callR P L base N (evGF P L (callR P L base N) n)
theorem evCallR_ok {P : Program} {ρ : Env} {L : Lore} (hL : LoreOk ρ L) (hm : P.follows .mixedOrders = true) {base : CodeF → CallF} (hbase : ∀ self, CodeOk P ρ self → CallOk P ρ (base self)) (N n : Nat) : CallOk P ρ (evCallR P L base N n) := by
  unfold evCallR
  rw [evGF_eq]
  exact callR_ok hL hm hbase N _ (evG_both hL (callR_ok hL hm hbase N) hm n)
end Go.Proofs.Ytjfebbhnjcnepaa.Ev
namespace Go.Proofs.Ytjfebbhnjcnepaa
open Go Go.RowKit
def upI (x y : Int) : Int := (x - 1) / y + 1
def tlI (x y : Int) : Int := (x - 1) % y + 1
theorem upI_pos {x y : Int} (hx : 1 ≤ x) (hy : 1 ≤ y) : 1 ≤ upI x y := by
  unfold upI
  have := Int.ediv_nonneg (show 0 ≤ x - 1 by omega) (show 0 ≤ y by omega)
  omega
theorem upI_le {x y : Int} (hx : 1 ≤ x) (hy : 1 ≤ y) : upI x y ≤ x := by
  unfold upI
  have := Int.ediv_le_self y (show 0 ≤ x - 1 by omega)
  omega
theorem upI_tdiv {x y : Int} (hx : 1 ≤ x) (hy : 1 ≤ y) : (x - 1).tdiv y + 1 = upI x y := by
  unfold upI
  rw [Int.tdiv_eq_ediv_of_nonneg (by omega)]
theorem up_split (x y : Int) : (upI x y - 1) * y + tlI x y = x := by
  unfold upI tlI
  have := Int.mul_ediv_add_emod (x - 1) y
  rw [show (x - 1) / y + 1 - 1 = (x - 1) / y by omega, Int.mul_comm]
  omega
theorem tlI_pos {x y : Int} (hy : 1 ≤ y) : 1 ≤ tlI x y := by
  unfold tlI
  have := Int.emod_nonneg (x - 1) (show y ≠ 0 by omega)
  omega
theorem tlI_le {x y : Int} (hy : 1 ≤ y) : tlI x y ≤ y := by
  unfold tlI
  have := Int.emod_lt_of_pos (x - 1) (show 0 < y by omega)
  omega
theorem tail_eq (x y : Int) : x - (upI x y - 1) * y = tlI x y := by
  have := up_split x y
  omega
theorem upI_unique {x y q t : Int} (hy : 1 ≤ y) (h : (q - 1) * y + t = x) (h1 : 1 ≤ t) (h2 : t ≤ y) : upI x y = q ∧ tlI x y = t := by
  have e : x - 1 = (t - 1) + y * (q - 1) := by rw [Int.mul_comm y]; omega
  constructor
  · unfold upI
    rw [e, Int.add_mul_ediv_left _ _ (by omega), Int.ediv_eq_zero_of_lt (by omega) (by omega)]
    omega
  · unfold tlI
    rw [e, Int.add_mul_emod_self_left, Int.emod_eq_of_lt (by omega) (by omega)]
    omega
theorem up_ref {x y : Int} (hx : 0 ≤ x) (hy : 1 ≤ y) : x / y + (x % y + y - 1) / y = upI x y := by
  have h1 := Int.mul_ediv_add_emod x y
  have h2 := Int.emod_nonneg x (show y ≠ 0 by omega)
  have h3 := Int.emod_lt_of_pos x (show 0 < y by omega)
  have h4 : y * (x / y) = (x / y) * y := Int.mul_comm _ _
  by_cases h0 : x % y = 0
  · have e : (x % y + y - 1) / y = 0 := by rw [h0]; exact Int.ediv_eq_zero_of_lt (by omega) (by omega)
    rw [e, Int.add_zero]
    exact (upI_unique (t := y) hy (by rw [Int.sub_mul]; omega) hy (Int.le_refl _)).1.symm
  · have e : (x % y + y - 1) / y = 1 := by
      rw [show x % y + y - 1 = (x % y - 1) + y * 1 by omega, Int.add_mul_ediv_left _ _ (by omega), Int.ediv_eq_zero_of_lt (by omega) (by omega)]
      omega
    rw [e]
    exact (upI_unique (t := x % y) hy (by rw [show x / y + 1 - 1 = x / y by omega]; omega) (by omega) (by omega)).1.symm
theorem up_ge {x y : Int} (hy : 1 ≤ y) : x ≤ y * upI x y := by
  have h1 := up_split x y
  have h2 := tlI_le (x := x) hy
  rw [Int.sub_mul] at h1
  rw [Int.mul_comm]
  omega
theorem up_lt {x y : Int} (hy : 1 ≤ y) : y * upI x y ≤ x + y - 1 := by
  have h1 := up_split x y
  have h2 := tlI_pos (x := x) hy
  rw [Int.sub_mul] at h1
  rw [Int.mul_comm]
  omega
theorem up_mult {x y : Int} (hy : 1 ≤ y) (h : x % y = 0) : y * upI x y = x := by
  have h1 := Int.mul_ediv_add_emod x y
  have e := upI_unique (x := x) (y := y) (q := x / y) (t := y) hy (by rw [Int.sub_mul, Int.mul_comm (x / y)]; omega) hy (Int.le_refl _)
  rw [e.1]; omega
theorem up_mono {x z y : Int} (hy : 1 ≤ y) (h : x ≤ z) : upI x y ≤ upI z y := by
  unfold upI
  have := Int.ediv_le_ediv (c := y) (by omega) (show x - 1 ≤ z - 1 by omega)
  omega
def shR (k n g z : Int) : List Int := [k, n, g, z, upI z g, tlI z g, g / k, upI (tlI z g) k]
def sh0 : List Int := [0, 0, 0, 0, 0, 0, 0, 0]
def OkS (k n g z : Int) : Prop := 1 ≤ k ∧ k ≤ n ∧ n ≤ 255 ∧ 1 ≤ g ∧ g ≤ k * upI 65536 k ∧ g % k = 0 ∧ 33 ≤ z ∧ z ≤ 16777216 ∧ upI z g ≤ 512
instance (k n g z : Int) : Decidable (OkS k n g z) := by unfold OkS; infer_instance
def OkP (k n g l : Int) : Prop := 1 ≤ k ∧ k ≤ n ∧ n ≤ 255 ∧ 1 ≤ g ∧ g ≤ 65536 ∧ l ≤ 64
instance (k n g l : Int) : Decidable (OkP k n g l) := by unfold OkP; infer_instance
def chkE (k n g l : Int) : Int := if OkP k n g l then 0 else 3
def shpE (k n g l z : Int) : Int := if OkP k n g l then (if 33 ≤ z ∧ z ≤ 16777216 then (if upI z (k * upI g k) ≤ 512 then 0 else 3) else 4) else 3
def shpT (k n g l z : Int) : List Int := if shpE k n g l z = 0 then shR k n (k * upI g k) z else sh0
def agE (k n g z : Int) : Int := if OkS k n g z then 0 else 92
def agT (k n g z : Int) : List Int := if OkS k n g z then shR k n g z else sh0
theorem most_lt {k : Int} (h1 : 1 ≤ k) (h2 : k ≤ 255) : 65536 ≤ k * upI 65536 k ∧ k * upI 65536 k ≤ 65790 := by
  have := up_ge (x := 65536) h1
  have := up_lt (x := 65536) h1
  omega
theorem again_iff (k n g z : Int) : OkS k n g z ↔ (shpE k n g 0 z = 0 ∧ k * upI g k = g) ∨ (shpE k n 65536 0 z = 0 ∧ k * upI 65536 k = g) := by
  constructor
  · rintro ⟨h1, h2, h3, h4, h5, h6, h7, h8, h9⟩
    by_cases hg : g ≤ 65536
    · left
      have e := up_mult h1 h6
      refine ⟨?_, e⟩
      rw [shpE, if_pos ⟨h1, h2, h3, h4, hg, by omega⟩, if_pos ⟨h7, h8⟩, e, if_pos h9]
    · right
      have e : k * upI 65536 k = g := by
        have a := up_lt (x := 65536) h1
        have b := up_mult h1 h6
        have hle : upI 65536 k ≤ upI g k := up_mono h1 (by omega)
        have c := Int.mul_le_mul_of_nonneg_left hle (show 0 ≤ k by omega)
        omega
      refine ⟨?_, e⟩
      rw [shpE, if_pos ⟨h1, h2, h3, by decide, by decide, by omega⟩, if_pos ⟨h7, h8⟩, e, if_pos h9]
  · have key : ∀ q, shpE k n q 0 z = 0 → k * upI q k = g → OkS k n g z := by
      intro q hq hg
      unfold shpE at hq
      split at hq
      · rename_i hp
        obtain ⟨h1, h2, h3, h4, h5, h6⟩ := hp
        split at hq
        · rename_i hz
          split at hq
          · rename_i h9
            rw [hg] at h9
            have hu := upI_pos h4 h1
            have hle : upI q k ≤ upI 65536 k := up_mono h1 h5
            have c := Int.mul_le_mul_of_nonneg_left hle (show 0 ≤ k by omega)
            have d := up_ge (x := q) h1
            exact ⟨h1, h2, h3, by omega, by omega, by rw [← hg]; exact Int.mul_emod_right _ _, hz.1, hz.2, h9⟩
          · cases hq
        · cases hq
      · cases hq
    rintro (⟨a, b⟩ | ⟨a, b⟩)
    · exact key _ a b
    · exact key _ a b
theorem shpE_ok {k n g l z : Int} (h : shpE k n g l z = 0) : OkP k n g l ∧ 33 ≤ z ∧ z ≤ 16777216 ∧ upI z (k * upI g k) ≤ 512 := by
  unfold shpE at h
  split at h
  · rename_i hp
    split at h
    · rename_i hz
      split at h
      · rename_i h9
        exact ⟨hp, hz.1, hz.2, h9⟩
      · cases h
    · cases h
  · cases h
theorem shp_okS {k n g l z : Int} (h : shpE k n g l z = 0) : OkS k n (k * upI g k) z := by
  obtain ⟨⟨h1, h2, h3, h4, h5, h6⟩, h7, h8, h9⟩ := shpE_ok h
  rw [again_iff]
  by_cases hg : k * upI g k ≤ 65536
  · left
    have e : k * upI (k * upI g k) k = k * upI g k := up_mult h1 (Int.mul_emod_right _ _)
    have hu := up_ge (x := g) h1
    refine ⟨?_, e⟩
    rw [shpE, if_pos ⟨h1, h2, h3, by omega, hg, by omega⟩, if_pos ⟨h7, h8⟩, e, if_pos h9]
  · right
    have hle : upI g k ≤ upI 65536 k := up_mono h1 h5
    have c := Int.mul_le_mul_of_nonneg_left hle (show 0 ≤ k by omega)
    have a := up_lt (x := 65536) h1
    have hle2 : upI 65536 k ≤ upI (k * upI g k) k := up_mono h1 (by omega)
    have c2 := Int.mul_le_mul_of_nonneg_left hle2 (show 0 ≤ k by omega)
    have e2 : k * upI (k * upI g k) k = k * upI g k := up_mult h1 (Int.mul_emod_right _ _)
    have e : k * upI 65536 k = k * upI g k := by omega
    refine ⟨?_, e⟩
    rw [shpE, if_pos ⟨h1, h2, h3, by decide, by decide, by omega⟩, if_pos ⟨h7, h8⟩, e, if_pos h9]
set_option maxRecDepth 100000 in
set_option maxHeartbeats 4000000 in
theorem upward_any (w : World) (x y : Int) (hx : 1 ≤ x) (hx2 : x ≤ 4611686018427387904) (hy : 1 ≤ y) : Calls Try.prog 25 #[.int .i64 x, .int .i64 y] w fun e w' => e = .returned (.int .i64 (upI x y)) ∧ w' = w := by
  have E := hid (upI_tdiv hx hy)
  have q1 := upI_pos hx hy
  have q2 := upI_le hx hy
  obtain ⟨d, Hd⟩ : ∃ d, Hid ((x - 1).tdiv y = d) := ⟨_, rfl⟩
  have hd : (x - 1).tdiv y = d := Hd.out
  have hdu : d + 1 = upI x y := by rw [← Hd.out]; exact E.out
  have k1 : IntKind.i64.wrap (x - 1) = x - 1 := by rw [IntKind.wrap_i64]; omega
  have k2 : IntKind.i64.wrap d = d := by rw [IntKind.wrap_i64]; omega
  have k3 : IntKind.i64.wrap (d + 1) = d + 1 := by rw [IntKind.wrap_i64]; omega
  have hy0 : ¬ y = 0 := by omega
  have HU := hid hdu
  clear hdu q1 q2
  go_enter Try.func25, Try.ntmps25
  go_wp2
  go_ret
  rw [← HU.out]
  exact ⟨rfl, rfl⟩
set_option maxRecDepth 100000 in
set_option maxHeartbeats 4000000 in
theorem most_any (w : World) (k : Int) (h1 : 1 ≤ k) (h2 : k ≤ 255) : Calls Try.prog 32 #[.int .i64 k] w fun e w' => e = .returned (.int .i64 (k * upI 65536 k)) ∧ w' = w := by
  have C := hid (upward_any w 65536 k (by decide) (by decide) h1)
  obtain ⟨m1, m2⟩ := most_lt h1 h2
  obtain ⟨m, Hm⟩ : ∃ m, Hid (k * upI 65536 k = m) := ⟨_, rfl⟩
  have hm : k * upI 65536 k = m := Hm.out
  have k1 : IntKind.i64.wrap m = m := by rw [IntKind.wrap_i64]; omega
  clear m1 m2
  go_enter Try.func32, Try.ntmps32
  go_wp2_with fail
  refine C.out.mono ?_
  rintro e w' ⟨rfl, rfl⟩
  go_wp2
  go_ret
  first | exact ⟨rfl, rfl⟩ | (rw [Hm.out]; exact ⟨rfl, rfl⟩)
def cntB (k n : Int) : Bool := decide (1 ≤ k ∧ k ≤ n ∧ n ≤ 255)
set_option maxRecDepth 100000 in
set_option maxHeartbeats 4000000 in
theorem counts_any (w : World) (k n : Int) : Calls Try.prog 33 #[.int .i64 k, .int .i64 n] w fun e w' => e = .returned (.bool (cntB k n)) ∧ w' = w := by
  go_enter Try.func33, Try.ntmps33
  by_cases h1 : 1 ≤ k
  · by_cases h2 : k ≤ n
    · by_cases h3 : n ≤ 255
      · have F : Hid (cntB k n = true) := decide_eq_true ⟨h1, h2, h3⟩
        go_wp2; go_ret; rw [F.out]; exact ⟨rfl, rfl⟩
      · have F : Hid (cntB k n = false) := decide_eq_false fun h => h3 h.2.2
        go_wp2; go_ret; rw [F.out]; exact ⟨rfl, rfl⟩
    · have F : Hid (cntB k n = false) := decide_eq_false fun h => h2 h.2.1
      go_wp2; go_ret; rw [F.out]; exact ⟨rfl, rfl⟩
  · have F : Hid (cntB k n = false) := decide_eq_false fun h => h1 h.1
    go_wp2; go_ret; rw [F.out]; exact ⟨rfl, rfl⟩
def szB (z : Int) : Bool := decide (33 ≤ z ∧ z ≤ 16777216)
set_option maxRecDepth 100000 in
set_option maxHeartbeats 4000000 in
theorem shared_any (w : World) (z : Int) : Calls Try.prog 30 #[.int .i64 z] w fun e w' => e = .returned (.bool (szB z)) ∧ w' = w := by
  go_enter Try.func30, Try.ntmps30
  by_cases h1 : 32 < z
  · by_cases h2 : z ≤ 16777216
    · have F : Hid (szB z = true) := decide_eq_true ⟨by omega, h2⟩
      go_wp2; go_ret; rw [F.out]; exact ⟨rfl, rfl⟩
    · have F : Hid (szB z = false) := decide_eq_false fun h => h2 h.2
      go_wp2; go_ret; rw [F.out]; exact ⟨rfl, rfl⟩
  · have F : Hid (szB z = false) := decide_eq_false fun h => h1 (by have := h.1; omega)
    go_wp2; go_ret; rw [F.out]; exact ⟨rfl, rfl⟩
def prV (k n g h : Int) (s : Value) : Value := .agg #[.int .i64 k, .int .i64 n, .int .i64 g, .int .i64 h, s]
theorem below_alloc (w : World) (o : Obj) : Below w.heap.size w (w.alloc o) := (Below.refl _ w).alloc (Nat.le_refl _) o
set_option maxRecDepth 100000 in
set_option maxHeartbeats 8000000 in
theorem check_any (w : World) (k n g h : Int) (p : Option Addr) (l c : Nat) : Calls Try.prog 29 #[prV k n g h (.slice p l c)] w fun e w' => e = .returned (.int .i64 (chkE k n g l)) ∧ Below w.heap.size w w' := by
  have C := hid fun w => counts_any w k n
  unfold prV
  go_enter Try.func29, Try.ntmps29
  by_cases hc : 1 ≤ k ∧ k ≤ n ∧ n ≤ 255
  · have HC := hid hc
    have hb : cntB k n = true := decide_eq_true hc
    rw [hb] at C
    clear hb hc
    by_cases h1 : g < 1
    · have F : Hid (chkE k n g l = 3) := if_neg fun h => by have := h.2.2.2.1; omega
      go_wp2_with fail
      refine (C.out _).mono ?_
      rintro e w' ⟨rfl, rfl⟩
      go_wp2; go_ret; rw [F.out]; exact ⟨rfl, below_alloc _ _⟩
    · by_cases h2 : 65536 < g
      · have F : Hid (chkE k n g l = 3) := if_neg fun h => by have := h.2.2.2.2.1; omega
        go_wp2_with fail
        refine (C.out _).mono ?_
        rintro e w' ⟨rfl, rfl⟩
        go_wp2; go_ret; rw [F.out]; exact ⟨rfl, below_alloc _ _⟩
      · by_cases h3 : (64 : Int) < (l : Int)
        · have F : Hid (chkE k n g l = 3) := if_neg fun h => by have := h.2.2.2.2.2; omega
          go_wp2_with fail
          refine (C.out _).mono ?_
          rintro e w' ⟨rfl, rfl⟩
          go_wp2; go_ret; rw [F.out]; exact ⟨rfl, below_alloc _ _⟩
        · have F : Hid (chkE k n g l = 0) := if_pos ⟨HC.out.1, HC.out.2.1, HC.out.2.2, by omega, by omega, by omega⟩
          go_wp2_with fail
          refine (C.out _).mono ?_
          rintro e w' ⟨rfl, rfl⟩
          go_wp2; go_ret; rw [F.out]; exact ⟨rfl, below_alloc _ _⟩
  · have F : Hid (chkE k n g l = 3) := if_neg fun h => hc ⟨h.1, h.2.1, h.2.2.1⟩
    have hb : cntB k n = false := decide_eq_false hc
    rw [hb] at C
    clear hb hc
    go_wp2_with fail
    refine (C.out _).mono ?_
    rintro e w' ⟨rfl, rfl⟩
    go_wp2; go_ret; rw [F.out]; exact ⟨rfl, below_alloc _ _⟩
theorem rup_tdiv {x y : Int} (hx : 0 ≤ x) (hy : 1 ≤ y) : x.tdiv y + (x.tmod y + y - 1).tdiv y = upI x y := by
  have h2 := Int.emod_nonneg x (show y ≠ 0 by omega)
  rw [Int.tdiv_eq_ediv_of_nonneg hx, Int.tmod_eq_emod_of_nonneg hx, Int.tdiv_eq_ediv_of_nonneg (by omega)]
  exact up_ref hx hy
end Go.Proofs.Ytjfebbhnjcnepaa
namespace Go.Proofs.Ytjfebbhnjcnepaa
open Go Go.RowKit Ev
theorem mixedOrders : Try.prog.follows .mixedOrders = true := by kernel_rfl
def envI (f : List Int) (v : Value) : Env := ⟨fun i => f.getD i 0, fun _ => v, fun _ _ _ => 0⟩
def e64 (e : Ex) : TV := .sc (.int .i64 e)
def E64 (e : Ex) : AV := .tv (e64 e)
def B64 (i : Nat) : AV := E64 (.var i)
def rw64 (l : List Ex) : TV := .agg (l.map (SV.int .i64))
def vs64 (o n : Nat) : List Ex := (List.range' o n).map .var
def zs64 : List Ex := [.lit 0, .lit 0, .lit 0, .lit 0, .lit 0, .lit 0, .lit 0, .lit 0]
def ints (l : List Int) : Array Value := (l.map (Value.int .i64)).toArray
theorem e64_inst (ρ : Env) (ms : List Nat) (e : Ex) : (e64 e).inst ρ ms = some (.int .i64 (e.den ρ)) := rfl
theorem E64_inst (ρ : Env) (ms : List Nat) (e : Ex) : (E64 e).inst ρ ms = some (.int .i64 (e.den ρ)) := rfl
def tabCon (t : List (Nat × List AV × AV)) : ConF := fun g xs _ => (t.find? fun e => decide (e.1 = g) && decide (e.2.1 = xs)).map (·.2.2)
def EntOk (ρ : Env) (e : Nat × List AV × AV) : Prop :=
  ∀ (ms : List Nat) (w : World) (args : Array Value), e.2.1.map (AV.inst ρ ms) = args.toList.map some → Calls Try.prog e.1 args w fun r w' => ∃ u, r = .returned u ∧ e.2.2.inst ρ ms = some u ∧ Below w.heap.size w w'
theorem tabCon_ok {ρ : Env} {t : List (Nat × List AV × AV)} (h : ∀ e ∈ t, EntOk ρ e) : ConOk Try.prog ρ (tabCon t) := by
  intro g xs H v hv ms B w args ha hH
  unfold tabCon at hv
  rw [Option.map_eq_some_iff] at hv
  obtain ⟨e, h1, rfl⟩ := hv
  have h2 := List.find?_some h1
  simp only [Bool.and_eq_true, decide_eq_true_eq] at h2
  obtain ⟨rfl, rfl⟩ := h2
  exact h e (List.mem_of_find?_eq_some h1) ms w args ha
theorem some_inj {α : Type} : ∀ {a b : List α}, a.map some = b.map some → a = b
  | [], [], _ => rfl
  | [], _ :: _, h => by simp at h
  | _ :: _, [], h => by simp at h
  | x :: a, y :: b, h => by
    simp only [List.map_cons, List.cons.injEq, Option.some.injEq] at h
    rw [h.1, some_inj h.2]
theorem ent {ρ : Env} {g : Nat} {xs : List AV} {v : AV} (vs : List Value) (u : Value) (hx : ∀ ms, xs.map (AV.inst ρ ms) = vs.map some) (hv : ∀ ms, v.inst ρ ms = some u)
    (h : ∀ w, Calls Try.prog g vs.toArray w fun e w' => e = .returned u ∧ Below w.heap.size w w') : EntOk ρ (g, xs, v) := by
  intro ms w args ha
  have e : args = vs.toArray := by
    have := some_inj ((hx ms).symm.trans ha)
    rw [this]
  subst e
  exact (h w).mono fun e w' ⟨q1, q2⟩ => ⟨u, q1, hv ms, q2⟩
theorem still {g : Nat} {args : Array Value} {u : Value} {w : World} (h : Calls Try.prog g args w fun e w' => e = .returned u ∧ w' = w) : Calls Try.prog g args w fun e w' => e = .returned u ∧ Below w.heap.size w w' :=
  h.mono fun e w' ⟨q1, q2⟩ => ⟨q1, q2 ▸ Below.refl _ _⟩
theorem retold {g : Nat} {args : Array Value} {u v : Value} {w : World} (h : Calls Try.prog g args w fun e w' => e = .returned u ∧ Below w.heap.size w w') (e : u = v) : Calls Try.prog g args w fun e w' => e = .returned v ∧ Below w.heap.size w w' := e ▸ h
def tabCmp (t : List (BinOp × Ex × Ex × Bool)) (op : BinOp) (a b : Ex) : Option Bool := (t.find? fun e => decide (e.1 = op) && decide (e.2.1 = a) && decide (e.2.2.1 = b)).map (·.2.2.2)
def CmpOk (ρ : Env) (e : BinOp × Ex × Ex × Bool) : Prop := cmpOf e.1 (e.2.1.den ρ) (e.2.2.1.den ρ) = some e.2.2.2
def tabRow (t : List (List Ex × List Ex × Bool)) (l l' : List SV) : Option Bool := (t.find? fun e => decide (e.1.map (SV.int .i64) = l) && decide (e.2.1.map (SV.int .i64) = l')).map (·.2.2)
def RowOk (ρ : Env) (e : List Ex × List Ex × Bool) : Prop := e.1.length = e.2.1.length ∧ decide (e.1.map (Ex.den ρ) = e.2.1.map (Ex.den ρ)) = e.2.2
def tabLore (c : List (BinOp × Ex × Ex × Bool)) (r : List (List Ex × List Ex × Bool)) : Lore := ⟨tabCmp c, id, tabRow r⟩
theorem row_inst (ρ : Env) (ms : List Nat) : ∀ (l : List Ex) (vs : List Value), (l.map (SV.int .i64)).map (SV.inst ρ ms) = vs.map some → vs = (l.map (Ex.den ρ)).map (Value.int .i64)
  | [], [], _ => rfl
  | [], _ :: _, h => by simp at h
  | _ :: _, [], h => by simp at h
  | e :: l, v :: vs, h => by
    simp only [List.map_cons, List.cons.injEq] at h
    rw [row_inst ρ ms l vs h.2]
    have := h.1
    simp only [SV.inst, Option.some.injEq] at this
    rw [← this]
    rfl
theorem ints_eqv : ∀ (a b : List Int), a.length = b.length → all2 alike (a.map (Value.int .i64)) (b.map (Value.int .i64)) = true ∧ all2 eqv (a.map (Value.int .i64)) (b.map (Value.int .i64)) = decide (a = b)
  | [], [], _ => ⟨rfl, rfl⟩
  | [], _ :: _, h => by simp at h
  | _ :: _, [], h => by simp at h
  | x :: a, y :: b, h => by
    obtain ⟨h1, h2⟩ := ints_eqv a b (by simpa using h)
    refine ⟨by simp only [List.map_cons, all2, h1, alike]; simp, ?_⟩
    simp only [List.map_cons, all2, h2, eqv]
    by_cases e : x = y
    · subst e; simp
    · simp [e]
theorem tabLore_ok {ρ : Env} {c : List (BinOp × Ex × Ex × Bool)} {r : List (List Ex × List Ex × Bool)} (hc : ∀ e ∈ c, CmpOk ρ e) (hr : ∀ e ∈ r, RowOk ρ e) : LoreOk ρ (tabLore c r) := by
  refine ⟨fun op a b r hr => ?_, fun _ => rfl, fun l l' b hb ms vs us hv hu => ?_⟩
  · simp only [tabLore, tabCmp] at hr
    rw [Option.map_eq_some_iff] at hr
    obtain ⟨e, h1, rfl⟩ := hr
    have h2 := List.find?_some h1
    simp only [Bool.and_eq_true, decide_eq_true_eq] at h2
    obtain ⟨⟨rfl, rfl⟩, rfl⟩ := h2
    exact hc e (List.mem_of_find?_eq_some h1)
  · simp only [tabLore, tabRow] at hb
    rw [Option.map_eq_some_iff] at hb
    obtain ⟨e, h1, rfl⟩ := hb
    have h2 := List.find?_some h1
    simp only [Bool.and_eq_true, decide_eq_true_eq] at h2
    obtain ⟨rfl, rfl⟩ := h2
    obtain ⟨q1, q2⟩ := hr e (List.mem_of_find?_eq_some h1)
    rw [row_inst ρ ms _ vs hv, row_inst ρ ms _ us hu, ← q2]
    exact ints_eqv _ _ (by simpa using q1)
theorem ret_true {P : Program} {ρ : Env} {g : Nat} {args : Array Value} {w : World} {H : List Blk} (h : Calls P g args w fun e w' => ∃ ms u, e = .returned u ∧ (AV.tv (.sc (.bool true))).inst ρ ms = some u ∧ Holds ρ ms H w.heap.size w' ∧ Below w.heap.size w w') :
    Calls P g args w fun e w' => e = .returned (.bool true) ∧ Below w.heap.size w w' :=
  h.mono fun e w' ⟨ms, u, q1, q2, _, q3⟩ => by
    simp only [AV.inst, TV.inst, SV.inst, Option.some.injEq] at q2
    subst q2
    exact ⟨q1, q3⟩
theorem map_fst {α β : Type} {o : Option (α × β)} {a : α} (h : o.map (·.1) = some a) : ∃ b, o = some (a, b) := by
  cases o with
  | none => cases h
  | some p => simp only [Option.map_some, Option.some.injEq] at h; exact ⟨p.2, by rw [← h]⟩
theorem ev_row {ρ : Env} {c : List (BinOp × Ex × Ex × Bool)} {r : List (List Ex × List Ex × Bool)} {t : List (Nat × List AV × AV)} {n g : Nat} {xs : List AV} {v : AV}
    (hc : ∀ e ∈ c, CmpOk ρ e) (hr : ∀ e ∈ r, RowOk ρ e) (ht : ∀ e ∈ t, EntOk ρ e) (h : (evCallF Try.prog (tabLore c r) (tabCon t) n g xs H0).map (·.1) = some v)
    (vs : List Value) (u : Value) (hx : xs.map (AV.inst ρ ms0) = vs.map some) (hv : ∀ ms, v.inst ρ ms = some u) (w : World) :
    Calls Try.prog g vs.toArray w fun e w' => e = .returned u ∧ Below w.heap.size w w' := by
  obtain ⟨H', h1⟩ := map_fst h
  refine (calls_of_evF (tabLore_ok hc hr) (tabCon_ok ht) mixedOrders n h1 (args := vs.toArray) w (by rw [List.toList_toArray]; exact hx)).mono ?_
  rintro e w' ⟨ms, u', rfl, q1, _, q3⟩
  rw [hv ms] at q1
  cases q1
  exact ⟨rfl, q3⟩
def env00 : Env := ⟨fun _ => 0, fun _ => .tuple #[], fun _ _ _ => 0⟩
noncomputable def evCut (n : Nat) : CallF := evCallR Try.prog noLore (callStep Try.prog noCon) 1000 n
theorem evCut_ok (ρ : Env) (n : Nat) : CallOk Try.prog ρ (evCut n) := evCallR_ok (noLore_ok ρ) mixedOrders (fun self hs => callStep_ok (noCon_ok _ ρ) hs) 1000 n
theorem ret_evCut {g n : Nat} (h : (evCut n g [] H0).map (·.1) = some (.tv (.sc (.bool true)))) (w : World) : Calls Try.prog g #[] w fun e w' => e = .returned (.bool true) ∧ Below w.heap.size w w' := by
  have hx : ∃ H', evCut n g [] H0 = some (.tv (.sc (.bool true)), H') := by
    cases hr : evCut n g [] H0 with
    | none => rw [hr] at h; cases h
    | some p => rw [hr] at h; simp only [Option.map_some, Option.some.injEq] at h; exact ⟨p.2, by rw [← h]⟩
  obtain ⟨H', h1⟩ := hx
  refine (evCut_ok env00 n g [] H0 _ H' h1 ms0 w.heap.size w #[] rfl (holds_nil env00 w)).mono ?_
  rintro e w' ⟨ms', u, rfl, _, h2, _, h4⟩
  simp only [AV.inst, TV.inst, SV.inst, Option.some.injEq] at h2
  exact ⟨by rw [← h2], h4.toBelow⟩
theorem awake_ev : (evCut 1000 10 [] H0).map (·.1) = some (.tv (.sc (.bool true))) := by kernel_rfl
theorem awake_any (w : World) : Calls Try.prog 10 #[] w fun e w' => e = .returned (.bool true) ∧ Below w.heap.size w w' := ret_evCut awake_ev w
def shV (l : List Int) : Value := .agg (ints l)
theorem all1 {α : Type} {p : α → Prop} {a : α} (h : p a) : ∀ e ∈ [a], p e := fun e he => by
  simp only [List.mem_cons, List.not_mem_nil, or_false] at he; subst he; exact h
theorem allc {α : Type} {p : α → Prop} {a : α} {l : List α} (h : p a) (hl : ∀ e ∈ l, p e) : ∀ e ∈ a :: l, p e := fun e he => by
  rcases List.mem_cons.1 he with rfl | he
  · exact h
  · exact hl e he
theorem alln {α : Type} {p : α → Prop} : ∀ e ∈ ([] : List α), p e := fun e he => by simp at he
theorem row_den (ρ : Env) (ms : List Nat) (l : List Ex) : (rw64 l).inst ρ ms = some (shV (l.map (Ex.den ρ))) := by
  have : ∀ l : List Ex, seqO ((l.map (SV.int .i64)).map (SV.inst ρ ms)) = some ((l.map (Ex.den ρ)).map (Value.int .i64)) := by
    intro l
    rw [seqO_iff]
    simp [SV.inst]
  simp only [rw64, TV.inst, this, Option.map_some, shV, ints]
def tailX : Ex := .ari .sub .i64 (.var 3) (.ari .mul .i64 (.ari .sub .i64 (.var 4) (.lit 1)) (.var 2))
def tShaped : List (Nat × List AV × AV) := [(25, [B64 3, B64 2], B64 4), (25, [E64 tailX, B64 0], B64 5)]
def cShaped : List (BinOp × Ex × Ex × Bool) := [(.neq, .var 0, .lit 0, true)]
theorem shaped_ev : (evCallF Try.prog (tabLore cShaped []) (tabCon tShaped) 100 31 [B64 0, B64 1, B64 2, B64 3] H0).map (·.1) = some (.tv (rw64 [.var 0, .var 1, .var 2, .var 3, .var 4, tailX, .ari .quo .i64 (.var 2) (.var 0), .var 5])) := by kernel_rfl
theorem wrap64 {x : Int} (h1 : -9223372036854775808 ≤ x) (h2 : x ≤ 9223372036854775807) : IntKind.i64.wrap x = x := by rw [IntKind.wrap_i64]; omega
theorem shaped_any (w : World) (k n g z : Int) (hk : 1 ≤ k) (hk2 : k ≤ 255) (hg : 1 ≤ g) (hg2 : g ≤ 65790) (hz : 1 ≤ z) (hz2 : z ≤ 16777216) : Calls Try.prog 31 #[.int .i64 k, .int .i64 n, .int .i64 g, .int .i64 z] w fun e w' => e = .returned (shV (shR k n g z)) ∧ Below w.heap.size w w' := by
  have s1 := upI_pos hz hg
  have s2 := upI_le hz hg
  have t1 := tlI_pos (x := z) hg
  have t2 := tlI_le (x := z) hg
  have te := tail_eq z g
  have hm : (upI z g - 1) * g ≤ z := by have := up_split z g; omega
  have hm0 : 0 ≤ (upI z g - 1) * g := Int.mul_nonneg (by omega) (by omega)
  let ρ := envI [k, n, g, z, upI z g, upI (tlI z g) k] (.tuple #[])
  have hT : Ex.den ρ tailX = tlI z g := by
    show IntKind.i64.wrap (z - IntKind.i64.wrap (IntKind.i64.wrap (upI z g - 1) * g)) = tlI z g
    rw [wrap64 (x := upI z g - 1) (by omega) (by omega), wrap64 (x := (upI z g - 1) * g) (by omega) (by omega), te, wrap64 (by omega) (by omega)]
  have hq : IntKind.i64.wrap (g.tdiv k) = g / k := by
    rw [Int.tdiv_eq_ediv_of_nonneg (by omega)]
    have a := Int.ediv_nonneg (show 0 ≤ g by omega) (show 0 ≤ k by omega)
    have b := Int.ediv_le_self k (show 0 ≤ g by omega)
    exact wrap64 (by omega) (by omega)
  refine ev_row (ρ := ρ) (c := cShaped) (r := []) (t := tShaped) ?_ alln ?_ shaped_ev [.int .i64 k, .int .i64 n, .int .i64 g, .int .i64 z] (shV (shR k n g z)) rfl ?_ w
  · exact all1 (show some (k != 0) = some true by rw [bne_iff_ne.2 (show k ≠ 0 by omega)])
  · refine allc (ent [.int .i64 z, .int .i64 g] (.int .i64 (upI z g)) (fun _ => rfl) (fun _ => rfl) fun w => still (upward_any w z g hz (by omega) hg)) (all1 ?_)
    exact ent [.int .i64 (tlI z g), .int .i64 k] (.int .i64 (upI (tlI z g) k)) (fun _ => by simp only [List.map_cons, List.map_nil, E64_inst, hT, B64]; rfl) (fun _ => rfl) fun w => still (upward_any w _ k t1 (by omega) hk)
  · intro ms
    simp only [AV.inst]
    rw [row_den]
    simp only [List.map_cons, List.map_nil, hT]
    show some (shV [k, n, g, z, upI z g, tlI z g, IntKind.i64.wrap (g.tdiv k), upI (tlI z g) k]) = _
    rw [hq]; rfl
theorem tup2 (ρ : Env) (ms : List Nat) (l : List Ex) (e : Ex) : (AV.tup [rw64 l, e64 e]).inst ρ ms = some (.tuple #[shV (l.map (Ex.den ρ)), .int .i64 (e.den ρ)]) := by
  simp only [AV.inst, List.map_cons, List.map_nil, row_den, e64_inst, seqO, Option.map_some]
theorem zs_den (ρ : Env) : zs64.map (Ex.den ρ) = sh0 := rfl
def bX (b : Bool) : AV := .tv (.sc (.bool b))
theorem bX_inst (ρ : Env) (ms : List Nat) (b : Bool) : (bX b).inst ρ ms = some (.bool b) := rfl
def mulX : Ex := .ari .mul .i64 (.var 0) (.var 5)
def prX : AV := .tv (.agg [.int .i64 (.var 0), .int .i64 (.var 1), .int .i64 (.var 2), .int .i64 (.var 3), .opq 0])
theorem prX_inst {k n g h : Int} {r : List Int} {s : Value} (hs : s.oneCell' = true) (ms : List Nat) : prX.inst (envI (k :: n :: g :: h :: r) s) ms = some (prV k n g h s) := by
  simp [prX, AV.inst, TV.inst, SV.inst, seqO, Ex.den, envI, hs, prV]
def shape_t1 (e : Int) : List (Nat × List AV × AV) := [(29, [prX], E64 (.lit e))]
def shape_t2 : List (Nat × List AV × AV) := [(29, [prX], E64 (.lit 0)), (25, [B64 2, B64 0], B64 5), (31, [B64 0, B64 1, E64 mulX, B64 4], .tv (rw64 [.var 0, .var 1, mulX, .var 4, .var 6, .var 7, .var 8, .var 9]))]
def rshape_t1 (e : Int) : List (Nat × List AV × AV) := [(36, [prX], E64 (.lit e))]
def rshape_t2 : List (Nat × List AV × AV) := [(36, [prX], E64 (.lit 0)), (38, [B64 2, B64 0], B64 5), (37, [B64 0, B64 1, E64 mulX, B64 4], .tv (rw64 [.var 0, .var 1, mulX, .var 4, .var 6, .var 7, .var 8, .var 9]))]
def sh_t (b : Bool) : Nat × List AV × AV := (30, [B64 4], bX b)
theorem shape_ev1 : (evCallF Try.prog (tabLore [] []) (tabCon (shape_t1 3)) 100 19 [prX, B64 4] H0).map (·.1) = some (.tup [rw64 zs64, e64 (.lit 3)]) := by kernel_rfl
theorem shape_ev2 : (evCallF Try.prog (tabLore [] []) (tabCon (sh_t false :: shape_t1 0)) 100 19 [prX, B64 4] H0).map (·.1) = some (.tup [rw64 zs64, e64 (.lit 4)]) := by kernel_rfl
theorem shape_ev3 : (evCallF Try.prog (tabLore [(.gtr, .var 6, .lit 512, true)] []) (tabCon (sh_t true :: shape_t2)) 100 19 [prX, B64 4] H0).map (·.1) = some (.tup [rw64 zs64, e64 (.lit 3)]) := by kernel_rfl
theorem shape_ev4 : (evCallF Try.prog (tabLore [(.gtr, .var 6, .lit 512, false)] []) (tabCon (sh_t true :: shape_t2)) 100 19 [prX, B64 4] H0).map (·.1) = some (.tup [rw64 [.var 0, .var 1, mulX, .var 4, .var 6, .var 7, .var 8, .var 9], e64 (.lit 0)]) := by kernel_rfl
theorem shape_any (w : World) (k n g h z : Int) (p : Option Addr) (l c : Nat) : Calls Try.prog 19 #[prV k n g h (.slice p l c), .int .i64 z] w fun e w' => e = .returned (.tuple #[shV (shpT k n g l z), .int .i64 (shpE k n g l z)]) ∧ Below w.heap.size w w' := by
  have hs : (Value.slice p l c).oneCell' = true := rfl
  have hsh : ∀ ρ b, szB z = b → Ex.den ρ (.var 4) = z → EntOk ρ (sh_t b) := fun ρ b hb hz => ent [.int .i64 z] (.bool b) (fun _ => by simp only [List.map_cons, List.map_nil, B64, E64_inst, hz]) (fun _ => rfl) fun w => by rw [← hb]; exact still (shared_any w z)
  by_cases hp : OkP k n g l
  · have hch : ∀ w, Calls Try.prog 29 #[prV k n g h (.slice p l c)] w fun e w' => e = .returned (.int .i64 0) ∧ Below w.heap.size w w' := fun w => by
      have := check_any w k n g h p l c
      rwa [chkE, if_pos hp] at this
    obtain ⟨h1, h2, h3, h4, h5, h6⟩ := id hp
    by_cases hz : 33 ≤ z ∧ z ≤ 16777216
    · have hb : szB z = true := decide_eq_true hz
      have u1 := upI_pos h4 h1
      have u2 := up_ge (x := g) h1
      have u3 := up_lt (x := g) h1
      let ρ := envI [k, n, g, h, z, upI g k, upI z (k * upI g k), tlI z (k * upI g k), k * upI g k / k, upI (tlI z (k * upI g k)) k] (.slice p l c)
      have hm : Ex.den ρ mulX = k * upI g k := wrap64 (x := k * upI g k) (by omega) (by omega)
      have hent : ∀ e ∈ sh_t true :: shape_t2, EntOk ρ e := by
        refine allc (hsh ρ true hb rfl) (allc ?_ (allc ?_ (all1 ?_)))
        · exact ent [prV k n g h (.slice p l c)] (.int .i64 0) (fun ms => by simp only [List.map_cons, List.map_nil]; rw [prX_inst hs]) (fun _ => rfl) hch
        · exact ent [.int .i64 g, .int .i64 k] (.int .i64 (upI g k)) (fun _ => rfl) (fun _ => rfl) fun w => still (upward_any w g k h4 (by omega) h1)
        · refine ent [.int .i64 k, .int .i64 n, .int .i64 (k * upI g k), .int .i64 z] (shV (shR k n (k * upI g k) z)) (fun ms => by simp only [List.map_cons, List.map_nil, B64, E64_inst, hm]; rfl) (fun ms => ?_) fun w => shaped_any w k n _ z h1 (by omega) (by omega) (by omega) (by omega) hz.2
          simp only [AV.inst]
          rw [row_den]
          simp only [List.map_cons, List.map_nil, hm]
          rfl
      by_cases h9 : upI z (k * upI g k) ≤ 512
      · have e1 : shpE k n g l z = 0 := by rw [shpE, if_pos hp, if_pos hz, if_pos h9]
        have e2 : shpT k n g l z = shR k n (k * upI g k) z := by rw [shpT, if_pos e1]
        rw [e1, e2]
        refine ev_row (ρ := ρ) (all1 ?_) alln hent shape_ev4 [prV k n g h (.slice p l c), .int .i64 z] _ ?_ (fun ms => ?_) w
        · show some (decide (upI z (k * upI g k) > 512)) = some false
          rw [decide_eq_false (by omega)]
        · simp only [List.map_cons, List.map_nil]; rw [prX_inst hs]; rfl
        · rw [tup2]
          simp only [List.map_cons, List.map_nil, hm]
          rfl
      · have e1 : shpE k n g l z = 3 := by rw [shpE, if_pos hp, if_pos hz, if_neg h9]
        have e2 : shpT k n g l z = sh0 := by rw [shpT, if_neg (by omega)]
        rw [e1, e2]
        refine ev_row (ρ := ρ) (all1 ?_) alln hent shape_ev3 [prV k n g h (.slice p l c), .int .i64 z] _ ?_ (fun ms => ?_) w
        · show some (decide (upI z (k * upI g k) > 512)) = some true
          rw [decide_eq_true (by omega)]
        · simp only [List.map_cons, List.map_nil]; rw [prX_inst hs]; rfl
        · rw [tup2, zs_den]; rfl
    · have hb : szB z = false := decide_eq_false hz
      have e1 : shpE k n g l z = 4 := by rw [shpE, if_pos hp, if_neg hz]
      have e2 : shpT k n g l z = sh0 := by rw [shpT, if_neg (by omega)]
      rw [e1, e2]
      refine ev_row (ρ := envI [k, n, g, h, z] (.slice p l c)) alln alln (allc (hsh _ false hb rfl) (all1 ?_)) shape_ev2 [prV k n g h (.slice p l c), .int .i64 z] _ ?_ (fun ms => ?_) w
      · exact ent [prV k n g h (.slice p l c)] (.int .i64 0) (fun ms => by simp only [List.map_cons, List.map_nil]; rw [prX_inst hs]) (fun _ => rfl) hch
      · simp only [List.map_cons, List.map_nil]; rw [prX_inst hs]; rfl
      · rw [tup2, zs_den]; rfl
  · have e1 : shpE k n g l z = 3 := by rw [shpE, if_neg hp]
    have e2 : shpT k n g l z = sh0 := by rw [shpT, if_neg (by omega)]
    rw [e1, e2]
    refine ev_row (ρ := envI [k, n, g, h, z] (.slice p l c)) alln alln (all1 ?_) shape_ev1 [prV k n g h (.slice p l c), .int .i64 z] _ ?_ (fun ms => ?_) w
    · refine ent [prV k n g h (.slice p l c)] (.int .i64 3) (fun ms => by simp only [List.map_cons, List.map_nil]; rw [prX_inst hs]) (fun _ => rfl) fun w => ?_
      have := check_any w k n g h p l c
      rwa [chkE, if_neg hp] at this
    · simp only [List.map_cons, List.map_nil]; rw [prX_inst hs]; rfl
    · rw [tup2, zs_den]; rfl
end Go.Proofs.Ytjfebbhnjcnepaa
namespace Go.Proofs.Ytjfebbhnjcnepaa
open Go.ChangeShapes Go.WideShapes Go.ChangeAt Go.RowKit
theorem Opn.shp_types : Try.prog.cellTypes Try.prog.depth 23 = some [3, 3, 3, 3, 3, 3, 3, 3] := by kernel_rfl
theorem Opn.shp_cells : Try.prog.cellsOf 23 = 8 := by kernel_rfl
set_option maxRecDepth 100000 in
theorem open_shp {W : World} {base : Nat} {v : Value} (h : Value.okWide Try.prog W .any base 23 v) :
    ∃ a b c d e f g h : Int, v = shV [a, b, c, d, e, f, g, h] := by
  simp only [Value.okWide, Try.underlying23] at h
  obtain ⟨cs, rfl, h1, ts, h2, _, h3⟩ := h
  rw [Opn.shp_types] at h2
  cases h2
  have hs : cs.size = 8 := by rw [← Opn.shp_cells]; exact h1
  have there : ∀ i, i < 8 → ∃ v, cs[i]? = some v := fun i hi => ⟨cs[i]'(by omega), Array.getElem?_eq_getElem (by omega)⟩
  have num : ∀ i, i < 8 → ∃ k : Int, cs[i]? = some (.int .i64 k) := fun i hi => by
    obtain ⟨v, hv⟩ := there i (by omega)
    obtain ⟨u, h4, h5⟩ := h3 i v hv
    have hu : u = 3 := by
      rcases (by omega : i = 0 ∨ i = 1 ∨ i = 2 ∨ i = 3 ∨ i = 4 ∨ i = 5 ∨ i = 6 ∨ i = 7) with rfl | rfl | rfl | rfl | rfl | rfl | rfl | rfl <;> (cases h4; rfl)
    subst hu
    rw [hv]
    simp only [Cell.okWide, Try.underlying3] at h5
    cases v <;> simp only [Cell.ok, Try.underlying3] at h5
    obtain ⟨rfl, h6⟩ := h5
    exact ⟨_, rfl⟩
  obtain ⟨a, ha⟩ := num 0 (by decide)
  obtain ⟨b, hb⟩ := num 1 (by decide)
  obtain ⟨c, hc⟩ := num 2 (by decide)
  obtain ⟨d, hd⟩ := num 3 (by decide)
  obtain ⟨e, he⟩ := num 4 (by decide)
  obtain ⟨f, hf⟩ := num 5 (by decide)
  obtain ⟨g, hg⟩ := num 6 (by decide)
  obtain ⟨h, hh⟩ := num 7 (by decide)
  refine ⟨a, b, c, d, e, f, g, h, ?_⟩
  unfold shV
  congr 1
  apply Array.ext_getElem?
  intro i
  rcases (by omega : i = 0 ∨ i = 1 ∨ i = 2 ∨ i = 3 ∨ i = 4 ∨ i = 5 ∨ i = 6 ∨ i = 7 ∨ 8 ≤ i) with rfl | rfl | rfl | rfl | rfl | rfl | rfl | rfl | h8
  · exact ha
  · exact hb
  · exact hc
  · exact hd
  · exact he
  · exact hf
  · exact hg
  · exact hh
  · rw [Array.getElem?_eq_none (by omega), Array.getElem?_eq_none (by simpa [ints] using h8)]
theorem Opn.prm_types : Try.prog.cellTypes Try.prog.depth 48 = some [3, 3, 3, 3, 24] := by kernel_rfl
theorem Opn.prm_cells : Try.prog.cellsOf 48 = 5 := by kernel_rfl
set_option maxRecDepth 100000 in
theorem open_prm {W : World} {base : Nat} {v : Value} (h : Value.okWide Try.prog W .any base 48 v) :
    ∃ (a b c d : Int) (p : Option Addr) (l m : Nat), v = prV a b c d (.slice p l m) := by
  simp only [Value.okWide, Try.underlying48] at h
  obtain ⟨cs, rfl, h1, ts, h2, _, h3⟩ := h
  rw [Opn.prm_types] at h2
  cases h2
  have hs : cs.size = 5 := by rw [← Opn.prm_cells]; exact h1
  have there : ∀ i, i < 5 → ∃ v, cs[i]? = some v := fun i hi => ⟨cs[i]'(by omega), Array.getElem?_eq_getElem (by omega)⟩
  have num : ∀ i, i < 4 → ∃ k : Int, cs[i]? = some (.int .i64 k) := fun i hi => by
    obtain ⟨v, hv⟩ := there i (by omega)
    obtain ⟨u, h4, h5⟩ := h3 i v hv
    have hu : u = 3 := by
      rcases (by omega : i = 0 ∨ i = 1 ∨ i = 2 ∨ i = 3) with rfl | rfl | rfl | rfl <;> (cases h4; rfl)
    subst hu
    rw [hv]
    simp only [Cell.okWide, Try.underlying3] at h5
    cases v <;> simp only [Cell.ok, Try.underlying3] at h5
    obtain ⟨rfl, h6⟩ := h5
    exact ⟨_, rfl⟩
  obtain ⟨a, ha⟩ := num 0 (by decide)
  obtain ⟨b, hb⟩ := num 1 (by decide)
  obtain ⟨c, hc⟩ := num 2 (by decide)
  obtain ⟨d, hd⟩ := num 3 (by decide)
  obtain ⟨x, hx⟩ := there 4 (by decide)
  have hsl : ∃ p l m, x = .slice p l m := by
    obtain ⟨u, h4, h5⟩ := h3 4 x hx
    cases h4
    simp only [Cell.okWide, Try.underlying24] at h5
    cases x <;> first | exact ⟨_, _, _, rfl⟩ | (simp only [Cell.ok, Try.underlying24] at h5; done)
  obtain ⟨p, l, m, rfl⟩ := hsl
  refine ⟨a, b, c, d, p, l, m, ?_⟩
  unfold prV
  congr 1
  apply Array.ext_getElem?
  intro i
  rcases (by omega : i = 0 ∨ i = 1 ∨ i = 2 ∨ i = 3 ∨ i = 4 ∨ 5 ≤ i) with rfl | rfl | rfl | rfl | rfl | h8
  · exact ha
  · exact hb
  · exact hc
  · exact hd
  · exact hx
  · rw [Array.getElem?_eq_none (by omega), Array.getElem?_eq_none (by simpa using h8)]
theorem open_prmS {H : Type} {enc : TypeId × Value → H} {W : World} {base : Nat} {a b c e : Int} {q : Option Addr} {l m : Nat} {d : DataW H} {p : List MemPlace} (h : DataW.Trod enc Try.prog W base (fun _ => true) true 48 (prV a b c e (.slice q l m)) d p) {ts : List TypeId} {ds : List (DataW H)}
    (hsz : (DataW.weightsEach Try.prog (48 :: ts) (d :: ds)).all (· ≤ reachBytes) = true) : ∃ L : List Int, HB W (.slice q l m) L ∧ L.length ≤ 140737488351232 := by
  obtain ⟨fuel, hf⟩ := h
  obtain ⟨xs, n, _, hx, hl, hlen, hff⟩ := DataW.trod_struct Try.underlying48 hf
  match xs, hlen with
  | [y0, y1, y2, y3, y4], _ =>
    have h4 : DataW.trod enc Try.prog W base (fun _ => true) true n 24 [.slice q l m] = some y4 := by
      have := hff 4 _ rfl
      simpa [prV, Value.cells, Opn.cells_bytes] using this
    have hT : DataW.Trod enc Try.prog W base (fun _ => true) true 24 (.slice q l m) y4.1 y4.2 := ⟨n, by simpa [Value.cells] using h4⟩
    obtain ⟨L, g, _⟩ := open_HB hT ⟨_, _, _, rfl⟩
    simp only [Prod.mk.injEq] at hx
    obtain ⟨rfl, _⟩ := hx
    have hs2 : (DataW.weightsEach Try.prog [3, 3, 3, 3, 24] [y0.1, y1.1, y2.1, y3.1, y4.1]).all (· ≤ reachBytes) = true := by
      rw [DataW.weightsEach, List.all_append, Bool.and_eq_true] at hsz
      have := hsz.1
      simpa [DataW.weights, Try.underlying48] using this
    exact ⟨L, g, len_reach (j := 4) hs2 rfl rfl hT g⟩
end Go.Proofs.Ytjfebbhnjcnepaa
namespace Go.Proofs.Ytjfebbhnjcnepaa
open Go.RowKit Go.Shelf
def KD (D : Nat → Prop) (A C : World) : Prop := A.heap.size ≤ C.heap.size ∧ ∀ i, D i → C.heap[i]? = A.heap[i]?
theorem KD.refl (D : Nat → Prop) (A : World) : KD D A A := ⟨Nat.le_refl _, fun _ _ => rfl⟩
theorem KD.trans {D : Nat → Prop} {A B C : World} (h : KD D A B) (k : KD D B C) : KD D A C := ⟨Nat.le_trans h.1 k.1, fun i hi => (k.2 i hi).trans (h.2 i hi)⟩
theorem KD.put {D : Nat → Prop} {A : World} {l : Nat} (hl : ¬ D l) (o : Obj) : KD D A (A.putObj l o) := ⟨by simp, fun _ hi => World.putObj_heap_other (fun e => hl (e ▸ hi))⟩
def IterF (F : Fence) (n : Nat) (P : Program) (g : Nat) (lb : Array Value) (enc : Nat → Value → Array Value) (Fit : Nat → Value → World → Prop) (D : Nat → Prop) (N : Nat) (w0 : World) : Prop :=
  ∀ (l : Nat) (J : Nat → World → Prop) (Jx : World → Prop) (W : World), KD D w0 W → (∀ k A C, J k A → A.grownBy C none → J k C) →
    (∀ k v W1, J k W1 → Fit k v W1 → k < N → YieldAt F (n - 1) P l (enc k v) W1 fun e W' => (e = .returned (.bool true) ∧ J (k + 1) W' ∧ KD D W1 W') ∨ (e = .returned (.bool false) ∧ Jx W')) →
    J 0 W → CallsIn F n P g (#[.func (.yield l) #[] #[]] ++ lb) W fun e W' => (∃ v, e = .returned v) ∧ (J N W' ∨ Jx W')
def OutF (B : Nat) (D : Nat → Prop) (I : Nat → World → Prop) (Ix : Code → World → Prop) (k : Nat) (W : World) : Exit → Act → World → Prop
  | .normal, _, W' => KeepsFrom B W W' ∧ KD D W W' ∧ I (k + 1) W'
  | .ret, _, W' => KeepsFrom B W W' ∧ Ix .ret W'
  | .exit id, _, W' => KeepsFrom B W W' ∧ Ix (.exit id) W'
  | _, _, _ => False
theorem range_fit {F : Fence} {n : Nat} {P : Program} {g : Operand} {ps : Array Tmp} {assign body : Code} {Q : Exit → Act → World → Prop} {a : Act} {w : World}
    (hro : F.round = none) (h1 : 1 ≤ n) {gf : Nat} {lb : Array Value} (hg : a.eval g = .func (.func gf) #[] lb) (hFg : F.fn gf) (eg : ∀ args w, (callFunc gf args).run P w = .ok (.enter gf args) w)
    {enc : Nat → Value → Array Value} {Fit : Nat → Value → World → Prop} {D : Nat → Prop} {N : Nat} {w0 : World} (hit : IterF F (n - 1) P gf lb enc Fit D N w0) (hw0 : KD D w0 w) (hD : ∀ i, D i → i < w.heap.size) (hps : ∀ k v, (enc k v).size = ps.size)
    (I : Nat → World → Prop) (Ix : Code → World → Prop) (hI : OwnFrom w.heap.size I) (hIx : OwnFrom w.heap.size Ix) (hFit : ∀ k v, OwnFrom w.heap.size (fun (_ : Unit) W => Fit k v W)) (h0 : I 0 w) (a₁ : Nat → Value → Act)
    (hassign : ∀ (l k : Nat) (v : Value) (W : World) (K : Act → World → Prop), K (a₁ k v) W →
      assign.wpIn (F.inRound l) (n - 1 - 1) P (Exit.then K (fun _ _ _ => False)) { tmps := (ps.zip (enc k v)).foldl (fun t (p, v) => t.setIfInBounds p v) a.tmps, defers := [] } W)
    (hbody : ∀ (l k : Nat) (v : Value) (W : World), w.heap.size ≤ l → (∃ r, W.heap[l]? = some (.loop r)) → I k W → Fit k v W → k < N → body.wpIn (F.inRound l) (n - 1 - 1) P (OutF w.heap.size D I Ix k W) (a₁ k v) W)
    (hdone : ∀ (d : Nat) (W : World), w.heap.size ≤ d → I N W → W.heap[d]? = some (.deferred (some [])) → Q .normal { a with defers := { target := .collected d, args := #[] } :: a.defers } W)
    (hstop : ∀ (d : Nat) (c : Code) (W : World), w.heap.size ≤ d → Ix c W → W.heap[d]? = some (.deferred (some [])) → c.wpIn F n P Q { a with defers := { target := .collected d, args := #[] } :: a.defers } W) :
    (Code.rangeFunc g ps assign body).wpIn F n P Q a w := by
  refine wpIn_rangeFunc fun fn hfn => ?_
  rw [hro]
  let R : LoopState → Option Code → Loop := fun st pe => { state := st, pending := pe, fn, tmps := a.tmps, params := ps, assign, body, defers := w.heap.size }
  have hds : ∀ i, D i → i ≠ w.heap.size ∧ i ≠ w.heap.size + 1 := fun i hi => by have := hD i hi; omega
  have hnd : ¬ D (w.heap.size + 1) := fun h => (hds _ h).2 rfl
  -- what of the two blocks of book-keeping: the record at st, pe, and the block for deferred calls
  let BK : LoopState → Option Code → World → Prop := fun st pe W => W.heap[w.heap.size + 1]? = some (.loop (R st pe)) ∧ W.heap[w.heap.size]? = some (.deferred (some []))
  have bk_put : ∀ {st pe W} (st' pe'), BK st pe W → BK st' pe' (W.putObj (w.heap.size + 1) (.loop (R st' pe'))) := fun st' pe' h =>
    ⟨World.putObj_heap_same (Array.getElem?_eq_some_iff.1 h.1).1, (World.putObj_heap_other (by omega)).trans h.2⟩
  have bk_kept : ∀ {st pe A C}, BK st pe A → KeepsFrom w.heap.size A C → BK st pe C := fun h k => ⟨k.same _ _ (by omega) h.1 rfl, k.same _ _ (Nat.le_refl _) h.2 rfl⟩
  have bk_grown : ∀ {st pe A C}, BK st pe A → A.grownBy C none → BK st pe C := fun h k =>
    ⟨(k.block _ (Array.getElem?_eq_some_iff.1 h.1).1 (by simp)).trans h.1, (k.block _ (Array.getElem?_eq_some_iff.1 h.2).1 (by simp)).trans h.2⟩
  obtain ⟨W1, hW1⟩ : ∃ W1, (w.alloc (.deferred (some []))).alloc (.loop (R .ready none)) = W1 := ⟨_, rfl⟩
  have hg1 : w.grownBy W1 none := by
    rw [← hW1]
    exact ⟨rfl, rfl, rfl, by simp; omega, fun i hi _ => (Below.heap_alloc _ _ _ (by simp; omega)).trans (Below.heap_alloc _ _ _ hi)⟩
  have hBK1 : BK .ready none W1 := by
    rw [← hW1]
    refine ⟨?_, (Below.heap_alloc _ _ _ (by simp)).trans (World.alloc_heap_new w _)⟩
    have := World.alloc_heap_new (w.alloc (.deferred (some []))) (.loop (R .ready none))
    rwa [World.size_alloc] at this
  refine ⟨w.heap.size + 1, [{ target := .collected w.heap.size, args := #[] }], W1, { target := .fn (.func gf) lb, args := #[.func (.yield (w.heap.size + 1)) #[] #[]] }, W1, gf, #[.func (.yield (w.heap.size + 1)) #[] #[]] ++ lb, W1, ?_, ?_, ?_, ?_, fun _ => h1, ?_⟩
  · rw [← hW1]; exact run_enterLoop_outer _ _ _ _ _
  · simp only [resolve, hg]; simp [go_sem]
  · intro f' hf'; simp [Target.leads] at hf'; subst hf'; exact hFg
  · simp [invoke, go_sem, eg]
  · refine (hit (w.heap.size + 1) (fun k W => I k W ∧ BK .ready none W) (fun W => ∃ c, Ix c W ∧ BK .done (some c) W) W1 (hw0.trans ⟨hg1.size, fun i hi => hg1.block i (hD i hi) (by simp)⟩)
      (fun k A C h hg' => ⟨hI k A C none h.1 hg' (fun r e => by cases e), bk_grown h.2 hg'⟩) ?_ ⟨hI 0 w W1 none h0 hg1 (fun r e => by cases e), hBK1⟩).mono ?_
    · rintro k v W ⟨hi, hb⟩ hf hk
      refine ⟨fn, _, assign, body, run_yield (P := P) (r := R .ready none) (args := enc k v) hb.1 (hps k v), roundIn_of_wpIn hfn (hassign _ k v W _ ⟨_, run_beginRound hb.1 rfl, ?_⟩)⟩
      have hb2 : BK .busy none (W.putObj (w.heap.size + 1) (.loop (R .busy none))) := bk_put _ _ hb
      refine wpIn_mono (hbody _ k v _ (by omega) ⟨_, hb2.1⟩ (hI.putObj _ hi (by omega) hb.1 rfl) ((hFit k v).putObj (s := ()) _ hf (by omega) hb.1 rfl) hk) ?_
      rintro e a3 W3 hp
      cases e with
      | normal =>
        obtain ⟨k1, k2, k3⟩ := hp
        have hb3 := bk_kept hb2 k1
        exact ⟨_, _, run_endRound (P := P) none hb3.1, .inl ⟨rfl, ⟨hI.putObj _ k3 (by omega) hb3.1 rfl, bk_put .ready none hb3⟩, ((KD.put hnd _).trans k2).trans (KD.put hnd _)⟩⟩
      | ret =>
        have hb3 := bk_kept hb2 hp.1
        exact ⟨_, _, run_endRound (P := P) (some .ret) hb3.1, .inr ⟨rfl, .ret, hIx.putObj _ hp.2 (by omega) hb3.1 rfl, bk_put .done (some .ret) hb3⟩⟩
      | exit id =>
        have hb3 := bk_kept hb2 hp.1
        exact ⟨_, _, run_endRound (P := P) (some (.exit id)) hb3.1, .inr ⟨rfl, .exit id, hIx.putObj _ hp.2 (by omega) hb3.1 rfl, bk_put .done (some (.exit id)) hb3⟩⟩
      | goto t => exact hp.elim
      | panic ch => exact hp.elim
      | outgrown => exact hp.elim
    · rintro e W2 ⟨⟨v, rfl⟩, ⟨hi, hb⟩ | ⟨c, hc, hb⟩⟩
      · exact ⟨none, _, run_endLoop (P := P) hb.1 (by simp [R]), hdone _ _ (Nat.le_refl _) (hI.putObj _ hi (by omega) hb.1 rfl) ((World.putObj_heap_other (by omega)).trans hb.2)⟩
      · exact ⟨some c, _, run_endLoop (P := P) hb.1 (by simp [R]), hstop _ c _ (Nat.le_refl _) (hIx.putObj _ hc (by omega) hb.1 rfl) ((World.putObj_heap_other (by omega)).trans hb.2)⟩
def noDefer (o : Oper) : Bool := match o.op with | .defer _ => false | _ => true
theorem noDefer_spec {ops : Array Oper} (h : ops.all noDefer = true) (i : Nat) (o : Oper) (ho : ops[i]? = some o) : ∀ c, o.op ≠ .defer c := fun c e => by
  obtain ⟨hi, rfl⟩ := Array.getElem?_eq_some_iff.1 ho
  have := (Array.all_eq_true.1 h) i hi
  simp [noDefer, e] at this
theorem any_round {F : Fence} {n : Nat} {P : Program} {ops : Array Oper} {Q : Exit → Act → World → Prop} {md : Region.Mode} {l : Nat} (hro : F.round = none) (hd : ops.all noDefer = true) :
    ∀ (fuel : Nat) (listed : Array Bool) (a : Act) (w : World), wpAnyIn F n P md ops Q fuel listed a w → wpAnyIn (F.inRound l) n P md ops Q fuel listed a w
  | 0, _, _, _, h => h
  | fuel + 1, listed, a, w, h => by
    refine ⟨h.1, fun i hi => ?_⟩
    have h1 := wpOpIn_mono (fun a' w' h' => any_round (l := l) hro hd fuel (listed.setIfInBounds i true) a' w' h') (h.2 i hi)
    unfold wpOpIn at h1 ⊢
    cases ho : ops[i]? with
    | none => simpa only [ho] using h1
    | some o =>
      simp only [ho] at h1 ⊢
      by_cases hw : Region.wanted o (yielded ops a.tmps) = true
      · simp only [hw, if_true] at h1 ⊢
        unfold Oper.wpIn at h1 ⊢
        refine ⟨h1.1, ?_⟩
        have h2 := h1.2
        rw [Oper.semAt_eq _ _ _ (noDefer_spec hd i o ho)] at h2 ⊢
        exact h2
      · simp only [hw] at h1 ⊢
        exact h1
theorem box_from {A C : World} {row : Option Nat} {B n : Nat} {t : TypeId} {v : Value} (h : Boxed A B t v) (hg : A.grownBy C row) (hr : ∀ r, row = some r → n ≤ r ∧ ∃ o : Obj, A.heap[r]? = some o ∧ o.isCells = false) : Boxed C B t v :=
  h.kept hg fun e => by
    obtain ⟨_, o, ho, hc⟩ := hr B e.symm
    rw [show A.heap[B]? = _ from h] at ho
    cases ho
    cases hc
theorem row_from {A C : World} {row : Option Nat} {B n k size : Nat} {e : TypeId} {v : Value} {xs : List Value} (h : A.ownsRow B e size v k xs) (hg : A.grownBy C row) (hr : ∀ r, row = some r → n ≤ r ∧ ∃ o : Obj, A.heap[r]? = some o ∧ o.isCells = false) : C.ownsRow B e size v k xs := by
  refine h.kept hg ?_
  rcases h.2 with ⟨rfl, _⟩ | ⟨g, cap, cur, rfl, _, hgb, _⟩
  · exact .inl rfl
  · refine .inr fun e' => ?_
    obtain ⟨_, o, ho, hc⟩ := hr g (by simpa [Value.ownBlock] using e'.symm)
    rw [hgb] at ho
    cases ho
    cases hc
theorem below_from {w A C : World} {row : Option Nat} {B n : Nat} (h : Below B w A) (hB : B ≤ w.heap.size) (hg : A.grownBy C row) (hr : ∀ r, row = some r → n ≤ r ∧ ∃ o : Obj, A.heap[r]? = some o ∧ o.isCells = false) (hn : B ≤ n) : Below B w C :=
  h.grown hg (Nat.le_trans hB h.size) (fun k e => by have := (hr k e).1; omega)
end Go.Proofs.Ytjfebbhnjcnepaa
