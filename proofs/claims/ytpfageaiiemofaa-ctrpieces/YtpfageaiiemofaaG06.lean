/- Of the road to ctrPiecesUpto_holds: EvRange, EvMarks, CtrKnownLaw, SameBytes, CtrBackW, CtrPiecesM, CtrNext, CtrPiecesW, Join, Lists, CtrPc, UbPick. -/
import Derived.Test.YtpfageaiiemofaaG04
import Derived.RangeFuncLeaves
import Derived.RangeFuncNested
import Derived.Test.YtpfageaiiemofaaG05
import Derived.Test.YtpfageaiiemofaaG00
import Derived.Test.YtpfageaiiemofaaChecked
import Derived.Deep.RegionHeld
import Derived.Laws.AppendOwnNone
set_option linter.unusedVariables false
set_option linter.unusedSimpArgs false
namespace Go.Proofs.Ytpfageaiiemofaa.Ev
open Go Go.RowKit
theorem cells_of_cell {w : World} {b j : Nat} {v : Value} (h : (w.cell? ⟨b, j, none⟩) = some v) {o : Obj} (ho : w.heap[b]? = some o) : o.isCells = true := by
  unfold World.cell? at h
  rw [ho] at h
  cases o <;> simp_all [Obj.isCells]
theorem Holds.put {ρ : Env} {ms : List Nat} {H : List Blk} {B : Nat} {w : World} (h : Holds ρ ms H B w) {l : Nat} {o : Obj} (ho : w.heap[l]? = some o) (hc : o.isCells = false) (o' : Obj) : Holds ρ ms H B (w.putObj l o') where
  len := h.len
  gl := h.gl
  inj := h.inj
  low := h.low
  bnd := fun i b k hi hk hne => by simpa using h.bnd i b k hi hk hne
  big := by simpa using h.big
  plain := h.plain
  cell := fun i b k hi hk j s hs => by
    obtain ⟨v, h1, h2, h3⟩ := h.cell i b k hi hk j s hs
    have hbl : b ≠ l := fun e => by
      subst e
      have := cells_of_cell h2 ho
      rw [this] at hc; cases hc
    refine ⟨v, h1, ?_, fun hr => ?_⟩
    · rw [← h2]; unfold World.cell?; rw [World.putObj_heap_other hbl]
    · rw [← h3 hr]; unfold World.frozen?; rw [World.putObj_heap_other hbl]
  room := fun i b c k0 k hi hc' hk0 hr0 hn0 hk hcap j hj => by
    obtain ⟨e1, e2⟩ := h.room i b c k0 k hi hc' hk0 hr0 hn0 hk hcap j hj
    have hbl : b ≠ l := fun e => by
      subst e
      cases hx : w.cell? ⟨b, j, none⟩ with
      | none => rw [hx] at e1; simp at e1
      | some x =>
        have := cells_of_cell hx ho
        rw [this] at hc; cases hc
    refine ⟨?_, ?_⟩
    · rw [← e1]; unfold World.cell?; rw [World.putObj_heap_other hbl]
    · rw [← e2]; unfold World.frozen?; rw [World.putObj_heap_other hbl]
structure BelX (l B : Nat) (w w' : World) : Prop extends Below B w w' where
  kept : ∀ (i : Nat) (o : Obj), i ≠ l → w.heap[i]? = some o → o.isCells = false → w'.heap[i]? = some o
theorem BelX.refl (l B : Nat) (w : World) : BelX l B w w := ⟨Below.refl B w, fun _ _ _ h _ => h⟩
theorem BelX.trans {l B : Nat} {a b c : World} (h : BelX l B a b) (k : BelX l B b c) : BelX l B a c := ⟨h.toBelow.trans k.toBelow, fun i o hl hi hc => k.kept i o hl (h.kept i o hl hi hc) hc⟩
theorem Bel.x {l B : Nat} {w w' : World} (h : Bel B w w') : BelX l B w w' := ⟨h.toBelow, fun i o _ hi hc => h.kept i o hi hc⟩
theorem BelX.put {l B : Nat} (hl : B ≤ l) (w : World) (o : Obj) : BelX l B w (w.putObj l o) :=
  ⟨⟨rfl, rfl, rfl, by simp, fun k hk => World.putObj_heap_other (by omega)⟩, fun i o' hi h _ => (World.putObj_heap_other hi).trans h⟩
def Out.code : Out → Code
  | .normal => .skip
  | .exit i => .exit i
  | .ret => .ret
def pendOf : Out → Option Out
  | .normal => none
  | o => some o
def isN : Out → Bool
  | .normal => true
  | _ => false
def RecP (mkL : LoopState → Option Code → Loop) (l : Nat) (p : Option Out) (w : World) : Prop := w.heap[l]? = some (.loop (match p with | none => mkL .ready none | some o => mkL .done (some o.code)))
theorem RecP.bel {mkL : LoopState → Option Code → Loop} {l : Nat} {p : Option Out} {B : Nat} {w w' : World} (h : RecP mkL l p w) (hb : Bel B w w') : RecP mkL l p w' := hb.kept l _ h rfl
abbrev YF := List AV → List Blk → Option (Out × List Blk)
def yv (l : Nat) : Value := .func (.yield l) #[] #[]
def YOk (P : Program) (ρ : Env) (m0 : List Nat) (l B : Nat) (mkL : LoopState → Option Code → Loop) (yh : YF) : Prop :=
  ∀ aas H o H', yh aas H = some (o, H') → ∀ (n : Nat) (ms : List Nat) (w : World) (args : Array Value), m0 <+: ms → aas.map (AV.inst ρ ms) = args.toList.map some → Holds ρ ms H B w → RecP mkL l none w → ∀ (R : Ending → World → Prop),
    (∀ ms' w', ms <+: ms' → Holds ρ ms' H' B w' → RecP mkL l (pendOf o) w' → BelX l B w w' → R (.returned (.bool (isN o))) w') → YieldAt Fence.wide n P l args w R
def setL : List (Nat × AV) → Tm → Tm
  | [], t => t
  | p :: r, t => setL r (t.set p.1 p.2)
theorem relT_zip {ρ : Env} {ms : List Nat} : ∀ (ps : List Nat) (aas : List AV) (args : List Value) (t : Tm) (tmps : Array Value), aas.map (AV.inst ρ ms) = args.map some → RelT ρ ms t tmps →
    RelT ρ ms (setL (ps.zip aas) t) ((ps.zip args).foldl (fun (tm : Array Value) (p : Nat × Value) => tm.setIfInBounds p.1 p.2) tmps)
  | [], _, _, _, _, _, h => by simpa [setL] using h
  | p :: ps, [], [], t, tmps, _, h => by simpa [setL] using h
  | p :: ps, [], _ :: _, _, _, e, _ => by simp at e
  | p :: ps, _ :: _, [], _, _, e, _ => by simp at e
  | p :: ps, x :: aas, v :: args, t, tmps, e, h => by
    simp only [List.map_cons, List.cons.injEq] at e
    simp only [List.zip_cons_cons, setL, List.foldl_cons]
    exact relT_zip ps aas args _ _ e.2 (RelT.put (a := { tmps := tmps, defers := [] }) h p e.1)
def yhOf (self : CodeF) (ps : Array Tmp) (assign body : Code) (t0 : Tm) : YF := fun aas H =>
  match Nat.beq aas.length ps.size with
  | true =>
    match self assign (setL (ps.toList.zip aas) t0) H with
    | some (.normal, t2, H2) =>
      match self body t2 H2 with
      | some (o, _, H3) => some (o, H3)
      | none => none
    | _ => none
  | false => none
theorem yh_ok {P : Program} {ρ : Env} {self : CodeF} (hs : CodeOkG P ρ self) {fnn : FuncId} {tmps0 : Array Value} {ps : Array Tmp} {assign body : Code} {dd l B : Nat} (ha : calm assign = true) (hb : calm body = true) {m0 : List Nat} {t0 : Tm} (hT0 : RelT ρ m0 t0 tmps0) (hBl : B ≤ l) :
    YOk P ρ m0 l B (fun st pe => { state := st, pending := pe, fn := fnn, tmps := tmps0, params := ps, assign, body, defers := dd }) (yhOf self ps assign body t0) := by
  intro aas H o H' h n ms w args hms hargs hH hR R hK
  unfold yhOf at h
  split at h
  case h_2 => cases h
  rename_i hlen
  split at h
  case h_2 => cases h
  rename_i t2 H2 h1
  split at h
  case h_2 => cases h
  rename_i o' t3 H3 h2
  simp only [Option.some.injEq, Prod.mk.injEq] at h
  obtain ⟨rfl, rfl⟩ := h
  have hsz : args.size = ps.size := by
    have e1 := congrArg List.length hargs
    have e2 := Nat.eq_of_beq_eq_true hlen
    simp at e1
    omega
  unfold RecP at hR
  simp only at hR
  refine ⟨fnn, _, assign, body, run_yield (P := P) hR hsz, roundIn_of_wpIn (F := Fence.wide) trivial ?_⟩
  have hRel : RelT ρ ms (setL (ps.toList.zip aas) t0) ((ps.zip args).foldl (fun (tm : Array Value) (p : Nat × Value) => tm.setIfInBounds p.1 p.2) tmps0) := by
    have := relT_zip ps.toList aas args.toList t0 tmps0 hargs (hT0.mono hms)
    rw [← Array.foldl_toList, Array.toList_zip]
    exact this
  refine hs assign _ H .normal t2 H2 h1 (some l) (.inr ha) n ms B _ w _ hRel hH fun ms1 a1 w1 q1 q2 q3 q4 q5 => ?_
  have hR1 := q5.kept l _ hR rfl
  refine ⟨_, run_beginRound hR1 rfl, ?_⟩
  have hR2 := World.putObj_heap_same (o := Obj.loop { state := .busy, pending := none, fn := fnn, tmps := tmps0, params := ps, assign := assign, body := body, defers := dd }) (Array.getElem?_eq_some_iff.1 hR1).1
  refine hs body t2 H2 o' t3 H3 h2 (some l) (.inr hb) n ms1 B a1 _ _ q2 (q4.put hR1 rfl _) fun ms3 a3 w3 r1 r2 r3 r4 r5 => ?_
  have hR3 := r5.kept l _ hR2 rfl
  have hlt := (Array.getElem?_eq_some_iff.1 hR3).1
  have hB : ∀ o4, BelX l B w (w3.putObj l o4) := fun o4 => ((q5.x.trans (BelX.put hBl _ _)).trans r5.x).trans (BelX.put hBl _ _)
  cases o' with
  | normal => exact ⟨_, _, run_endRound (P := P) none hR3, hK ms3 _ (q1.trans r1) (r4.put hR3 rfl _) (World.putObj_heap_same hlt) (hB _)⟩
  | exit i => exact ⟨_, _, run_endRound (P := P) (some (.exit i)) hR3, hK ms3 _ (q1.trans r1) (r4.put hR3 rfl _) (World.putObj_heap_same hlt) (hB _)⟩
  | ret => exact ⟨_, _, run_endRound (P := P) (some .ret) hR3, hK ms3 _ (q1.trans r1) (r4.put hR3 rfl _) (World.putObj_heap_same hlt) (hB _)⟩
def yCall (Y : List Nat) (o : Oper) : Option (List Operand) :=
  match o.guard with
  | none =>
    match o.op with
    | .call c =>
      match c.callee with
      | .value (.tmp y) => if Y.contains y then some c.args.toList else none
      | _ => none
    | _ => none
  | some _ => none
def yMove (Y : List Nat) (t : Tm) (o : Oper) : Option Nat :=
  match o.guard with
  | none =>
    match o.op with
    | .move (.tmp y) =>
      match o.dst with
      | some d => if Y.contains y && (t.get d).isNone && Nat.blt d t.n then some d else none
      | none => none
    | _ => none
  | some _ => none
noncomputable def evIOps (yh : YF) (call : CallF) (P : Program) (L : Lore) (ops : Array Oper) : List Oper → List Nat → Tm → Option Out → List Blk → Option (Tm × Option Out × List Blk)
  | [], _, t, p, H => some (t, p, H)
  | o :: r, Y, t, p, H =>
    match yCall Y o with
    | some xs =>
      match p with
      | none =>
        match seqO (xs.map (evGet t)) with
        | some aas =>
          match dstFree Y o with
          | true =>
            match yh aas H with
            | some (out, H') => evIOps yh call P L ops r Y (putA t o.dst (.tv (.sc (.bool (isN out))))) (pendOf out) H'
            | none => none
          | false => none
        | none => none
      | some _ => none
    | none =>
      match yMove Y t o with
      | some d => evIOps yh call P L ops r (d :: Y) t p H
      | none =>
        match calmO o && dstFree Y o with
        | true =>
          match opsF call P L ops [o] t H with
          | some (t', H') => evIOps yh call P L ops r Y t' p H'
          | none => none
        | false => none
theorem wanted_none {o : Oper} (h : o.guard = none) (ops : Array Oper) (tm : Array Value) : Region.wanted o (yielded ops tm) = true := by
  unfold Region.wanted
  rw [h]
theorem evIOps_ok {P : Program} {ρ : Env} {L : Lore} (hL : LoreOk ρ L) {call : CallF} (hc : CallOk P ρ call) {m0 : List Nat} {l B : Nat} {mkL : LoopState → Option Code → Loop} {yh : YF} (hy : YOk P ρ m0 l B mkL yh) {ops : Array Oper} {n : Nat} {Q : Exit → Act → World → Prop} :
    ∀ (lst : List Oper) (Y : List Nat) (t : Tm) (p : Option Out) (H : List Blk) (t' : Tm) (p' : Option Out) (H' : List Blk), evIOps yh call P L ops lst Y t p H = some (t', p', H') →
    ∀ (ms : List Nat) (a : Act) (w : World), m0 <+: ms → RelT ρ ms t a.tmps → Ys Y (yv l) a.tmps → 0 ∈ Y → Holds ρ ms H B w → RecP mkL l p w →
    (∀ ms' a' w', ms <+: ms' → RelT ρ ms' t' a'.tmps → a'.tmps[0]? = some (yv l) → a'.defers = a.defers → Holds ρ ms' H' B w' → RecP mkL l p' w' → BelX l B w w' → Q .normal a' w') → wpListIn Fence.wide n P ops Q lst a w
  | [], Y, t, p, H, t', p', H', h, ms, a, w, hms, hT, hY, h0, hH, hR, hQ => by
    simp only [evIOps, Option.some.injEq, Prod.mk.injEq] at h
    obtain ⟨rfl, rfl, rfl⟩ := h
    exact hQ ms a w (List.prefix_refl _) hT (hY 0 h0) rfl hH hR (BelX.refl _ _ _)
  | o :: r, Y, t, p, H, t', p', H', h, ms, a, w, hms, hT, hY, h0, hH, hR, hQ => by
    simp only [evIOps] at h
    unfold wpListIn
    split at h
    · -- the yield
      rename_i xs hx
      unfold yCall at hx
      split at hx
      case h_2 => cases hx
      rename_i hg
      split at hx
      case h_2 => cases hx
      rename_i c hop
      split at hx
      case h_2 => cases hx
      rename_i y hcal
      split at hx
      case isFalse => cases hx
      rename_i hyY
      simp only [Option.some.injEq] at hx
      subst hx
      split at h
      case h_2 => cases h
      split at h
      case h_2 => cases h
      rename_i aas has
      split at h
      case h_2 => cases h
      rename_i hdf
      split at h
      case h_2 => cases h
      rename_i out H1 hyh
      rw [wanted_none hg, if_pos rfl]
      have hyv : a.eval (.tmp y) = yv l := by
        have := hY y (by simpa using hyY)
        simp [Act.eval, Array.getD_eq_getD_getElem?, this]
      have hargs : aas.map (AV.inst ρ ms) = (c.args.map a.eval).toList.map some := by
        rw [seqO_iff] at has
        have key : ∀ (xs : List Operand) (aas : List AV), xs.map (evGet t) = aas.map some → aas.map (AV.inst ρ ms) = (xs.map a.eval).map some := by
          intro xs
          induction xs with
          | nil => intro aas h; cases aas <;> simp at h ⊢
          | cons x xs ih =>
            intro aas h
            cases aas with
            | nil => simp at h
            | cons p aas =>
              simp only [List.map_cons, List.cons.injEq] at h ⊢
              exact ⟨evGet_ok hT h.1, ih aas h.2⟩
        have := key _ _ has
        rw [this]; simp
      obtain ⟨fnn, tm, as1, bd, hrun, hround⟩ := hy aas H out H1 hyh (n - 1) ms w (c.args.map a.eval) hms hargs hH hR (fun e w'' => match e with
        | .returned v => wpListIn Fence.wide n P ops Q r (a.put o.dst v) w''
        | .panicked chain => Q (.panic chain) a w''
        | .outgrown => LetsOut Q) (by
          intro ms1 w1 q1 q2 q3 q4
          have hT1 := (hT.mono q1).putA o.dst (x := .tv (.sc (.bool (isN out)))) (v := .bool (isN out)) rfl
          refine evIOps_ok hL hc hy r Y _ _ H1 t' p' H' h ms1 _ w1 (hms.trans q1) hT1 (hY.put hdf _) h0 q2 q3 fun ms2 a2 w2 r1 r2 r3 r4 r5 r6 r7 => ?_
          exact hQ ms2 a2 w2 (q1.trans r1) r2 r3 (r4.trans (put_defers _ _ _)) r5 r6 (q4.trans r7))
      refine ⟨fun f _ => trivial, ?_⟩
      rw [Oper.semAt_eq _ _ _ (fun c' e => by rw [hop] at e; cases e)]
      have hex : (execOp a.eval o).run P w = .ok (.round l fnn tm as1 bd) w := by
        simp only [execOp, hop, resolve, hcal, hyv, yv, Deferred.ofValue, Sem.run_bind, Sem.run_pure, Result.andThen_ok, invoke]
        simpa using hrun
      rw [hex]
      exact ⟨(fun e => by cases e), hround.mono fun e w1 he => by cases e <;> exact he⟩
    · split at h
      · -- the yield moved
        rename_i d hx
        unfold yMove at hx
        split at hx
        case h_2 => cases hx
        rename_i hg
        split at hx
        case h_2 => cases hx
        rename_i y hop
        split at hx
        case h_2 => cases hx
        rename_i d' hdst
        split at hx
        case isFalse => cases hx
        rename_i hcond
        simp only [Option.some.injEq] at hx
        subst hx
        simp only [Bool.and_eq_true] at hcond
        obtain ⟨⟨hyY, hnone⟩, hlt⟩ := hcond
        rw [wanted_none hg, if_pos rfl]
        have hyv : a.eval (.tmp y) = yv l := by
          have := hY y (by simpa using hyY)
          simp [Act.eval, Array.getD_eq_getD_getElem?, this]
        refine ⟨fun f _ => trivial, ?_⟩
        rw [Oper.semAt_eq _ _ _ (fun c' e => by rw [hop] at e; cases e)]
        have hex : (execOp a.eval o).run P w = .ok (.value (yv l)) w := by
          simp only [execOp, hop, hyv, Sem.run_pure]
        rw [hex]
        show wpListIn Fence.wide n P ops Q r (a.put o.dst (yv l)) w
        rw [hdst]
        have hdlt : d' < a.tmps.size := by rw [← hT.sz]; exact Nat.le_of_ble_eq_true hlt
        refine evIOps_ok hL hc hy r (d' :: Y) t p H t' p' H' h ms _ w hms ⟨?_, hT.le, fun i x hi => ?_, hT.gl⟩ ?_ (List.mem_cons_of_mem _ h0) hH hR fun ms2 a2 w2 r1 r2 r3 r4 r5 r6 r7 => hQ ms2 a2 w2 r1 r2 r3 r4 r5 r6 r7
        · simp [Act.put, hT.sz]
        · obtain ⟨v, h1, h2⟩ := hT.val i x hi
          refine ⟨v, ?_, h2⟩
          simp only [Act.put]
          rw [Array.getElem?_setIfInBounds, if_neg (fun e => by subst e; rw [hi] at hnone; cases hnone)]
          exact h1
        · intro z hz
          simp only [Act.put]
          rw [Array.getElem?_setIfInBounds]
          rcases List.mem_cons.1 hz with rfl | hz
          · rw [if_pos rfl, if_pos hdlt]
          · by_cases e : d' = z
            · rw [if_pos e, if_pos hdlt]
            · rw [if_neg e]; exact hY z hz
      · split at h
        case h_2 => cases h
        rename_i hcd
        rw [Bool.and_eq_true] at hcd
        split at h
        case h_2 => cases h
        rename_i t1 H1 h1
        rw [opsF_eq] at h1
        have key : wpList P ops (fun e a' w' => e = .normal ∧ ∃ ms', ms <+: ms' ∧ RelT ρ ms' t1 a'.tmps ∧ a'.defers = a.defers ∧ Holds ρ ms' H1 B w' ∧ Bel B w w') [o] a w :=
          evOps_ok hL hc [o] ms t H a w t1 H1 hT hH h1 fun ms' a' w' q1 q2 q3 q4 q5 => ⟨rfl, ms', q1, q2, q3, q4, q5⟩
        have go : ∀ a' w', (∃ ms', ms <+: ms' ∧ RelT ρ ms' t1 a'.tmps ∧ a'.defers = a.defers ∧ Holds ρ ms' H1 B w' ∧ Bel B w w') → (∃ v, a'.tmps = (a.put o.dst v).tmps) → wpListIn Fence.wide n P ops Q r a' w' := by
          rintro a' w' ⟨ms', q1, q2, q3, q4, q5⟩ ⟨v, hv⟩
          refine evIOps_ok hL hc hy r Y t1 p H1 t' p' H' h ms' a' w' (hms.trans q1) q2 (by rw [hv]; exact hY.put hcd.2 v) h0 q4 (hR.bel q5) fun ms2 a2 w2 r1 r2 r3 r4 r5 r6 r7 => ?_
          exact hQ ms2 a2 w2 (q1.trans r1) r2 r3 (r4.trans q3) r5 r6 (q5.x.trans r7)
        unfold wpList at key
        split at key
        · rename_i hw
          rw [if_pos hw]
          rcases key with key | ⟨_, a0, w0, q⟩
          · exact op_in (ro := none) key hcd.1 (fun e a w q => q.1) fun a' w' hk hv => go a' w' hk.2 hv
          · cases q.1
        · rename_i hw
          rw [if_neg hw]
          exact ⟨fun _ _ => trivial, go _ _ key.2 ⟨undef, rfl⟩⟩
noncomputable def evI (yh : YF) (call : CallF) (P : Program) (L : Lore) : Nat → Code → Tm → Option Out → List Blk → Option (Out × Tm × Option Out × List Blk)
  | 0, _, _, _, _ => none
  | n + 1, c, t, p, H =>
    match c with
    | .skip => some (.normal, t, p, H)
    | .region _ ops false => (evIOps yh call P L ops ops.toList [0] t p H).map fun r => (.normal, r.1, r.2.1, r.2.2)
    | .region _ ops true =>
      match ops.all fun o => calmO o && dstFree [0] o with
      | true => (evPlanF call P L ops t H).map fun r => (.normal, r.1, p, r.2)
      | false => none
    | .seq x y =>
      match evI yh call P L n x t p H with
      | some (.normal, t', p', H') => evI yh call P L n y t' p' H'
      | r => r
    | .cond c x y =>
      match evGet t c with
      | some (.tv (.sc (.bool true))) => evI yh call P L n x t p H
      | some (.tv (.sc (.bool false))) => evI yh call P L n y t p H
      | _ => none
    | .block id c =>
      match evI yh call P L n c t p H with
      | some (.exit i, t', p', H') => if i = id then some (.normal, t', p', H') else some (.exit i, t', p', H')
      | r => r
    | .loop c =>
      match evI yh call P L n c t p H with
      | some (.normal, t', p', H') => evI yh call P L n (.loop c) t' p' H'
      | r => r
    | .exit id => some (.exit id, t, p, H)
    | .ret => some (.ret, t, p, H)
    | .label _ => some (.normal, t, p, H)
    | _ => none
theorem evI_ok {P : Program} {ρ : Env} {L : Lore} (hL : LoreOk ρ L) (hm : P.follows .mixedOrders = true) {call : CallF} (hc : CallOk P ρ call) {m0 : List Nat} {l B : Nat} {mkL : LoopState → Option Code → Loop} {yh : YF} (hy : YOk P ρ m0 l B mkL yh) (nn : Nat) :
    ∀ (n : Nat) (c : Code) (t : Tm) (p : Option Out) (H : List Blk) (o : Out) (t' : Tm) (p' : Option Out) (H' : List Blk), evI yh call P L n c t p H = some (o, t', p', H') →
    ∀ (ms : List Nat) (a : Act) (w : World) (Q : Exit → Act → World → Prop), m0 <+: ms → RelT ρ ms t a.tmps → a.tmps[0]? = some (yv l) → Holds ρ ms H B w → RecP mkL l p w →
    (∀ ms' a' w', ms <+: ms' → RelT ρ ms' t' a'.tmps → a'.tmps[0]? = some (yv l) → a'.defers = a.defers → Holds ρ ms' H' B w' → RecP mkL l p' w' → BelX l B w w' → Q o.to a' w') → c.wpIn Fence.wide nn P Q a w := by
  intro n
  induction n using Nat.strongRecOn with
  | _ n ih =>
    cases n with
    | zero => intro c t p H o t' p' H' h; simp [evI] at h
    | succ n =>
      have ihn := ih n (by omega)
      intro c t p H o t' p' H' h ms a w Q hms hT h0 hH hR hQ
      have hstart := h
      unfold evI at h
      split at h
      · simp only [Option.some.injEq, Prod.mk.injEq] at h
        obtain ⟨rfl, rfl, rfl, rfl⟩ := h
        exact wpIn_skip (hQ ms a w (List.prefix_refl _) hT h0 rfl hH hR (BelX.refl _ _ _))
      · rw [Option.map_eq_some_iff] at h
        obtain ⟨r, h1, h2⟩ := h
        simp only [Prod.mk.injEq] at h2
        obtain ⟨rfl, rfl, rfl, rfl⟩ := h2
        exact wpIn_region_list (evIOps_ok hL hc hy _ [0] t p H r.1 r.2.1 r.2.2 h1 ms a w hms hT (fun y hy => by simp at hy; subst hy; exact h0) (by simp) hH hR hQ)
      · rename_i id ops
        split at h
        case h_2 => cases h
        rename_i hcm
        rw [Option.map_eq_some_iff] at h
        obtain ⟨r, h1, h2⟩ := h
        simp only [Prod.mk.injEq] at h2
        obtain ⟨rfl, rfl, rfl, rfl⟩ := h2
        rw [evPlanF_eq] at h1
        have key := evPlan_any (Q := fun e a' w' => ∃ ms', ms <+: ms' ∧ RelT ρ ms' r.1 a'.tmps ∧ a'.defers = a.defers ∧ Holds ρ ms' r.2 B w' ∧ Bel B w w') hL hc hT hH h1 fun ms' a' w' q1 q2 q3 q4 q5 => ⟨ms', q1, q2, q3, q4, q5⟩
        refine wpIn_mono (wpIn_region_any hm (any_in (ro := none) (Y := [0]) (yv := yv l) (fun e a w q => q.1) hcm _ _ a _ key (fun y hy => by simp at hy; subst hy; exact h0))) fun e a1 w1 q => ?_
        obtain ⟨⟨rfl, ms', q1, q2, q3, q4, q5⟩, q6⟩ := q
        exact hQ ms' a1 w1 q1 q2 (q6 0 (by simp)) q3 q4 (hR.bel q5) q5.x
      · rename_i x y
        split at h
        · rename_i t1 p1 H1 h1
          refine wpIn_seq (ihn x t p H .normal t1 p1 H1 h1 ms a w _ hms hT h0 hH hR fun ms1 a1 w1 q1 q2 q3 q4 q5 q6 q7 => ?_)
          exact ihn y t1 p1 H1 o t' p' H' h ms1 a1 w1 Q (hms.trans q1) q2 q3 q5 q6 fun ms2 a2 w2 r1 r2 r3 r4 r5 r6 r7 => hQ ms2 a2 w2 (q1.trans r1) r2 r3 (r4.trans q4) r5 r6 (q7.trans r7)
        · rename_i hne
          have hno : o ≠ .normal := fun e => by subst e; exact hne t' p' H' h
          refine wpIn_seq (ihn x t p H o t' p' H' h ms a w _ hms hT h0 hH hR fun ms1 a1 w1 q1 q2 q3 q4 q5 q6 q7 => ?_)
          have := hQ ms1 a1 w1 q1 q2 q3 q4 q5 q6 q7
          cases o with
          | normal => exact absurd rfl hno
          | exit i => exact this
          | ret => exact this
      · rename_i cc x y
        split at h
        · rename_i hcc
          have e := evGet_ok hT hcc
          simp only [AV.inst, TV.inst, SV.inst, Option.some.injEq] at e
          exact wpIn_cond_true e.symm (ihn x t p H o t' p' H' h ms a w Q hms hT h0 hH hR hQ)
        · rename_i hcc
          have e := evGet_ok hT hcc
          simp only [AV.inst, TV.inst, SV.inst, Option.some.injEq] at e
          exact wpIn_cond_false e.symm (ihn y t p H o t' p' H' h ms a w Q hms hT h0 hH hR hQ)
        · cases h
      · rename_i id x
        split at h
        · rename_i i t1 p1 H1 h1
          refine wpIn_block (ihn x t p H (.exit i) t1 p1 H1 h1 ms a w _ hms hT h0 hH hR fun ms1 a1 w1 q1 q2 q3 q4 q5 q6 q7 => ?_)
          simp only [Out.to, Exit.inBlock]
          split at h
          · rename_i e
            rw [if_pos e]
            simp only [Option.some.injEq, Prod.mk.injEq] at h
            obtain ⟨rfl, rfl, rfl, rfl⟩ := h
            exact hQ ms1 a1 w1 q1 q2 q3 q4 q5 q6 q7
          · rename_i e
            rw [if_neg e]
            simp only [Option.some.injEq, Prod.mk.injEq] at h
            obtain ⟨rfl, rfl, rfl, rfl⟩ := h
            exact hQ ms1 a1 w1 q1 q2 q3 q4 q5 q6 q7
        · rename_i hne
          refine wpIn_block (ihn x t p H o t' p' H' h ms a w _ hms hT h0 hH hR fun ms1 a1 w1 q1 q2 q3 q4 q5 q6 q7 => ?_)
          have := hQ ms1 a1 w1 q1 q2 q3 q4 q5 q6 q7
          cases o with
          | normal => exact this
          | exit i => exact absurd h (hne i t' p' H')
          | ret => exact this
      · rename_i x
        let R : Nat → Act → World → Prop := fun k a1 w1 => k ≤ n + 1 ∧ ∃ ms1 t1 p1 H1, evI yh call P L k (.loop x) t1 p1 H1 = some (o, t', p', H') ∧ ms <+: ms1 ∧ RelT ρ ms1 t1 a1.tmps ∧ a1.tmps[0]? = some (yv l) ∧ a1.defers = a.defers ∧ Holds ρ ms1 H1 B w1 ∧ RecP mkL l p1 w1 ∧ BelX l B w w1
        classical
        refine wpIn_loop (fun a1 w1 => ∃ k, R k a1 w1) (fun a1 w1 => if hx : ∃ k, R k a1 w1 then Classical.choose (has_least hx) else 0) ⟨n + 1, Nat.le_refl _, ms, t, p, H, hstart, List.prefix_refl _, hT, h0, rfl, hH, hR, BelX.refl _ _ _⟩ ?_
        intro a1 w1 hI
        have hmin := (Classical.choose_spec (has_least hI)).1
        have hall := (Classical.choose_spec (has_least hI)).2
        generalize hk : Classical.choose (has_least hI) = k at hmin hall
        obtain ⟨hle, ms1, t1, p1, H1, hev, s1, s2, s3, s4, s5, s6, s7⟩ := hmin
        cases k with
        | zero => simp [evI] at hev
        | succ k =>
          have ihk := ih k (by omega)
          simp only [evI] at hev
          split at hev
          · rename_i t2 p2 H2 h2
            refine ihk x t1 p1 H1 .normal t2 p2 H2 h2 ms1 a1 w1 _ (hms.trans s1) s2 s3 s5 s6 fun ms2 a2 w2 q1 q2 q3 q4 q5 q6 q7 => ?_
            have hRk : R k a2 w2 := ⟨by omega, ms2, t2, p2, H2, hev, s1.trans q1, q2, q3, q4.trans s4, q5, q6, s7.trans q7⟩
            have hE : ∃ j, R j a2 w2 := ⟨k, hRk⟩
            refine ⟨hE, ?_⟩
            rw [dif_pos hE, dif_pos hI, hk]
            exact Nat.lt_succ_of_le ((Classical.choose_spec (has_least hE)).2 k hRk)
          · rename_i hne
            refine ihk x t1 p1 H1 o t' p' H' hev ms1 a1 w1 _ (hms.trans s1) s2 s3 s5 s6 fun ms2 a2 w2 q1 q2 q3 q4 q5 q6 q7 => ?_
            have := hQ ms2 a2 w2 (s1.trans q1) q2 q3 (q4.trans s4) q5 q6 (s7.trans q7)
            cases o with
            | normal => exact absurd hev (hne t' p' H')
            | exit i => exact this
            | ret => exact this
      · simp only [Option.some.injEq, Prod.mk.injEq] at h
        obtain ⟨rfl, rfl, rfl, rfl⟩ := h
        exact wpIn_exit (hQ ms a w (List.prefix_refl _) hT h0 rfl hH hR (BelX.refl _ _ _))
      · simp only [Option.some.injEq, Prod.mk.injEq] at h
        obtain ⟨rfl, rfl, rfl, rfl⟩ := h
        exact wpIn_ret (hQ ms a w (List.prefix_refl _) hT h0 rfl hH hR (BelX.refl _ _ _))
      · simp only [Option.some.injEq, Prod.mk.injEq] at h
        obtain ⟨rfl, rfl, rfl, rfl⟩ := h
        exact wpIn_label (hQ ms a w (List.prefix_refl _) hT h0 rfl hH hR (BelX.refl _ _ _))
      · cases h
def markD (d : Nat) : Deferred := { target := .collected d, args := #[] }
def Out.ends : Out → Bool
  | .exit _ => false
  | _ => true
noncomputable def evRg (P : Program) (L : Lore) (call : CallF) (self : CodeF) (n : Nat) (g : Operand) (ps : Array Tmp) (assign body : Code) (t : Tm) (H : List Blk) : Option (Out × Tm × List Blk) :=
  match evGet t g with
  | some (.tv (.sc (.clo gi caps))) =>
    match canCall P gi && (calm assign && calm body) with
    | true =>
      match P.funcs[gi]? with
      | some fn =>
        match fn.body with
        | some c =>
          match Nat.ble fn.ntmps 512 && Nat.ble (caps.length + 1) fn.ntmps with
          | true =>
            match evI (yhOf self ps assign body t) call P L n c (Tm.fill 1 (ptrs caps) ⟨fn.ntmps, .emp⟩) none H with
            | some (o, t1, p1, H1) =>
              match o.ends with
              | true =>
                match evResults P fn t1 H1 with
                | some _ => some (match p1 with | none => .normal | some out => out, t, H1)
                | none => none
              | false => none
            | none => none
          | false => none
        | none => none
      | none => none
    | false => none
  | _ => none
theorem relT_iter {ρ : Env} {ms : List Nat} {caps : List (Nat × Nat)} {cvs : List Value} (e2 : caps.map (addr ms) = cvs.map some) {n : Nat} (hn : n ≤ 512) (hx : caps.length + 1 ≤ n) (hg : Gl ms) (y : Value) :
    RelT ρ ms (Tm.fill 1 (ptrs caps) ⟨n, .emp⟩) ((#[y] ++ cvs.toArray) ++ Array.replicate (n - (#[y] ++ cvs.toArray).size) undef) := by
  have hl : caps.length = cvs.length := by have := congrArg List.length e2; simpa using this
  refine ⟨by rw [Tm.fill_n]; simp; omega, by rw [Tm.fill_n]; exact hn, fun j x hj => ?_, hg⟩
  rcases Tm.get_fill (ptrs caps) 1 ⟨n, .emp⟩ hn j x hj with ⟨h1, h2⟩ | h1
  · unfold ptrs at h2
    rw [List.getElem?_map, Option.map_eq_some_iff] at h2
    obtain ⟨p, hp, rfl⟩ := h2
    have h3 := congrArg (fun l => l[j - 1]?) e2
    simp only [List.getElem?_map, hp, Option.map_some] at h3
    obtain ⟨v, hv, hv2⟩ := Option.map_eq_some_iff.1 h3.symm
    have hlt := (List.getElem?_eq_some_iff.1 hv).1
    refine ⟨v, ?_, ?_⟩
    · rw [Array.getElem?_append_left (by simp; omega), Array.getElem?_append_right (by simp; omega)]
      simpa using hv
    · simp only [AV.inst, TV.inst, SV.inst]
      rw [← hv2]
  · unfold Tm.get at h1
    split at h1
    · rw [Tr.law3.emp] at h1; cases h1
    · cases h1
theorem evRg_ok {P : Program} {ρ : Env} {L : Lore} (hL : LoreOk ρ L) (hm : P.follows .mixedOrders = true) {call : CallF} (hc : CallOk P ρ call) {self : CodeF} (hs : CodeOkG P ρ self) {n : Nat} {g : Operand} {ps : Array Tmp} {assign body : Code} {t t' : Tm} {H H' : List Blk} {o : Out}
    (h : evRg P L call self n g ps assign body t H = some (o, t', H')) {ms : List Nat} {B : Nat} {a : Act} {w : World} {Q : Exit → Act → World → Prop} (hT : RelT ρ ms t a.tmps) (hH : Holds ρ ms H B w)
    (hQ : ∀ ms' a' w' d, ms <+: ms' → RelT ρ ms' t' a'.tmps → a'.defers = markD d :: a.defers → w'.heap[d]? = some (.deferred (some [])) → w.heap.size ≤ d → Holds ρ ms' H' B w' → Bel B w w' → Q o.to a' w') : (Code.rangeFunc g ps assign body).wp P Q a w := by
  unfold evRg at h
  split at h
  case h_2 => cases h
  rename_i gi caps hgv
  split at h
  case h_2 => cases h
  rename_i hcan
  simp only [Bool.and_eq_true] at hcan
  obtain ⟨hcan, hca, hcb⟩ := hcan
  split at h
  case h_2 => cases h
  rename_i fn hfn
  split at h
  case h_2 => cases h
  rename_i c hb
  split at h
  case h_2 => cases h
  rename_i hbd
  rw [Bool.and_eq_true] at hbd
  split at h
  case h_2 => cases h
  rename_i o1 t1 p1 H1 hev
  split at h
  case h_2 => cases h
  rename_i hends
  split at h
  case h_2 => cases h
  rename_i v1 hres
  simp only [Option.some.injEq, Prod.mk.injEq] at h
  obtain ⟨rfl, rfl, rfl⟩ := h
  have e0 := evGet_ok hT hgv
  simp only [AV.inst, TV.inst, SV.inst, Option.map_eq_some_iff] at e0
  obtain ⟨cvs, e2, e3⟩ := e0
  rw [seqO_iff] at e2
  unfold canCall at hcan
  rw [hfn] at hcan
  simp only [Bool.and_eq_true, bne_iff_ne, ne_eq] at hcan
  have eg : ∀ args w, (callFunc gi args).run P w = .ok (.enter gi args) w := fun args w => by
    have hn : (fn.name == "runtime.NumGoroutine") = false := by simpa using hcan.1
    simp [callFunc, program, Sem.run, hfn, hn, hb, go_sem]
    exact hcan.1
  refine (wpIn_wide (n := 1)).1 (wpIn_rangeFunc fun fnn hfnn => ?_)
  let R : LoopState → Option Code → Loop := fun st pe => { state := st, pending := pe, fn := fnn, tmps := a.tmps, params := ps, assign, body, defers := w.heap.size }
  obtain ⟨W1, hW1⟩ : ∃ W1, (w.alloc (.deferred (some []))).alloc (.loop (R .ready none)) = W1 := ⟨_, rfl⟩
  have hg1 : Bel w.heap.size w W1 := by
    rw [← hW1]
    exact ((Bel.refl _ w).alloc (Nat.le_refl _) _).alloc (by simp) _
  have hl : RecP R (w.heap.size + 1) none W1 := by
    rw [← hW1]
    have := World.alloc_heap_new (w.alloc (.deferred (some []))) (.loop (R .ready none))
    rwa [World.size_alloc] at this
  have hd : W1.heap[w.heap.size]? = some (.deferred (some [])) := by
    rw [← hW1]
    exact (Below.heap_alloc _ _ _ (by simp)).trans (World.alloc_heap_new w _)
  have hBl : B ≤ w.heap.size + 1 := Nat.le_succ_of_le hH.big
  refine ⟨w.heap.size + 1, [markD w.heap.size], W1, { target := .fn (.func gi) cvs.toArray, args := #[yv (w.heap.size + 1)] }, W1, gi, #[yv (w.heap.size + 1)] ++ cvs.toArray, W1, ?_, ?_, ?_, ?_, fun _ => Nat.le_refl _, ?_⟩
  · rw [← hW1]; exact run_enterLoop_outer _ _ _ _ _
  · simp only [resolve, ← e3]; simp [go_sem, yv]
  · intro f' hf'; trivial
  · simp [invoke, go_sem, eg, yv]
  · refine callsIn_wide.2 (calls_of_wp hfn hb ((wpIn_wide (n := 0)).1 ?_))
    refine evI_ok hL hm hc (yh_ok hs hca hcb hT hBl) 0 n c _ none H o1 t1 p1 H1 hev ms _ W1 _ (List.prefix_refl _) (relT_iter e2 (Nat.le_of_ble_eq_true hbd.1) (Nat.le_of_ble_eq_true hbd.2) hT.gl _) ?_ (hH.below hg1.toBelow) hl fun ms' a' w' q1 q2 q3 q4 q5 q6 q7 => ?_
    · simp [Array.getElem?_append]
    obtain ⟨u, e4, e5⟩ := evResults_ok q2 q5 hres
    have hBel : ∀ o4, Bel B w (w'.putObj (w.heap.size + 1) o4) := fun o4 => by
      have h1 := q7.trans (BelX.put hBl w' o4)
      refine ⟨(hg1.toBelow.mono hH.big).trans h1.toBelow, fun i o hi hcl => h1.kept i o ?_ (hg1.kept i o hi hcl) hcl⟩
      have := (Array.getElem?_eq_some_iff.1 hi).1
      omega
    have hmk : ∀ o4, (w'.putObj (w.heap.size + 1) o4).heap[w.heap.size]? = some (.deferred (some [])) := fun o4 => (World.putObj_heap_other (by omega)).trans (q7.kept _ _ (by omega) hd rfl)
    have fin : rangePost Fence.wide 1 P (w.heap.size + 1) Q { a with defers := [markD w.heap.size] ++ a.defers } (.returned u) w' := by
      unfold RecP at q6
      cases p1 with
      | none =>
        refine ⟨none, _, run_endLoop (P := P) q6 (by simp [R]), ?_⟩
        exact hQ ms' _ _ w.heap.size q1 (hT.mono q1) rfl (hmk _) (Nat.le_refl _) (q5.put q6 rfl _) (hBel _)
      | some out =>
        refine ⟨some out.code, _, run_endLoop (P := P) q6 (by simp [R]), ?_⟩
        have := hQ ms' { a with defers := [markD w.heap.size] ++ a.defers } _ w.heap.size q1 (hT.mono q1) rfl (hmk (.loop { R .done (some out.code) with state := .exhausted })) (Nat.le_refl _) (q5.put q6 rfl _) (hBel _)
        cases out with
        | normal => exact wpIn_skip this
        | exit i => exact wpIn_exit this
        | ret => exact wpIn_ret this
    cases o1 with
    | normal => exact ⟨q4, u, e5, fin⟩
    | exit i => cases hends
    | ret => exact ⟨q4, u, e5, fin⟩
def hasRange : Code → Bool
  | .rangeFunc _ _ _ _ => true
  | .seq a b => hasRange a || hasRange b
  | .cond _ x y => hasRange x || hasRange y
  | .block _ c => hasRange c
  | .loop c => hasRange c
  | _ => false
noncomputable def evR (P : Program) (L : Lore) (call : CallF) (self : CodeF) : Nat → CodeF
  | 0, _, _, _ => none
  | n + 1, c, t, H =>
    match hasRange c with
    | false => self c t H
    | true =>
      match c with
      | .seq x y =>
        match evR P L call self n x t H with
        | some (.normal, t', H') => evR P L call self n y t' H'
        | r => r
      | .cond c x y =>
        match evGet t c with
        | some (.tv (.sc (.bool true))) => evR P L call self n x t H
        | some (.tv (.sc (.bool false))) => evR P L call self n y t H
        | _ => none
      | .block id c =>
        match evR P L call self n c t H with
        | some (.exit i, t', H') => if i = id then some (.normal, t', H') else some (.exit i, t', H')
        | r => r
      | .loop c =>
        match evR P L call self n c t H with
        | some (.normal, t', H') => evR P L call self n (.loop c) t' H'
        | r => r
      | .rangeFunc g ps assign body => evRg P L call self n g ps assign body t H
      | _ => none
structure Marks (b : Nat) (ds : List Nat) (w : World) : Prop where
  nodup : ds.Nodup
  ok : ∀ d ∈ ds, w.heap[d]? = some (.deferred (some [])) ∧ b ≤ d
theorem Marks.nil (b : Nat) (w : World) : Marks b [] w := ⟨List.nodup_nil, fun d hd => by cases hd⟩
theorem Marks.add {b B : Nat} {ds es : List Nat} {w1 w2 : World} (h : Marks b ds w1) (hb : b ≤ w1.heap.size) (hl : Bel B w1 w2) (k : Marks w1.heap.size es w2) : Marks b (es ++ ds) w2 := by
  refine ⟨List.nodup_append.2 ⟨k.nodup, h.nodup, fun x hx y hy e => ?_⟩, fun d hd => ?_⟩
  · subst e
    have h1 := (k.ok x hx).2
    have h2 := (Array.getElem?_eq_some_iff.1 (h.ok x hy).1).1
    omega
  · rcases List.mem_append.1 hd with hd | hd
    · exact ⟨(k.ok d hd).1, Nat.le_trans hb (k.ok d hd).2⟩
    · exact ⟨hl.kept d _ (h.ok d hd).1 rfl, (h.ok d hd).2⟩
theorem evR_ok {P : Program} {ρ : Env} {L : Lore} (hL : LoreOk ρ L) (hm : P.follows .mixedOrders = true) {call : CallF} (hc : CallOk P ρ call) {self : CodeF} (hs : CodeOkG P ρ self) :
    ∀ (n : Nat) (c : Code) (t : Tm) (H : List Blk) (o : Out) (t' : Tm) (H' : List Blk), evR P L call self n c t H = some (o, t', H') →
    ∀ (ms : List Nat) (B : Nat) (a : Act) (w : World) (Q : Exit → Act → World → Prop), RelT ρ ms t a.tmps → Holds ρ ms H B w →
    (∀ ms' a' w' ds, ms <+: ms' → RelT ρ ms' t' a'.tmps → a'.defers = ds.map markD ++ a.defers → Marks w.heap.size ds w' → Holds ρ ms' H' B w' → Bel B w w' → Q o.to a' w') → c.wp P Q a w := by
  intro n
  induction n using Nat.strongRecOn with
  | _ n ih =>
    cases n with
    | zero => intro c t H o t' H' h; simp [evR] at h
    | succ n =>
      have ihn := ih n (by omega)
      intro c t H o t' H' h ms B a w Q hT hH hQ
      have hstart := h
      unfold evR at h
      split at h
      · exact hs.plain c t H o t' H' h ms B a w Q hT hH fun ms' a' w' q1 q2 q3 q4 q5 => hQ ms' a' w' [] q1 q2 q3 (Marks.nil _ _) q4 q5
      rename_i hhas
      split at h
      · rename_i x y
        split at h
        · rename_i t1 H1 h1
          refine wp_seq (ihn x t H .normal t1 H1 h1 ms B a w _ hT hH fun ms1 a1 w1 ds1 q1 q2 q3 q4 q5 q6 => ?_)
          refine ihn y t1 H1 o t' H' h ms1 B a1 w1 Q q2 q5 fun ms2 a2 w2 ds2 r1 r2 r3 r4 r5 r6 => ?_
          exact hQ ms2 a2 w2 (ds2 ++ ds1) (q1.trans r1) r2 (by rw [r3, q3]; simp) (q4.add q6.size r6 r4) r5 (q6.trans r6)
        · rename_i hne
          have hno : o ≠ .normal := fun e => by subst e; exact hne t' H' h
          refine wp_seq (ihn x t H o t' H' h ms B a w _ hT hH fun ms1 a1 w1 ds1 q1 q2 q3 q4 q5 q6 => ?_)
          have := hQ ms1 a1 w1 ds1 q1 q2 q3 q4 q5 q6
          cases o with
          | normal => exact absurd rfl hno
          | exit i => exact this
          | ret => exact this
      · rename_i cc x y
        split at h
        · rename_i hcc
          have e := evGet_ok hT hcc
          simp only [AV.inst, TV.inst, SV.inst, Option.some.injEq] at e
          exact wp_cond_true e.symm (ihn x t H o t' H' h ms B a w Q hT hH hQ)
        · rename_i hcc
          have e := evGet_ok hT hcc
          simp only [AV.inst, TV.inst, SV.inst, Option.some.injEq] at e
          exact wp_cond_false e.symm (ihn y t H o t' H' h ms B a w Q hT hH hQ)
        · cases h
      · rename_i id x
        split at h
        · rename_i i t1 H1 h1
          refine wp_block (ihn x t H (.exit i) t1 H1 h1 ms B a w _ hT hH fun ms1 a1 w1 ds1 q1 q2 q3 q4 q5 q6 => ?_)
          simp only [Out.to, Exit.inBlock]
          split at h
          · rename_i e
            rw [if_pos e]
            simp only [Option.some.injEq, Prod.mk.injEq] at h
            obtain ⟨rfl, rfl, rfl⟩ := h
            exact hQ ms1 a1 w1 ds1 q1 q2 q3 q4 q5 q6
          · rename_i e
            rw [if_neg e]
            simp only [Option.some.injEq, Prod.mk.injEq] at h
            obtain ⟨rfl, rfl, rfl⟩ := h
            exact hQ ms1 a1 w1 ds1 q1 q2 q3 q4 q5 q6
        · rename_i hne
          refine wp_block (ihn x t H o t' H' h ms B a w _ hT hH fun ms1 a1 w1 ds1 q1 q2 q3 q4 q5 q6 => ?_)
          have := hQ ms1 a1 w1 ds1 q1 q2 q3 q4 q5 q6
          cases o with
          | normal => exact this
          | exit i => exact absurd h (hne i t' H')
          | ret => exact this
      · rename_i x
        let R : Nat → Act → World → Prop := fun k a1 w1 => k ≤ n + 1 ∧ ∃ ms1 t1 H1 ds, evR P L call self k (.loop x) t1 H1 = some (o, t', H') ∧ ms <+: ms1 ∧ RelT ρ ms1 t1 a1.tmps ∧ a1.defers = ds.map markD ++ a.defers ∧ Marks w.heap.size ds w1 ∧ Holds ρ ms1 H1 B w1 ∧ Bel B w w1
        classical
        refine wp_loop (fun a1 w1 => ∃ k, R k a1 w1) (fun a1 w1 => if hx : ∃ k, R k a1 w1 then Classical.choose (has_least hx) else 0) ⟨n + 1, Nat.le_refl _, ms, t, H, [], hstart, List.prefix_refl _, hT, rfl, Marks.nil _ _, hH, Bel.refl _ _⟩ ?_
        intro a1 w1 hI
        have hmin := (Classical.choose_spec (has_least hI)).1
        have hall := (Classical.choose_spec (has_least hI)).2
        generalize hk : Classical.choose (has_least hI) = k at hmin hall
        obtain ⟨hle, ms1, t1, H1, ds, hev, s1, s2, s3, s4, s5, s6⟩ := hmin
        cases k with
        | zero => simp [evR] at hev
        | succ k =>
          have ihk := ih k (by omega)
          unfold evR at hev
          rw [hhas] at hev
          simp only at hev
          split at hev
          · rename_i t2 H2 h2
            refine ihk x t1 H1 .normal t2 H2 h2 ms1 B a1 w1 _ s2 s5 fun ms2 a2 w2 ds2 q1 q2 q3 q4 q5 q6 => ?_
            have hRk : R k a2 w2 := ⟨by omega, ms2, t2, H2, ds2 ++ ds, hev, s1.trans q1, q2, by rw [q3, s3]; simp, s4.add s6.size q6 q4, q5, s6.trans q6⟩
            have hE : ∃ j, R j a2 w2 := ⟨k, hRk⟩
            refine ⟨hE, ?_⟩
            rw [dif_pos hE, dif_pos hI, hk]
            exact Nat.lt_succ_of_le ((Classical.choose_spec (has_least hE)).2 k hRk)
          · rename_i hne
            refine ihk x t1 H1 o t' H' hev ms1 B a1 w1 _ s2 s5 fun ms2 a2 w2 ds2 q1 q2 q3 q4 q5 q6 => ?_
            have := hQ ms2 a2 w2 (ds2 ++ ds) (s1.trans q1) q2 (by rw [q3, s3]; simp) (s4.add s6.size q6 q4) q5 (s6.trans q6)
            cases o with
            | normal => exact absurd hev (hne t' H')
            | exit i => exact this
            | ret => exact this
      · exact evRg_ok hL hm hc hs h hT hH fun ms' a' w' d q1 q2 q3 q4 q5 q6 q7 => hQ ms' a' w' [d] q1 q2 q3 ⟨by simp, fun e he => by simp at he; subst he; exact ⟨q4, q5⟩⟩ q6 q7
      · cases h
theorem leave_all {P : Program} {ρ : Env} {fn : Func} {tmps : Array Value} {R : Ending → World → Prop} {ms : List Nat} {H : List Blk} {B : Nat} {w0 : World} (hB : B ≤ w0.heap.size) (hfin : ∀ w, Holds ρ ms H B w → Bel B w0 w → ∃ v, (results fn tmps).run P w = .ok v w ∧ R (.returned v) w) :
    ∀ (ds : List Nat) (w : World), Marks w0.heap.size ds w → Holds ρ ms H B w → Bel B w0 w → LeavesInM Fence.wide 1 P fn tmps R (ds.map markD) .returning w
  | [], w, _, hH, hb => hfin w hH hb
  | d :: ds, w, hm, hH, hb => by
    obtain ⟨h1, h2⟩ := hm.ok d (List.mem_cons_self ..)
    obtain ⟨n1, n2⟩ := List.nodup_cons.1 hm.nodup
    refine ⟨by simp, .inl ⟨d, _, rfl, run_takeDeferred h1, ?_⟩⟩
    refine leave_all hB hfin ds _ ⟨n2, fun e he => ?_⟩ (hH.put h1 rfl _) ?_
    · obtain ⟨q1, q2⟩ := hm.ok e (List.mem_cons_of_mem _ he)
      exact ⟨(World.putObj_heap_other (show e ≠ d from fun h => n1 (h ▸ he))).trans q1, q2⟩
    · refine ⟨⟨hb.os, hb.tape, hb.output, by simpa using hb.size, fun k hk => (World.putObj_heap_other (by omega)).trans (hb.block k hk)⟩, fun i o hi hc => ?_⟩
      have := (Array.getElem?_eq_some_iff.1 hi).1
      exact (World.putObj_heap_other (by omega)).trans (hb.kept i o hi hc)
noncomputable def callR (P : Program) (L : Lore) (base : CodeF → CallF) (N : Nat) (self : CodeF) : CallF := fun g aas H =>
  match P.funcs[g]? with
  | some fn =>
    match fn.body with
    | some c =>
      match hasRange c with
      | true =>
        match Nat.ble fn.ntmps 512 && Nat.ble aas.length fn.ntmps with
        | true =>
          match evR P L (base self) self N c (Tm.make fn.ntmps aas) H with
          | some (o, t, H') =>
            match o.ends with
            | true => (evResults P fn t H').map fun v => (v, trim H.length v H')
            | false => none
          | none => none
        | false => none
      | false => base self g aas H
    | none => base self g aas H
  | none => none
theorem callR_ok {P : Program} {ρ : Env} {L : Lore} (hL : LoreOk ρ L) (hm : P.follows .mixedOrders = true) {base : CodeF → CallF} (hbase : ∀ self, CodeOk P ρ self → CallOk P ρ (base self)) (N : Nat) (self : CodeF) (hs : CodeOkG P ρ self) : CallOk P ρ (callR P L base N self) := by
  intro g aas H v H' h ms B w args hargs hH
  unfold callR at h
  split at h
  case h_2 => cases h
  rename_i fn hfn
  split at h
  case h_2 => exact hbase self hs.plain g aas H v H' h ms B w args hargs hH
  rename_i c hb
  split at h
  case h_2 => exact hbase self hs.plain g aas H v H' h ms B w args hargs hH
  split at h
  case h_2 => cases h
  rename_i hbd
  rw [Bool.and_eq_true] at hbd
  split at h
  case h_2 => cases h
  rename_i o t H1 hev
  split at h
  case h_2 => cases h
  rename_i hends
  rw [Option.map_eq_some_iff] at h
  obtain ⟨v', hr, hv⟩ := h
  simp only [Prod.mk.injEq] at hv
  obtain ⟨rfl, rfl⟩ := hv
  have hT : RelT ρ ms (Tm.make fn.ntmps aas) (args ++ Array.replicate (fn.ntmps - args.size) undef) := RelT.make hargs (Nat.le_of_ble_eq_true hbd.1) (Nat.le_of_ble_eq_true hbd.2) hH.gl
  refine (callsIn_wide (n := 1)).1 (callsIn_of_wp_marks hfn hb trivial (wpIn_wide.2 ?_) rfl)
  refine evR_ok hL hm (hbase self hs.plain) hs N c _ H o t H1 hev ms B _ w _ hT hH fun ms' a' w' ds q1 q2 q3 q4 q5 q6 => ?_
  have key : LeavesInM Fence.wide 1 P fn a'.tmps (fun e w' => ∃ ms' u, e = .returned u ∧ ms <+: ms' ∧ v'.inst ρ ms' = some u ∧ Holds ρ ms' (trim H.length v' H1) B w' ∧ Bel B w w') a'.defers .returning w' := by
    rw [q3, List.append_nil]
    refine leave_all hH.big (fun w2 hH2 hb2 => ?_) ds w' q4 q5 q6
    obtain ⟨u, e1, e2⟩ := evResults_ok q2 hH2 hr
    obtain ⟨ms2, r1, r2, r3⟩ := trim_ok q1 hH.gl hH.len e1 hH2
    exact ⟨u, e2, ms2, u, rfl, r1, r2, r3, hb2⟩
  cases o with
  | normal => exact key
  | exit i => cases hends
  | ret => exact key
noncomputable def evCallR (P : Program) (L : Lore) (base : CodeF → CallF) (N n : Nat) : CallF := callR P L base N (evGF P L (callR P L base N) n)
theorem evCallR_ok {P : Program} {ρ : Env} {L : Lore} (hL : LoreOk ρ L) (hm : P.follows .mixedOrders = true) {base : CodeF → CallF} (hbase : ∀ self, CodeOk P ρ self → CallOk P ρ (base self)) (N n : Nat) : CallOk P ρ (evCallR P L base N n) := by
  unfold evCallR
  rw [evGF_eq]
  exact callR_ok hL hm hbase N _ (evG_both hL (callR_ok hL hm hbase N) hm n)
end Go.Proofs.Ytpfageaiiemofaa.Ev
namespace Go.Proofs.Ytpfageaiiemofaa
open Go Go.RowKit Ev
noncomputable def evKn (n : Nat) : CallF := evCallR Try.prog noLore (callStep Try.prog conLit) 1000 n
theorem evKn_ok (ρ : Env) (n : Nat) : CallOk Try.prog ρ (evKn n) := evCallR_ok (noLore_ok ρ) mixedOrders (fun self hs => callStep_ok (conLit_ok ρ) hs) 1000 n
theorem ret_evK {ρ : Env} {g n : Nat} {xs : List AV} (h : (evKn n g xs []).map (·.1) = some (.tv (.sc (.bool true)))) {args : Array Value} (w : World) (ha : xs.map (AV.inst ρ []) = args.toList.map some) : Calls Try.prog g args w fun e w' => e = .returned (.bool true) ∧ Below w.heap.size w w' := by
  have hx : ∃ H', evKn n g xs [] = some (.tv (.sc (.bool true)), H') := by
    cases hr : evKn n g xs [] with
    | none => rw [hr] at h; cases h
    | some p => rw [hr] at h; simp only [Option.map_some, Option.some.injEq] at h; exact ⟨p.2, by rw [← h]⟩
  obtain ⟨H', h1⟩ := hx
  refine (evKn_ok ρ n g xs [] _ H' h1 [] w.heap.size w args ha (holds_nil ρ w)).mono ?_
  rintro e w' ⟨ms', u, rfl, _, h2, _, h4⟩
  simp only [AV.inst, TV.inst, SV.inst, Option.some.injEq] at h2
  exact ⟨by rw [← h2], h4.toBelow⟩
theorem cawake_ev : (evKn 1000 4 [] []).map (·.1) = some (.tv (.sc (.bool true))) := by kernel_rfl
theorem cawake_any (w : World) : Calls Try.prog 4 #[] w fun e w' => e = .returned (.bool true) ∧ Below w.heap.size w w' := ret_evK (ρ := envB fun _ => 0) cawake_ev w rfl
end Go.Proofs.Ytpfageaiiemofaa
namespace Go.Proofs.Ytpfageaiiemofaa
open Go.RowKit
theorem take_eq_step (la lb : List Int) (k : Nat) (ha : k < la.length) (hb : k < lb.length) (h : la.take k = lb.take k) (e : la.getD k 0 = lb.getD k 0) : la.take (k + 1) = lb.take (k + 1) := by
  rw [List.take_succ_eq_append_getElem ha, List.take_succ_eq_append_getElem hb, h]
  have e1 : la.getD k 0 = la[k] := by simp [List.getD, List.getElem?_eq_getElem ha]
  have e2 : lb.getD k 0 = lb[k] := by simp [List.getD, List.getElem?_eq_getElem hb]
  rw [e1, e2] at e
  rw [e]
theorem take_ne (la lb : List Int) (k : Nat) (e : la.getD k 0 ≠ lb.getD k 0) : la ≠ lb := fun h => e (by rw [h])
set_option maxHeartbeats 400000 in
theorem sameBytes_any (w : World) (va vb : Value) (la lb : List Int) (ha : HB w va la) (hb : HB w vb lb) :
    Calls Try.prog 10 #[va, vb] w fun e w' => e = .returned (.bool (decide (la = lb))) ∧ Dr w w' := by
  by_cases hlen : la.length = lb.length
  · by_cases h0 : 0 < la.length
    · obtain ⟨b1, o1, c1, rfl, hc1, hm1, hk1⟩ := ha.ne h0
      obtain ⟨b2, o2, c2, rfl, hc2, hm2, hk2⟩ := hb.ne (by omega)
      unfold maxLen at hm1 hm2
      have hm : la.length ≤ 9223372036854775807 := by omega
      have HL : Hid (la.length = lb.length) := hlen
      rw [← hlen]
      have hcd : ∀ j, j < la.length → w.cell? ⟨b2, o2 + j, none⟩ = some (.int .u8 (lb.getD j 0)) := fun j hj => hk2 j (by omega)
      clear hlen hk2
      go_enter Try.func10, Try.ntmps10
      go_wp2
      go_loopw [5] (fun i wr => ∃ k : Nat, k ≤ la.length ∧ i = .int .i64 k ∧ la.take k = lb.take k ∧ Dr w wr) (fun i _ => la.length - (intOf i).toNat)
      case atStart => exact ⟨0, Nat.zero_le _, rfl, rfl, Dr.refl _⟩
      case round =>
        obtain ⟨k, hk, rfl, ht, q, rfl⟩ := hrel
        by_cases hlt : k < la.length
        · have g1 := hk1 k hlt
          have g2 := hcd k hlt
          obtain ⟨x, hx⟩ : ∃ x, la.getD k 0 = x := ⟨_, rfl⟩
          obtain ⟨y, hy⟩ : ∃ y, lb.getD k 0 = y := ⟨_, rfl⟩
          rw [hx] at g1
          rw [hy] at g2
          have HX := hid hx
          have HY := hid hy
          clear hx hy hk1 hcd
          by_cases he : x = y
          · have hne : (x != y) = false := by simpa using he
            have HE := hid he
            clear he
            go_wp2
            go_quiet (fail)
            go_wp2
            exact ⟨⟨k + 1, by omega, by go_num, take_eq_step la lb k hlt (by have := HL.out; omega) ht (by rw [HX.out, HY.out, HE.out]), Dr.one _ _⟩, by simp [intOf]; omega⟩
          · have hne : (x != y) = true := by simpa using he
            go_wp2
            go_quiet (fail)
            go_wp2
            go_ret
            exact ⟨by simp [take_ne la lb k (by rw [HX.out, HY.out]; exact he)], (Dr.one _ _).drewN _⟩
        · go_wp2
          go_ret
          have e : la = lb := by
            have h1 := List.take_of_length_le (show la.length ≤ k by omega)
            have h2 := List.take_of_length_le (show lb.length ≤ k by have := HL.out; omega)
            rw [← h1, ← h2, ht]
          exact ⟨by simp [e], Dr.one _ _⟩
    · obtain ⟨p1, c1, rfl, _, _⟩ := ha.open
      obtain ⟨p2, c2, rfl, _, _⟩ := hb.open
      have e1 : la = [] := List.length_eq_zero_iff.1 (by omega)
      have e2 : lb = [] := List.length_eq_zero_iff.1 (by omega)
      subst e1 e2
      go_enter Try.func10, Try.ntmps10
      go_wp2
      go_loop [5] (fun i => i = .int .i64 0) (fun _ => 0)
      case atStart => rfl
      case round =>
        subst hrel
        go_wp2
        go_ret
        exact ⟨rfl, Dr.refl _⟩
  · obtain ⟨p1, c1, rfl, _, _⟩ := ha.open
    obtain ⟨p2, c2, rfl, _, _⟩ := hb.open
    have hne : ((la.length : Int) != (lb.length : Int)) = true := by rw [bne_iff_ne]; omega
    go_enter Try.func10, Try.ntmps10
    go_wp2
    go_ret
    exact ⟨by simp [show la ≠ lb from fun e => hlen (by rw [e])], Dr.refl _⟩
end Go.Proofs.Ytpfageaiiemofaa
namespace Go.Proofs.Ytpfageaiiemofaa
open Go Go.RowKit Ev
theorem ldk_exec {w : World} {b : Nat} {k : List Nat} {o : Oper} {a : Act} {x : Operand} (h : KeyIn w b k) (hl : k.length = 16) (ho : o.op = .load 23 x) (hx : a.eval x = .pointer (some ⟨b, 0, none⟩)) :
    (execOp a.eval o).run Try.prog w = .ok (.value (.agg (cells8 k))) w := by
  have hr := run_ldk h hl
  simp only [execOp, ho, hx, Sem.run_bind, hr, Result.andThen_ok, Sem.run_pure]
theorem xorB_twice {x y : Int} (hx : 0 ≤ x ∧ x < 256) (hy : 0 ≤ y ∧ y < 256) : xorB (xorB x y) y = x := by
  have h1 := xorB_byt hx hy
  unfold xorB at h1 ⊢
  rw [u8_xor x y hx.1 hx.2 hy.1 hy.2] at h1 ⊢
  rw [u8_xor _ y h1.1 h1.2 hy.1 hy.2, Int.toNat_natCast, Nat.xor_assoc, Nat.xor_self, Nat.xor_zero]
  omega
theorem xorB_zero {y : Int} (hy : 0 ≤ y ∧ y < 256) : xorB 0 y = y := by
  unfold xorB
  rw [u8_xor 0 y (by omega) (by omega) hy.1 hy.2]
  simp
  omega
theorem xorL_twice {l s : List Int} (h : l.length = s.length) (hl : ∀ x ∈ l, 0 ≤ x ∧ x < 256) (hs : ∀ x ∈ s, 0 ≤ x ∧ x < 256) : xorL (xorL l s) s = l := by
  refine List.ext_getElem (by simp [xorL]; omega) fun i h1 h2 => ?_
  simp only [xorL, List.getElem_zipWith]
  exact xorB_twice (hl _ (List.getElem_mem _)) (hs _ (List.getElem_mem _))
theorem xorL_zero {s : List Int} (hs : ∀ x ∈ s, 0 ≤ x ∧ x < 256) : xorL (List.replicate s.length 0) s = s := by
  refine List.ext_getElem (by simp [xorL]) fun i h1 h2 => ?_
  simp only [xorL, List.getElem_zipWith, List.getElem_replicate]
  exact xorB_zero (hs _ (List.getElem_mem _))
end Go.Proofs.Ytpfageaiiemofaa
namespace Go.Proofs.Ytpfageaiiemofaa
open Go Go.RowKit
theorem strL_piece (k : List Nat) (at' F n m : Nat) (h : F + n ≤ m) : strL k (at' + F) n = ((strL k at' m).drop F).take n := by
  refine List.ext_getElem (by simp [strL]; omega) fun i h1 h2 => ?_
  simp only [strL, List.getElem_map, List.getElem_range, List.getElem_take, List.getElem_drop]
  rw [Nat.add_assoc]
theorem xorL_piece {l s : List Int} (F n : Nat) : xorL ((l.drop F).take n) ((s.drop F).take n) = ((xorL l s).drop F).take n := by
  simp [xorL, List.take_zipWith, List.drop_zipWith]
theorem apply_piece (k : List Nat) (at' F n : Nat) (l : List Int) (h : F + n ≤ l.length) :
    xorL ((l.drop F).take n) (strL k (at' + F) n) = ((xorL l (strL k at' l.length)).drop F).take n := by
  rw [strL_piece k at' F n l.length h, xorL_piece]
theorem pieces_step (L : List Int) (F n : Nat) : L.take F ++ (L.drop F).take n = L.take (F + n) := by
  rw [List.take_add]
end Go.Proofs.Ytpfageaiiemofaa
namespace Go.Proofs.Ytpfageaiiemofaa
open Go Go.RowKit Ev
structure HCt (w : World) (g : Nat) (k : List Nat) (p : Int) : Prop where
  lt : g < w.heap.size
  made : w.cell? ⟨g, 0, none⟩ = some (.bool true)
  key : ∀ i, i < 16 → w.cell? ⟨g, 1 + i, none⟩ = some (.int .u8 ((at8 k i : Nat) : Int))
  place : w.cell? ⟨g, 17, none⟩ = some (.int .i64 p)
  free : w.frozen? ⟨g, 17, none⟩ = false
theorem HCt.kept {w w' : World} {g : Nat} {k : List Nat} {p : Int} (h : HCt w g k p) (hs : w.heap.size ≤ w'.heap.size) (hb : w'.heap[g]? = w.heap[g]?) : HCt w' g k p := by
  have e : ∀ o, w'.cell? ⟨g, o, none⟩ = w.cell? ⟨g, o, none⟩ := fun o => by simp [World.cell?, hb]
  exact ⟨Nat.lt_of_lt_of_le h.lt hs, (e 0).trans h.made, fun i hi => (e _).trans (h.key i hi), (e 17).trans h.place, by rw [← h.free]; simp [World.frozen?, hb]⟩
theorem HCt.below {w w' : World} {g : Nat} {k : List Nat} {p : Int} (h : HCt w g k p) (hb : Below w.heap.size w w') : HCt w' g k p := h.kept hb.size (hb.block g h.lt)
def ctBlk : Blk := ⟨true, true, 0, [.bool true] ++ vars 0 16 ++ [.int .i64 (.var 500)]⟩
theorem ctBlk_plain : ctBlk.cells.all SV.plain = true := by decide +kernel
theorem holds_ct {w : World} {g : Nat} {k : List Nat} {p : Int} (h : HCt w g k p) : Holds (envC (at8 k) p) [g] [ctBlk] w.heap.size w := by
  refine ⟨rfl, fun g hg => absurd hg (Nat.not_lt_zero _), ?_, ?_, ?_, Nat.le_refl _, ?_, ?_, ?_⟩
  · intro i j b' kk k' hi hj _ _ _ _
    rw [(one_get hi).1, (one_get hj).1]
  · intro i b' kk hi hk hr
    rw [(one_get hk).2] at hr; cases hr
  · intro i b' kk hi hk _
    rw [(one_get hi).2]; exact h.lt
  · intro i kk hk _
    rw [(one_get hk).2]; exact ctBlk_plain
  · intro i b' kk hi hk j s hs
    rw [(one_get hi).2]
    rw [(one_get hk).2] at hs ⊢
    have hj : j < 18 := by
      have := (List.getElem?_eq_some_iff.1 hs).1
      simpa [ctBlk, vars] using this
    by_cases h0 : j = 0
    · subst h0
      have : s = .bool true := (Option.some.inj hs).symm
      subst this
      exact ⟨_, rfl, h.made, fun hr => by cases hr⟩
    · by_cases h1 : j = 17
      · subst h1
        have : s = .int .i64 (.var 500) := (Option.some.inj hs).symm
        subst this
        exact ⟨_, rfl, h.place, fun hr => by cases hr⟩
      · obtain ⟨i, rfl⟩ : ∃ i, j = 1 + i := ⟨j - 1, by omega⟩
        have hi16 : i < 16 := by omega
        have : s = .int .u8 (.var i) := by
          have e : ctBlk.cells[1 + i]? = some (.int .u8 (.var i)) := by
            simp only [ctBlk, List.cons_append, List.nil_append, Nat.add_comm 1 i, List.getElem?_cons_succ]
            rw [List.getElem?_append_left (by simp [vars, hi16])]
            exact vars_get 16 i hi16
          rw [e] at hs
          exact (Option.some.inj hs).symm
        subst this
        refine ⟨_, rfl, ?_, fun hr => by cases hr⟩
        rw [h.key i hi16]
        simp only [Ex.den, envC]
        rw [if_neg (by omega)]
  · intro i b' c k0 kk hi hc
    obtain ⟨rfl, rfl⟩ := one_get hi
    simp at hc
theorem ldc_ev : evLoad Try.prog (tmL 1 [(0, .tv (.sc (.ptr 0 1)))]) [ctBlk] 23 (.tmp 0) = some (V 0 16) := by kernel_rfl
theorem run_ldc {w : World} {g : Nat} {k : List Nat} {p : Int} (h : HCt w g k p) (hl : k.length = 16) : (Instr.loadAt 23 (.pointer (some ⟨g, 1, none⟩))).run Try.prog w = .ok (.agg (cells8 k)) w := by
  have hT : RelT (envC (at8 k) p) [g] (tmL 1 [(0, .tv (.sc (.ptr 0 1)))]) (({ tmps := #[.pointer (some ⟨g, 1, none⟩)], defers := [] } : Act)).tmps := RelT.ofL (n := 1) rfl (by decide) (fun g hg => absurd hg (Nat.not_lt_zero _)) _ fun q hq => by
    simp only [List.mem_cons, List.not_mem_nil, or_false] at hq
    subst hq
    exact ⟨_, rfl, rfl⟩
  obtain ⟨u, e1, e2⟩ := evLoad_ok hT (fun n _ _ => ((holds_ct h).sees n).at _ _) ldc_ev
  rw [VC _ _ 0 16 (by decide), at8_vars hl (fun i hi => by rw [Nat.zero_add])] at e1
  rw [← Option.some.inj e1] at e2
  exact e2
theorem ldc_exec {w : World} {g : Nat} {k : List Nat} {p : Int} {o : Oper} {a : Act} {x : Operand} (h : HCt w g k p) (hl : k.length = 16) (ho : o.op = .load 23 x) (hx : a.eval x = .pointer (some ⟨g, 1, none⟩)) :
    (execOp a.eval o).run Try.prog w = .ok (.value (.agg (cells8 k))) w := by
  have hr := run_ldc h hl
  simp only [execOp, ho, hx, Sem.run_bind, hr, Result.andThen_ok, Sem.run_pure]
theorem cnew_ev : evCallF Try.prog noLore noCon 100 6 [V 0 16] [] = some (.tv (.sc (.ptr 1 0)), [newBlk (vars 0 16), newBlk ([.bool true] ++ vars 0 16 ++ [.int .i64 (.lit 0)])]) := by kernel_rfl
theorem cnew_any (w : World) (k : List Nat) (hk : Byt k) (hl : k.length = 16) : Calls Try.prog 6 #[.agg (cells8 k)] w fun e w' => ∃ g, e = .returned (.pointer (some ⟨g, 0, none⟩)) ∧ HCt w' g k 0 ∧ w.heap.size ≤ g ∧ Below w.heap.size w w' := by
  have n1 : named (at8 k) 0 16 = k := at8_vars hl fun i hi => by rw [Nat.zero_add]
  refine (calls_of_evF (noLore_ok (envC (at8 k) 0)) (noCon_ok _ _) mixedOrders 100 cnew_ev (args := #[.agg (cells8 k)]) w ?_).mono ?_
  · simp only [List.map_cons, List.map_nil, VC _ _ 0 16 (by decide), n1]
  · rintro e w' ⟨ms, u, rfl, h1, h2, h3⟩
    have hlen : ms.length = 2 := h2.len
    match ms, hlen with
    | [m0, m1], _ =>
      have h1' : some (Value.pointer (some ⟨m1, 0, none⟩)) = some u := h1
      cases h1'
      have hc : ∀ j s, (newBlk ([.bool true] ++ vars 0 16 ++ [.int .i64 (.lit 0)])).cells[j]? = some s → ∃ v, s.inst (envC (at8 k) 0) [m0, m1] = some v ∧ w'.cell? ⟨m1, j, none⟩ = some v ∧ w'.frozen? ⟨m1, j, none⟩ = false := fun j s hs => by
        obtain ⟨v, q1, q2, q3⟩ := h2.cell 1 m1 _ rfl rfl j s hs
        exact ⟨v, q1, q2, q3 rfl⟩
      refine ⟨m1, rfl, ⟨h2.bnd 1 m1 _ rfl rfl (by simp [newBlk]), ?_, fun i hi => ?_, ?_, ?_⟩, h2.low 1 m1 _ rfl rfl rfl, h3⟩
      · obtain ⟨v, q1, q2, _⟩ := hc 0 (.bool true) rfl
        rw [q2, ← q1]; rfl
      · obtain ⟨v, q1, q2, _⟩ := hc (1 + i) (.int .u8 (.var i)) (by
          simp only [newBlk, List.cons_append, List.nil_append, Nat.add_comm 1 i, List.getElem?_cons_succ]
          rw [List.getElem?_append_left (by simp [vars, hi])]
          exact vars_get 16 i hi)
        rw [q2, ← q1]
        simp only [SV.inst, Ex.den, envC]
        rw [if_neg (by omega)]
      · obtain ⟨v, q1, q2, _⟩ := hc 17 (.int .i64 (.lit 0)) rfl
        rw [q2, ← q1]; rfl
      · exact (hc 17 (.int .i64 (.lit 0)) rfl).choose_spec.2.2
set_option maxHeartbeats 1000000 in
theorem cat_any (w : World) (g : Nat) (k : List Nat) (p : Int) (h : HCt w g k p) : Calls Try.prog 12 #[.pointer (some ⟨g, 0, none⟩)] w fun e w' => e = .returned (.int .i64 p) ∧ w' = w := by
  have c1 := h.place
  clear h
  go_enter Try.func12, Try.ntmps12
  go_wp2
  go_ret
  exact ⟨rfl, rfl⟩
theorem HCt.set {w : World} {g : Nat} {k : List Nat} {p : Int} (h : HCt w g k p) (q : Int) : HCt (w.setCell ⟨g, 17, none⟩ (.int .i64 q)) g k q := by
  have e : ∀ o, o ≠ 17 → (w.setCell ⟨g, 17, none⟩ (.int .i64 q)).cell? ⟨g, o, none⟩ = w.cell? ⟨g, o, none⟩ := fun o ho => World.cell?_setCell_other _ _ _ _ (by intro e; cases e; exact ho rfl)
  refine ⟨by simpa [World.setCell] using h.lt, (e 0 (by decide)).trans h.made, fun i hi => (e _ (by omega)).trans (h.key i hi), ?_, ?_⟩
  · exact World.cell?_setCell_same _ _ _ h.place
  · rw [World.frozen?_setCell]
    exact h.free
set_option maxRecDepth 100000 in
set_option maxHeartbeats 2000000 in
theorem cseek_ok (w : World) (g : Nat) (k : List Nat) (p : Int) (at' : Nat) (h : HCt w g k p) (hp : at' ≤ 4611686018427387904) : Calls Try.prog 7 #[.pointer (some ⟨g, 0, none⟩), .int .i64 (at' : Int)] w fun e w' => e = .returned (.int .i64 0) ∧ w' = w.setCell ⟨g, 17, none⟩ (.int .i64 (at' : Int)) := by
  have c0 := h.made
  have c1 := h.place
  have f1 := h.free
  clear h
  have h1 : (0 : Int) ≤ (at' : Int) := by omega
  have h2 : (at' : Int) ≤ 4611686018427387904 := by omega
  go_enter Try.func7, Try.ntmps7
  go_wp2
  go_ret
  exact ⟨rfl, rfl⟩
set_option maxRecDepth 100000 in
set_option maxHeartbeats 2000000 in
theorem cnext_ok (w : World) (g : Nat) (k : List Nat) (at' : Nat) (v : Value) (l : List Int) (hk : Byt k) (hl : k.length = 16) (h : HCt w g k (at' : Int)) (hv : HB w v l) (hpl : at' + l.length ≤ 4611686018427387904) (hn : l.length ≤ 140737488351232) :
    Calls Try.prog 9 #[.pointer (some ⟨g, 0, none⟩), v] w fun e w' => ∃ v' w1, e = .returned (.tuple #[v', .int .i64 0]) ∧ w1.ownsRow w.heap.size 5 1 v' l.length ((xorL l (strL k at' l.length)).map (Value.int .u8)) ∧ Below w.heap.size w w1 ∧ w' = w1.setCell ⟨g, 17, none⟩ (.int .i64 ((at' + l.length : Nat) : Int)) := by
  have HT := hid h
  have c0 := h.made
  obtain ⟨pa, ca, rfl, hca, hcm⟩ := hv.open
  have HD : Hid (HB w.drew (.slice pa l.length ca) l) := hv.below (Below.refl _ w).drew
  have C2 := hid (apply_ok w.drew k at' _ l hk hl HD.out hpl hn)
  clear h hv
  go_enter Try.func9, Try.ntmps9
  go_wp2
  clear c0
  refine wp_region_held_drew (S := fun V : World => HCt V g k (at' : Int)) mixedOrders (HT.out.below (Below.refl _ w).drew) (fun hHeld => ?_)
  have HS := hid hHeld
  clear hHeld
  change wpAnyH _ _ _ _ _ _ _ _ (World.drew _)
  refine wpAnyH_take (i := 0) (v := ?_) rfl (by kernel_rfl) (by kernel_rfl) (by kernel_rfl) (fun _ _ _ h => h) (Or.inl ⟨by rfl, ?q0⟩) HS.out ?_
  case q0 => intro w hSw; have hs1 := hSw.place; have hs2 := hSw.made; clear hSw; go_simp; rfl
  simp only [Act.put, List.getElem_toArray, List.getElem_cons_zero, List.getElem_cons_succ, List.setIfInBounds_toArray, List.set_cons_zero, List.set_cons_succ]
  refine wpAnyH_take (i := 1) (v := ?_) rfl (by kernel_rfl) (by kernel_rfl) (by kernel_rfl) (fun _ _ _ h => h) (Or.inl ⟨by rfl, ?q1⟩) HS.out ?_
  case q1 => intro w hSw; have hs1 := hSw.place; have hs2 := hSw.made; clear hSw; go_simp; rfl
  simp only [Act.put, List.getElem_toArray, List.getElem_cons_zero, List.getElem_cons_succ, List.setIfInBounds_toArray, List.set_cons_zero, List.set_cons_succ]
  refine wpAnyH_take (i := 2) (v := ?_) rfl (by kernel_rfl) (by kernel_rfl) (by kernel_rfl) (fun _ _ _ h => h) (Or.inl ⟨by rfl, ?q2⟩) HS.out ?_
  case q2 => intro w hSw; have hs1 := hSw.place; have hs2 := hSw.made; clear hSw; go_simp; rfl
  simp only [Act.put, List.getElem_toArray, List.getElem_cons_zero, List.getElem_cons_succ, List.setIfInBounds_toArray, List.set_cons_zero, List.set_cons_succ]
  refine wpAnyH_take (i := 3) (v := .agg (cells8 k)) rfl (by kernel_rfl) (by kernel_rfl) (by kernel_rfl) (fun _ _ _ h => h) (Or.inl ⟨by rfl, fun w hSw => ldc_exec hSw hl rfl rfl⟩) HS.out ?_
  simp only [Act.put, List.getElem_toArray, List.getElem_cons_zero, List.getElem_cons_succ, List.setIfInBounds_toArray, List.set_cons_zero, List.set_cons_succ]
  refine wpAnyH_take (i := 4) (v := ?_) rfl (by kernel_rfl) (by kernel_rfl) (by kernel_rfl) (fun _ _ _ h => h) (Or.inl ⟨by rfl, ?q4⟩) HS.out ?_
  case q4 => intro w hSw; have hs1 := hSw.place; have hs2 := hSw.made; clear hSw; go_simp; rfl
  simp only [Act.put, List.getElem_toArray, List.getElem_cons_zero, List.getElem_cons_succ, List.setIfInBounds_toArray, List.set_cons_zero, List.set_cons_succ]
  refine wpAnyH_take (i := 5) (v := ?_) rfl (by kernel_rfl) (by kernel_rfl) (by kernel_rfl) (fun _ _ _ h => h) (Or.inl ⟨by rfl, ?q5⟩) HS.out ?_
  case q5 => intro w hSw; have hs1 := hSw.place; have hs2 := hSw.made; clear hSw; go_simp; rfl
  simp only [Act.put, List.getElem_toArray, List.getElem_cons_zero, List.getElem_cons_succ, List.setIfInBounds_toArray, List.set_cons_zero, List.set_cons_succ]
  refine wpAnyH_take (i := 6) (v := ?_) rfl (by kernel_rfl) (by kernel_rfl) (by kernel_rfl) (fun _ _ _ h => h) (Or.inl ⟨by rfl, ?q6⟩) HS.out ?_
  case q6 => intro w hSw; have hs1 := hSw.place; have hs2 := hSw.made; clear hSw; go_simp; rfl
  simp only [Act.put, List.getElem_toArray, List.getElem_cons_zero, List.getElem_cons_succ, List.setIfInBounds_toArray, List.set_cons_zero, List.set_cons_succ]
  refine wpAnyH_take (i := 7) (v := ?_) rfl (by kernel_rfl) (by kernel_rfl) (by kernel_rfl) (fun _ _ _ h => h) (Or.inl ⟨by rfl, ?q7⟩) HS.out ?_
  case q7 => intro w hSw; have hs1 := hSw.place; have hs2 := hSw.made; clear hSw; go_simp; rfl
  simp only [Act.put, List.getElem_toArray, List.getElem_cons_zero, List.getElem_cons_succ, List.setIfInBounds_toArray, List.set_cons_zero, List.set_cons_succ]
  refine wpAnyH_take (i := 8) (v := ?_) rfl (by kernel_rfl) (by kernel_rfl) (by kernel_rfl) (fun _ _ _ h => h) (Or.inl ⟨by rfl, ?q8⟩) HS.out ?_
  case q8 => intro w hSw; have hs1 := hSw.place; have hs2 := hSw.made; clear hSw; go_simp; rfl
  simp only [Act.put, List.getElem_toArray, List.getElem_cons_zero, List.getElem_cons_succ, List.setIfInBounds_toArray, List.set_cons_zero, List.set_cons_succ]
  refine wpAnyH_ready (rs := [9]) (by kernel_rfl) (by simp) ?_
  refine AllReadyH.cons rfl (fun K hK => ?_) AllReadyH.nil
  go_simp
  refine C2.out.mono ?_
  rintro e w1 ⟨v1, rfl, ho1, hB1⟩
  have O1 := hid ho1
  have B1 : Hid (Below w.heap.size w w1) := (Below.refl _ w).drew.trans hB1
  have H1 := hid (HT.out.below B1.out)
  clear ho1 hB1 C2
  refine hK.out _ _ H1.out (fun _ => ?_)
  clear hK K
  refine wpAnyH_take (i := 10) (v := ?_) rfl (by kernel_rfl) (by kernel_rfl) (by kernel_rfl) (fun _ _ _ h => h) (Or.inl ⟨by rfl, ?q10⟩) H1.out ?_
  case q10 => intro w hSw; have hs1 := hSw.place; have hs2 := hSw.made; clear hSw; go_simp; rfl
  simp only [Act.put, List.getElem_toArray, List.getElem_cons_zero, List.getElem_cons_succ, List.setIfInBounds_toArray, List.set_cons_zero, List.set_cons_succ]
  refine wpAnyH_take (i := 11) (v := ?_) rfl (by kernel_rfl) (by kernel_rfl) (by kernel_rfl) (fun _ _ _ h => h) (Or.inl ⟨by rfl, ?q11⟩) H1.out ?_
  case q11 => intro w hSw; have hs1 := hSw.place; have hs2 := hSw.made; clear hSw; go_simp; rfl
  simp only [Act.put, List.getElem_toArray, List.getElem_cons_zero, List.getElem_cons_succ, List.setIfInBounds_toArray, List.set_cons_zero, List.set_cons_succ]
  refine wpAnyH_take (i := 12) (v := ?_) rfl (by kernel_rfl) (by kernel_rfl) (by kernel_rfl) (fun _ _ _ h => h) (Or.inl ⟨by rfl, ?q12⟩) H1.out ?_
  case q12 => intro w hSw; have hs1 := hSw.place; have hs2 := hSw.made; clear hSw; go_simp; rfl
  simp only [Act.put, List.getElem_toArray, List.getElem_cons_zero, List.getElem_cons_succ, List.setIfInBounds_toArray, List.set_cons_zero, List.set_cons_succ]
  refine wpAnyH_take (i := 13) (v := ?_) rfl (by kernel_rfl) (by kernel_rfl) (by kernel_rfl) (fun _ _ _ h => h) (Or.inl ⟨by rfl, ?q13⟩) H1.out ?_
  case q13 => intro w hSw; have hs1 := hSw.place; have hs2 := hSw.made; clear hSw; go_simp; rfl
  simp only [Act.put, List.getElem_toArray, List.getElem_cons_zero, List.getElem_cons_succ, List.setIfInBounds_toArray, List.set_cons_zero, List.set_cons_succ]
  refine wpAnyH_take (i := 14) (v := ?_) rfl (by kernel_rfl) (by kernel_rfl) (by kernel_rfl) (fun _ _ _ h => h) (Or.inl ⟨by rfl, ?q14⟩) H1.out ?_
  case q14 => intro w hSw; have hs1 := hSw.place; have hs2 := hSw.made; clear hSw; go_simp; rfl
  simp only [Act.put, List.getElem_toArray, List.getElem_cons_zero, List.getElem_cons_succ, List.setIfInBounds_toArray, List.set_cons_zero, List.set_cons_succ]
  refine wpAnyH_done (by kernel_rfl) ?_ _
  have c1 := H1.out.place
  have f1 := H1.out.free
  obtain ⟨N, HN⟩ : ∃ N, Hid (at' + l.length = N) := ⟨_, rfl⟩
  have hN1 : (at' : Int) + (l.length : Int) = (N : Int) := by have := HN.out; omega
  have hN2 : IntKind.i64.wrap (N : Int) = (N : Int) := by have := HN.out; rw [IntKind.wrap_i64]; omega
  go_wp2
  go_ret2
  exact ⟨_, w1, rfl, O1.out, B1.out, by rw [HN.out]⟩
set_option maxRecDepth 100000 in
set_option maxHeartbeats 4000000 in
theorem pieces_bad (w : World) (k : List Nat) (p : Int) (v : Value) (l : List Int) (c : Value) (hl : k.length = 16) (hv : HB w v l) (hp : -9223372036854775808 ≤ p ∧ p ≤ 9223372036854775807) (hn : l.length ≤ 140737488351232) (hb : ¬ okPl p l.length) :
    Calls Try.prog 3 #[.agg (cells8 k), .int .i64 p, v, c] w fun e w' => e = .returned (.bool true) ∧ Below w.heap.size w w' := by
  obtain ⟨z0, z1, z2, z3, z4, z5, z6, z7, z8, z9, z10, z11, z12, z13, z14, z15, hz⟩ := list16 hl
  have hcz : cells8 k = #[.int .u8 (z0 : Int), .int .u8 (z1 : Int), .int .u8 (z2 : Int), .int .u8 (z3 : Int), .int .u8 (z4 : Int), .int .u8 (z5 : Int), .int .u8 (z6 : Int), .int .u8 (z7 : Int), .int .u8 (z8 : Int), .int .u8 (z9 : Int), .int .u8 (z10 : Int), .int .u8 (z11 : Int), .int .u8 (z12 : Int), .int .u8 (z13 : Int), .int .u8 (z14 : Int), .int .u8 (z15 : Int)] := by rw [hz]; rfl
  have HCZ := hid hcz
  rw [hcz]
  clear hz hcz
  have HV := hid hv
  obtain ⟨pa, ca, rfl, hca, hcm⟩ := hv.open
  clear hv
  refine Calls.mono (calls_of_wp Try.func3 rfl (R := fun e w' => e = .returned (.bool true) ∧ Below w.heap.size w w') ?_) (fun e w' h => h)
  simp only [Try.ntmps3, List.size_toArray, List.length_cons, List.length_nil, Nat.reduceAdd, Nat.reduceSub, Array.replicate_succ, Array.replicate_zero, List.push_toArray, List.append_toArray, List.nil_append, List.cons_append]
  refine wp_seq_k fun K1 h1 => ?_
  have H1 := hid h1
  clear h1
  go_wp2
  refine H1.out _ _ ?_
  clear H1 K1
  rw [← HCZ.out]
  clear HCZ
  obtain ⟨w0, hw0⟩ : ∃ w0, Hid (w.alloc (.cells (cells8 k) 23) = w0) := ⟨_, rfl⟩
  rw [hw0.out]
  have B0 : Hid (Below w.heap.size w w0) := by rw [← hw0.out]; exact (Below.refl _ w).alloc (Nat.le_refl _) _
  have K0 : Hid (KeyIn w0 w.heap.size k) := by rw [← hw0.out]; exact World.alloc_heap_new w _
  have CA := hid (cawake_any w0)
  go_wp2_with fail
  refine CA.out.mono ?_
  rintro e w1 ⟨rfl, hB1⟩
  have K1 := hid (K0.out.below hB1)
  have B1 := hid (B0.out.trans (hB1.mono B0.out.size))
  clear hB1 CA
  have V1 := hid (HV.out.below B1.out)
  have C2 := hid (apply_bad w1 k p _ l hl V1.out hp hn hb)
  clear hp hb
  go_wp2_with (refine wpList_ldk K1 hl rfl rfl rfl ?_)
  refine C2.out.mono ?_
  rintro e w2 ⟨rfl, hB2⟩
  have B2 := hid (B1.out.trans (hB2.mono B1.out.size))
  clear hB2 C2
  go_wp2
  all_goals go_ret
  all_goals exact ⟨rfl, B2.out⟩
set_option maxRecDepth 100000 in
set_option maxHeartbeats 4000000 in
theorem pieces_long (w : World) (k : List Nat) (at' : Nat) (v : Value) (l : List Int) (c : Value) (hk : Byt k) (hl : k.length = 16) (hv : HB w v l) (hn : l.length ≤ 140737488351232) (hpl : at' + l.length ≤ 4611686018427387904) (hlong : ¬ l.length ≤ 3000) :
    Calls Try.prog 3 #[.agg (cells8 k), .int .i64 (at' : Int), v, c] w fun e w' => e = .returned (.bool true) ∧ Below w.heap.size w w' := by
  obtain ⟨z0, z1, z2, z3, z4, z5, z6, z7, z8, z9, z10, z11, z12, z13, z14, z15, hz⟩ := list16 hl
  have hcz : cells8 k = #[.int .u8 (z0 : Int), .int .u8 (z1 : Int), .int .u8 (z2 : Int), .int .u8 (z3 : Int), .int .u8 (z4 : Int), .int .u8 (z5 : Int), .int .u8 (z6 : Int), .int .u8 (z7 : Int), .int .u8 (z8 : Int), .int .u8 (z9 : Int), .int .u8 (z10 : Int), .int .u8 (z11 : Int), .int .u8 (z12 : Int), .int .u8 (z13 : Int), .int .u8 (z14 : Int), .int .u8 (z15 : Int)] := by rw [hz]; rfl
  have HCZ := hid hcz
  rw [hcz]
  clear hz hcz
  have HV := hid hv
  obtain ⟨pa, ca, rfl, hca, hcm⟩ := hv.open
  clear hv
  refine Calls.mono (calls_of_wp Try.func3 rfl (R := fun e w' => e = .returned (.bool true) ∧ Below w.heap.size w w') ?_) (fun e w' h => h)
  simp only [Try.ntmps3, List.size_toArray, List.length_cons, List.length_nil, Nat.reduceAdd, Nat.reduceSub, Array.replicate_succ, Array.replicate_zero, List.push_toArray, List.append_toArray, List.nil_append, List.cons_append]
  refine wp_seq_k fun K1 h1 => ?_
  have H1 := hid h1
  clear h1
  go_wp2
  refine H1.out _ _ ?_
  clear H1 K1
  rw [← HCZ.out]
  clear HCZ
  obtain ⟨w0, hw0⟩ : ∃ w0, Hid (w.alloc (.cells (cells8 k) 23) = w0) := ⟨_, rfl⟩
  rw [hw0.out]
  have B0 : Hid (Below w.heap.size w w0) := by rw [← hw0.out]; exact (Below.refl _ w).alloc (Nat.le_refl _) _
  have K0 : Hid (KeyIn w0 w.heap.size k) := by rw [← hw0.out]; exact World.alloc_heap_new w _
  have CA := hid (cawake_any w0)
  go_wp2_with fail
  refine CA.out.mono ?_
  rintro e w1 ⟨rfl, hB1⟩
  have K1 := hid (K0.out.below hB1)
  have B1 := hid (B0.out.trans (hB1.mono B0.out.size))
  clear hB1 CA
  have V1 := hid (HV.out.below B1.out)
  have hgt : (3000 : Int) < (l.length : Int) := by omega
  have e1 : decide ((3000 : Int) < (l.length : Int)) = true := decide_eq_true hgt
  have C2 := hid (apply_ok w1 k at' _ l hk hl V1.out hpl hn)
  go_wp2_with (refine wpList_ldk K1 hl rfl rfl rfl ?_)
  refine C2.out.mono ?_
  rintro e w2 ⟨v2, rfl, ho2, hB2⟩
  have B2 := hid (B1.out.trans (hB2.mono B1.out.size))
  clear hB2 C2 ho2
  go_wp2
  all_goals go_ret
  all_goals exact ⟨rfl, B2.out⟩
end Go.Proofs.Ytpfageaiiemofaa
namespace Go.Proofs.Ytpfageaiiemofaa
open Go.RowKit
theorem wpList_append_HB {w : World} {ops : Array Oper} {rest : List Oper} {o : Oper} {a : Act} {Q : Exit → Act → World → Prop} (hgd : o.guard = none) (s x : Operand)
    (ho : o.op = .call { callee := .builtin .append, args := #[s, x], argTypes := #[24, 24] })
    (base : Nat) (v : Value) (n : Nat) (xs : List Value) (hs : a.eval s = v) (hown : w.ownsRow base 5 1 v n xs)
    (u : Value) (l : List Int) (hx : a.eval x = u) (hu : HB w u l) (hbytes : n + l.length ≤ 140737488355328) (hbase : base ≤ w.heap.size)
    (h : ∀ v' w', w'.ownsRow base 5 1 v' (n + l.length) (xs ++ l.map (Value.int .u8)) → w.grownBy w' v.ownBlock → wpList Try.prog ops Q rest (a.put o.dst v') w') : wpList Try.prog ops Q (o :: rest) a w := by
  obtain ⟨i0, hi, hz0, hz1, hz2⟩ := info_parts info_u8
  obtain ⟨⟨p, c, rfl, hlc, hm, hpc, hcell⟩, hby⟩ := hu
  cases p with
  | none =>
    have e : l = [] := by
      apply Classical.byContradiction
      intro hne
      obtain ⟨b, off, e, _⟩ := hcell hne
      cases e
    subst e
    have := hpc rfl
    subst this
    refine wpList_append_own_none hgd s x 24 ho base 5 i0 1 Try.underlying24 hi v n xs hs hown hx ?_
    exact h v w (by simpa using hown) ⟨rfl, rfl, rfl, Nat.le_refl _, fun _ _ _ => rfl⟩
  | some ad =>
    refine wpList_append_own w hgd s x 24 ho base 5 i0 (.int .u8 0) 1 1 Try.underlying24 hi hz0 hz1 hz2 rfl (by decide) v n xs hs hown ad l.length c (l.map (Value.int .u8)) hx (by simp) ?_ ?_ (by unfold maxLen; omega) (by omega) hbase (fun v' w' h1 h2 _ => h v' w' h1 h2)
    · intro j y hj
      have hjn : j < l.length := by
        have := (List.getElem?_eq_some_iff.1 hj).1
        simpa using this
      obtain ⟨b, off, e, hh⟩ := hcell (by intro e; subst e; simp at hjn)
      cases e
      rw [Go.WideShapes.add_plain, hh j hjn]
      have e : (l.map (Value.int .u8))[j]? = some (Value.int .u8 (l.getD j 0)) := by simp [List.getD, List.getElem?_eq_getElem hjn]
      rw [e] at hj
      exact hj
    · intro u hu; obtain ⟨x, _, rfl⟩ := List.mem_map.1 hu; rfl
theorem flat_snoc (ls : List (List Int)) (k : Nat) (hk : k < ls.length) : (ls.take (k + 1)).flatten = (ls.take k).flatten ++ ls.getD k [] := by
  rw [List.take_succ_eq_append_getElem hk, List.flatten_append]
  simp [List.getD, List.getElem?_eq_getElem hk]
theorem flat_take_le (ls : List (List Int)) (k : Nat) : (ls.take k).flatten.length ≤ ls.flatten.length := by
  conv => rhs; rw [← List.take_append_drop k ls, List.flatten_append, List.length_append]
  omega
def lensTo (ls : List (List Int)) (k : Nat) : Nat := (ls.take k).flatten.length
def flatTo (ls : List (List Int)) (k : Nat) : List Int := (ls.take k).flatten
set_option maxHeartbeats 1000000 in
theorem join_any (w : World) (v : Value) (ls : List (List Int)) (h : HL w v ls) (hbig : ls.flatten.length ≤ 140737488355328) :
    Calls Try.prog 11 #[v] w fun e w' => ∃ v', e = .returned v' ∧ w'.ownsRow w.heap.size 5 1 v' ls.flatten.length (ls.flatten.map (Value.int .u8)) ∧ Below w.heap.size w w' := by
  obtain ⟨i0, hi, hz0, hz1, hz2⟩ := info_parts info_u8
  obtain ⟨p, c, e, hlc, hm⟩ := h.open
  unfold maxLen at hm
  have A : Hid (0 < ls.length → ∃ b off, p = some ⟨b, off, none⟩ ∧ ∀ j, j < ls.length → ∃ u, w.cell? ⟨b, off + j, none⟩ = some u ∧ HB w u (ls.getD j [])) := by
    intro h0
    obtain ⟨b, off, c', e', _, _, hh⟩ := h.ne h0
    rw [e] at e'
    simp only [Value.slice.injEq, true_and] at e'
    exact ⟨b, off, e'.1, hh⟩
  clear h
  subst e
  obtain ⟨fl, HF⟩ : ∃ fl : List Int, Hid (fl = ls.flatten) := ⟨_, rfl⟩
  rw [← HF.out] at hbig ⊢
  obtain ⟨N, HN⟩ : ∃ N, Hid (N = fl.length) := ⟨_, rfl⟩
  rw [← HN.out] at hbig ⊢
  have hle : ∀ k, lensTo ls k ≤ N := fun k => by rw [HN.out, HF.out]; exact flat_take_le ls k
  go_enter Try.func11, Try.ntmps11
  go_wp2
  go_loop [3, 11] (fun s i => ∃ k : Nat, k ≤ ls.length ∧ i = .int .i64 k ∧ s = .int .i64 (lensTo ls k)) (fun _ i => ls.length - (intOf i).toNat)
  case atStart => exact ⟨0, Nat.zero_le _, rfl, rfl⟩
  case round =>
    obtain ⟨k, hk, rfl, rfl⟩ := hrel
    have hf := hle k
    by_cases hlt : k < ls.length
    · obtain ⟨b, off, rfl, hh⟩ := A.out (by omega)
      obtain ⟨u, hu, hb⟩ := hh k hlt
      obtain ⟨p2, c2, rfl, _, _⟩ := hb.open
      have hf2 := hle (k + 1)
      obtain ⟨m, HM⟩ : ∃ m, Hid (m = (ls.getD k []).length) := ⟨_, rfl⟩
      have HS : Hid (lensTo ls (k + 1) = lensTo ls k + m) := by
        show _ = _
        unfold lensTo
        rw [flat_snoc ls k hlt, List.length_append, HM.out]
      rw [HS.out] at hf2
      rw [← HM.out] at hu
      clear hh hb hle
      go_wp2
      exact ⟨⟨k + 1, by omega, by go_num, by rw [HS.out]; go_num⟩, by simp [intOf]; omega⟩
    · have HK : Hid (lensTo ls k = N) := by
        show _ = _
        unfold lensTo
        rw [List.take_of_length_le (by omega), HN.out, HF.out]
      rw [HK.out] at hf ⊢
      obtain ⟨w1, hmk, hown, hgr⟩ := run_make_own (P := Try.prog) w w.heap.size 24 5 i0 (.int .u8 0) 1 Try.underlying24 hi hz0 hz1 .i64 .i64 N (by rw [hz2]; omega) (by unfold maxLen; omega) (Nat.le_refl _)
      have hB1 : Below w.heap.size w w1 := (Below.refl _ w).grown hgr (Nat.le_refl _) (fun k e => by cases e)
      have hsz : w.heap.size ≤ w1.heap.size := hB1.size
      clear hk hf hgr hle
      go_wp2
      go_loopw [6, 24] (fun o i wr => ∃ k : Nat, k ≤ ls.length ∧ i = .int .i64 k ∧ wr.ownsRow w.heap.size 5 1 o (flatTo ls k).length ((flatTo ls k).map (Value.int .u8)) ∧ Below w.heap.size w wr) (fun _ i _ => ls.length - (intOf i).toNat)
      case atStart => exact ⟨0, Nat.zero_le _, rfl, hown, hB1⟩
      case round =>
        clear hmk hown hB1 hsz HK hlt
        obtain ⟨k, hk, rfl, hown, hB⟩ := hrel
        by_cases hlt : k < ls.length
        · obtain ⟨b, off, rfl, hh⟩ := A.out (by omega)
          obtain ⟨u, hu0, hb⟩ := hh k hlt
          have hu : wr.cell? ⟨b, off + k, none⟩ = some u := (hB.cell (World.block_lt_of_cell? w _ hu0)).trans hu0
          have HBu := hid (hb.below hB)
          have HS : Hid (flatTo ls (k + 1) = flatTo ls k ++ ls.getD k []) := flat_snoc ls k hlt
          have HL2 : Hid ((flatTo ls k).length + (ls.getD k []).length ≤ 140737488355328) := by
            have := flat_take_le ls (k + 1)
            rw [flat_snoc ls k hlt, List.length_append, ← HF.out, ← HN.out] at this
            exact Nat.le_trans this hbig
          have HO := hid hown
          have HBel := hid hB
          obtain ⟨lk, HK⟩ : ∃ lk, Hid (lk = ls.getD k []) := ⟨_, rfl⟩
          rw [← HK.out] at HBu HS HL2 hb
          obtain ⟨p2, c2, hu2, _, _⟩ := hb.open
          clear hh hb hu0 hown hB
          subst hu2
          go_wp2_with (at_builtin; refine wpList_append_HB rfl _ _ rfl w.heap.size _ _ _ rfl HO.out _ _ rfl HBu.out ?q1 ?q2 ?_)
          case q1 => exact HL2.out
          case q2 => exact HBel.out.size
          intro v' w2 hown2 hgr2
          have HO2 : Hid (w2.ownsRow w.heap.size 5 1 v' (flatTo ls (k + 1)).length ((flatTo ls (k + 1)).map (Value.int .u8))) := by
            show World.ownsRow _ _ _ _ _ _ _
            rw [HS.out, List.length_append, List.map_append]
            exact hown2
          have HB2 : Hid (Below w.heap.size w w2) := HBel.out.grown hgr2 HBel.out.size (fun k e => (HO.out.lt k e).1)
          clear hown2 hgr2
          go_wp2
          exact ⟨⟨k + 1, by omega, by go_num, HO2.out, HB2.out⟩, by simp [intOf]; omega⟩
        · have HK : Hid (flatTo ls k = fl) := by
            show _ = _
            unfold flatTo
            rw [List.take_of_length_le (by omega), HF.out]
          go_wp2
          go_ret
          refine ⟨_, rfl, ?_, hB⟩
          rw [HK.out, ← HN.out] at hown
          exact hown
theorem info_bytes : (Try.prog.info? 24).map (fun i => (i.zero, i.size, i.bytes)) = some (some (.slice none 0 0), 1, 24) := by kernel_rfl
def BytI (l : List Int) : Prop := ∀ x ∈ l, 0 ≤ x ∧ x < 256
def EL (w0 w : World) (u : Value) (l : List Int) : Prop :=
  (w.ownsRow w0.heap.size 5 1 u l.length (l.map (Value.int .u8)) ∧ BytI l) ∨ HB w0 u l
def OWL (w0 w : World) (v : Value) (ls : List (List Int)) : Prop :=
  ∃ xs, w.ownsRow w0.heap.size 24 1 v ls.length xs ∧ ∀ j, j < ls.length → EL w0 w (xs.getD j undef) (ls.getD j [])
theorem EL.hb {w0 w : World} {u : Value} {l : List Int} (h : EL w0 w u l) (hb : Below w0.heap.size w0 w) : HB w u l := by
  rcases h with ⟨h, hx⟩ | h
  · exact HB.of_own h hx
  · exact h.below hb
theorem own_block_ne {w : World} {B e n : Nat} {v : Value} {xs : List Value} (h : w.ownsRow B e 1 v n xs) {g : Nat} {cur : Array Value} {e' : TypeId} {fz : Nat × Nat} (hg : w.heap[g]? = some (.cells cur e' fz)) (hne : e ≠ e') : v.ownBlock ≠ some g := by
  intro hv
  rcases h.2 with ⟨rfl, _⟩ | ⟨g', cap, cur', rfl, _, hh, _⟩
  · simp [Value.ownBlock] at hv
  · simp only [Value.ownBlock, Option.some.injEq] at hv
    subst hv
    rw [hh] at hg
    simp only [Option.some.injEq, Obj.cells.injEq] at hg
    exact hne hg.2.1
theorem EL.grown {w0 w w' : World} {u : Value} {l : List Int} {row : Option Nat} (h : EL w0 w u l) (hg : w.grownBy w' row) (hr : ∀ g, row = some g → ∃ cur e fz, w.heap[g]? = some (.cells cur e fz) ∧ 5 ≠ e) : EL w0 w' u l := by
  rcases h with ⟨h, hx⟩ | h
  · refine .inl ⟨h.kept hg ?_, hx⟩
    cases hrow : row with
    | none =>
      cases hv : u.ownBlock with
      | none => exact .inl rfl
      | some k => exact .inr (by simp)
    | some g =>
      obtain ⟨cur, e, fz, hh, hne⟩ := hr g hrow
      exact .inr (own_block_ne h hh hne)
  · exact .inr h
theorem OWL.grown {w0 w w' : World} {v : Value} {ls : List (List Int)} {row : Option Nat} (h : OWL w0 w v ls) (hg : w.grownBy w' row) (hr : ∀ g, row = some g → ∃ cur e fz, w.heap[g]? = some (.cells cur e fz) ∧ 5 ≠ e ∧ 24 ≠ e) : OWL w0 w' v ls := by
  obtain ⟨xs, h1, h2⟩ := h
  refine ⟨xs, h1.kept hg ?_, fun j hj => (h2 j hj).grown hg fun g e => ?_⟩
  · cases hrow : row with
    | none =>
      cases hv : v.ownBlock with
      | none => exact .inl rfl
      | some k => exact .inr (by simp)
    | some g =>
      obtain ⟨cur, e, fz, hh, _, hne⟩ := hr g hrow
      exact .inr (own_block_ne h1 hh hne)
  · obtain ⟨cur, e', fz, hh, hne, _⟩ := hr g e
    exact ⟨cur, e', fz, hh, hne⟩
theorem OWL.below {w0 w w' : World} {v : Value} {ls : List (List Int)} (h : OWL w0 w v ls) (hb : Below w.heap.size w w') : OWL w0 w' v ls :=
  h.grown (row := none) ⟨hb.os, hb.tape, hb.output, hb.size, fun k hk _ => hb.block k hk⟩ (fun g e => by cases e)
theorem OWL.hl {w0 w : World} {v : Value} {ls : List (List Int)} (h : OWL w0 w v ls) (hb : Below w0.heap.size w0 w) : HL w v ls := by
  obtain ⟨xs, h1, h2⟩ := h
  by_cases h0 : 0 < ls.length
  · obtain ⟨g, cap, rfl, _, hn, hm, hc⟩ := ownsRow_cells h1 h0
    refine ⟨_, cap, rfl, hn, hm, (fun e => by cases e), fun _ => ⟨g, 0, rfl, fun j hj => ⟨xs.getD j undef, ?_, (h2 j hj).hb hb⟩⟩⟩
    have hx : xs.length = ls.length := by have := h1.1; omega
    exact hc j _ (by simp [List.getD, List.getElem?_eq_getElem (show j < xs.length by omega)])
  · have e : ls = [] := List.length_eq_zero_iff.1 (by omega)
    subst e
    rcases h1.2 with ⟨rfl, _⟩ | ⟨g, cap, cur, rfl, _, _, hn, hm, _⟩
    · exact HL.nil _
    · exact ⟨_, cap, rfl, hn, hm, (fun e => by cases e), fun h => absurd rfl h⟩
theorem OWL.nil (w0 w : World) : OWL w0 w (.slice none 0 0) [] := ⟨[], World.ownsRow_nil _ _ _ _, fun j hj => by simp at hj⟩
theorem getD_app {α : Type} (l m : List α) (d : α) (j : Nat) : (l ++ m).getD j d = if j < l.length then l.getD j d else m.getD (j - l.length) d := by
  simp only [List.getD, List.getElem?_append]
  split <;> rfl
theorem wpList_append_OWL {w0 w : World} {ops : Array Oper} {rest : List Oper} {o : Oper} {a : Act} {Q : Exit → Act → World → Prop} (hgd : o.guard = none) (s x : Operand)
    (ho : o.op = .call { callee := .builtin .append, args := #[s, x], argTypes := #[33, 33] })
    (v : Value) (ls : List (List Int)) (hs : a.eval s = v) (hown : OWL w0 w v ls)
    (ad : Addr) (m c : Nat) (us : List Value) (ns : List (List Int)) (hx : a.eval x = .slice (some ad) m c) (hl : us.length = m) (hn : ns.length = m) (hcell : ∀ j u, us[j]? = some u → w.cell? (ad.add j) = some u)
    (hu : ∀ j, j < m → EL w0 w (us.getD j undef) (ns.getD j [])) (h1 : ∀ u ∈ us, u.oneCell' = true)
    (hbytes : (ls.length + m) * 24 ≤ 140737488355328) (hbase : w0.heap.size ≤ w.heap.size)
    (h : ∀ v' w', OWL w0 w' v' (ls ++ ns) → w.grownBy w' v.ownBlock → (∀ g, v.ownBlock = some g → w0.heap.size ≤ g ∧ BT w g 24) → wpList Try.prog ops Q rest (a.put o.dst v') w') : wpList Try.prog ops Q (o :: rest) a w := by
  obtain ⟨i0, hi, hz0, hz1, hz2⟩ := info_parts info_bytes
  obtain ⟨xs, hrow, hel⟩ := hown
  have hblk : ∀ g, v.ownBlock = some g → w0.heap.size ≤ g ∧ BT w g 24 := by
    intro g hg
    refine ⟨(hrow.lt g hg).1, ?_⟩
    rcases hrow.2 with ⟨rfl, _⟩ | ⟨g', cap, cur, rfl, _, hh, _⟩
    · simp [Value.ownBlock] at hg
    · simp only [Value.ownBlock, Option.some.injEq] at hg
      subst hg
      exact ⟨cur, _, hh⟩
  refine wpList_append_own w hgd s x 33 ho w0.heap.size 24 i0 (.slice none 0 0) 1 24 Try.underlying33 hi hz0 hz1 hz2 rfl (by decide) v ls.length xs hs hrow ad m c us hx (by omega) hcell h1 (by unfold maxLen; omega) hbytes hbase (fun v' w' h2 h3 _ => h v' w' ?_ h3 hblk)
  refine ⟨xs ++ us, by rw [List.length_append, hn]; exact h2, fun j hj => ?_⟩
  have key : ∀ u l, EL w0 w u l → EL w0 w' u l := fun u l he => he.grown h3 fun g hg => by
    obtain ⟨_, cur, fz, hh⟩ := hblk g hg
    exact ⟨cur, _, fz, hh, by decide⟩
  have hxl : xs.length = ls.length := by have := hrow.1; omega
  rw [getD_app, getD_app, hxl]
  rw [List.length_append] at hj
  split
  · exact key _ _ (hel j ‹_›)
  · exact key _ _ (hu _ (by omega))
theorem takel_eq_step (la lb : List (List Int)) (k : Nat) (ha : k < la.length) (hb : k < lb.length) (h : la.take k = lb.take k) (e : la.getD k [] = lb.getD k []) : la.take (k + 1) = lb.take (k + 1) := by
  rw [List.take_succ_eq_append_getElem ha, List.take_succ_eq_append_getElem hb, h]
  have e1 : la.getD k [] = la[k] := by simp [List.getD, List.getElem?_eq_getElem ha]
  have e2 : lb.getD k [] = lb[k] := by simp [List.getD, List.getElem?_eq_getElem hb]
  rw [e1, e2] at e
  rw [e]
end Go.Proofs.Ytpfageaiiemofaa
namespace Go.Proofs.Ytpfageaiiemofaa
open Go Go.RowKit
def ER (B : Nat) (w : World) (u : Value) (l : List Int) : Prop := w.ownsRow B 5 1 u l.length (l.map (Value.int .u8)) ∧ ∀ x ∈ l, 0 ≤ x ∧ x < 256
def PX (B : Nat) (w : World) (v : Value) (ls : List (List Int)) : Prop :=
  ∃ xs, w.ownsRow B 24 1 v ls.length xs ∧ ∀ j, j < ls.length → ER B w (xs.getD j undef) (ls.getD j [])
theorem PX.nil (B : Nat) (w : World) : PX B w (.slice none 0 0) [] := ⟨[], World.ownsRow_nil _ _ _ _, fun j hj => by simp at hj⟩
theorem ER.kept {B : Nat} {w w' : World} {u : Value} {l : List Int} {row : Option Nat} (h : ER B w u l) (hg : w.grownBy w' row) (hr : ∀ g, row = some g → u.ownBlock ≠ some g) : ER B w' u l := by
  refine ⟨h.1.kept hg ?_, h.2⟩
  cases hrow : row with
  | none => cases u.ownBlock <;> simp
  | some g => exact .inr (hr g hrow)
theorem PX.kept {B : Nat} {w w' : World} {v : Value} {ls : List (List Int)} {row : Option Nat} (h : PX B w v ls) (hg : w.grownBy w' row) (h1 : ∀ g, row = some g → v.ownBlock ≠ some g) (h2 : ∀ g, row = some g → g < B ∨ BT w g 24) : PX B w' v ls := by
  obtain ⟨xs, hr, he⟩ := h
  refine ⟨xs, hr.kept hg ?_, fun j hj => (he j hj).kept hg fun g eg => ?_⟩
  · cases hrow : row with
    | none => cases v.ownBlock <;> simp
    | some g => exact .inr (h1 g hrow)
  · rcases h2 g eg with h | ⟨cur, fz, hh⟩
    · intro q
      have := ((he j hj).1.lt g q).1
      omega
    · exact own_block_ne (he j hj).1 hh (by decide)
theorem PX.setLow {B : Nat} {w : World} {v : Value} {ls : List (List Int)} (h : PX B w v ls) (g o : Nat) (x : Value) (hg : g < B) : PX B (w.setCell ⟨g, o, none⟩ x) v ls :=
  h.kept (grown_set w g o x) (fun g' e q => by
    cases e
    obtain ⟨xs, hr, _⟩ := h
    have := (hr.lt g q).1
    omega) (fun g' e => by cases e; exact .inl hg)
theorem PX.below {B : Nat} {w w' : World} {v : Value} {ls : List (List Int)} (h : PX B w v ls) (hb : Below w.heap.size w w') : PX B w' v ls :=
  h.kept (row := none) (grown_below hb) (fun g e => by cases e) (fun g e => by cases e)
theorem PX.lt {B : Nat} {w : World} {v : Value} {ls : List (List Int)} (h : PX B w v ls) : ∀ g, v.ownBlock = some g → B ≤ g ∧ g < w.heap.size := by
  obtain ⟨xs, hr, _⟩ := h
  exact fun g e => hr.lt g e
theorem PX.hl {B : Nat} {w : World} {v : Value} {ls : List (List Int)} (h : PX B w v ls) : HL w v ls := by
  obtain ⟨xs, h1, h2⟩ := h
  by_cases h0 : 0 < ls.length
  · obtain ⟨g, cap, rfl, _, hn, hm, hc⟩ := ownsRow_cells h1 h0
    refine ⟨_, cap, rfl, hn, hm, (fun e => by cases e), fun _ => ⟨g, 0, rfl, fun j hj => ⟨xs.getD j undef, ?_, HB.of_own (h2 j hj).1 (h2 j hj).2⟩⟩⟩
    have hx : xs.length = ls.length := by have := h1.1; omega
    exact hc j _ (by simp [List.getD, List.getElem?_eq_getElem (show j < xs.length by omega)])
  · have e : ls = [] := List.length_eq_zero_iff.1 (by omega)
    subst e
    rcases h1.2 with ⟨rfl, _⟩ | ⟨g, cap, cur, rfl, _, _, hn, hm, _⟩
    · exact HL.nil _
    · exact ⟨_, cap, rfl, hn, hm, (fun e => by cases e), fun h => absurd rfl h⟩
theorem run_append_bs (w : World) (base : Nat) (ty : TypeId) (v : Value) (n : Nat) (xs : List Value) (hown : w.ownsRow base 24 1 v n xs) (ad : Addr) (c : Nat) (u : Value) (hu : u.oneCell' = true) (hx : w.cell? ad = some u) (hn : n ≤ 2000000) (hbase : base ≤ w.heap.size) :
    ∃ v' w', (Builtin.append_ #[33, 33] ty #[v, .slice (some ad) 1 c]).run Try.prog w = .ok v' w' ∧ w'.ownsRow base 24 1 v' (n + 1) (xs ++ [u]) ∧ w.grownBy w' v.ownBlock ∧
      (v'.ownBlock = v.ownBlock ∨ v'.ownBlock = some w.heap.size) := by
  obtain ⟨i0, hi, hz0, hz1, hz2⟩ := info_parts info_bytes
  have hnews : ∀ j q, [u][j]? = some q → w.cell? (ad.add j) = some q := by
    intro j q hj
    match j, hj with
    | 0, hj => simp at hj; subst hj; exact hx
    | j + 1, hj => simp at hj
  have h1 : ∀ q ∈ [u], q.oneCell' = true := by
    intro q hq
    simp at hq
    subst hq
    exact hu
  obtain ⟨v', w', hr, h2, h3, _⟩ := run_append_own (P := Try.prog) w base 33 ty 24 i0 _ 1 24 Try.underlying33 hi hz0 hz1 hz2 rfl (by decide) v n xs hown ad 1 c [u] rfl hnews h1 (by unfold maxLen; omega) (by omega) hbase
  refine ⟨v', w', hr, h2, h3, ?_⟩
  rcases hown.2 with ⟨rfl, rfl⟩ | ⟨g, cap, cur, rfl, hbg, hg, hnc, hcm, hcs, htake⟩
  · have hr2 := run_append_nil (P := Try.prog) w 33 ty 24 i0 _ Try.underlying33 hi hz0 ad 1 c [u] (by rw [hz1]; rfl) hnews (by omega) (by omega) (by rw [hz2]; omega)
    rw [hr] at hr2
    simp only [Result.ok.injEq] at hr2
    obtain ⟨rfl, rfl⟩ := hr2
    exact .inr rfl
  · by_cases hroom : n + 1 ≤ cap
    · obtain ⟨w2, hr2, _⟩ := run_append_fits (P := Try.prog) w base 33 ty 24 i0 1 Try.underlying33 hi hz1 g n cap xs hown ad 1 c [u] rfl hnews h1 hroom
      rw [hr] at hr2
      simp only [Result.ok.injEq] at hr2
      obtain ⟨rfl, rfl⟩ := hr2
      exact .inl rfl
    · have hr2 := run_append_grow (P := Try.prog) w 33 ty 24 i0 _ Try.underlying33 hi hz0 ⟨g, 0, none⟩ n cap xs (by rw [hz1]; exact hown.1) (hown.cells (g := g) rfl) ad 1 c [u] (by rw [hz1]; rfl) hnews (by omega) (by omega) (growslice_fits (by omega) (by rw [hz2]; omega))
      rw [hr] at hr2
      simp only [Result.ok.injEq] at hr2
      obtain ⟨rfl, rfl⟩ := hr2
      exact .inr rfl
theorem wpList_append_PX {B : Nat} {w : World} {ops : Array Oper} {rest : List Oper} {o : Oper} {a : Act} {Q : Exit → Act → World → Prop} (hgd : o.guard = none) (s x : Operand)
    (ho : o.op = .call { callee := .builtin .append, args := #[s, x], argTypes := #[33, 33] })
    (v : Value) (ls : List (List Int)) (hs : a.eval s = v) (hown : PX B w v ls)
    (ad : Addr) (c : Nat) (u : Value) (l : List Int) (hx : a.eval x = .slice (some ad) 1 c) (hcell : w.cell? ad = some u)
    (hu : ER B w u l) (hbytes : ls.length ≤ 2000000) (hbase : B ≤ w.heap.size)
    (h : ∀ v' w', PX B w' v' (ls ++ [l]) → w.grownBy w' v.ownBlock → (∀ g, v.ownBlock = some g → B ≤ g ∧ BT w g 24) → (v'.ownBlock = v.ownBlock ∨ v'.ownBlock = some w.heap.size) → wpList Try.prog ops Q rest (a.put o.dst v') w') : wpList Try.prog ops Q (o :: rest) a w := by
  obtain ⟨i0, hi, hz0, hz1, hz2⟩ := info_parts info_bytes
  obtain ⟨xs, hrow, hel⟩ := hown
  have hblk : ∀ g, v.ownBlock = some g → B ≤ g ∧ BT w g 24 := by
    intro g hg
    refine ⟨(hrow.lt g hg).1, ?_⟩
    rcases hrow.2 with ⟨rfl, _⟩ | ⟨g', cap, cur, rfl, _, hh, _⟩
    · simp [Value.ownBlock] at hg
    · simp only [Value.ownBlock, Option.some.injEq] at hg
      subst hg
      exact ⟨cur, _, hh⟩
  obtain ⟨pu, cu, eu⟩ := own_slc hu.1
  refine wpList_plain hgd fun K hK => ?_
  obtain ⟨v', w', hr, h2, h3, h4⟩ := run_append_bs w B o.type v ls.length xs hrow ad c u (by rw [eu]; rfl) hcell hbytes hbase
  unfold Oper.wp execOp
  simp only [ho, resolve, invoke, builtin, Sem.run_bind, Sem.run_pure, Result.andThen_ok, List.map_toArray, List.map_cons, List.map_nil, hs, hx, hr]
  refine hK _ _ (h v' w' ?_ h3 hblk h4)
  refine ⟨xs ++ [u], by rw [List.length_append]; exact h2, fun j hj => ?_⟩
  have key : ∀ u l, ER B w u l → ER B w' u l := fun u l he => he.kept h3 fun g hg => by
    obtain ⟨_, cur, fz, hh⟩ := hblk g hg
    exact own_block_ne he.1 hh (by decide)
  have hxl : xs.length = ls.length := by have := hrow.1; omega
  rw [getD_app, getD_app, hxl]
  rw [List.length_append] at hj
  split
  · exact key _ _ (hel j ‹_›)
  · have e : j - ls.length = 0 := by simp at hj; omega
    rw [e]
    exact key _ _ hu
theorem ER.below {B : Nat} {w w' : World} {u : Value} {l : List Int} (h : ER B w u l) (hb : Below w.heap.size w w') : ER B w' u l :=
  h.kept (row := none) (grown_below hb) (fun g e => by cases e)
theorem ER.setLow {B : Nat} {w : World} {u : Value} {l : List Int} (h : ER B w u l) (g o : Nat) (x : Value) (hg : g < B) : ER B (w.setCell ⟨g, o, none⟩ x) u l :=
  h.kept (grown_set w g o x) (fun g' e q => by
    cases e
    have := (h.1.lt g q).1
    omega)
theorem ER.hb {B : Nat} {w : World} {u : Value} {l : List Int} (h : ER B w u l) : HB w u l := HB.of_own h.1 h.2
theorem ne_right {a b b' : Option Nat} {N : Nat} (h : a = none ∨ a ≠ b) (hb : b' = b ∨ b' = some N) (ha : ∀ g, a = some g → g < N) : a = none ∨ a ≠ b' := by
  rcases hb with rfl | rfl
  · exact h
  · cases a with
    | none => exact .inl rfl
    | some g => exact .inr (by have := ha g rfl; simp; omega)
theorem ne_left {a a' b : Option Nat} {N : Nat} (h : a = none ∨ a ≠ b) (hb : a' = a ∨ a' = some N) (ha : ∀ g, b = some g → g < N) : a' = none ∨ a' ≠ b := by
  rcases hb with rfl | rfl
  · exact h
  · cases b with
    | none => exact .inr (by simp)
    | some g => exact .inr (by have := ha g rfl; simp; omega)
theorem ne_some {a b : Option Nat} (h : a = none ∨ a ≠ b) : ∀ g, b = some g → a ≠ some g := by
  intro g e q
  subst e q
  rcases h with h | h
  · cases h
  · exact h rfl
def HJ (w : World) (v : Value) (l : List Int) : Prop :=
  ∃ (p : Option Addr) (c : Nat), v = .slice p l.length c ∧ l.length ≤ c ∧ c ≤ maxLen ∧
    (l ≠ [] → ∃ b off, p = some ⟨b, off, none⟩ ∧ ∀ j, j < l.length → w.cell? ⟨b, off + j, none⟩ = some (.int .i64 (l.getD j 0)))
theorem elm8 : Try.prog.elem 24 = 5 := by kernel_rfl
theorem slice_lh5 (W : World) (p : Option Addr) (n c lo hi : Nat) (h1 : lo ≤ hi) (h2 : hi ≤ c) : (Instr.slice 24 (.slice p n c) (some (.int .i64 (lo : Int))) (some (.int .i64 (hi : Int))) none).run Try.prog W = .ok (.slice (if c = lo then p else p.map (·.add lo)) (hi - lo) (c - lo)) W := by
  have h := run_slice_lh (P := Try.prog) W 24 p n c (by rw [elm8]; exact Try.underlying24) .i64 .i64 (lo : Int) (hi : Int) (by omega) (by omega) (by omega)
  rw [h, elm8, size_u8, Result.andThen_ok, Int.toNat_natCast, Int.toNat_natCast]
  unfold sliced
  rw [Nat.mul_one]
set_option maxHeartbeats 1000000 in
theorem kpick_any (w : World) (x : Int) (n : Nat) (h1 : 1 ≤ n) (h2 : n ≤ 140737488355328) : Calls Try.prog 8 #[.int .i64 x, .int .i64 (n : Int)] w fun e w' => (∃ p : Nat, p < n ∧ e = .returned (.int .i64 (p : Int))) ∧ w' = w := by
  have b1 : -(n : Int) < Int.tmod x n := Int.lt_tmod_of_pos x (by omega)
  have b2 : Int.tmod x n < (n : Int) := Int.tmod_lt_of_pos x (by omega)
  have hn1 : ¬ ((n : Int) < 1) := by omega
  have hn0 : ¬ ((n : Int) = 0) := by omega
  obtain ⟨y, hy⟩ : ∃ y, Int.tmod x (n : Int) = y := ⟨_, rfl⟩
  rw [hy] at b1 b2
  by_cases hneg : y < 0
  · go_enter Try.func8, Try.ntmps8
    go_wp2
    go_ret
    refine ⟨⟨(y + n).toNat, by omega, ?_⟩, rfl⟩
    show Ending.returned (Value.int .i64 (y + n)) = _
    rw [Int.toNat_of_nonneg (by omega)]
  · go_enter Try.func8, Try.ntmps8
    go_wp2
    go_ret
    refine ⟨⟨y.toNat, by omega, ?_⟩, rfl⟩
    show Ending.returned (Value.int .i64 y) = _
    rw [Int.toNat_of_nonneg (by omega)]
end Go.Proofs.Ytpfageaiiemofaa
