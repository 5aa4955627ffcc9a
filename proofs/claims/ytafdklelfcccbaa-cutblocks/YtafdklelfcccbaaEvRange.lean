/- The evaluator: a range over a function: the iterator's code, which calls the rounds, and the rounds. -/
import Derived.Test.YtafdklelfcccbaaEvIn
import Derived.RangeFuncLeaves
import Derived.RangeFuncNested
set_option linter.unusedVariables false
set_option linter.unusedSimpArgs false
namespace Go.Proofs.Ytafdklelfcccbaa.Ev
open Go Go.RowKit

theorem cells_of_cell {w : World} {b j : Nat} {v : Value} (h : (w.cell? ⟨b, j, none⟩) = some v) {o : Obj} (ho : w.heap[b]? = some o) : o.isCells = true := by
  unfold World.cell? at h
  rw [ho] at h
  cases o <;> simp_all [Obj.isCells]
theorem Holds.put {ρ : Env} {ms : List Nat} {H : List Blk} {B : Nat} {w : World} (h : Holds ρ ms H B w) {l : Nat} {o : Obj} (ho : w.heap[l]? = some o) (hc : o.isCells = false) (o' : Obj) : Holds ρ ms H B (w.putObj l o') where
  len := h.len
  gl := h.gl
  inj := h.inj
  low := h.low
  bnd := fun i b k hi hk hne => by simpa using h.bnd i b k hi hk hne
  big := by simpa using h.big
  plain := h.plain
  cell := fun i b k hi hk j s hs => by
    obtain ⟨v, h1, h2, h3⟩ := h.cell i b k hi hk j s hs
    have hbl : b ≠ l := fun e => by
      subst e
      have := cells_of_cell h2 ho
      rw [this] at hc; cases hc
    refine ⟨v, h1, ?_, fun hr => ?_⟩
    · rw [← h2]; unfold World.cell?; rw [World.putObj_heap_other hbl]
    · rw [← h3 hr]; unfold World.frozen?; rw [World.putObj_heap_other hbl]
  room := fun i b c k0 k hi hc' hk0 hr0 hn0 hk hcap j hj => by
    obtain ⟨e1, e2⟩ := h.room i b c k0 k hi hc' hk0 hr0 hn0 hk hcap j hj
    have hbl : b ≠ l := fun e => by
      subst e
      cases hx : w.cell? ⟨b, j, none⟩ with
      | none => rw [hx] at e1; simp at e1
      | some x =>
        have := cells_of_cell hx ho
        rw [this] at hc; cases hc
    refine ⟨?_, ?_⟩
    · rw [← e1]; unfold World.cell?; rw [World.putObj_heap_other hbl]
    · rw [← e2]; unfold World.frozen?; rw [World.putObj_heap_other hbl]

/-- As Bel, but for one block: the loop's record. -/
structure BelX (l B : Nat) (w w' : World) : Prop extends Below B w w' where
  kept : ∀ (i : Nat) (o : Obj), i ≠ l → w.heap[i]? = some o → o.isCells = false → w'.heap[i]? = some o
theorem BelX.refl (l B : Nat) (w : World) : BelX l B w w := ⟨Below.refl B w, fun _ _ _ h _ => h⟩
theorem BelX.trans {l B : Nat} {a b c : World} (h : BelX l B a b) (k : BelX l B b c) : BelX l B a c := ⟨h.toBelow.trans k.toBelow, fun i o hl hi hc => k.kept i o hl (h.kept i o hl hi hc) hc⟩
theorem Bel.x {l B : Nat} {w w' : World} (h : Bel B w w') : BelX l B w w' := ⟨h.toBelow, fun i o _ hi hc => h.kept i o hi hc⟩
theorem BelX.put {l B : Nat} (hl : B ≤ l) (w : World) (o : Obj) : BelX l B w (w.putObj l o) :=
  ⟨⟨rfl, rfl, rfl, by simp, fun k hk => World.putObj_heap_other (by omega)⟩, fun i o' hi h _ => (World.putObj_heap_other hi).trans h⟩

def Out.code : Out → Code
  | .normal => .skip
  | .exit i => .exit i
  | .ret => .ret
def pendOf : Out → Option Out
  | .normal => none
  | o => some o
def isN : Out → Bool
  | .normal => true
  | _ => false
/-- The loop's record: a round left by p, or none has yet. -/
def RecP (mkL : LoopState → Option Code → Loop) (l : Nat) (p : Option Out) (w : World) : Prop := w.heap[l]? = some (.loop (match p with | none => mkL .ready none | some o => mkL .done (some o.code)))
theorem RecP.bel {mkL : LoopState → Option Code → Loop} {l : Nat} {p : Option Out} {B : Nat} {w w' : World} (h : RecP mkL l p w) (hb : Bel B w w') : RecP mkL l p w' := hb.kept l _ h rfl

abbrev YF := List AV → List Blk → Option (Out × List Blk)
def yv (l : Nat) : Value := .func (.yield l) #[] #[]
def YOk (P : Program) (ρ : Env) (m0 : List Nat) (l B : Nat) (mkL : LoopState → Option Code → Loop) (yh : YF) : Prop :=
  ∀ as H o H', yh as H = some (o, H') → ∀ (n : Nat) (ms : List Nat) (w : World) (args : Array Value), m0 <+: ms → as.map (AV.inst ρ ms) = args.toList.map some → Holds ρ ms H B w → RecP mkL l none w → ∀ (R : Ending → World → Prop),
    (∀ ms' w', ms <+: ms' → Holds ρ ms' H' B w' → RecP mkL l (pendOf o) w' → BelX l B w w' → R (.returned (.bool (isN o))) w') → YieldAt Fence.wide n P l args w R

def setL : List (Nat × AV) → Tm → Tm
  | [], t => t
  | p :: r, t => setL r (t.set p.1 p.2)
theorem relT_zip {ρ : Env} {ms : List Nat} : ∀ (ps : List Nat) (as : List AV) (args : List Value) (t : Tm) (tmps : Array Value), as.map (AV.inst ρ ms) = args.map some → RelT ρ ms t tmps →
    RelT ρ ms (setL (ps.zip as) t) ((ps.zip args).foldl (fun (tm : Array Value) (p : Nat × Value) => tm.setIfInBounds p.1 p.2) tmps)
  | [], _, _, _, _, _, h => by simpa [setL] using h
  | p :: ps, [], [], t, tmps, _, h => by simpa [setL] using h
  | p :: ps, [], _ :: _, _, _, e, _ => by simp at e
  | p :: ps, _ :: _, [], _, _, e, _ => by simp at e
  | p :: ps, x :: as, v :: args, t, tmps, e, h => by
    simp only [List.map_cons, List.cons.injEq] at e
    simp only [List.zip_cons_cons, setL, List.foldl_cons]
    exact relT_zip ps as args _ _ e.2 (RelT.put (a := { tmps := tmps, defers := [] }) h p e.1)
def yhOf (self : CodeF) (ps : Array Tmp) (assign body : Code) (t0 : Tm) : YF := fun as H =>
  match Nat.beq as.length ps.size with
  | true =>
    match self assign (setL (ps.toList.zip as) t0) H with
    | some (.normal, t2, H2) =>
      match self body t2 H2 with
      | some (o, _, H3) => some (o, H3)
      | none => none
    | _ => none
  | false => none
theorem yh_ok {P : Program} {ρ : Env} {self : CodeF} (hs : CodeOkG P ρ self) {fnn : FuncId} {tmps0 : Array Value} {ps : Array Tmp} {assign body : Code} {dd l B : Nat} (ha : calm assign = true) (hb : calm body = true) {m0 : List Nat} {t0 : Tm} (hT0 : RelT ρ m0 t0 tmps0) (hBl : B ≤ l) :
    YOk P ρ m0 l B (fun st pe => { state := st, pending := pe, fn := fnn, tmps := tmps0, params := ps, assign, body, defers := dd }) (yhOf self ps assign body t0) := by
  intro as H o H' h n ms w args hms hargs hH hR R hK
  unfold yhOf at h
  split at h
  case h_2 => cases h
  rename_i hlen
  split at h
  case h_2 => cases h
  rename_i t2 H2 h1
  split at h
  case h_2 => cases h
  rename_i o' t3 H3 h2
  simp only [Option.some.injEq, Prod.mk.injEq] at h
  obtain ⟨rfl, rfl⟩ := h
  have hsz : args.size = ps.size := by
    have e1 := congrArg List.length hargs
    have e2 := Nat.eq_of_beq_eq_true hlen
    simp at e1
    omega
  unfold RecP at hR
  simp only at hR
  refine ⟨fnn, _, assign, body, run_yield (P := P) hR hsz, roundIn_of_wpIn (F := Fence.wide) trivial ?_⟩
  have hRel : RelT ρ ms (setL (ps.toList.zip as) t0) ((ps.zip args).foldl (fun (tm : Array Value) (p : Nat × Value) => tm.setIfInBounds p.1 p.2) tmps0) := by
    have := relT_zip ps.toList as args.toList t0 tmps0 hargs (hT0.mono hms)
    rw [← Array.foldl_toList, Array.toList_zip]
    exact this
  refine hs assign _ H .normal t2 H2 h1 (some l) (.inr ha) n ms B _ w _ hRel hH fun ms1 a1 w1 q1 q2 q3 q4 q5 => ?_
  have hR1 := q5.kept l _ hR rfl
  refine ⟨_, run_beginRound hR1 rfl, ?_⟩
  have hR2 := World.putObj_heap_same (o := Obj.loop { state := .busy, pending := none, fn := fnn, tmps := tmps0, params := ps, assign := assign, body := body, defers := dd }) (Array.getElem?_eq_some_iff.1 hR1).1
  refine hs body t2 H2 o' t3 H3 h2 (some l) (.inr hb) n ms1 B a1 _ _ q2 (q4.put hR1 rfl _) fun ms3 a3 w3 r1 r2 r3 r4 r5 => ?_
  have hR3 := r5.kept l _ hR2 rfl
  have hlt := (Array.getElem?_eq_some_iff.1 hR3).1
  have hB : ∀ o4, BelX l B w (w3.putObj l o4) := fun o4 => ((q5.x.trans (BelX.put hBl _ _)).trans r5.x).trans (BelX.put hBl _ _)
  cases o' with
  | normal => exact ⟨_, _, run_endRound (P := P) none hR3, hK ms3 _ (q1.trans r1) (r4.put hR3 rfl _) (World.putObj_heap_same hlt) (hB _)⟩
  | exit i => exact ⟨_, _, run_endRound (P := P) (some (.exit i)) hR3, hK ms3 _ (q1.trans r1) (r4.put hR3 rfl _) (World.putObj_heap_same hlt) (hB _)⟩
  | ret => exact ⟨_, _, run_endRound (P := P) (some .ret) hR3, hK ms3 _ (q1.trans r1) (r4.put hR3 rfl _) (World.putObj_heap_same hlt) (hB _)⟩

def yCall (Y : List Nat) (o : Oper) : Option (List Operand) :=
  match o.guard with
  | none =>
    match o.op with
    | .call c =>
      match c.callee with
      | .value (.tmp y) => if Y.contains y then some c.args.toList else none
      | _ => none
    | _ => none
  | some _ => none
def yMove (Y : List Nat) (t : Tm) (o : Oper) : Option Nat :=
  match o.guard with
  | none =>
    match o.op with
    | .move (.tmp y) =>
      match o.dst with
      | some d => if Y.contains y && (t.get d).isNone && Nat.blt d t.n then some d else none
      | none => none
    | _ => none
  | some _ => none
noncomputable def evIOps (yh : YF) (call : CallF) (P : Program) (L : Lore) (ops : Array Oper) : List Oper → List Nat → Tm → Option Out → List Blk → Option (Tm × Option Out × List Blk)
  | [], _, t, p, H => some (t, p, H)
  | o :: r, Y, t, p, H =>
    match yCall Y o with
    | some xs =>
      match p with
      | none =>
        match seqO (xs.map (evGet t)) with
        | some as =>
          match dstFree Y o with
          | true =>
            match yh as H with
            | some (out, H') => evIOps yh call P L ops r Y (putA t o.dst (.tv (.sc (.bool (isN out))))) (pendOf out) H'
            | none => none
          | false => none
        | none => none
      | some _ => none
    | none =>
      match yMove Y t o with
      | some d => evIOps yh call P L ops r (d :: Y) t p H
      | none =>
        match calmO o && dstFree Y o with
        | true =>
          match opsF call P L ops [o] t H with
          | some (t', H') => evIOps yh call P L ops r Y t' p H'
          | none => none
        | false => none
theorem wanted_none {o : Oper} (h : o.guard = none) (ops : Array Oper) (tm : Array Value) : Region.wanted o (yielded ops tm) = true := by
  unfold Region.wanted
  rw [h]
theorem evIOps_ok {P : Program} {ρ : Env} {L : Lore} (hL : LoreOk ρ L) {call : CallF} (hc : CallOk P ρ call) {m0 : List Nat} {l B : Nat} {mkL : LoopState → Option Code → Loop} {yh : YF} (hy : YOk P ρ m0 l B mkL yh) {ops : Array Oper} {n : Nat} {Q : Exit → Act → World → Prop} :
    ∀ (lst : List Oper) (Y : List Nat) (t : Tm) (p : Option Out) (H : List Blk) (t' : Tm) (p' : Option Out) (H' : List Blk), evIOps yh call P L ops lst Y t p H = some (t', p', H') →
    ∀ (ms : List Nat) (a : Act) (w : World), m0 <+: ms → RelT ρ ms t a.tmps → Ys Y (yv l) a.tmps → 0 ∈ Y → Holds ρ ms H B w → RecP mkL l p w →
    (∀ ms' a' w', ms <+: ms' → RelT ρ ms' t' a'.tmps → a'.tmps[0]? = some (yv l) → a'.defers = a.defers → Holds ρ ms' H' B w' → RecP mkL l p' w' → BelX l B w w' → Q .normal a' w') → wpListIn Fence.wide n P ops Q lst a w
  | [], Y, t, p, H, t', p', H', h, ms, a, w, hms, hT, hY, h0, hH, hR, hQ => by
    simp only [evIOps, Option.some.injEq, Prod.mk.injEq] at h
    obtain ⟨rfl, rfl, rfl⟩ := h
    exact hQ ms a w (List.prefix_refl _) hT (hY 0 h0) rfl hH hR (BelX.refl _ _ _)
  | o :: r, Y, t, p, H, t', p', H', h, ms, a, w, hms, hT, hY, h0, hH, hR, hQ => by
    simp only [evIOps] at h
    unfold wpListIn
    split at h
    · -- the yield
      rename_i xs hx
      unfold yCall at hx
      split at hx
      case h_2 => cases hx
      rename_i hg
      split at hx
      case h_2 => cases hx
      rename_i c hop
      split at hx
      case h_2 => cases hx
      rename_i y hcal
      split at hx
      case isFalse => cases hx
      rename_i hyY
      simp only [Option.some.injEq] at hx
      subst hx
      split at h
      case h_2 => cases h
      split at h
      case h_2 => cases h
      rename_i as has
      split at h
      case h_2 => cases h
      rename_i hdf
      split at h
      case h_2 => cases h
      rename_i out H1 hyh
      rw [wanted_none hg, if_pos rfl]
      have hyv : a.eval (.tmp y) = yv l := by
        have := hY y (by simpa using hyY)
        simp [Act.eval, Array.getD_eq_getD_getElem?, this]
      have hargs : as.map (AV.inst ρ ms) = (c.args.map a.eval).toList.map some := by
        rw [seqO_iff] at has
        have key : ∀ (xs : List Operand) (as : List AV), xs.map (evGet t) = as.map some → as.map (AV.inst ρ ms) = (xs.map a.eval).map some := by
          intro xs
          induction xs with
          | nil => intro as h; cases as <;> simp at h ⊢
          | cons x xs ih =>
            intro as h
            cases as with
            | nil => simp at h
            | cons p as =>
              simp only [List.map_cons, List.cons.injEq] at h ⊢
              exact ⟨evGet_ok hT h.1, ih as h.2⟩
        have := key _ _ has
        rw [this]; simp
      obtain ⟨fnn, tm, as1, bd, hrun, hround⟩ := hy as H out H1 hyh (n - 1) ms w (c.args.map a.eval) hms hargs hH hR (fun e w'' => match e with
        | .returned v => wpListIn Fence.wide n P ops Q r (a.put o.dst v) w''
        | .panicked chain => Q (.panic chain) a w''
        | .outgrown => LetsOut Q) (by
          intro ms1 w1 q1 q2 q3 q4
          have hT1 := (hT.mono q1).putA o.dst (x := .tv (.sc (.bool (isN out)))) (v := .bool (isN out)) rfl
          refine evIOps_ok hL hc hy r Y _ _ H1 t' p' H' h ms1 _ w1 (hms.trans q1) hT1 (hY.put hdf _) h0 q2 q3 fun ms2 a2 w2 r1 r2 r3 r4 r5 r6 r7 => ?_
          exact hQ ms2 a2 w2 (q1.trans r1) r2 r3 (r4.trans (put_defers _ _ _)) r5 r6 (q4.trans r7))
      refine ⟨fun f _ => trivial, ?_⟩
      rw [Oper.semAt_eq _ _ _ (fun c' e => by rw [hop] at e; cases e)]
      have hex : (execOp a.eval o).run P w = .ok (.round l fnn tm as1 bd) w := by
        simp only [execOp, hop, resolve, hcal, hyv, yv, Deferred.ofValue, Sem.run_bind, Sem.run_pure, Result.andThen_ok, invoke]
        simpa using hrun
      rw [hex]
      exact ⟨(fun e => by cases e), hround.mono fun e w1 he => by cases e <;> exact he⟩
    · split at h
      · -- the yield moved
        rename_i d hx
        unfold yMove at hx
        split at hx
        case h_2 => cases hx
        rename_i hg
        split at hx
        case h_2 => cases hx
        rename_i y hop
        split at hx
        case h_2 => cases hx
        rename_i d' hdst
        split at hx
        case isFalse => cases hx
        rename_i hcond
        simp only [Option.some.injEq] at hx
        subst hx
        simp only [Bool.and_eq_true] at hcond
        obtain ⟨⟨hyY, hnone⟩, hlt⟩ := hcond
        rw [wanted_none hg, if_pos rfl]
        have hyv : a.eval (.tmp y) = yv l := by
          have := hY y (by simpa using hyY)
          simp [Act.eval, Array.getD_eq_getD_getElem?, this]
        refine ⟨fun f _ => trivial, ?_⟩
        rw [Oper.semAt_eq _ _ _ (fun c' e => by rw [hop] at e; cases e)]
        have hex : (execOp a.eval o).run P w = .ok (.value (yv l)) w := by
          simp only [execOp, hop, hyv, Sem.run_pure]
        rw [hex]
        show wpListIn Fence.wide n P ops Q r (a.put o.dst (yv l)) w
        rw [hdst]
        have hdlt : d' < a.tmps.size := by rw [← hT.sz]; exact Nat.le_of_ble_eq_true hlt
        refine evIOps_ok hL hc hy r (d' :: Y) t p H t' p' H' h ms _ w hms ⟨?_, hT.le, fun i x hi => ?_, hT.gl⟩ ?_ (List.mem_cons_of_mem _ h0) hH hR fun ms2 a2 w2 r1 r2 r3 r4 r5 r6 r7 => hQ ms2 a2 w2 r1 r2 r3 r4 r5 r6 r7
        · simp [Act.put, hT.sz]
        · obtain ⟨v, h1, h2⟩ := hT.val i x hi
          refine ⟨v, ?_, h2⟩
          simp only [Act.put]
          rw [Array.getElem?_setIfInBounds, if_neg (fun e => by subst e; rw [hi] at hnone; cases hnone)]
          exact h1
        · intro z hz
          simp only [Act.put]
          rw [Array.getElem?_setIfInBounds]
          rcases List.mem_cons.1 hz with rfl | hz
          · rw [if_pos rfl, if_pos hdlt]
          · by_cases e : d' = z
            · rw [if_pos e, if_pos hdlt]
            · rw [if_neg e]; exact hY z hz
      · split at h
        case h_2 => cases h
        rename_i hcd
        rw [Bool.and_eq_true] at hcd
        split at h
        case h_2 => cases h
        rename_i t1 H1 h1
        rw [opsF_eq] at h1
        have key : wpList P ops (fun e a' w' => e = .normal ∧ ∃ ms', ms <+: ms' ∧ RelT ρ ms' t1 a'.tmps ∧ a'.defers = a.defers ∧ Holds ρ ms' H1 B w' ∧ Bel B w w') [o] a w :=
          evOps_ok hL hc [o] ms t H a w t1 H1 hT hH h1 fun ms' a' w' q1 q2 q3 q4 q5 => ⟨rfl, ms', q1, q2, q3, q4, q5⟩
        have go : ∀ a' w', (∃ ms', ms <+: ms' ∧ RelT ρ ms' t1 a'.tmps ∧ a'.defers = a.defers ∧ Holds ρ ms' H1 B w' ∧ Bel B w w') → (∃ v, a'.tmps = (a.put o.dst v).tmps) → wpListIn Fence.wide n P ops Q r a' w' := by
          rintro a' w' ⟨ms', q1, q2, q3, q4, q5⟩ ⟨v, hv⟩
          refine evIOps_ok hL hc hy r Y t1 p H1 t' p' H' h ms' a' w' (hms.trans q1) q2 (by rw [hv]; exact hY.put hcd.2 v) h0 q4 (hR.bel q5) fun ms2 a2 w2 r1 r2 r3 r4 r5 r6 r7 => ?_
          exact hQ ms2 a2 w2 (q1.trans r1) r2 r3 (r4.trans q3) r5 r6 (q5.x.trans r7)
        unfold wpList at key
        split at key
        · rename_i hw
          rw [if_pos hw]
          rcases key with key | ⟨_, a0, w0, q⟩
          · exact op_in (ro := none) key hcd.1 (fun e a w q => q.1) fun a' w' hk hv => go a' w' hk.2 hv
          · cases q.1
        · rename_i hw
          rw [if_neg hw]
          exact ⟨fun _ _ => trivial, go _ _ key.2 ⟨undef, rfl⟩⟩

noncomputable def evI (yh : YF) (call : CallF) (P : Program) (L : Lore) : Nat → Code → Tm → Option Out → List Blk → Option (Out × Tm × Option Out × List Blk)
  | 0, _, _, _, _ => none
  | n + 1, c, t, p, H =>
    match c with
    | .skip => some (.normal, t, p, H)
    | .region _ ops false => (evIOps yh call P L ops ops.toList [0] t p H).map fun r => (.normal, r.1, r.2.1, r.2.2)
    | .region _ ops true =>
      match ops.all fun o => calmO o && dstFree [0] o with
      | true => (evPlanF call P L ops t H).map fun r => (.normal, r.1, p, r.2)
      | false => none
    | .seq x y =>
      match evI yh call P L n x t p H with
      | some (.normal, t', p', H') => evI yh call P L n y t' p' H'
      | r => r
    | .cond c x y =>
      match evGet t c with
      | some (.tv (.sc (.bool true))) => evI yh call P L n x t p H
      | some (.tv (.sc (.bool false))) => evI yh call P L n y t p H
      | _ => none
    | .block id c =>
      match evI yh call P L n c t p H with
      | some (.exit i, t', p', H') => if i = id then some (.normal, t', p', H') else some (.exit i, t', p', H')
      | r => r
    | .loop c =>
      match evI yh call P L n c t p H with
      | some (.normal, t', p', H') => evI yh call P L n (.loop c) t' p' H'
      | r => r
    | .exit id => some (.exit id, t, p, H)
    | .ret => some (.ret, t, p, H)
    | .label _ => some (.normal, t, p, H)
    | _ => none
theorem evI_ok {P : Program} {ρ : Env} {L : Lore} (hL : LoreOk ρ L) (hm : P.follows .mixedOrders = true) {call : CallF} (hc : CallOk P ρ call) {m0 : List Nat} {l B : Nat} {mkL : LoopState → Option Code → Loop} {yh : YF} (hy : YOk P ρ m0 l B mkL yh) (nn : Nat) :
    ∀ (n : Nat) (c : Code) (t : Tm) (p : Option Out) (H : List Blk) (o : Out) (t' : Tm) (p' : Option Out) (H' : List Blk), evI yh call P L n c t p H = some (o, t', p', H') →
    ∀ (ms : List Nat) (a : Act) (w : World) (Q : Exit → Act → World → Prop), m0 <+: ms → RelT ρ ms t a.tmps → a.tmps[0]? = some (yv l) → Holds ρ ms H B w → RecP mkL l p w →
    (∀ ms' a' w', ms <+: ms' → RelT ρ ms' t' a'.tmps → a'.tmps[0]? = some (yv l) → a'.defers = a.defers → Holds ρ ms' H' B w' → RecP mkL l p' w' → BelX l B w w' → Q o.to a' w') → c.wpIn Fence.wide nn P Q a w := by
  intro n
  induction n using Nat.strongRecOn with
  | _ n ih =>
    cases n with
    | zero => intro c t p H o t' p' H' h; simp [evI] at h
    | succ n =>
      have ihn := ih n (by omega)
      intro c t p H o t' p' H' h ms a w Q hms hT h0 hH hR hQ
      have hstart := h
      unfold evI at h
      split at h
      · simp only [Option.some.injEq, Prod.mk.injEq] at h
        obtain ⟨rfl, rfl, rfl, rfl⟩ := h
        exact wpIn_skip (hQ ms a w (List.prefix_refl _) hT h0 rfl hH hR (BelX.refl _ _ _))
      · rw [Option.map_eq_some_iff] at h
        obtain ⟨r, h1, h2⟩ := h
        simp only [Prod.mk.injEq] at h2
        obtain ⟨rfl, rfl, rfl, rfl⟩ := h2
        exact wpIn_region_list (evIOps_ok hL hc hy _ [0] t p H r.1 r.2.1 r.2.2 h1 ms a w hms hT (fun y hy => by simp at hy; subst hy; exact h0) (by simp) hH hR hQ)
      · rename_i id ops
        split at h
        case h_2 => cases h
        rename_i hcm
        rw [Option.map_eq_some_iff] at h
        obtain ⟨r, h1, h2⟩ := h
        simp only [Prod.mk.injEq] at h2
        obtain ⟨rfl, rfl, rfl, rfl⟩ := h2
        rw [evPlanF_eq] at h1
        have key := evPlan_any (Q := fun e a' w' => ∃ ms', ms <+: ms' ∧ RelT ρ ms' r.1 a'.tmps ∧ a'.defers = a.defers ∧ Holds ρ ms' r.2 B w' ∧ Bel B w w') hL hc hT hH h1 fun ms' a' w' q1 q2 q3 q4 q5 => ⟨ms', q1, q2, q3, q4, q5⟩
        refine wpIn_mono (wpIn_region_any hm (any_in (ro := none) (Y := [0]) (yv := yv l) (fun e a w q => q.1) hcm _ _ a _ key (fun y hy => by simp at hy; subst hy; exact h0))) fun e a1 w1 q => ?_
        obtain ⟨⟨rfl, ms', q1, q2, q3, q4, q5⟩, q6⟩ := q
        exact hQ ms' a1 w1 q1 q2 (q6 0 (by simp)) q3 q4 (hR.bel q5) q5.x
      · rename_i x y
        split at h
        · rename_i t1 p1 H1 h1
          refine wpIn_seq (ihn x t p H .normal t1 p1 H1 h1 ms a w _ hms hT h0 hH hR fun ms1 a1 w1 q1 q2 q3 q4 q5 q6 q7 => ?_)
          exact ihn y t1 p1 H1 o t' p' H' h ms1 a1 w1 Q (hms.trans q1) q2 q3 q5 q6 fun ms2 a2 w2 r1 r2 r3 r4 r5 r6 r7 => hQ ms2 a2 w2 (q1.trans r1) r2 r3 (r4.trans q4) r5 r6 (q7.trans r7)
        · rename_i hne
          have hno : o ≠ .normal := fun e => by subst e; exact hne t' p' H' h
          refine wpIn_seq (ihn x t p H o t' p' H' h ms a w _ hms hT h0 hH hR fun ms1 a1 w1 q1 q2 q3 q4 q5 q6 q7 => ?_)
          have := hQ ms1 a1 w1 q1 q2 q3 q4 q5 q6 q7
          cases o with
          | normal => exact absurd rfl hno
          | exit i => exact this
          | ret => exact this
      · rename_i cc x y
        split at h
        · rename_i hcc
          have e := evGet_ok hT hcc
          simp only [AV.inst, TV.inst, SV.inst, Option.some.injEq] at e
          exact wpIn_cond_true e.symm (ihn x t p H o t' p' H' h ms a w Q hms hT h0 hH hR hQ)
        · rename_i hcc
          have e := evGet_ok hT hcc
          simp only [AV.inst, TV.inst, SV.inst, Option.some.injEq] at e
          exact wpIn_cond_false e.symm (ihn y t p H o t' p' H' h ms a w Q hms hT h0 hH hR hQ)
        · cases h
      · rename_i id x
        split at h
        · rename_i i t1 p1 H1 h1
          refine wpIn_block (ihn x t p H (.exit i) t1 p1 H1 h1 ms a w _ hms hT h0 hH hR fun ms1 a1 w1 q1 q2 q3 q4 q5 q6 q7 => ?_)
          simp only [Out.to, Exit.inBlock]
          split at h
          · rename_i e
            rw [if_pos e]
            simp only [Option.some.injEq, Prod.mk.injEq] at h
            obtain ⟨rfl, rfl, rfl, rfl⟩ := h
            exact hQ ms1 a1 w1 q1 q2 q3 q4 q5 q6 q7
          · rename_i e
            rw [if_neg e]
            simp only [Option.some.injEq, Prod.mk.injEq] at h
            obtain ⟨rfl, rfl, rfl, rfl⟩ := h
            exact hQ ms1 a1 w1 q1 q2 q3 q4 q5 q6 q7
        · rename_i hne
          refine wpIn_block (ihn x t p H o t' p' H' h ms a w _ hms hT h0 hH hR fun ms1 a1 w1 q1 q2 q3 q4 q5 q6 q7 => ?_)
          have := hQ ms1 a1 w1 q1 q2 q3 q4 q5 q6 q7
          cases o with
          | normal => exact this
          | exit i => exact absurd h (hne i t' p' H')
          | ret => exact this
      · rename_i x
        let R : Nat → Act → World → Prop := fun k a1 w1 => k ≤ n + 1 ∧ ∃ ms1 t1 p1 H1, evI yh call P L k (.loop x) t1 p1 H1 = some (o, t', p', H') ∧ ms <+: ms1 ∧ RelT ρ ms1 t1 a1.tmps ∧ a1.tmps[0]? = some (yv l) ∧ a1.defers = a.defers ∧ Holds ρ ms1 H1 B w1 ∧ RecP mkL l p1 w1 ∧ BelX l B w w1
        classical
        refine wpIn_loop (fun a1 w1 => ∃ k, R k a1 w1) (fun a1 w1 => if hx : ∃ k, R k a1 w1 then Classical.choose (has_least hx) else 0) ⟨n + 1, Nat.le_refl _, ms, t, p, H, hstart, List.prefix_refl _, hT, h0, rfl, hH, hR, BelX.refl _ _ _⟩ ?_
        intro a1 w1 hI
        have hmin := (Classical.choose_spec (has_least hI)).1
        have hall := (Classical.choose_spec (has_least hI)).2
        generalize hk : Classical.choose (has_least hI) = k at hmin hall
        obtain ⟨hle, ms1, t1, p1, H1, hev, s1, s2, s3, s4, s5, s6, s7⟩ := hmin
        cases k with
        | zero => simp [evI] at hev
        | succ k =>
          have ihk := ih k (by omega)
          simp only [evI] at hev
          split at hev
          · rename_i t2 p2 H2 h2
            refine ihk x t1 p1 H1 .normal t2 p2 H2 h2 ms1 a1 w1 _ (hms.trans s1) s2 s3 s5 s6 fun ms2 a2 w2 q1 q2 q3 q4 q5 q6 q7 => ?_
            have hRk : R k a2 w2 := ⟨by omega, ms2, t2, p2, H2, hev, s1.trans q1, q2, q3, q4.trans s4, q5, q6, s7.trans q7⟩
            have hE : ∃ j, R j a2 w2 := ⟨k, hRk⟩
            refine ⟨hE, ?_⟩
            rw [dif_pos hE, dif_pos hI, hk]
            exact Nat.lt_succ_of_le ((Classical.choose_spec (has_least hE)).2 k hRk)
          · rename_i hne
            refine ihk x t1 p1 H1 o t' p' H' hev ms1 a1 w1 _ (hms.trans s1) s2 s3 s5 s6 fun ms2 a2 w2 q1 q2 q3 q4 q5 q6 q7 => ?_
            have := hQ ms2 a2 w2 (s1.trans q1) q2 q3 (q4.trans s4) q5 q6 (s7.trans q7)
            cases o with
            | normal => exact absurd hev (hne t' p' H')
            | exit i => exact this
            | ret => exact this
      · simp only [Option.some.injEq, Prod.mk.injEq] at h
        obtain ⟨rfl, rfl, rfl, rfl⟩ := h
        exact wpIn_exit (hQ ms a w (List.prefix_refl _) hT h0 rfl hH hR (BelX.refl _ _ _))
      · simp only [Option.some.injEq, Prod.mk.injEq] at h
        obtain ⟨rfl, rfl, rfl, rfl⟩ := h
        exact wpIn_ret (hQ ms a w (List.prefix_refl _) hT h0 rfl hH hR (BelX.refl _ _ _))
      · simp only [Option.some.injEq, Prod.mk.injEq] at h
        obtain ⟨rfl, rfl, rfl, rfl⟩ := h
        exact wpIn_label (hQ ms a w (List.prefix_refl _) hT h0 rfl hH hR (BelX.refl _ _ _))
      · cases h
end Go.Proofs.Ytafdklelfcccbaa.Ev
