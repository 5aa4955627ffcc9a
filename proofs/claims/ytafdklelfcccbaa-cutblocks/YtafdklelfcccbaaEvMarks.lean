/- The evaluator: the statement 'for .. range f', and functions that hold one. -/
import Derived.Test.YtafdklelfcccbaaEvRange
set_option linter.unusedVariables false
set_option linter.unusedSimpArgs false
namespace Go.Proofs.Ytafdklelfcccbaa.Ev
open Go Go.RowKit

def markD (d : Nat) : Deferred := { target := .collected d, args := #[] }
def Out.ends : Out → Bool
  | .exit _ => false
  | _ => true
noncomputable def evRg (P : Program) (L : Lore) (call : CallF) (self : CodeF) (n : Nat) (g : Operand) (ps : Array Tmp) (assign body : Code) (t : Tm) (H : List Blk) : Option (Out × Tm × List Blk) :=
  match evGet t g with
  | some (.tv (.sc (.clo gi caps))) =>
    match canCall P gi && (calm assign && calm body) with
    | true =>
      match P.funcs[gi]? with
      | some fn =>
        match fn.body with
        | some c =>
          match Nat.ble fn.ntmps 512 && Nat.ble (caps.length + 1) fn.ntmps with
          | true =>
            match evI (yhOf self ps assign body t) call P L n c (Tm.fill 1 (ptrs caps) ⟨fn.ntmps, .emp⟩) none H with
            | some (o, t1, p1, H1) =>
              match o.ends with
              | true =>
                match evResults P fn t1 H1 with
                | some _ => some (match p1 with | none => .normal | some out => out, t, H1)
                | none => none
              | false => none
            | none => none
          | false => none
        | none => none
      | none => none
    | false => none
  | _ => none
theorem relT_iter {ρ : Env} {ms : List Nat} {caps : List (Nat × Nat)} {cvs : List Value} (e2 : caps.map (addr ms) = cvs.map some) {n : Nat} (hn : n ≤ 512) (hx : caps.length + 1 ≤ n) (hg : Gl ms) (y : Value) :
    RelT ρ ms (Tm.fill 1 (ptrs caps) ⟨n, .emp⟩) ((#[y] ++ cvs.toArray) ++ Array.replicate (n - (#[y] ++ cvs.toArray).size) undef) := by
  have hl : caps.length = cvs.length := by have := congrArg List.length e2; simpa using this
  refine ⟨by rw [Tm.fill_n]; simp; omega, by rw [Tm.fill_n]; exact hn, fun j x hj => ?_, hg⟩
  rcases Tm.get_fill (ptrs caps) 1 ⟨n, .emp⟩ hn j x hj with ⟨h1, h2⟩ | h1
  · unfold ptrs at h2
    rw [List.getElem?_map, Option.map_eq_some_iff] at h2
    obtain ⟨p, hp, rfl⟩ := h2
    have h3 := congrArg (fun l => l[j - 1]?) e2
    simp only [List.getElem?_map, hp, Option.map_some] at h3
    obtain ⟨v, hv, hv2⟩ := Option.map_eq_some_iff.1 h3.symm
    have hlt := (List.getElem?_eq_some_iff.1 hv).1
    refine ⟨v, ?_, ?_⟩
    · rw [Array.getElem?_append_left (by simp; omega), Array.getElem?_append_right (by simp; omega)]
      simpa using hv
    · simp only [AV.inst, TV.inst, SV.inst]
      rw [← hv2]
  · unfold Tm.get at h1
    split at h1
    · rw [Tr.law3.emp] at h1; cases h1
    · cases h1
theorem evRg_ok {P : Program} {ρ : Env} {L : Lore} (hL : LoreOk ρ L) (hm : P.follows .mixedOrders = true) {call : CallF} (hc : CallOk P ρ call) {self : CodeF} (hs : CodeOkG P ρ self) {n : Nat} {g : Operand} {ps : Array Tmp} {assign body : Code} {t t' : Tm} {H H' : List Blk} {o : Out}
    (h : evRg P L call self n g ps assign body t H = some (o, t', H')) {ms : List Nat} {B : Nat} {a : Act} {w : World} {Q : Exit → Act → World → Prop} (hT : RelT ρ ms t a.tmps) (hH : Holds ρ ms H B w)
    (hQ : ∀ ms' a' w' d, ms <+: ms' → RelT ρ ms' t' a'.tmps → a'.defers = markD d :: a.defers → w'.heap[d]? = some (.deferred (some [])) → w.heap.size ≤ d → Holds ρ ms' H' B w' → Bel B w w' → Q o.to a' w') : (Code.rangeFunc g ps assign body).wp P Q a w := by
  unfold evRg at h
  split at h
  case h_2 => cases h
  rename_i gi caps hgv
  split at h
  case h_2 => cases h
  rename_i hcan
  simp only [Bool.and_eq_true] at hcan
  obtain ⟨hcan, hca, hcb⟩ := hcan
  split at h
  case h_2 => cases h
  rename_i fn hfn
  split at h
  case h_2 => cases h
  rename_i c hb
  split at h
  case h_2 => cases h
  rename_i hbd
  rw [Bool.and_eq_true] at hbd
  split at h
  case h_2 => cases h
  rename_i o1 t1 p1 H1 hev
  split at h
  case h_2 => cases h
  rename_i hends
  split at h
  case h_2 => cases h
  rename_i v1 hres
  simp only [Option.some.injEq, Prod.mk.injEq] at h
  obtain ⟨rfl, rfl, rfl⟩ := h
  have e0 := evGet_ok hT hgv
  simp only [AV.inst, TV.inst, SV.inst, Option.map_eq_some_iff] at e0
  obtain ⟨cvs, e2, e3⟩ := e0
  rw [seqO_iff] at e2
  unfold canCall at hcan
  rw [hfn] at hcan
  simp only [Bool.and_eq_true, bne_iff_ne, ne_eq] at hcan
  have eg : ∀ args w, (callFunc gi args).run P w = .ok (.enter gi args) w := fun args w => by
    have hn : (fn.name == "runtime.NumGoroutine") = false := by simpa using hcan.1
    simp [callFunc, program, Sem.run, hfn, hn, hb, go_sem]
    exact hcan.1
  refine (wpIn_wide (n := 1)).1 (wpIn_rangeFunc fun fnn hfnn => ?_)
  let R : LoopState → Option Code → Loop := fun st pe => { state := st, pending := pe, fn := fnn, tmps := a.tmps, params := ps, assign, body, defers := w.heap.size }
  obtain ⟨W1, hW1⟩ : ∃ W1, (w.alloc (.deferred (some []))).alloc (.loop (R .ready none)) = W1 := ⟨_, rfl⟩
  have hg1 : Bel w.heap.size w W1 := by
    rw [← hW1]
    exact ((Bel.refl _ w).alloc (Nat.le_refl _) _).alloc (by simp) _
  have hl : RecP R (w.heap.size + 1) none W1 := by
    rw [← hW1]
    have := World.alloc_heap_new (w.alloc (.deferred (some []))) (.loop (R .ready none))
    rwa [World.size_alloc] at this
  have hd : W1.heap[w.heap.size]? = some (.deferred (some [])) := by
    rw [← hW1]
    exact (Below.heap_alloc _ _ _ (by simp)).trans (World.alloc_heap_new w _)
  have hBl : B ≤ w.heap.size + 1 := Nat.le_succ_of_le hH.big
  refine ⟨w.heap.size + 1, [markD w.heap.size], W1, { target := .fn (.func gi) cvs.toArray, args := #[yv (w.heap.size + 1)] }, W1, gi, #[yv (w.heap.size + 1)] ++ cvs.toArray, W1, ?_, ?_, ?_, ?_, fun _ => Nat.le_refl _, ?_⟩
  · rw [← hW1]; exact run_enterLoop_outer _ _ _ _ _
  · simp only [resolve, ← e3]; simp [go_sem, yv]
  · intro f' hf'; trivial
  · simp [invoke, go_sem, eg, yv]
  · refine callsIn_wide.2 (calls_of_wp hfn hb ((wpIn_wide (n := 0)).1 ?_))
    refine evI_ok hL hm hc (yh_ok hs hca hcb hT hBl) 0 n c _ none H o1 t1 p1 H1 hev ms _ W1 _ (List.prefix_refl _) (relT_iter e2 (Nat.le_of_ble_eq_true hbd.1) (Nat.le_of_ble_eq_true hbd.2) hT.gl _) ?_ (hH.below hg1.toBelow) hl fun ms' a' w' q1 q2 q3 q4 q5 q6 q7 => ?_
    · simp [Array.getElem?_append]
    obtain ⟨u, e4, e5⟩ := evResults_ok q2 q5 hres
    have hBel : ∀ o4, Bel B w (w'.putObj (w.heap.size + 1) o4) := fun o4 => by
      have h1 := q7.trans (BelX.put hBl w' o4)
      refine ⟨(hg1.toBelow.mono hH.big).trans h1.toBelow, fun i o hi hcl => h1.kept i o ?_ (hg1.kept i o hi hcl) hcl⟩
      have := (Array.getElem?_eq_some_iff.1 hi).1
      omega
    have hmk : ∀ o4, (w'.putObj (w.heap.size + 1) o4).heap[w.heap.size]? = some (.deferred (some [])) := fun o4 => (World.putObj_heap_other (by omega)).trans (q7.kept _ _ (by omega) hd rfl)
    have fin : rangePost Fence.wide 1 P (w.heap.size + 1) Q { a with defers := [markD w.heap.size] ++ a.defers } (.returned u) w' := by
      unfold RecP at q6
      cases p1 with
      | none =>
        refine ⟨none, _, run_endLoop (P := P) q6 (by simp [R]), ?_⟩
        exact hQ ms' _ _ w.heap.size q1 (hT.mono q1) rfl (hmk _) (Nat.le_refl _) (q5.put q6 rfl _) (hBel _)
      | some out =>
        refine ⟨some out.code, _, run_endLoop (P := P) q6 (by simp [R]), ?_⟩
        have := hQ ms' { a with defers := [markD w.heap.size] ++ a.defers } _ w.heap.size q1 (hT.mono q1) rfl (hmk (.loop { R .done (some out.code) with state := .exhausted })) (Nat.le_refl _) (q5.put q6 rfl _) (hBel _)
        cases out with
        | normal => exact wpIn_skip this
        | exit i => exact wpIn_exit this
        | ret => exact wpIn_ret this
    cases o1 with
    | normal => exact ⟨q4, u, e5, fin⟩
    | exit i => cases hends
    | ret => exact ⟨q4, u, e5, fin⟩

def hasRange : Code → Bool
  | .rangeFunc _ _ _ _ => true
  | .seq a b => hasRange a || hasRange b
  | .cond _ x y => hasRange x || hasRange y
  | .block _ c => hasRange c
  | .loop c => hasRange c
  | _ => false
noncomputable def evR (P : Program) (L : Lore) (call : CallF) (self : CodeF) : Nat → CodeF
  | 0, _, _, _ => none
  | n + 1, c, t, H =>
    match hasRange c with
    | false => self c t H
    | true =>
      match c with
      | .seq x y =>
        match evR P L call self n x t H with
        | some (.normal, t', H') => evR P L call self n y t' H'
        | r => r
      | .cond c x y =>
        match evGet t c with
        | some (.tv (.sc (.bool true))) => evR P L call self n x t H
        | some (.tv (.sc (.bool false))) => evR P L call self n y t H
        | _ => none
      | .block id c =>
        match evR P L call self n c t H with
        | some (.exit i, t', H') => if i = id then some (.normal, t', H') else some (.exit i, t', H')
        | r => r
      | .loop c =>
        match evR P L call self n c t H with
        | some (.normal, t', H') => evR P L call self n (.loop c) t' H'
        | r => r
      | .rangeFunc g ps assign body => evRg P L call self n g ps assign body t H
      | _ => none
/-- Marks on the deferred calls, behind which nothing stands. -/
structure Marks (b : Nat) (ds : List Nat) (w : World) : Prop where
  nodup : ds.Nodup
  ok : ∀ d ∈ ds, w.heap[d]? = some (.deferred (some [])) ∧ b ≤ d
theorem Marks.nil (b : Nat) (w : World) : Marks b [] w := ⟨List.nodup_nil, fun d hd => by cases hd⟩
theorem Marks.add {b B : Nat} {ds es : List Nat} {w1 w2 : World} (h : Marks b ds w1) (hb : b ≤ w1.heap.size) (hl : Bel B w1 w2) (k : Marks w1.heap.size es w2) : Marks b (es ++ ds) w2 := by
  refine ⟨List.nodup_append.2 ⟨k.nodup, h.nodup, fun x hx y hy e => ?_⟩, fun d hd => ?_⟩
  · subst e
    have h1 := (k.ok x hx).2
    have h2 := (Array.getElem?_eq_some_iff.1 (h.ok x hy).1).1
    omega
  · rcases List.mem_append.1 hd with hd | hd
    · exact ⟨(k.ok d hd).1, Nat.le_trans hb (k.ok d hd).2⟩
    · exact ⟨hl.kept d _ (h.ok d hd).1 rfl, (h.ok d hd).2⟩
theorem evR_ok {P : Program} {ρ : Env} {L : Lore} (hL : LoreOk ρ L) (hm : P.follows .mixedOrders = true) {call : CallF} (hc : CallOk P ρ call) {self : CodeF} (hs : CodeOkG P ρ self) :
    ∀ (n : Nat) (c : Code) (t : Tm) (H : List Blk) (o : Out) (t' : Tm) (H' : List Blk), evR P L call self n c t H = some (o, t', H') →
    ∀ (ms : List Nat) (B : Nat) (a : Act) (w : World) (Q : Exit → Act → World → Prop), RelT ρ ms t a.tmps → Holds ρ ms H B w →
    (∀ ms' a' w' ds, ms <+: ms' → RelT ρ ms' t' a'.tmps → a'.defers = ds.map markD ++ a.defers → Marks w.heap.size ds w' → Holds ρ ms' H' B w' → Bel B w w' → Q o.to a' w') → c.wp P Q a w := by
  intro n
  induction n using Nat.strongRecOn with
  | _ n ih =>
    cases n with
    | zero => intro c t H o t' H' h; simp [evR] at h
    | succ n =>
      have ihn := ih n (by omega)
      intro c t H o t' H' h ms B a w Q hT hH hQ
      have hstart := h
      unfold evR at h
      split at h
      · exact hs.plain c t H o t' H' h ms B a w Q hT hH fun ms' a' w' q1 q2 q3 q4 q5 => hQ ms' a' w' [] q1 q2 q3 (Marks.nil _ _) q4 q5
      rename_i hhas
      split at h
      · rename_i x y
        split at h
        · rename_i t1 H1 h1
          refine wp_seq (ihn x t H .normal t1 H1 h1 ms B a w _ hT hH fun ms1 a1 w1 ds1 q1 q2 q3 q4 q5 q6 => ?_)
          refine ihn y t1 H1 o t' H' h ms1 B a1 w1 Q q2 q5 fun ms2 a2 w2 ds2 r1 r2 r3 r4 r5 r6 => ?_
          exact hQ ms2 a2 w2 (ds2 ++ ds1) (q1.trans r1) r2 (by rw [r3, q3]; simp) (q4.add q6.size r6 r4) r5 (q6.trans r6)
        · rename_i hne
          have hno : o ≠ .normal := fun e => by subst e; exact hne t' H' h
          refine wp_seq (ihn x t H o t' H' h ms B a w _ hT hH fun ms1 a1 w1 ds1 q1 q2 q3 q4 q5 q6 => ?_)
          have := hQ ms1 a1 w1 ds1 q1 q2 q3 q4 q5 q6
          cases o with
          | normal => exact absurd rfl hno
          | exit i => exact this
          | ret => exact this
      · rename_i cc x y
        split at h
        · rename_i hcc
          have e := evGet_ok hT hcc
          simp only [AV.inst, TV.inst, SV.inst, Option.some.injEq] at e
          exact wp_cond_true e.symm (ihn x t H o t' H' h ms B a w Q hT hH hQ)
        · rename_i hcc
          have e := evGet_ok hT hcc
          simp only [AV.inst, TV.inst, SV.inst, Option.some.injEq] at e
          exact wp_cond_false e.symm (ihn y t H o t' H' h ms B a w Q hT hH hQ)
        · cases h
      · rename_i id x
        split at h
        · rename_i i t1 H1 h1
          refine wp_block (ihn x t H (.exit i) t1 H1 h1 ms B a w _ hT hH fun ms1 a1 w1 ds1 q1 q2 q3 q4 q5 q6 => ?_)
          simp only [Out.to, Exit.inBlock]
          split at h
          · rename_i e
            rw [if_pos e]
            simp only [Option.some.injEq, Prod.mk.injEq] at h
            obtain ⟨rfl, rfl, rfl⟩ := h
            exact hQ ms1 a1 w1 ds1 q1 q2 q3 q4 q5 q6
          · rename_i e
            rw [if_neg e]
            simp only [Option.some.injEq, Prod.mk.injEq] at h
            obtain ⟨rfl, rfl, rfl⟩ := h
            exact hQ ms1 a1 w1 ds1 q1 q2 q3 q4 q5 q6
        · rename_i hne
          refine wp_block (ihn x t H o t' H' h ms B a w _ hT hH fun ms1 a1 w1 ds1 q1 q2 q3 q4 q5 q6 => ?_)
          have := hQ ms1 a1 w1 ds1 q1 q2 q3 q4 q5 q6
          cases o with
          | normal => exact this
          | exit i => exact absurd h (hne i t' H')
          | ret => exact this
      · rename_i x
        let R : Nat → Act → World → Prop := fun k a1 w1 => k ≤ n + 1 ∧ ∃ ms1 t1 H1 ds, evR P L call self k (.loop x) t1 H1 = some (o, t', H') ∧ ms <+: ms1 ∧ RelT ρ ms1 t1 a1.tmps ∧ a1.defers = ds.map markD ++ a.defers ∧ Marks w.heap.size ds w1 ∧ Holds ρ ms1 H1 B w1 ∧ Bel B w w1
        classical
        refine wp_loop (fun a1 w1 => ∃ k, R k a1 w1) (fun a1 w1 => if hx : ∃ k, R k a1 w1 then Classical.choose (has_least hx) else 0) ⟨n + 1, Nat.le_refl _, ms, t, H, [], hstart, List.prefix_refl _, hT, rfl, Marks.nil _ _, hH, Bel.refl _ _⟩ ?_
        intro a1 w1 hI
        have hmin := (Classical.choose_spec (has_least hI)).1
        have hall := (Classical.choose_spec (has_least hI)).2
        generalize hk : Classical.choose (has_least hI) = k at hmin hall
        obtain ⟨hle, ms1, t1, H1, ds, hev, s1, s2, s3, s4, s5, s6⟩ := hmin
        cases k with
        | zero => simp [evR] at hev
        | succ k =>
          have ihk := ih k (by omega)
          unfold evR at hev
          rw [hhas] at hev
          simp only at hev
          split at hev
          · rename_i t2 H2 h2
            refine ihk x t1 H1 .normal t2 H2 h2 ms1 B a1 w1 _ s2 s5 fun ms2 a2 w2 ds2 q1 q2 q3 q4 q5 q6 => ?_
            have hRk : R k a2 w2 := ⟨by omega, ms2, t2, H2, ds2 ++ ds, hev, s1.trans q1, q2, by rw [q3, s3]; simp, s4.add s6.size q6 q4, q5, s6.trans q6⟩
            have hE : ∃ j, R j a2 w2 := ⟨k, hRk⟩
            refine ⟨hE, ?_⟩
            rw [dif_pos hE, dif_pos hI, hk]
            exact Nat.lt_succ_of_le ((Classical.choose_spec (has_least hE)).2 k hRk)
          · rename_i hne
            refine ihk x t1 H1 o t' H' hev ms1 B a1 w1 _ s2 s5 fun ms2 a2 w2 ds2 q1 q2 q3 q4 q5 q6 => ?_
            have := hQ ms2 a2 w2 (ds2 ++ ds) (s1.trans q1) q2 (by rw [q3, s3]; simp) (s4.add s6.size q6 q4) q5 (s6.trans q6)
            cases o with
            | normal => exact absurd hev (hne t' H')
            | exit i => exact this
            | ret => exact this
      · exact evRg_ok hL hm hc hs h hT hH fun ms' a' w' d q1 q2 q3 q4 q5 q6 q7 => hQ ms' a' w' [d] q1 q2 q3 ⟨by simp, fun e he => by simp at he; subst he; exact ⟨q4, q5⟩⟩ q6 q7
      · cases h

theorem leave_all {P : Program} {ρ : Env} {fn : Func} {tmps : Array Value} {R : Ending → World → Prop} {ms : List Nat} {H : List Blk} {B : Nat} {w0 : World} (hB : B ≤ w0.heap.size) (hfin : ∀ w, Holds ρ ms H B w → Bel B w0 w → ∃ v, (results fn tmps).run P w = .ok v w ∧ R (.returned v) w) :
    ∀ (ds : List Nat) (w : World), Marks w0.heap.size ds w → Holds ρ ms H B w → Bel B w0 w → LeavesInM Fence.wide 1 P fn tmps R (ds.map markD) .returning w
  | [], w, _, hH, hb => hfin w hH hb
  | d :: ds, w, hm, hH, hb => by
    obtain ⟨h1, h2⟩ := hm.ok d (List.mem_cons_self ..)
    obtain ⟨n1, n2⟩ := List.nodup_cons.1 hm.nodup
    refine ⟨by simp, .inl ⟨d, _, rfl, run_takeDeferred h1, ?_⟩⟩
    refine leave_all hB hfin ds _ ⟨n2, fun e he => ?_⟩ (hH.put h1 rfl _) ?_
    · obtain ⟨q1, q2⟩ := hm.ok e (List.mem_cons_of_mem _ he)
      exact ⟨(World.putObj_heap_other (show e ≠ d from fun h => n1 (h ▸ he))).trans q1, q2⟩
    · refine ⟨⟨hb.os, hb.tape, hb.output, by simpa using hb.size, fun k hk => (World.putObj_heap_other (by omega)).trans (hb.block k hk)⟩, fun i o hi hc => ?_⟩
      have := (Array.getElem?_eq_some_iff.1 hi).1
      exact (World.putObj_heap_other (by omega)).trans (hb.kept i o hi hc)

/-- Calls, of functions with a range over a function too. -/
noncomputable def callR (P : Program) (L : Lore) (base : CodeF → CallF) (N : Nat) (self : CodeF) : CallF := fun g as H =>
  match P.funcs[g]? with
  | some fn =>
    match fn.body with
    | some c =>
      match hasRange c with
      | true =>
        match Nat.ble fn.ntmps 512 && Nat.ble as.length fn.ntmps with
        | true =>
          match evR P L (base self) self N c (Tm.make fn.ntmps as) H with
          | some (o, t, H') =>
            match o.ends with
            | true => (evResults P fn t H').map fun v => (v, trim H.length v H')
            | false => none
          | none => none
        | false => none
      | false => base self g as H
    | none => base self g as H
  | none => none
theorem callR_ok {P : Program} {ρ : Env} {L : Lore} (hL : LoreOk ρ L) (hm : P.follows .mixedOrders = true) {base : CodeF → CallF} (hbase : ∀ self, CodeOk P ρ self → CallOk P ρ (base self)) (N : Nat) (self : CodeF) (hs : CodeOkG P ρ self) : CallOk P ρ (callR P L base N self) := by
  intro g as H v H' h ms B w args hargs hH
  unfold callR at h
  split at h
  case h_2 => cases h
  rename_i fn hfn
  split at h
  case h_2 => exact hbase self hs.plain g as H v H' h ms B w args hargs hH
  rename_i c hb
  split at h
  case h_2 => exact hbase self hs.plain g as H v H' h ms B w args hargs hH
  split at h
  case h_2 => cases h
  rename_i hbd
  rw [Bool.and_eq_true] at hbd
  split at h
  case h_2 => cases h
  rename_i o t H1 hev
  split at h
  case h_2 => cases h
  rename_i hends
  rw [Option.map_eq_some_iff] at h
  obtain ⟨v', hr, hv⟩ := h
  simp only [Prod.mk.injEq] at hv
  obtain ⟨rfl, rfl⟩ := hv
  have hT : RelT ρ ms (Tm.make fn.ntmps as) (args ++ Array.replicate (fn.ntmps - args.size) undef) := RelT.make hargs (Nat.le_of_ble_eq_true hbd.1) (Nat.le_of_ble_eq_true hbd.2) hH.gl
  refine (callsIn_wide (n := 1)).1 (callsIn_of_wp_marks hfn hb trivial (wpIn_wide.2 ?_) rfl)
  refine evR_ok hL hm (hbase self hs.plain) hs N c _ H o t H1 hev ms B _ w _ hT hH fun ms' a' w' ds q1 q2 q3 q4 q5 q6 => ?_
  have key : LeavesInM Fence.wide 1 P fn a'.tmps (fun e w' => ∃ ms' u, e = .returned u ∧ ms <+: ms' ∧ v'.inst ρ ms' = some u ∧ Holds ρ ms' (trim H.length v' H1) B w' ∧ Bel B w w') a'.defers .returning w' := by
    rw [q3, List.append_nil]
    refine leave_all hH.big (fun w2 hH2 hb2 => ?_) ds w' q4 q5 q6
    obtain ⟨u, e1, e2⟩ := evResults_ok q2 hH2 hr
    obtain ⟨ms2, r1, r2, r3⟩ := trim_ok q1 hH.gl hH.len e1 hH2
    exact ⟨u, e2, ms2, u, rfl, r1, r2, r3, hb2⟩
  cases o with
  | normal => exact key
  | exit i => cases hends
  | ret => exact key

noncomputable def evCallR (P : Program) (L : Lore) (base : CodeF → CallF) (N n : Nat) : CallF := callR P L base N (evGF P L (callR P L base N) n)
theorem evCallR_ok {P : Program} {ρ : Env} {L : Lore} (hL : LoreOk ρ L) (hm : P.follows .mixedOrders = true) {base : CodeF → CallF} (hbase : ∀ self, CodeOk P ρ self → CallOk P ρ (base self)) (N n : Nat) : CallOk P ρ (evCallR P L base N n) := by
  unfold evCallR
  rw [evGF_eq]
  exact callR_ok hL hm hbase N _ (evG_both hL (callR_ok hL hm hbase N) hm n)
end Go.Proofs.Ytafdklelfcccbaa.Ev
