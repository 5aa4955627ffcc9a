/- Of the road to rsBytes_holds: EvMarks, RsCon, RsLaw, RsByWalk. -/
import Derived.Test.YtmlhfjflkcenkaaG05
set_option linter.unusedVariables false
set_option linter.unusedSimpArgs false
namespace Go.Proofs.Ytmlhfjflkcenkaa.Ev
open Go Go.RowKit
def markD (d : Nat) : Deferred := { target := .collected d, args := #[] }
def Out.ends : Out → Bool
  | .exit _ => false
  | _ => true
noncomputable def evRg (P : Program) (L : Lore) (call : CallF) (self : CodeF) (n : Nat) (g : Operand) (ps : Array Tmp) (assign body : Code) (t : Tm) (H : List Blk) : Option (Out × Tm × List Blk) :=
  match evGet t g with
  | some (.tv (.sc (.clo gi caps))) =>
    match canCall P gi && (calm assign && calm body) with
    | true =>
      match P.funcs[gi]? with
      | some fn =>
        match fn.body with
        | some c =>
          match Nat.ble fn.ntmps 512 && Nat.ble (caps.length + 1) fn.ntmps with
          | true =>
            match evI (yhOf self ps assign body t) call P L n c (Tm.fill 1 (ptrs caps) ⟨fn.ntmps, .emp⟩) none H with
            | some (o, t1, p1, H1) =>
              match o.ends with
              | true =>
                match evResults P fn t1 H1 with
                | some _ => some (match p1 with | none => .normal | some out => out, t, H1)
                | none => none
              | false => none
            | none => none
          | false => none
        | none => none
      | none => none
    | false => none
  | _ => none
theorem relT_iter {ρ : Env} {ms : List Nat} {caps : List (Nat × Nat)} {cvs : List Value} (e2 : caps.map (addr ms) = cvs.map some) {n : Nat} (hn : n ≤ 512) (hx : caps.length + 1 ≤ n) (hg : Gl ms) (y : Value) :
    RelT ρ ms (Tm.fill 1 (ptrs caps) ⟨n, .emp⟩) ((#[y] ++ cvs.toArray) ++ Array.replicate (n - (#[y] ++ cvs.toArray).size) undef) := by
  have hl : caps.length = cvs.length := by have := congrArg List.length e2; simpa using this
  refine ⟨by rw [Tm.fill_n]; simp; omega, by rw [Tm.fill_n]; exact hn, fun j x hj => ?_, hg⟩
  rcases Tm.get_fill (ptrs caps) 1 ⟨n, .emp⟩ hn j x hj with ⟨h1, h2⟩ | h1
  · unfold ptrs at h2
    rw [List.getElem?_map, Option.map_eq_some_iff] at h2
    obtain ⟨p, hp, rfl⟩ := h2
    have h3 := congrArg (fun l => l[j - 1]?) e2
    simp only [List.getElem?_map, hp, Option.map_some] at h3
    obtain ⟨v, hv, hv2⟩ := Option.map_eq_some_iff.1 h3.symm
    have hlt := (List.getElem?_eq_some_iff.1 hv).1
    refine ⟨v, ?_, ?_⟩
    · rw [Array.getElem?_append_left (by simp; omega), Array.getElem?_append_right (by simp; omega)]
      simpa using hv
    · simp only [AV.inst, TV.inst, SV.inst]
      rw [← hv2]
  · unfold Tm.get at h1
    split at h1
    · rw [Tr.law3.emp] at h1; cases h1
    · cases h1
theorem evRg_ok {P : Program} {ρ : Env} {L : Lore} (hL : LoreOk ρ L) (hm : P.follows .mixedOrders = true) {call : CallF} (hc : CallOk P ρ call) {self : CodeF} (hs : CodeOkG P ρ self) {n : Nat} {g : Operand} {ps : Array Tmp} {assign body : Code} {t t' : Tm} {H H' : List Blk} {o : Out}
    (h : evRg P L call self n g ps assign body t H = some (o, t', H')) {ms : List Nat} {B : Nat} {a : Act} {w : World} {Q : Exit → Act → World → Prop} (hT : RelT ρ ms t a.tmps) (hH : Holds ρ ms H B w)
    (hQ : ∀ ms' a' w' d, ms <+: ms' → RelT ρ ms' t' a'.tmps → a'.defers = markD d :: a.defers → w'.heap[d]? = some (.deferred (some [])) → w.heap.size ≤ d → Holds ρ ms' H' B w' → Bel B w w' → Q o.to a' w') : (Code.rangeFunc g ps assign body).wp P Q a w := by
  unfold evRg at h
  split at h
  case h_2 => cases h
  rename_i gi caps hgv
  split at h
  case h_2 => cases h
  rename_i hcan
  simp only [Bool.and_eq_true] at hcan
  obtain ⟨hcan, hca, hcb⟩ := hcan
  split at h
  case h_2 => cases h
  rename_i fn hfn
  split at h
  case h_2 => cases h
  rename_i c hb
  split at h
  case h_2 => cases h
  rename_i hbd
  rw [Bool.and_eq_true] at hbd
  split at h
  case h_2 => cases h
  rename_i o1 t1 p1 H1 hev
  split at h
  case h_2 => cases h
  rename_i hends
  split at h
  case h_2 => cases h
  rename_i v1 hres
  simp only [Option.some.injEq, Prod.mk.injEq] at h
  obtain ⟨rfl, rfl, rfl⟩ := h
  have e0 := evGet_ok hT hgv
  simp only [AV.inst, TV.inst, SV.inst, Option.map_eq_some_iff] at e0
  obtain ⟨cvs, e2, e3⟩ := e0
  rw [seqO_iff] at e2
  unfold canCall at hcan
  rw [hfn] at hcan
  simp only [Bool.and_eq_true, bne_iff_ne, ne_eq] at hcan
  have eg : ∀ args w, (callFunc gi args).run P w = .ok (.enter gi args) w := fun args w => by
    have hn : (fn.name == "runtime.NumGoroutine") = false := by simpa using hcan.1
    simp [callFunc, program, Sem.run, hfn, hn, hb, go_sem]
    exact hcan.1
  refine (wpIn_wide (n := 1)).1 (wpIn_rangeFunc fun fnn hfnn => ?_)
  let R : LoopState → Option Code → Loop := fun st pe => { state := st, pending := pe, fn := fnn, tmps := a.tmps, params := ps, assign, body, defers := w.heap.size }
  obtain ⟨W1, hW1⟩ : ∃ W1, (w.alloc (.deferred (some []))).alloc (.loop (R .ready none)) = W1 := ⟨_, rfl⟩
  have hg1 : Bel w.heap.size w W1 := by
    rw [← hW1]
    exact ((Bel.refl _ w).alloc (Nat.le_refl _) _).alloc (by simp) _
  have hl : RecP R (w.heap.size + 1) none W1 := by
    rw [← hW1]
    have := World.alloc_heap_new (w.alloc (.deferred (some []))) (.loop (R .ready none))
    rwa [World.size_alloc] at this
  have hd : W1.heap[w.heap.size]? = some (.deferred (some [])) := by
    rw [← hW1]
    exact (Below.heap_alloc _ _ _ (by simp)).trans (World.alloc_heap_new w _)
  have hBl : B ≤ w.heap.size + 1 := Nat.le_succ_of_le hH.big
  refine ⟨w.heap.size + 1, [markD w.heap.size], W1, { target := .fn (.func gi) cvs.toArray, args := #[yv (w.heap.size + 1)] }, W1, gi, #[yv (w.heap.size + 1)] ++ cvs.toArray, W1, ?_, ?_, ?_, ?_, fun _ => Nat.le_refl _, ?_⟩
  · rw [← hW1]; exact run_enterLoop_outer _ _ _ _ _
  · simp only [resolve, ← e3]; simp [go_sem, yv]
  · intro f' hf'; trivial
  · simp [invoke, go_sem, eg, yv]
  · refine callsIn_wide.2 (calls_of_wp hfn hb ((wpIn_wide (n := 0)).1 ?_))
    refine evI_ok hL hm hc (yh_ok hs hca hcb hT hBl) 0 n c _ none H o1 t1 p1 H1 hev ms _ W1 _ (List.prefix_refl _) (relT_iter e2 (Nat.le_of_ble_eq_true hbd.1) (Nat.le_of_ble_eq_true hbd.2) hT.gl _) ?_ (hH.below hg1.toBelow) hl fun ms' a' w' q1 q2 q3 q4 q5 q6 q7 => ?_
    · simp [Array.getElem?_append]
    obtain ⟨u, e4, e5⟩ := evResults_ok q2 q5 hres
    have hBel : ∀ o4, Bel B w (w'.putObj (w.heap.size + 1) o4) := fun o4 => by
      have h1 := q7.trans (BelX.put hBl w' o4)
      refine ⟨(hg1.toBelow.mono hH.big).trans h1.toBelow, fun i o hi hcl => h1.kept i o ?_ (hg1.kept i o hi hcl) hcl⟩
      have := (Array.getElem?_eq_some_iff.1 hi).1
      omega
    have hmk : ∀ o4, (w'.putObj (w.heap.size + 1) o4).heap[w.heap.size]? = some (.deferred (some [])) := fun o4 => (World.putObj_heap_other (by omega)).trans (q7.kept _ _ (by omega) hd rfl)
    have fin : rangePost Fence.wide 1 P (w.heap.size + 1) Q { a with defers := [markD w.heap.size] ++ a.defers } (.returned u) w' := by
      unfold RecP at q6
      cases p1 with
      | none =>
        refine ⟨none, _, run_endLoop (P := P) q6 (by simp [R]), ?_⟩
        exact hQ ms' _ _ w.heap.size q1 (hT.mono q1) rfl (hmk _) (Nat.le_refl _) (q5.put q6 rfl _) (hBel _)
      | some out =>
        refine ⟨some out.code, _, run_endLoop (P := P) q6 (by simp [R]), ?_⟩
        have := hQ ms' { a with defers := [markD w.heap.size] ++ a.defers } _ w.heap.size q1 (hT.mono q1) rfl (hmk (.loop { R .done (some out.code) with state := .exhausted })) (Nat.le_refl _) (q5.put q6 rfl _) (hBel _)
        cases out with
        | normal => exact wpIn_skip this
        | exit i => exact wpIn_exit this
        | ret => exact wpIn_ret this
    cases o1 with
    | normal => exact ⟨q4, u, e5, fin⟩
    | exit i => cases hends
    | ret => exact ⟨q4, u, e5, fin⟩
def hasRange : Code → Bool
  | .rangeFunc _ _ _ _ => true
  | .seq a b => hasRange a || hasRange b
  | .cond _ x y => hasRange x || hasRange y
  | .block _ c => hasRange c
  | .loop c => hasRange c
  | _ => false
noncomputable def evR (P : Program) (L : Lore) (call : CallF) (self : CodeF) : Nat → CodeF
  | 0, _, _, _ => none
  | n + 1, c, t, H =>
    match hasRange c with
    | false => self c t H
    | true =>
      match c with
      | .seq x y =>
        match evR P L call self n x t H with
        | some (.normal, t', H') => evR P L call self n y t' H'
        | r => r
      | .cond c x y =>
        match evGet t c with
        | some (.tv (.sc (.bool true))) => evR P L call self n x t H
        | some (.tv (.sc (.bool false))) => evR P L call self n y t H
        | _ => none
      | .block id c =>
        match evR P L call self n c t H with
        | some (.exit i, t', H') => if i = id then some (.normal, t', H') else some (.exit i, t', H')
        | r => r
      | .loop c =>
        match evR P L call self n c t H with
        | some (.normal, t', H') => evR P L call self n (.loop c) t' H'
        | r => r
      | .rangeFunc g ps assign body => evRg P L call self n g ps assign body t H
      | _ => none
structure Marks (b : Nat) (ds : List Nat) (w : World) : Prop where
  nodup : ds.Nodup
  ok : ∀ d ∈ ds, w.heap[d]? = some (.deferred (some [])) ∧ b ≤ d
theorem Marks.nil (b : Nat) (w : World) : Marks b [] w := ⟨List.nodup_nil, fun d hd => by cases hd⟩
theorem Marks.add {b B : Nat} {ds es : List Nat} {w1 w2 : World} (h : Marks b ds w1) (hb : b ≤ w1.heap.size) (hl : Bel B w1 w2) (k : Marks w1.heap.size es w2) : Marks b (es ++ ds) w2 := by
  refine ⟨List.nodup_append.2 ⟨k.nodup, h.nodup, fun x hx y hy e => ?_⟩, fun d hd => ?_⟩
  · subst e
    have h1 := (k.ok x hx).2
    have h2 := (Array.getElem?_eq_some_iff.1 (h.ok x hy).1).1
    omega
  · rcases List.mem_append.1 hd with hd | hd
    · exact ⟨(k.ok d hd).1, Nat.le_trans hb (k.ok d hd).2⟩
    · exact ⟨hl.kept d _ (h.ok d hd).1 rfl, (h.ok d hd).2⟩
theorem evR_ok {P : Program} {ρ : Env} {L : Lore} (hL : LoreOk ρ L) (hm : P.follows .mixedOrders = true) {call : CallF} (hc : CallOk P ρ call) {self : CodeF} (hs : CodeOkG P ρ self) :
    ∀ (n : Nat) (c : Code) (t : Tm) (H : List Blk) (o : Out) (t' : Tm) (H' : List Blk), evR P L call self n c t H = some (o, t', H') →
    ∀ (ms : List Nat) (B : Nat) (a : Act) (w : World) (Q : Exit → Act → World → Prop), RelT ρ ms t a.tmps → Holds ρ ms H B w →
    (∀ ms' a' w' ds, ms <+: ms' → RelT ρ ms' t' a'.tmps → a'.defers = ds.map markD ++ a.defers → Marks w.heap.size ds w' → Holds ρ ms' H' B w' → Bel B w w' → Q o.to a' w') → c.wp P Q a w := by
  intro n
  induction n using Nat.strongRecOn with
  | _ n ih =>
    cases n with
    | zero => intro c t H o t' H' h; simp [evR] at h
    | succ n =>
      have ihn := ih n (by omega)
      intro c t H o t' H' h ms B a w Q hT hH hQ
      have hstart := h
      unfold evR at h
      split at h
      · exact hs.plain c t H o t' H' h ms B a w Q hT hH fun ms' a' w' q1 q2 q3 q4 q5 => hQ ms' a' w' [] q1 q2 q3 (Marks.nil _ _) q4 q5
      rename_i hhas
      split at h
      · rename_i x y
        split at h
        · rename_i t1 H1 h1
          refine wp_seq (ihn x t H .normal t1 H1 h1 ms B a w _ hT hH fun ms1 a1 w1 ds1 q1 q2 q3 q4 q5 q6 => ?_)
          refine ihn y t1 H1 o t' H' h ms1 B a1 w1 Q q2 q5 fun ms2 a2 w2 ds2 r1 r2 r3 r4 r5 r6 => ?_
          exact hQ ms2 a2 w2 (ds2 ++ ds1) (q1.trans r1) r2 (by rw [r3, q3]; simp) (q4.add q6.size r6 r4) r5 (q6.trans r6)
        · rename_i hne
          have hno : o ≠ .normal := fun e => by subst e; exact hne t' H' h
          refine wp_seq (ihn x t H o t' H' h ms B a w _ hT hH fun ms1 a1 w1 ds1 q1 q2 q3 q4 q5 q6 => ?_)
          have := hQ ms1 a1 w1 ds1 q1 q2 q3 q4 q5 q6
          cases o with
          | normal => exact absurd rfl hno
          | exit i => exact this
          | ret => exact this
      · rename_i cc x y
        split at h
        · rename_i hcc
          have e := evGet_ok hT hcc
          simp only [AV.inst, TV.inst, SV.inst, Option.some.injEq] at e
          exact wp_cond_true e.symm (ihn x t H o t' H' h ms B a w Q hT hH hQ)
        · rename_i hcc
          have e := evGet_ok hT hcc
          simp only [AV.inst, TV.inst, SV.inst, Option.some.injEq] at e
          exact wp_cond_false e.symm (ihn y t H o t' H' h ms B a w Q hT hH hQ)
        · cases h
      · rename_i id x
        split at h
        · rename_i i t1 H1 h1
          refine wp_block (ihn x t H (.exit i) t1 H1 h1 ms B a w _ hT hH fun ms1 a1 w1 ds1 q1 q2 q3 q4 q5 q6 => ?_)
          simp only [Out.to, Exit.inBlock]
          split at h
          · rename_i e
            rw [if_pos e]
            simp only [Option.some.injEq, Prod.mk.injEq] at h
            obtain ⟨rfl, rfl, rfl⟩ := h
            exact hQ ms1 a1 w1 ds1 q1 q2 q3 q4 q5 q6
          · rename_i e
            rw [if_neg e]
            simp only [Option.some.injEq, Prod.mk.injEq] at h
            obtain ⟨rfl, rfl, rfl⟩ := h
            exact hQ ms1 a1 w1 ds1 q1 q2 q3 q4 q5 q6
        · rename_i hne
          refine wp_block (ihn x t H o t' H' h ms B a w _ hT hH fun ms1 a1 w1 ds1 q1 q2 q3 q4 q5 q6 => ?_)
          have := hQ ms1 a1 w1 ds1 q1 q2 q3 q4 q5 q6
          cases o with
          | normal => exact this
          | exit i => exact absurd h (hne i t' H')
          | ret => exact this
      · rename_i x
        let R : Nat → Act → World → Prop := fun k a1 w1 => k ≤ n + 1 ∧ ∃ ms1 t1 H1 ds, evR P L call self k (.loop x) t1 H1 = some (o, t', H') ∧ ms <+: ms1 ∧ RelT ρ ms1 t1 a1.tmps ∧ a1.defers = ds.map markD ++ a.defers ∧ Marks w.heap.size ds w1 ∧ Holds ρ ms1 H1 B w1 ∧ Bel B w w1
        classical
        refine wp_loop (fun a1 w1 => ∃ k, R k a1 w1) (fun a1 w1 => if hx : ∃ k, R k a1 w1 then Classical.choose (has_least hx) else 0) ⟨n + 1, Nat.le_refl _, ms, t, H, [], hstart, List.prefix_refl _, hT, rfl, Marks.nil _ _, hH, Bel.refl _ _⟩ ?_
        intro a1 w1 hI
        have hmin := (Classical.choose_spec (has_least hI)).1
        have hall := (Classical.choose_spec (has_least hI)).2
        generalize hk : Classical.choose (has_least hI) = k at hmin hall
        obtain ⟨hle, ms1, t1, H1, ds, hev, s1, s2, s3, s4, s5, s6⟩ := hmin
        cases k with
        | zero => simp [evR] at hev
        | succ k =>
          have ihk := ih k (by omega)
          unfold evR at hev
          rw [hhas] at hev
          simp only at hev
          split at hev
          · rename_i t2 H2 h2
            refine ihk x t1 H1 .normal t2 H2 h2 ms1 B a1 w1 _ s2 s5 fun ms2 a2 w2 ds2 q1 q2 q3 q4 q5 q6 => ?_
            have hRk : R k a2 w2 := ⟨by omega, ms2, t2, H2, ds2 ++ ds, hev, s1.trans q1, q2, by rw [q3, s3]; simp, s4.add s6.size q6 q4, q5, s6.trans q6⟩
            have hE : ∃ j, R j a2 w2 := ⟨k, hRk⟩
            refine ⟨hE, ?_⟩
            rw [dif_pos hE, dif_pos hI, hk]
            exact Nat.lt_succ_of_le ((Classical.choose_spec (has_least hE)).2 k hRk)
          · rename_i hne
            refine ihk x t1 H1 o t' H' hev ms1 B a1 w1 _ s2 s5 fun ms2 a2 w2 ds2 q1 q2 q3 q4 q5 q6 => ?_
            have := hQ ms2 a2 w2 (ds2 ++ ds) (s1.trans q1) q2 (by rw [q3, s3]; simp) (s4.add s6.size q6 q4) q5 (s6.trans q6)
            cases o with
            | normal => exact absurd hev (hne t' H')
            | exit i => exact this
            | ret => exact this
      · exact evRg_ok hL hm hc hs h hT hH fun ms' a' w' d q1 q2 q3 q4 q5 q6 q7 => hQ ms' a' w' [d] q1 q2 q3 ⟨by simp, fun e he => by simp at he; subst he; exact ⟨q4, q5⟩⟩ q6 q7
      · cases h
theorem leave_all {P : Program} {ρ : Env} {fn : Func} {tmps : Array Value} {R : Ending → World → Prop} {ms : List Nat} {H : List Blk} {B : Nat} {w0 : World} (hB : B ≤ w0.heap.size) (hfin : ∀ w, Holds ρ ms H B w → Bel B w0 w → ∃ v, (results fn tmps).run P w = .ok v w ∧ R (.returned v) w) :
    ∀ (ds : List Nat) (w : World), Marks w0.heap.size ds w → Holds ρ ms H B w → Bel B w0 w → LeavesInM Fence.wide 1 P fn tmps R (ds.map markD) .returning w
  | [], w, _, hH, hb => hfin w hH hb
  | d :: ds, w, hm, hH, hb => by
    obtain ⟨h1, h2⟩ := hm.ok d (List.mem_cons_self ..)
    obtain ⟨n1, n2⟩ := List.nodup_cons.1 hm.nodup
    refine ⟨by simp, .inl ⟨d, _, rfl, run_takeDeferred h1, ?_⟩⟩
    refine leave_all hB hfin ds _ ⟨n2, fun e he => ?_⟩ (hH.put h1 rfl _) ?_
    · obtain ⟨q1, q2⟩ := hm.ok e (List.mem_cons_of_mem _ he)
      exact ⟨(World.putObj_heap_other (show e ≠ d from fun h => n1 (h ▸ he))).trans q1, q2⟩
    · refine ⟨⟨hb.os, hb.tape, hb.output, by simpa using hb.size, fun k hk => (World.putObj_heap_other (by omega)).trans (hb.block k hk)⟩, fun i o hi hc => ?_⟩
      have := (Array.getElem?_eq_some_iff.1 hi).1
      exact (World.putObj_heap_other (by omega)).trans (hb.kept i o hi hc)
noncomputable def callR (P : Program) (L : Lore) (base : CodeF → CallF) (N : Nat) (self : CodeF) : CallF := fun g aas H =>
  match P.funcs[g]? with
  | some fn =>
    match fn.body with
    | some c =>
      match hasRange c with
      | true =>
        match Nat.ble fn.ntmps 512 && Nat.ble aas.length fn.ntmps with
        | true =>
          match evR P L (base self) self N c (Tm.make fn.ntmps aas) H with
          | some (o, t, H') =>
            match o.ends with
            | true => (evResults P fn t H').map fun v => (v, trim H.length v H')
            | false => none
          | none => none
        | false => none
      | false => base self g aas H
    | none => base self g aas H
  | none => none
theorem callR_ok {P : Program} {ρ : Env} {L : Lore} (hL : LoreOk ρ L) (hm : P.follows .mixedOrders = true) {base : CodeF → CallF} (hbase : ∀ self, CodeOk P ρ self → CallOk P ρ (base self)) (N : Nat) (self : CodeF) (hs : CodeOkG P ρ self) : CallOk P ρ (callR P L base N self) := by
  intro g aas H v H' h ms B w args hargs hH
  unfold callR at h
  split at h
  case h_2 => cases h
  rename_i fn hfn
  split at h
  case h_2 => exact hbase self hs.plain g aas H v H' h ms B w args hargs hH
  rename_i c hb
  split at h
  case h_2 => exact hbase self hs.plain g aas H v H' h ms B w args hargs hH
  split at h
  case h_2 => cases h
  rename_i hbd
  rw [Bool.and_eq_true] at hbd
  split at h
  case h_2 => cases h
  rename_i o t H1 hev
  split at h
  case h_2 => cases h
  rename_i hends
  rw [Option.map_eq_some_iff] at h
  obtain ⟨v', hr, hv⟩ := h
  simp only [Prod.mk.injEq] at hv
  obtain ⟨rfl, rfl⟩ := hv
  have hT : RelT ρ ms (Tm.make fn.ntmps aas) (args ++ Array.replicate (fn.ntmps - args.size) undef) := RelT.make hargs (Nat.le_of_ble_eq_true hbd.1) (Nat.le_of_ble_eq_true hbd.2) hH.gl
  refine (callsIn_wide (n := 1)).1 (callsIn_of_wp_marks hfn hb trivial (wpIn_wide.2 ?_) rfl)
  refine evR_ok hL hm (hbase self hs.plain) hs N c _ H o t H1 hev ms B _ w _ hT hH fun ms' a' w' ds q1 q2 q3 q4 q5 q6 => ?_
  have key : LeavesInM Fence.wide 1 P fn a'.tmps (fun e w' => ∃ ms' u, e = .returned u ∧ ms <+: ms' ∧ v'.inst ρ ms' = some u ∧ Holds ρ ms' (trim H.length v' H1) B w' ∧ Bel B w w') a'.defers .returning w' := by
    rw [q3, List.append_nil]
    refine leave_all hH.big (fun w2 hH2 hb2 => ?_) ds w' q4 q5 q6
    obtain ⟨u, e1, e2⟩ := evResults_ok q2 hH2 hr
    obtain ⟨ms2, r1, r2, r3⟩ := trim_ok q1 hH.gl hH.len e1 hH2
    exact ⟨u, e2, ms2, u, rfl, r1, r2, r3, hb2⟩
  cases o with
  | normal => exact key
  | exit i => cases hends
  | ret => exact key
noncomputable def evCallR (P : Program) (L : Lore) (base : CodeF → CallF) (N n : Nat) : CallF := callR P L base N (evGF P L (callR P L base N) n)
theorem evCallR_ok {P : Program} {ρ : Env} {L : Lore} (hL : LoreOk ρ L) (hm : P.follows .mixedOrders = true) {base : CodeF → CallF} (hbase : ∀ self, CodeOk P ρ self → CallOk P ρ (base self)) (N n : Nat) : CallOk P ρ (evCallR P L base N n) := by
  unfold evCallR
  rw [evGF_eq]
  exact callR_ok hL hm hbase N _ (evG_both hL (callR_ok hL hm hbase N) hm n)
end Go.Proofs.Ytmlhfjflkcenkaa.Ev
namespace Go.Proofs.Ytmlhfjflkcenkaa
open Go Go.RowKit Ev
def conInv : ConF := fun g xs _ => if g = 36 then (match xs with | [.tv (.sc (.int .u8 (.lit n)))] => if 0 < n ∧ n < 256 then some (.tup [.sc (.int .u8 (.lit ((inv n.toNat : Nat) : Int))), .sc (.int .i64 (.lit 0))]) else none | _ => none) else none
theorem conInv_ok (ρ : Env) : ConOk Try.prog ρ conInv := by
  intro g xs H v hv ms B w args ha hH
  unfold conInv at hv
  split at hv
  case isFalse => cases hv
  rename_i hg
  subst hg
  split at hv
  case h_2 => cases hv
  rename_i n
  split at hv
  case isFalse => cases hv
  rename_i hn
  cases hv
  obtain ⟨m, rfl⟩ := Int.eq_ofNat_of_zero_le (show 0 ≤ n by omega)
  have e : args = #[.int .u8 (m : Int)] := by
    obtain ⟨l⟩ := args
    have hl : l.length = 1 := by have := congrArg List.length ha; simpa using this.symm
    match l, hl, ha with
    | [u], _, ha =>
      simp only [List.map_cons, List.map_nil, List.cons.injEq, and_true, AV.inst, TV.inst, SV.inst, Ex.den, Option.some.injEq] at ha
      rw [ha]
  subst e
  exact (inv_any w m (by omega) (by omega)).mono fun e w' ⟨q1, q2⟩ => ⟨_, q1, rfl, q2⟩
def conRs : ConF := conOr conInv conMuls
theorem conRs_ok (ρ : Env) : ConOk Try.prog ρ conRs := conOr_ok (conInv_ok ρ) (conMuls_ok ρ)
noncomputable def evRs (n : Nat) : CallF := evCallR Try.prog noLore (callStep Try.prog conRs) 1000 n
theorem evRs_ok (ρ : Env) (n : Nat) : CallOk Try.prog ρ (evRs n) := evCallR_ok (noLore_ok ρ) mixedOrders (fun self hs => callStep_ok (conRs_ok ρ) hs) 1000 n
theorem lives_ev : (evRs 1000 6 [] []).map (·.1) = some (.tv (.sc (.bool true))) := by kernel_rfl
theorem ret_evR {ρ : Env} {g n : Nat} {xs : List AV} (h : (evRs n g xs []).map (·.1) = some (.tv (.sc (.bool true)))) {args : Array Value} (w : World) (ha : xs.map (AV.inst ρ []) = args.toList.map some) : Calls Try.prog g args w fun e w' => e = .returned (.bool true) ∧ Below w.heap.size w w' := by
  obtain ⟨H', h1⟩ := map_fst h
  refine (evRs_ok ρ n g xs [] _ H' h1 [] w.heap.size w args ha (holds_nil ρ w)).mono ?_
  rintro e w' ⟨ms', u, rfl, _, h2, _, h4⟩
  simp only [AV.inst, TV.inst, SV.inst, Option.some.injEq] at h2
  exact ⟨by rw [← h2], h4.toBelow⟩
theorem lives_any (w : World) : Calls Try.prog 6 #[] w fun e w' => e = .returned (.bool true) ∧ Below w.heap.size w w' := ret_evR (ρ := env0) lives_ev w rfl
end Go.Proofs.Ytmlhfjflkcenkaa
namespace Go.Proofs.Ytmlhfjflkcenkaa
open Go Go.RowKit
def onD (ds : List (List Int)) (i m : Nat) : List (List Int) := (List.range m).map fun j => [(ds.getD j []).getD i 0]
theorem onD_length (ds : List (List Int)) (i m : Nat) : (onD ds i m).length = m := by simp [onD]
theorem onD_succ (ds : List (List Int)) (i m : Nat) : onD ds i (m + 1) = onD ds i m ++ [[(ds.getD m []).getD i 0]] := by simp [onD, List.range_succ]
theorem onD_get (ds : List (List Int)) (i m j : Nat) (h : j < m) : (onD ds i m).getD j [] = [(ds.getD j []).getD i 0] := by simp [onD, List.getD, h]
theorem mix_one (row : List Int) (ds : List (List Int)) (i k : Nat) : ∀ m, m ≤ k → mixV row (onD ds i k) m 0 = mixV row ds m i
  | 0, _ => rfl
  | m + 1, h => by
    unfold mixV
    rw [mix_one row ds i k m (by omega)]
    unfold gN
    rw [onD_get ds i k m (by omega)]
    simp
theorem PW.at {B : Nat} {w : World} {v : Value} {ls : List (List Int)} (h : PW B w v ls) (h0 : 0 < ls.length) : ∃ g c, v = .slice (some ⟨g, 0, none⟩) ls.length c ∧ ls.length ≤ c ∧ c ≤ 9223372036854775807 ∧ ∀ j, j < ls.length → ∃ u, w.cell? ⟨g, j, none⟩ = some u ∧ HB w u (ls.getD j []) := by
  obtain ⟨b, off, c, e, hl, hm, hh⟩ := h.hl.ne h0
  obtain ⟨xs, hrow, _⟩ := h
  obtain ⟨g, cap, e2, _⟩ := ownsRow_cells hrow h0
  rw [e2] at e
  simp only [Value.slice.injEq, Option.some.injEq, Addr.mk.injEq, and_true, true_and] at e
  obtain ⟨⟨rfl, rfl⟩, rfl⟩ := e
  unfold maxLen at hm
  refine ⟨g, cap, e2, hl, hm, fun j hj => ?_⟩
  have := hh j hj
  rw [Nat.zero_add] at this
  exact this
theorem PW.below {B : Nat} {w w' : World} {v : Value} {ls : List (List Int)} (h : PW B w v ls) (hb : Below w.heap.size w w') : PW B w' v ls := by
  obtain ⟨xs, h1, h2⟩ := h
  exact ⟨xs, own_below h1 hb, fun j hj => ⟨own_below (h2 j hj).1 hb, (h2 j hj).2⟩⟩
theorem HB.first {w : World} {u : Value} {l : List Int} (h : HB w u l) (h0 : 0 < l.length) : ∃ b o c, u = .slice (some ⟨b, o, none⟩) l.length c ∧ l.length ≤ c ∧ c ≤ 9223372036854775807 ∧ ∀ j, j < l.length → w.cell? ⟨b, o + j, none⟩ = some (.int .u8 (l.getD j 0)) := by
  obtain ⟨b, o, c, e, h1, h2, h3⟩ := h.ne h0
  unfold maxLen at h2
  exact ⟨b, o, c, e, h1, h2, h3⟩
theorem one_of (l : List Int) (i : Nat) (h : i < l.length) : (l.take (i + 1)).drop i = [l.getD i 0] := by
  rw [List.drop_take, Nat.add_sub_cancel_left, List.drop_eq_getElem_cons h, List.take_succ_cons, List.take_zero]
  simp only [List.getD, List.getElem?_eq_getElem h, Option.getD_some]
set_option maxRecDepth 100000 in
set_option maxHeartbeats 16000000 in
theorem bytes_walk (w : World) (v : Value) (l : List Int) (k n x : Int) (h : HB w v l) (hl : l.length ≤ 140737488351232) :
    Calls Try.prog 5 #[.int .i64 k, .int .i64 n, v, .int .i64 x] w fun e w' => e = .returned (.bool true) ∧ Below w.heap.size w w' := by
  have C0 := hid (lives_any w)
  have HA := hid h
  obtain ⟨pa, ca, rfl, hlc, hcm⟩ := h.open
  unfold maxLen at hcm
  clear h
  by_cases hbad : k < 1 ∨ k > n ∨ n > 255
  · have CN := hid fun W => rsnew_bad W k n hbad
    obtain ⟨N, HN⟩ : ∃ x, Hid (l.length = x) := ⟨_, rfl⟩
    rw [HN.out]
    clear hbad
    go_enter Try.func5, Try.ntmps5
    go_wp2_with fail
    refine C0.out.mono ?_
    rintro e w1 ⟨rfl, hb1⟩
    have B1 := hid hb1
    clear hb1 C0
    go_wp2_with fail
    refine (CN.out w1).mono ?_
    rintro e wq ⟨rfl, hwq⟩
    rw [hwq]
    clear hwq wq CN
    go_wp2
    go_ret
    exact ⟨rfl, B1.out⟩
  · obtain ⟨K, rfl⟩ : ∃ K : Nat, k = (K : Int) := ⟨k.toNat, by omega⟩
    obtain ⟨M, rfl⟩ : ∃ M : Nat, n = (M : Int) := ⟨n.toNat, by omega⟩
    have h1 : 1 ≤ K := by omega
    have hk : K ≤ M := by omega
    have hn : M ≤ 255 := by omega
    clear hbad
    have CN := hid fun W => rsnew_ok W K M h1 hk hn
    have CE := hid fun W (hW : Below w.heap.size w W) => even_any W K _ l (HA.out.below hW) h1 (by omega) (by omega)
    have HLL : Hid (l.length / K ≤ l.length) := hid (Nat.div_le_self _ _)
    have HLEN : Hid (∀ j, j < K → (rwL l (l.length / K) j).length = l.length / K) := hid fun j hj => rw_len (ev_le hj)
    obtain ⟨L, HL0⟩ : ∃ L, Hid (l.length / K = L) := ⟨_, rfl⟩
    obtain ⟨N, HN⟩ : ∃ x, Hid (l.length = x) := ⟨_, rfl⟩
    rw [HL0.out] at CE HLL HLEN
    rw [HN.out] at HLL CE hl hlc
    rw [HN.out]
    go_enter Try.func5, Try.ntmps5
    go_wp2_with fail
    refine C0.out.mono ?_
    rintro e w1 ⟨rfl, hb1⟩
    have B1 := hid hb1
    clear hb1 C0
    go_wp2_with fail
    refine (CN.out w1).mono ?_
    rintro e w2 ⟨gc, rfl, hc2, hb2⟩
    have HC2 := hid hc2
    have B2 := hid (B1.out.trans (hb2.mono B1.out.size))
    clear hc2 hb2 CN
    go_wp2_with fail
    refine (CE.out w2 B2.out).mono ?_
    rintro e w3 ⟨v3, rfl, hd3, hb3⟩
    have HC3 := hid (HC2.out.below hb3)
    have B3 := hid (B2.out.trans (hb3.mono B2.out.size))
    have HD3 := hid hd3
    obtain ⟨D, HDD⟩ : ∃ x, Hid (evD l L K = x) := ⟨_, rfl⟩
    have HDl : Hid (D.length = K) := by refine hid ?_; rw [← HDD.out]; exact evD_length _ _ _
    have HDL : Hid (∀ j, j < D.length → (D.getD j []).length = L) := by
      refine hid fun j hj => ?_
      rw [HDl.out] at hj
      rw [← HDD.out, evD_get _ _ _ _ hj]
      exact HLEN.out j hj
    rw [HDD.out] at HD3 hd3
    obtain ⟨b3, o3, c3, e3, hl3, hm3, hh3⟩ := hd3.ne (by rw [HDl.out]; omega)
    rw [HDl.out] at e3 hl3
    unfold maxLen at hm3
    subst e3
    have HH3 := hid hh3
    obtain ⟨u0, hu0, hbu0⟩ := hh3 0 (by rw [HDl.out]; omega)
    rw [Nat.add_zero] at hu0
    obtain ⟨pu, cu, eu, _, _⟩ := hbu0.open
    rw [HDL.out 0 (by rw [HDl.out]; omega)] at eu
    subst eu
    have HU0 := hid hu0
    clear hd3 hb3 CE hh3 hbu0 hu0 HC2
    have hd3' : HL w3 (.slice (some ⟨b3, o3, none⟩) K c3) D := HD3.out
    have C4 := hid (encode_ok w3 gc K M _ D L HC3.out h1 hk hn hd3' HDl.out HDL.out (by have := HLL.out; omega))
    clear hd3'
    go_wp2_with fail
    refine C4.out.mono ?_
    rintro e w4 ⟨v4, rfl, hp4, hb4⟩
    have B4 := hid (B3.out.trans (hb4.mono B3.out.size))
    have HC4 := hid (HC3.out.below hb4)
    have D4 := hid (HD3.out.below hb4)
    have P4 := hid hp4
    have hu4 : w4.cell? ⟨b3, o3, none⟩ = some (.slice pu L cu) := (hb4.cell (World.block_lt_of_cell? w3 _ HU0.out)).trans HU0.out
    obtain ⟨g4, c4, e4, hlc4, hm4, hh4⟩ := hp4.at (by rw [prL_length]; omega)
    rw [prL_length] at e4 hlc4 hh4
    subst e4
    have HH4 := hid hh4
    have hMM : ((M : Int) != (M : Int)) = false := by simp
    clear hp4 hb4 C4 hh4
    by_cases hL : L = 0
    · obtain ⟨u, hu, hbu⟩ := HH4.out (M - 1) (by omega)
      rw [prL_get _ _ _ _ _ _ (by omega)] at hbu
      obtain ⟨pz, cz, ez, _, _⟩ := hbu.open
      have ezl : (mixL (rwL (elL K M) K (M - 1)) D K L).length = 0 := by rw [mixL, tbL_length]; exact hL
      rw [ezl] at ez
      subst ez
      have hM1 : ((M : Int) - 1) = ((M - 1 : Nat) : Int) := by omega
      obtain ⟨M1, HM1⟩ : ∃ x, Hid (M - 1 = x) := ⟨_, rfl⟩
      rw [HM1.out] at hM1 hu
      have hM2 : M1 < M := by rw [← HM1.out]; omega
      subst hL
      clear hbu ezl
      go_wp2
      go_ret
      exact ⟨rfl, B4.out⟩
    · have hL0 : ((L : Int) == 0) = false := by simp; omega
      have CPK := hid (kpick_any w4 x L (by omega) (by have := HLL.out; omega))
      go_wp2_with fail
      refine CPK.out.mono ?_
      rintro e wq ⟨⟨i, hi, rfl⟩, hwq⟩
      rw [hwq]
      clear hwq wq CPK
      have hLb : L ≤ 140737488351232 := by have := HLL.out; omega
      have HHD : Hid (∀ j, j < K → ∃ u, w4.cell? ⟨b3, o3 + j, none⟩ = some u ∧ HB w4 u (D.getD j [])) := by
        obtain ⟨b', o', c', e', _, _, hh⟩ := D4.out.ne (by rw [HDl.out]; omega)
        rw [HDl.out] at e' hh
        simp only [Value.slice.injEq, Option.some.injEq, Addr.mk.injEq, and_true, true_and] at e'
        obtain ⟨⟨rfl, rfl⟩, rfl⟩ := e'
        exact hid hh
      have HDLK : Hid (∀ j, j < K → (D.getD j []).length = L) := by
        refine hid fun j hj => HDL.out j ?_
        rw [HDl.out]
        exact hj
      have hi1 : i + 1 ≤ L := hi
      go_wp2
      go_loopw [15, 16] (fun o j wr => ∃ J : Nat, J ≤ K ∧ j = .int .i64 (J : Int) ∧ Hid (OWL w4 wr o (onD D i J)) ∧ Hid (Below w4.heap.size w4 wr)) (fun _ j _ => K - (intOf j).toNat)
      case atStart => exact ⟨0, Nat.zero_le _, rfl, OWL.nil _ _, Below.refl _ _⟩
      case round =>
        obtain ⟨J, hJ, rfl, HO, B⟩ := hrel
        by_cases hlt : J < K
        · obtain ⟨u, hu, hbu⟩ := HHD.out J hlt
          obtain ⟨pj, cj, ej, hlj, hmj⟩ := hbu.open
          unfold maxLen at hmj
          have HLJ := hid (HDLK.out J hlt)
          have hS := hbu
          rw [HLJ.out] at ej hlj
          subst ej
          have huw : wr.cell? ⟨b3, o3 + J, none⟩ = some (.slice pj L cj) := (B.out.cell (World.block_lt_of_cell? w4 _ hu)).trans hu
          have HSL : Hid (∃ p', (Instr.slice 22 (.slice pj L cj) (some (.int .i64 (i : Int))) (some (.int .i64 ((i : Int) + 1))) none).run Try.prog wr = .ok (.slice p' 1 (cj - i)) wr ∧ HB w4 (.slice p' 1 (cj - i)) [(D.getD J []).getD i 0]) := by
            have e1 := slice_lh wr pj L cj i (i + 1) (by omega) (by omega) (by omega)
            rw [Nat.add_sub_cancel_left] at e1
            have hS' : HB w4 (.slice pj (D.getD J []).length cj) (D.getD J []) := by rw [HLJ.out]; exact hS
            have e2 := hS'.sliced i (i + 1) cj (by omega) (by rw [HLJ.out]; omega) (by omega) (Nat.le_refl _)
            rw [Nat.add_sub_cancel_left, one_of _ _ (by rw [HLJ.out]; omega)] at e2
            exact hid ⟨_, by simpa using e1, e2⟩
          obtain ⟨p', hsl, hbs⟩ := HSL.out
          have HBS := hid hbs
          obtain ⟨xs, hrow, _⟩ := HO.out
          obtain ⟨po, co, eo⟩ := own_slc hrow
          subst eo
          rw [onD_length]
          have hsz := B.out.size
          have HES := hid (onD_succ D i J)
          obtain ⟨Y, HY⟩ : ∃ x, Hid ((D.getD J []).getD i 0 = x) := ⟨_, rfl⟩
          rw [HY.out] at HES HBS
          have HO3 : Hid (OWL w4 (wr.alloc (.cells #[.slice p' 1 (cj - i)] 22)) (.slice po J co) (onD D i J)) := by
            have h2 := HO.out
            rw [onD_length] at h2
            exact h2.below ((Below.refl _ _).alloc (Nat.le_refl _) _)
          clear hbs hrow HSL hS hbu hu
          go_wp2_with (at_builtin; refine wpList_append_OWL (w0 := w4) rfl _ _ rfl _ _ rfl HO3.out ⟨wr.heap.size, 0, none⟩ 1 1 [_] [[Y]] rfl rfl rfl (cell_one_new _ _ _) ?q1 ?q2 ?q3 ?q4 ?_)
          case q1 =>
            intro j hj
            match j, hj with
            | 0, _ => exact .inr HBS.out
          case q2 => intro u hu; simp at hu; subst hu; rfl
          case q3 => rw [onD_length]; omega
          case q4 => simp; omega
          intro v' w5 ho5 hg5 hblk
          rw [← HES.out] at ho5
          have O5 := hid ho5
          have B5 : Hid (Below w4.heap.size w4 w5) := ((B.out.alloc hsz _).grown hg5 (by simp; omega) (fun g e => (hblk g e).1))
          clear ho5 hg5 hblk hsl
          go_wp2
          exact ⟨⟨J + 1, by omega, by go_num, O5, B5⟩, by simp [intOf]; omega⟩
        · have hJ' : J = K := by omega
          subst hJ'
          obtain ⟨xs, hrow, _⟩ := HO.out
          obtain ⟨po, co, eo⟩ := own_slc hrow
          subst eo
          rw [onD_length]
          have HO5 := hid (HO.out.hl B.out)
          have CE5 := hid (encode_ok wr gc J M _ (onD D i J) 1 (HC4.out.below B.out) h1 hk hn HO5.out (onD_length _ _ _) (fun j hj => by rw [onD_length] at hj; rw [onD_get _ _ _ _ hj]; rfl) (by omega))
          rw [onD_length] at CE5
          clear hrow
          go_wp2_with fail
          refine CE5.out.mono ?_
          rintro e w6 ⟨v6, rfl, hp6, hb6⟩
          have B46 := hid (B.out.trans (hb6.mono B.out.size))
          have B6 := hid (B4.out.trans (B46.out.mono B4.out.size))
          obtain ⟨g6, c6, e6, hlc6, hm6, hh6⟩ := hp6.at (by rw [prL_length]; omega)
          rw [prL_length] at e6 hlc6 hh6
          subst e6
          have HH6 := hid hh6
          have hu6 : w6.cell? ⟨b3, o3, none⟩ = some (.slice pu L cu) := (B46.out.cell (World.block_lt_of_cell? w4 _ hu4)).trans hu4
          clear hp6 hb6 CE5 hh6 hu4
          go_wp2
          go_loopw [19] (fun j wz => ∃ Z : Nat, Z ≤ M ∧ j = .int .i64 (Z : Int) ∧ Dr w6 wz) (fun j _ => M - (intOf j).toNat)
          case atStart => exact ⟨0, Nat.zero_le _, rfl, Dr.refl _⟩
          case round =>
            obtain ⟨Z, hZ, rfl, q, rfl⟩ := hrel
            by_cases hlz : Z < M
            · obtain ⟨y1, hy1, hby1⟩ := HH4.out Z hlz
              obtain ⟨y2, hy2, hby2⟩ := HH6.out Z hlz
              rw [prL_get _ _ _ _ _ _ hlz] at hby1 hby2
              have hz1 : w6.cell? ⟨g4, Z, none⟩ = some y1 := (B46.out.cell (World.block_lt_of_cell? w4 _ hy1)).trans hy1
              have hbz1 := hby1.below B46.out
              obtain ⟨bb1, oo1, cc1, ee1, hl1, hm1, hc1⟩ := hbz1.first (by rw [mixL, tbL_length]; omega)
              obtain ⟨bb2, oo2, cc2, ee2, hl2, hm2, hc2⟩ := hby2.first (by rw [mixL, tbL_length]; omega)
              have hx1 := hc1 i (by rw [mixL, tbL_length]; omega)
              have hx2 := hc2 0 (by rw [mixL, tbL_length]; omega)
              obtain ⟨hr1, hr2⟩ := hbz1.byte i
              rw [Nat.add_zero] at hx2
              rw [mixL, tbL_get _ _ _ (by omega)] at hx1 hr1 hr2
              rw [mixL, tbL_get _ _ _ (by omega), mix_one _ _ _ _ _ (Nat.le_refl _)] at hx2
              obtain ⟨X, HX⟩ : ∃ x, Hid (((mixV (rwL (elL J M) J Z) D J i : Nat) : Int) = x) := ⟨_, rfl⟩
              rw [HX.out] at hx1 hx2 hr1 hr2
              rw [mixL, tbL_length] at ee1 ee2 hl1 hl2
              subst ee1
              subst ee2
              have hLL : ((L : Int) != (L : Int)) = false := by simp
              have hXX : (X != X) = false := by simp
              clear hy1 hby1 hby2 hbz1 hc1 hc2
              go_wp2
              go_quiet (fail)
              go_wp2
              exact ⟨⟨Z + 1, by omega, by go_num, Dr.one _ _⟩, by simp [intOf]; omega⟩
            · have hZ' : Z = M := by omega
              subst hZ'
              go_wp2
              go_ret
              exact ⟨rfl, B6.out.trans ((Dr.one w6 q).below _)⟩
end Go.Proofs.Ytmlhfjflkcenkaa
