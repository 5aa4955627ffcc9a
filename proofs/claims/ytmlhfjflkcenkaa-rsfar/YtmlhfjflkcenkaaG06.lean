/- Of the road to rsFar_holds: EvMarks, RsCon, RsLaw, RsByWalk, AppB, RsBoth, RsFarM, RsFarK. -/
import Derived.Test.YtmlhfjflkcenkaaG05
import Derived.Test.YtmlhfjflkcenkaaG00
import Derived.Laws.AppendOwn
import Derived.Test.YtmlhfjflkcenkaaG01
import Derived.Laws.Rows
import Derived.Laws.BitsAllLaws
import Derived.Deep.MidRow
import Derived.Deep.RegionHeld
import Derived.OrdersHeld
set_option linter.unusedVariables false
set_option linter.unusedSimpArgs false
namespace Go.Proofs.Ytmlhfjflkcenkaa.Ev
open Go Go.RowKit
def markD (d : Nat) : Deferred := { target := .collected d, args := #[] }
def Out.ends : Out → Bool
  | .exit _ => false
  | _ => true
noncomputable def evRg (P : Program) (L : Lore) (call : CallF) (self : CodeF) (n : Nat) (g : Operand) (ps : Array Tmp) (assign body : Code) (t : Tm) (H : List Blk) : Option (Out × Tm × List Blk) :=
  match evGet t g with
  | some (.tv (.sc (.clo gi caps))) =>
    match canCall P gi && (calm assign && calm body) with
    | true =>
      match P.funcs[gi]? with
      | some fn =>
        match fn.body with
        | some c =>
          match Nat.ble fn.ntmps 512 && Nat.ble (caps.length + 1) fn.ntmps with
          | true =>
            match evI (yhOf self ps assign body t) call P L n c (Tm.fill 1 (ptrs caps) ⟨fn.ntmps, .emp⟩) none H with
            | some (o, t1, p1, H1) =>
              match o.ends with
              | true =>
                match evResults P fn t1 H1 with
                | some _ => some (match p1 with | none => .normal | some out => out, t, H1)
                | none => none
              | false => none
            | none => none
          | false => none
        | none => none
      | none => none
    | false => none
  | _ => none
theorem relT_iter {ρ : Env} {ms : List Nat} {caps : List (Nat × Nat)} {cvs : List Value} (e2 : caps.map (addr ms) = cvs.map some) {n : Nat} (hn : n ≤ 512) (hx : caps.length + 1 ≤ n) (hg : Gl ms) (y : Value) :
    RelT ρ ms (Tm.fill 1 (ptrs caps) ⟨n, .emp⟩) ((#[y] ++ cvs.toArray) ++ Array.replicate (n - (#[y] ++ cvs.toArray).size) undef) := by
  have hl : caps.length = cvs.length := by have := congrArg List.length e2; simpa using this
  refine ⟨by rw [Tm.fill_n]; simp; omega, by rw [Tm.fill_n]; exact hn, fun j x hj => ?_, hg⟩
  rcases Tm.get_fill (ptrs caps) 1 ⟨n, .emp⟩ hn j x hj with ⟨h1, h2⟩ | h1
  · unfold ptrs at h2
    rw [List.getElem?_map, Option.map_eq_some_iff] at h2
    obtain ⟨p, hp, rfl⟩ := h2
    have h3 := congrArg (fun l => l[j - 1]?) e2
    simp only [List.getElem?_map, hp, Option.map_some] at h3
    obtain ⟨v, hv, hv2⟩ := Option.map_eq_some_iff.1 h3.symm
    have hlt := (List.getElem?_eq_some_iff.1 hv).1
    refine ⟨v, ?_, ?_⟩
    · rw [Array.getElem?_append_left (by simp; omega), Array.getElem?_append_right (by simp; omega)]
      simpa using hv
    · simp only [AV.inst, TV.inst, SV.inst]
      rw [← hv2]
  · unfold Tm.get at h1
    split at h1
    · rw [Tr.law3.emp] at h1; cases h1
    · cases h1
theorem evRg_ok {P : Program} {ρ : Env} {L : Lore} (hL : LoreOk ρ L) (hm : P.follows .mixedOrders = true) {call : CallF} (hc : CallOk P ρ call) {self : CodeF} (hs : CodeOkG P ρ self) {n : Nat} {g : Operand} {ps : Array Tmp} {assign body : Code} {t t' : Tm} {H H' : List Blk} {o : Out}
    (h : evRg P L call self n g ps assign body t H = some (o, t', H')) {ms : List Nat} {B : Nat} {a : Act} {w : World} {Q : Exit → Act → World → Prop} (hT : RelT ρ ms t a.tmps) (hH : Holds ρ ms H B w)
    (hQ : ∀ ms' a' w' d, ms <+: ms' → RelT ρ ms' t' a'.tmps → a'.defers = markD d :: a.defers → w'.heap[d]? = some (.deferred (some [])) → w.heap.size ≤ d → Holds ρ ms' H' B w' → Bel B w w' → Q o.to a' w') : (Code.rangeFunc g ps assign body).wp P Q a w := by
  unfold evRg at h
  split at h
  case h_2 => cases h
  rename_i gi caps hgv
  split at h
  case h_2 => cases h
  rename_i hcan
  simp only [Bool.and_eq_true] at hcan
  obtain ⟨hcan, hca, hcb⟩ := hcan
  split at h
  case h_2 => cases h
  rename_i fn hfn
  split at h
  case h_2 => cases h
  rename_i c hb
  split at h
  case h_2 => cases h
  rename_i hbd
  rw [Bool.and_eq_true] at hbd
  split at h
  case h_2 => cases h
  rename_i o1 t1 p1 H1 hev
  split at h
  case h_2 => cases h
  rename_i hends
  split at h
  case h_2 => cases h
  rename_i v1 hres
  simp only [Option.some.injEq, Prod.mk.injEq] at h
  obtain ⟨rfl, rfl, rfl⟩ := h
  have e0 := evGet_ok hT hgv
  simp only [AV.inst, TV.inst, SV.inst, Option.map_eq_some_iff] at e0
  obtain ⟨cvs, e2, e3⟩ := e0
  rw [seqO_iff] at e2
  unfold canCall at hcan
  rw [hfn] at hcan
  simp only [Bool.and_eq_true, bne_iff_ne, ne_eq] at hcan
  have eg : ∀ args w, (callFunc gi args).run P w = .ok (.enter gi args) w := fun args w => by
    have hn : (fn.name == "runtime.NumGoroutine") = false := by simpa using hcan.1
    simp [callFunc, program, Sem.run, hfn, hn, hb, go_sem]
    exact hcan.1
  refine (wpIn_wide (n := 1)).1 (wpIn_rangeFunc fun fnn hfnn => ?_)
  let R : LoopState → Option Code → Loop := fun st pe => { state := st, pending := pe, fn := fnn, tmps := a.tmps, params := ps, assign, body, defers := w.heap.size }
  obtain ⟨W1, hW1⟩ : ∃ W1, (w.alloc (.deferred (some []))).alloc (.loop (R .ready none)) = W1 := ⟨_, rfl⟩
  have hg1 : Bel w.heap.size w W1 := by
    rw [← hW1]
    exact ((Bel.refl _ w).alloc (Nat.le_refl _) _).alloc (by simp) _
  have hl : RecP R (w.heap.size + 1) none W1 := by
    rw [← hW1]
    have := World.alloc_heap_new (w.alloc (.deferred (some []))) (.loop (R .ready none))
    rwa [World.size_alloc] at this
  have hd : W1.heap[w.heap.size]? = some (.deferred (some [])) := by
    rw [← hW1]
    exact (Below.heap_alloc _ _ _ (by simp)).trans (World.alloc_heap_new w _)
  have hBl : B ≤ w.heap.size + 1 := Nat.le_succ_of_le hH.big
  refine ⟨w.heap.size + 1, [markD w.heap.size], W1, { target := .fn (.func gi) cvs.toArray, args := #[yv (w.heap.size + 1)] }, W1, gi, #[yv (w.heap.size + 1)] ++ cvs.toArray, W1, ?_, ?_, ?_, ?_, fun _ => Nat.le_refl _, ?_⟩
  · rw [← hW1]; exact run_enterLoop_outer _ _ _ _ _
  · simp only [resolve, ← e3]; simp [go_sem, yv]
  · intro f' hf'; trivial
  · simp [invoke, go_sem, eg, yv]
  · refine callsIn_wide.2 (calls_of_wp hfn hb ((wpIn_wide (n := 0)).1 ?_))
    refine evI_ok hL hm hc (yh_ok hs hca hcb hT hBl) 0 n c _ none H o1 t1 p1 H1 hev ms _ W1 _ (List.prefix_refl _) (relT_iter e2 (Nat.le_of_ble_eq_true hbd.1) (Nat.le_of_ble_eq_true hbd.2) hT.gl _) ?_ (hH.below hg1.toBelow) hl fun ms' a' w' q1 q2 q3 q4 q5 q6 q7 => ?_
    · simp [Array.getElem?_append]
    obtain ⟨u, e4, e5⟩ := evResults_ok q2 q5 hres
    have hBel : ∀ o4, Bel B w (w'.putObj (w.heap.size + 1) o4) := fun o4 => by
      have h1 := q7.trans (BelX.put hBl w' o4)
      refine ⟨(hg1.toBelow.mono hH.big).trans h1.toBelow, fun i o hi hcl => h1.kept i o ?_ (hg1.kept i o hi hcl) hcl⟩
      have := (Array.getElem?_eq_some_iff.1 hi).1
      omega
    have hmk : ∀ o4, (w'.putObj (w.heap.size + 1) o4).heap[w.heap.size]? = some (.deferred (some [])) := fun o4 => (World.putObj_heap_other (by omega)).trans (q7.kept _ _ (by omega) hd rfl)
    have fin : rangePost Fence.wide 1 P (w.heap.size + 1) Q { a with defers := [markD w.heap.size] ++ a.defers } (.returned u) w' := by
      unfold RecP at q6
      cases p1 with
      | none =>
        refine ⟨none, _, run_endLoop (P := P) q6 (by simp [R]), ?_⟩
        exact hQ ms' _ _ w.heap.size q1 (hT.mono q1) rfl (hmk _) (Nat.le_refl _) (q5.put q6 rfl _) (hBel _)
      | some out =>
        refine ⟨some out.code, _, run_endLoop (P := P) q6 (by simp [R]), ?_⟩
        have := hQ ms' { a with defers := [markD w.heap.size] ++ a.defers } _ w.heap.size q1 (hT.mono q1) rfl (hmk (.loop { R .done (some out.code) with state := .exhausted })) (Nat.le_refl _) (q5.put q6 rfl _) (hBel _)
        cases out with
        | normal => exact wpIn_skip this
        | exit i => exact wpIn_exit this
        | ret => exact wpIn_ret this
    cases o1 with
    | normal => exact ⟨q4, u, e5, fin⟩
    | exit i => cases hends
    | ret => exact ⟨q4, u, e5, fin⟩
def hasRange : Code → Bool
  | .rangeFunc _ _ _ _ => true
  | .seq a b => hasRange a || hasRange b
  | .cond _ x y => hasRange x || hasRange y
  | .block _ c => hasRange c
  | .loop c => hasRange c
  | _ => false
noncomputable def evR (P : Program) (L : Lore) (call : CallF) (self : CodeF) : Nat → CodeF
  | 0, _, _, _ => none
  | n + 1, c, t, H =>
    match hasRange c with
    | false => self c t H
    | true =>
      match c with
      | .seq x y =>
        match evR P L call self n x t H with
        | some (.normal, t', H') => evR P L call self n y t' H'
        | r => r
      | .cond c x y =>
        match evGet t c with
        | some (.tv (.sc (.bool true))) => evR P L call self n x t H
        | some (.tv (.sc (.bool false))) => evR P L call self n y t H
        | _ => none
      | .block id c =>
        match evR P L call self n c t H with
        | some (.exit i, t', H') => if i = id then some (.normal, t', H') else some (.exit i, t', H')
        | r => r
      | .loop c =>
        match evR P L call self n c t H with
        | some (.normal, t', H') => evR P L call self n (.loop c) t' H'
        | r => r
      | .rangeFunc g ps assign body => evRg P L call self n g ps assign body t H
      | _ => none
structure Marks (b : Nat) (ds : List Nat) (w : World) : Prop where
  nodup : ds.Nodup
  ok : ∀ d ∈ ds, w.heap[d]? = some (.deferred (some [])) ∧ b ≤ d
theorem Marks.nil (b : Nat) (w : World) : Marks b [] w := ⟨List.nodup_nil, fun d hd => by cases hd⟩
theorem Marks.add {b B : Nat} {ds es : List Nat} {w1 w2 : World} (h : Marks b ds w1) (hb : b ≤ w1.heap.size) (hl : Bel B w1 w2) (k : Marks w1.heap.size es w2) : Marks b (es ++ ds) w2 := by
  refine ⟨List.nodup_append.2 ⟨k.nodup, h.nodup, fun x hx y hy e => ?_⟩, fun d hd => ?_⟩
  · subst e
    have h1 := (k.ok x hx).2
    have h2 := (Array.getElem?_eq_some_iff.1 (h.ok x hy).1).1
    omega
  · rcases List.mem_append.1 hd with hd | hd
    · exact ⟨(k.ok d hd).1, Nat.le_trans hb (k.ok d hd).2⟩
    · exact ⟨hl.kept d _ (h.ok d hd).1 rfl, (h.ok d hd).2⟩
theorem evR_ok {P : Program} {ρ : Env} {L : Lore} (hL : LoreOk ρ L) (hm : P.follows .mixedOrders = true) {call : CallF} (hc : CallOk P ρ call) {self : CodeF} (hs : CodeOkG P ρ self) :
    ∀ (n : Nat) (c : Code) (t : Tm) (H : List Blk) (o : Out) (t' : Tm) (H' : List Blk), evR P L call self n c t H = some (o, t', H') →
    ∀ (ms : List Nat) (B : Nat) (a : Act) (w : World) (Q : Exit → Act → World → Prop), RelT ρ ms t a.tmps → Holds ρ ms H B w →
    (∀ ms' a' w' ds, ms <+: ms' → RelT ρ ms' t' a'.tmps → a'.defers = ds.map markD ++ a.defers → Marks w.heap.size ds w' → Holds ρ ms' H' B w' → Bel B w w' → Q o.to a' w') → c.wp P Q a w := by
  intro n
  induction n using Nat.strongRecOn with
  | _ n ih =>
    cases n with
    | zero => intro c t H o t' H' h; simp [evR] at h
    | succ n =>
      have ihn := ih n (by omega)
      intro c t H o t' H' h ms B a w Q hT hH hQ
      have hstart := h
      unfold evR at h
      split at h
      · exact hs.plain c t H o t' H' h ms B a w Q hT hH fun ms' a' w' q1 q2 q3 q4 q5 => hQ ms' a' w' [] q1 q2 q3 (Marks.nil _ _) q4 q5
      rename_i hhas
      split at h
      · rename_i x y
        split at h
        · rename_i t1 H1 h1
          refine wp_seq (ihn x t H .normal t1 H1 h1 ms B a w _ hT hH fun ms1 a1 w1 ds1 q1 q2 q3 q4 q5 q6 => ?_)
          refine ihn y t1 H1 o t' H' h ms1 B a1 w1 Q q2 q5 fun ms2 a2 w2 ds2 r1 r2 r3 r4 r5 r6 => ?_
          exact hQ ms2 a2 w2 (ds2 ++ ds1) (q1.trans r1) r2 (by rw [r3, q3]; simp) (q4.add q6.size r6 r4) r5 (q6.trans r6)
        · rename_i hne
          have hno : o ≠ .normal := fun e => by subst e; exact hne t' H' h
          refine wp_seq (ihn x t H o t' H' h ms B a w _ hT hH fun ms1 a1 w1 ds1 q1 q2 q3 q4 q5 q6 => ?_)
          have := hQ ms1 a1 w1 ds1 q1 q2 q3 q4 q5 q6
          cases o with
          | normal => exact absurd rfl hno
          | exit i => exact this
          | ret => exact this
      · rename_i cc x y
        split at h
        · rename_i hcc
          have e := evGet_ok hT hcc
          simp only [AV.inst, TV.inst, SV.inst, Option.some.injEq] at e
          exact wp_cond_true e.symm (ihn x t H o t' H' h ms B a w Q hT hH hQ)
        · rename_i hcc
          have e := evGet_ok hT hcc
          simp only [AV.inst, TV.inst, SV.inst, Option.some.injEq] at e
          exact wp_cond_false e.symm (ihn y t H o t' H' h ms B a w Q hT hH hQ)
        · cases h
      · rename_i id x
        split at h
        · rename_i i t1 H1 h1
          refine wp_block (ihn x t H (.exit i) t1 H1 h1 ms B a w _ hT hH fun ms1 a1 w1 ds1 q1 q2 q3 q4 q5 q6 => ?_)
          simp only [Out.to, Exit.inBlock]
          split at h
          · rename_i e
            rw [if_pos e]
            simp only [Option.some.injEq, Prod.mk.injEq] at h
            obtain ⟨rfl, rfl, rfl⟩ := h
            exact hQ ms1 a1 w1 ds1 q1 q2 q3 q4 q5 q6
          · rename_i e
            rw [if_neg e]
            simp only [Option.some.injEq, Prod.mk.injEq] at h
            obtain ⟨rfl, rfl, rfl⟩ := h
            exact hQ ms1 a1 w1 ds1 q1 q2 q3 q4 q5 q6
        · rename_i hne
          refine wp_block (ihn x t H o t' H' h ms B a w _ hT hH fun ms1 a1 w1 ds1 q1 q2 q3 q4 q5 q6 => ?_)
          have := hQ ms1 a1 w1 ds1 q1 q2 q3 q4 q5 q6
          cases o with
          | normal => exact this
          | exit i => exact absurd h (hne i t' H')
          | ret => exact this
      · rename_i x
        let R : Nat → Act → World → Prop := fun k a1 w1 => k ≤ n + 1 ∧ ∃ ms1 t1 H1 ds, evR P L call self k (.loop x) t1 H1 = some (o, t', H') ∧ ms <+: ms1 ∧ RelT ρ ms1 t1 a1.tmps ∧ a1.defers = ds.map markD ++ a.defers ∧ Marks w.heap.size ds w1 ∧ Holds ρ ms1 H1 B w1 ∧ Bel B w w1
        classical
        refine wp_loop (fun a1 w1 => ∃ k, R k a1 w1) (fun a1 w1 => if hx : ∃ k, R k a1 w1 then Classical.choose (has_least hx) else 0) ⟨n + 1, Nat.le_refl _, ms, t, H, [], hstart, List.prefix_refl _, hT, rfl, Marks.nil _ _, hH, Bel.refl _ _⟩ ?_
        intro a1 w1 hI
        have hmin := (Classical.choose_spec (has_least hI)).1
        have hall := (Classical.choose_spec (has_least hI)).2
        generalize hk : Classical.choose (has_least hI) = k at hmin hall
        obtain ⟨hle, ms1, t1, H1, ds, hev, s1, s2, s3, s4, s5, s6⟩ := hmin
        cases k with
        | zero => simp [evR] at hev
        | succ k =>
          have ihk := ih k (by omega)
          unfold evR at hev
          rw [hhas] at hev
          simp only at hev
          split at hev
          · rename_i t2 H2 h2
            refine ihk x t1 H1 .normal t2 H2 h2 ms1 B a1 w1 _ s2 s5 fun ms2 a2 w2 ds2 q1 q2 q3 q4 q5 q6 => ?_
            have hRk : R k a2 w2 := ⟨by omega, ms2, t2, H2, ds2 ++ ds, hev, s1.trans q1, q2, by rw [q3, s3]; simp, s4.add s6.size q6 q4, q5, s6.trans q6⟩
            have hE : ∃ j, R j a2 w2 := ⟨k, hRk⟩
            refine ⟨hE, ?_⟩
            rw [dif_pos hE, dif_pos hI, hk]
            exact Nat.lt_succ_of_le ((Classical.choose_spec (has_least hE)).2 k hRk)
          · rename_i hne
            refine ihk x t1 H1 o t' H' hev ms1 B a1 w1 _ s2 s5 fun ms2 a2 w2 ds2 q1 q2 q3 q4 q5 q6 => ?_
            have := hQ ms2 a2 w2 (ds2 ++ ds) (s1.trans q1) q2 (by rw [q3, s3]; simp) (s4.add s6.size q6 q4) q5 (s6.trans q6)
            cases o with
            | normal => exact absurd hev (hne t' H')
            | exit i => exact this
            | ret => exact this
      · exact evRg_ok hL hm hc hs h hT hH fun ms' a' w' d q1 q2 q3 q4 q5 q6 q7 => hQ ms' a' w' [d] q1 q2 q3 ⟨by simp, fun e he => by simp at he; subst he; exact ⟨q4, q5⟩⟩ q6 q7
      · cases h
theorem leave_all {P : Program} {ρ : Env} {fn : Func} {tmps : Array Value} {R : Ending → World → Prop} {ms : List Nat} {H : List Blk} {B : Nat} {w0 : World} (hB : B ≤ w0.heap.size) (hfin : ∀ w, Holds ρ ms H B w → Bel B w0 w → ∃ v, (results fn tmps).run P w = .ok v w ∧ R (.returned v) w) :
    ∀ (ds : List Nat) (w : World), Marks w0.heap.size ds w → Holds ρ ms H B w → Bel B w0 w → LeavesInM Fence.wide 1 P fn tmps R (ds.map markD) .returning w
  | [], w, _, hH, hb => hfin w hH hb
  | d :: ds, w, hm, hH, hb => by
    obtain ⟨h1, h2⟩ := hm.ok d (List.mem_cons_self ..)
    obtain ⟨n1, n2⟩ := List.nodup_cons.1 hm.nodup
    refine ⟨by simp, .inl ⟨d, _, rfl, run_takeDeferred h1, ?_⟩⟩
    refine leave_all hB hfin ds _ ⟨n2, fun e he => ?_⟩ (hH.put h1 rfl _) ?_
    · obtain ⟨q1, q2⟩ := hm.ok e (List.mem_cons_of_mem _ he)
      exact ⟨(World.putObj_heap_other (show e ≠ d from fun h => n1 (h ▸ he))).trans q1, q2⟩
    · refine ⟨⟨hb.os, hb.tape, hb.output, by simpa using hb.size, fun k hk => (World.putObj_heap_other (by omega)).trans (hb.block k hk)⟩, fun i o hi hc => ?_⟩
      have := (Array.getElem?_eq_some_iff.1 hi).1
      exact (World.putObj_heap_other (by omega)).trans (hb.kept i o hi hc)
noncomputable def callR (P : Program) (L : Lore) (base : CodeF → CallF) (N : Nat) (self : CodeF) : CallF := fun g aas H =>
  match P.funcs[g]? with
  | some fn =>
    match fn.body with
    | some c =>
      match hasRange c with
      | true =>
        match Nat.ble fn.ntmps 512 && Nat.ble aas.length fn.ntmps with
        | true =>
          match evR P L (base self) self N c (Tm.make fn.ntmps aas) H with
          | some (o, t, H') =>
            match o.ends with
            | true => (evResults P fn t H').map fun v => (v, trim H.length v H')
            | false => none
          | none => none
        | false => none
      | false => base self g aas H
    | none => base self g aas H
  | none => none
theorem callR_ok {P : Program} {ρ : Env} {L : Lore} (hL : LoreOk ρ L) (hm : P.follows .mixedOrders = true) {base : CodeF → CallF} (hbase : ∀ self, CodeOk P ρ self → CallOk P ρ (base self)) (N : Nat) (self : CodeF) (hs : CodeOkG P ρ self) : CallOk P ρ (callR P L base N self) := by
  intro g aas H v H' h ms B w args hargs hH
  unfold callR at h
  split at h
  case h_2 => cases h
  rename_i fn hfn
  split at h
  case h_2 => exact hbase self hs.plain g aas H v H' h ms B w args hargs hH
  rename_i c hb
  split at h
  case h_2 => exact hbase self hs.plain g aas H v H' h ms B w args hargs hH
  split at h
  case h_2 => cases h
  rename_i hbd
  rw [Bool.and_eq_true] at hbd
  split at h
  case h_2 => cases h
  rename_i o t H1 hev
  split at h
  case h_2 => cases h
  rename_i hends
  rw [Option.map_eq_some_iff] at h
  obtain ⟨v', hr, hv⟩ := h
  simp only [Prod.mk.injEq] at hv
  obtain ⟨rfl, rfl⟩ := hv
  have hT : RelT ρ ms (Tm.make fn.ntmps aas) (args ++ Array.replicate (fn.ntmps - args.size) undef) := RelT.make hargs (Nat.le_of_ble_eq_true hbd.1) (Nat.le_of_ble_eq_true hbd.2) hH.gl
  refine (callsIn_wide (n := 1)).1 (callsIn_of_wp_marks hfn hb trivial (wpIn_wide.2 ?_) rfl)
  refine evR_ok hL hm (hbase self hs.plain) hs N c _ H o t H1 hev ms B _ w _ hT hH fun ms' a' w' ds q1 q2 q3 q4 q5 q6 => ?_
  have key : LeavesInM Fence.wide 1 P fn a'.tmps (fun e w' => ∃ ms' u, e = .returned u ∧ ms <+: ms' ∧ v'.inst ρ ms' = some u ∧ Holds ρ ms' (trim H.length v' H1) B w' ∧ Bel B w w') a'.defers .returning w' := by
    rw [q3, List.append_nil]
    refine leave_all hH.big (fun w2 hH2 hb2 => ?_) ds w' q4 q5 q6
    obtain ⟨u, e1, e2⟩ := evResults_ok q2 hH2 hr
    obtain ⟨ms2, r1, r2, r3⟩ := trim_ok q1 hH.gl hH.len e1 hH2
    exact ⟨u, e2, ms2, u, rfl, r1, r2, r3, hb2⟩
  cases o with
  | normal => exact key
  | exit i => cases hends
  | ret => exact key
noncomputable def evCallR (P : Program) (L : Lore) (base : CodeF → CallF) (N n : Nat) : CallF := callR P L base N (evGF P L (callR P L base N) n)
theorem evCallR_ok {P : Program} {ρ : Env} {L : Lore} (hL : LoreOk ρ L) (hm : P.follows .mixedOrders = true) {base : CodeF → CallF} (hbase : ∀ self, CodeOk P ρ self → CallOk P ρ (base self)) (N n : Nat) : CallOk P ρ (evCallR P L base N n) := by
  unfold evCallR
  rw [evGF_eq]
  exact callR_ok hL hm hbase N _ (evG_both hL (callR_ok hL hm hbase N) hm n)
end Go.Proofs.Ytmlhfjflkcenkaa.Ev
namespace Go.Proofs.Ytmlhfjflkcenkaa
open Go Go.RowKit Ev
def conInv : ConF := fun g xs _ => if g = 36 then (match xs with | [.tv (.sc (.int .u8 (.lit n)))] => if 0 < n ∧ n < 256 then some (.tup [.sc (.int .u8 (.lit ((inv n.toNat : Nat) : Int))), .sc (.int .i64 (.lit 0))]) else none | _ => none) else none
theorem conInv_ok (ρ : Env) : ConOk Try.prog ρ conInv := by
  intro g xs H v hv ms B w args ha hH
  unfold conInv at hv
  split at hv
  case isFalse => cases hv
  rename_i hg
  subst hg
  split at hv
  case h_2 => cases hv
  rename_i n
  split at hv
  case isFalse => cases hv
  rename_i hn
  cases hv
  obtain ⟨m, rfl⟩ := Int.eq_ofNat_of_zero_le (show 0 ≤ n by omega)
  have e : args = #[.int .u8 (m : Int)] := by
    obtain ⟨l⟩ := args
    have hl : l.length = 1 := by have := congrArg List.length ha; simpa using this.symm
    match l, hl, ha with
    | [u], _, ha =>
      simp only [List.map_cons, List.map_nil, List.cons.injEq, and_true, AV.inst, TV.inst, SV.inst, Ex.den, Option.some.injEq] at ha
      rw [ha]
  subst e
  exact (inv_any w m (by omega) (by omega)).mono fun e w' ⟨q1, q2⟩ => ⟨_, q1, rfl, q2⟩
def conRs : ConF := conOr conInv conMuls
theorem conRs_ok (ρ : Env) : ConOk Try.prog ρ conRs := conOr_ok (conInv_ok ρ) (conMuls_ok ρ)
noncomputable def evRs (n : Nat) : CallF := evCallR Try.prog noLore (callStep Try.prog conRs) 1000 n
theorem evRs_ok (ρ : Env) (n : Nat) : CallOk Try.prog ρ (evRs n) := evCallR_ok (noLore_ok ρ) mixedOrders (fun self hs => callStep_ok (conRs_ok ρ) hs) 1000 n
theorem lives_ev : (evRs 1000 6 [] []).map (·.1) = some (.tv (.sc (.bool true))) := by kernel_rfl
theorem ret_evR {ρ : Env} {g n : Nat} {xs : List AV} (h : (evRs n g xs []).map (·.1) = some (.tv (.sc (.bool true)))) {args : Array Value} (w : World) (ha : xs.map (AV.inst ρ []) = args.toList.map some) : Calls Try.prog g args w fun e w' => e = .returned (.bool true) ∧ Below w.heap.size w w' := by
  obtain ⟨H', h1⟩ := map_fst h
  refine (evRs_ok ρ n g xs [] _ H' h1 [] w.heap.size w args ha (holds_nil ρ w)).mono ?_
  rintro e w' ⟨ms', u, rfl, _, h2, _, h4⟩
  simp only [AV.inst, TV.inst, SV.inst, Option.some.injEq] at h2
  exact ⟨by rw [← h2], h4.toBelow⟩
theorem lives_any (w : World) : Calls Try.prog 6 #[] w fun e w' => e = .returned (.bool true) ∧ Below w.heap.size w w' := ret_evR (ρ := env0) lives_ev w rfl
end Go.Proofs.Ytmlhfjflkcenkaa
namespace Go.Proofs.Ytmlhfjflkcenkaa
open Go Go.RowKit
def onD (ds : List (List Int)) (i m : Nat) : List (List Int) := (List.range m).map fun j => [(ds.getD j []).getD i 0]
theorem onD_length (ds : List (List Int)) (i m : Nat) : (onD ds i m).length = m := by simp [onD]
theorem onD_succ (ds : List (List Int)) (i m : Nat) : onD ds i (m + 1) = onD ds i m ++ [[(ds.getD m []).getD i 0]] := by simp [onD, List.range_succ]
theorem onD_get (ds : List (List Int)) (i m j : Nat) (h : j < m) : (onD ds i m).getD j [] = [(ds.getD j []).getD i 0] := by simp [onD, List.getD, h]
theorem mix_one (row : List Int) (ds : List (List Int)) (i k : Nat) : ∀ m, m ≤ k → mixV row (onD ds i k) m 0 = mixV row ds m i
  | 0, _ => rfl
  | m + 1, h => by
    unfold mixV
    rw [mix_one row ds i k m (by omega)]
    unfold gN
    rw [onD_get ds i k m (by omega)]
    simp
theorem PW.at {B : Nat} {w : World} {v : Value} {ls : List (List Int)} (h : PW B w v ls) (h0 : 0 < ls.length) : ∃ g c, v = .slice (some ⟨g, 0, none⟩) ls.length c ∧ ls.length ≤ c ∧ c ≤ 9223372036854775807 ∧ ∀ j, j < ls.length → ∃ u, w.cell? ⟨g, j, none⟩ = some u ∧ HB w u (ls.getD j []) := by
  obtain ⟨b, off, c, e, hl, hm, hh⟩ := h.hl.ne h0
  obtain ⟨xs, hrow, _⟩ := h
  obtain ⟨g, cap, e2, _⟩ := ownsRow_cells hrow h0
  rw [e2] at e
  simp only [Value.slice.injEq, Option.some.injEq, Addr.mk.injEq, and_true, true_and] at e
  obtain ⟨⟨rfl, rfl⟩, rfl⟩ := e
  unfold maxLen at hm
  refine ⟨g, cap, e2, hl, hm, fun j hj => ?_⟩
  have := hh j hj
  rw [Nat.zero_add] at this
  exact this
theorem PW.below {B : Nat} {w w' : World} {v : Value} {ls : List (List Int)} (h : PW B w v ls) (hb : Below w.heap.size w w') : PW B w' v ls := by
  obtain ⟨xs, h1, h2⟩ := h
  exact ⟨xs, own_below h1 hb, fun j hj => ⟨own_below (h2 j hj).1 hb, (h2 j hj).2⟩⟩
theorem HB.first {w : World} {u : Value} {l : List Int} (h : HB w u l) (h0 : 0 < l.length) : ∃ b o c, u = .slice (some ⟨b, o, none⟩) l.length c ∧ l.length ≤ c ∧ c ≤ 9223372036854775807 ∧ ∀ j, j < l.length → w.cell? ⟨b, o + j, none⟩ = some (.int .u8 (l.getD j 0)) := by
  obtain ⟨b, o, c, e, h1, h2, h3⟩ := h.ne h0
  unfold maxLen at h2
  exact ⟨b, o, c, e, h1, h2, h3⟩
theorem one_of (l : List Int) (i : Nat) (h : i < l.length) : (l.take (i + 1)).drop i = [l.getD i 0] := by
  rw [List.drop_take, Nat.add_sub_cancel_left, List.drop_eq_getElem_cons h, List.take_succ_cons, List.take_zero]
  simp only [List.getD, List.getElem?_eq_getElem h, Option.getD_some]
set_option maxRecDepth 100000 in
set_option maxHeartbeats 16000000 in
theorem bytes_walk (w : World) (v : Value) (l : List Int) (k n x : Int) (h : HB w v l) (hl : l.length ≤ 140737488351232) :
    Calls Try.prog 5 #[.int .i64 k, .int .i64 n, v, .int .i64 x] w fun e w' => e = .returned (.bool true) ∧ Below w.heap.size w w' := by
  have C0 := hid (lives_any w)
  have HA := hid h
  obtain ⟨pa, ca, rfl, hlc, hcm⟩ := h.open
  unfold maxLen at hcm
  clear h
  by_cases hbad : k < 1 ∨ k > n ∨ n > 255
  · have CN := hid fun W => rsnew_bad W k n hbad
    obtain ⟨N, HN⟩ : ∃ x, Hid (l.length = x) := ⟨_, rfl⟩
    rw [HN.out]
    clear hbad
    go_enter Try.func5, Try.ntmps5
    go_wp2_with fail
    refine C0.out.mono ?_
    rintro e w1 ⟨rfl, hb1⟩
    have B1 := hid hb1
    clear hb1 C0
    go_wp2_with fail
    refine (CN.out w1).mono ?_
    rintro e wq ⟨rfl, hwq⟩
    rw [hwq]
    clear hwq wq CN
    go_wp2
    go_ret
    exact ⟨rfl, B1.out⟩
  · obtain ⟨K, rfl⟩ : ∃ K : Nat, k = (K : Int) := ⟨k.toNat, by omega⟩
    obtain ⟨M, rfl⟩ : ∃ M : Nat, n = (M : Int) := ⟨n.toNat, by omega⟩
    have h1 : 1 ≤ K := by omega
    have hk : K ≤ M := by omega
    have hn : M ≤ 255 := by omega
    clear hbad
    have CN := hid fun W => rsnew_ok W K M h1 hk hn
    have CE := hid fun W (hW : Below w.heap.size w W) => even_any W K _ l (HA.out.below hW) h1 (by omega) (by omega)
    have HLL : Hid (l.length / K ≤ l.length) := hid (Nat.div_le_self _ _)
    have HLEN : Hid (∀ j, j < K → (rwL l (l.length / K) j).length = l.length / K) := hid fun j hj => rw_len (ev_le hj)
    obtain ⟨L, HL0⟩ : ∃ L, Hid (l.length / K = L) := ⟨_, rfl⟩
    obtain ⟨N, HN⟩ : ∃ x, Hid (l.length = x) := ⟨_, rfl⟩
    rw [HL0.out] at CE HLL HLEN
    rw [HN.out] at HLL CE hl hlc
    rw [HN.out]
    go_enter Try.func5, Try.ntmps5
    go_wp2_with fail
    refine C0.out.mono ?_
    rintro e w1 ⟨rfl, hb1⟩
    have B1 := hid hb1
    clear hb1 C0
    go_wp2_with fail
    refine (CN.out w1).mono ?_
    rintro e w2 ⟨gc, rfl, hc2, hb2⟩
    have HC2 := hid hc2
    have B2 := hid (B1.out.trans (hb2.mono B1.out.size))
    clear hc2 hb2 CN
    go_wp2_with fail
    refine (CE.out w2 B2.out).mono ?_
    rintro e w3 ⟨v3, rfl, hd3, hb3⟩
    have HC3 := hid (HC2.out.below hb3)
    have B3 := hid (B2.out.trans (hb3.mono B2.out.size))
    have HD3 := hid hd3
    obtain ⟨D, HDD⟩ : ∃ x, Hid (evD l L K = x) := ⟨_, rfl⟩
    have HDl : Hid (D.length = K) := by refine hid ?_; rw [← HDD.out]; exact evD_length _ _ _
    have HDL : Hid (∀ j, j < D.length → (D.getD j []).length = L) := by
      refine hid fun j hj => ?_
      rw [HDl.out] at hj
      rw [← HDD.out, evD_get _ _ _ _ hj]
      exact HLEN.out j hj
    rw [HDD.out] at HD3 hd3
    obtain ⟨b3, o3, c3, e3, hl3, hm3, hh3⟩ := hd3.ne (by rw [HDl.out]; omega)
    rw [HDl.out] at e3 hl3
    unfold maxLen at hm3
    subst e3
    have HH3 := hid hh3
    obtain ⟨u0, hu0, hbu0⟩ := hh3 0 (by rw [HDl.out]; omega)
    rw [Nat.add_zero] at hu0
    obtain ⟨pu, cu, eu, _, _⟩ := hbu0.open
    rw [HDL.out 0 (by rw [HDl.out]; omega)] at eu
    subst eu
    have HU0 := hid hu0
    clear hd3 hb3 CE hh3 hbu0 hu0 HC2
    have hd3' : HL w3 (.slice (some ⟨b3, o3, none⟩) K c3) D := HD3.out
    have C4 := hid (encode_ok w3 gc K M _ D L HC3.out h1 hk hn hd3' HDl.out HDL.out (by have := HLL.out; omega))
    clear hd3'
    go_wp2_with fail
    refine C4.out.mono ?_
    rintro e w4 ⟨v4, rfl, hp4, hb4⟩
    have B4 := hid (B3.out.trans (hb4.mono B3.out.size))
    have HC4 := hid (HC3.out.below hb4)
    have D4 := hid (HD3.out.below hb4)
    have P4 := hid hp4
    have hu4 : w4.cell? ⟨b3, o3, none⟩ = some (.slice pu L cu) := (hb4.cell (World.block_lt_of_cell? w3 _ HU0.out)).trans HU0.out
    obtain ⟨g4, c4, e4, hlc4, hm4, hh4⟩ := hp4.at (by rw [prL_length]; omega)
    rw [prL_length] at e4 hlc4 hh4
    subst e4
    have HH4 := hid hh4
    have hMM : ((M : Int) != (M : Int)) = false := by simp
    clear hp4 hb4 C4 hh4
    by_cases hL : L = 0
    · obtain ⟨u, hu, hbu⟩ := HH4.out (M - 1) (by omega)
      rw [prL_get _ _ _ _ _ _ (by omega)] at hbu
      obtain ⟨pz, cz, ez, _, _⟩ := hbu.open
      have ezl : (mixL (rwL (elL K M) K (M - 1)) D K L).length = 0 := by rw [mixL, tbL_length]; exact hL
      rw [ezl] at ez
      subst ez
      have hM1 : ((M : Int) - 1) = ((M - 1 : Nat) : Int) := by omega
      obtain ⟨M1, HM1⟩ : ∃ x, Hid (M - 1 = x) := ⟨_, rfl⟩
      rw [HM1.out] at hM1 hu
      have hM2 : M1 < M := by rw [← HM1.out]; omega
      subst hL
      clear hbu ezl
      go_wp2
      go_ret
      exact ⟨rfl, B4.out⟩
    · have hL0 : ((L : Int) == 0) = false := by simp; omega
      have CPK := hid (kpick_any w4 x L (by omega) (by have := HLL.out; omega))
      go_wp2_with fail
      refine CPK.out.mono ?_
      rintro e wq ⟨⟨i, hi, rfl⟩, hwq⟩
      rw [hwq]
      clear hwq wq CPK
      have hLb : L ≤ 140737488351232 := by have := HLL.out; omega
      have HHD : Hid (∀ j, j < K → ∃ u, w4.cell? ⟨b3, o3 + j, none⟩ = some u ∧ HB w4 u (D.getD j [])) := by
        obtain ⟨b', o', c', e', _, _, hh⟩ := D4.out.ne (by rw [HDl.out]; omega)
        rw [HDl.out] at e' hh
        simp only [Value.slice.injEq, Option.some.injEq, Addr.mk.injEq, and_true, true_and] at e'
        obtain ⟨⟨rfl, rfl⟩, rfl⟩ := e'
        exact hid hh
      have HDLK : Hid (∀ j, j < K → (D.getD j []).length = L) := by
        refine hid fun j hj => HDL.out j ?_
        rw [HDl.out]
        exact hj
      have hi1 : i + 1 ≤ L := hi
      go_wp2
      go_loopw [15, 16] (fun o j wr => ∃ J : Nat, J ≤ K ∧ j = .int .i64 (J : Int) ∧ Hid (OWL w4 wr o (onD D i J)) ∧ Hid (Below w4.heap.size w4 wr)) (fun _ j _ => K - (intOf j).toNat)
      case atStart => exact ⟨0, Nat.zero_le _, rfl, OWL.nil _ _, Below.refl _ _⟩
      case round =>
        obtain ⟨J, hJ, rfl, HO, B⟩ := hrel
        by_cases hlt : J < K
        · obtain ⟨u, hu, hbu⟩ := HHD.out J hlt
          obtain ⟨pj, cj, ej, hlj, hmj⟩ := hbu.open
          unfold maxLen at hmj
          have HLJ := hid (HDLK.out J hlt)
          have hS := hbu
          rw [HLJ.out] at ej hlj
          subst ej
          have huw : wr.cell? ⟨b3, o3 + J, none⟩ = some (.slice pj L cj) := (B.out.cell (World.block_lt_of_cell? w4 _ hu)).trans hu
          have HSL : Hid (∃ p', (Instr.slice 22 (.slice pj L cj) (some (.int .i64 (i : Int))) (some (.int .i64 ((i : Int) + 1))) none).run Try.prog wr = .ok (.slice p' 1 (cj - i)) wr ∧ HB w4 (.slice p' 1 (cj - i)) [(D.getD J []).getD i 0]) := by
            have e1 := slice_lh wr pj L cj i (i + 1) (by omega) (by omega) (by omega)
            rw [Nat.add_sub_cancel_left] at e1
            have hS' : HB w4 (.slice pj (D.getD J []).length cj) (D.getD J []) := by rw [HLJ.out]; exact hS
            have e2 := hS'.sliced i (i + 1) cj (by omega) (by rw [HLJ.out]; omega) (by omega) (Nat.le_refl _)
            rw [Nat.add_sub_cancel_left, one_of _ _ (by rw [HLJ.out]; omega)] at e2
            exact hid ⟨_, by simpa using e1, e2⟩
          obtain ⟨p', hsl, hbs⟩ := HSL.out
          have HBS := hid hbs
          obtain ⟨xs, hrow, _⟩ := HO.out
          obtain ⟨po, co, eo⟩ := own_slc hrow
          subst eo
          rw [onD_length]
          have hsz := B.out.size
          have HES := hid (onD_succ D i J)
          obtain ⟨Y, HY⟩ : ∃ x, Hid ((D.getD J []).getD i 0 = x) := ⟨_, rfl⟩
          rw [HY.out] at HES HBS
          have HO3 : Hid (OWL w4 (wr.alloc (.cells #[.slice p' 1 (cj - i)] 22)) (.slice po J co) (onD D i J)) := by
            have h2 := HO.out
            rw [onD_length] at h2
            exact h2.below ((Below.refl _ _).alloc (Nat.le_refl _) _)
          clear hbs hrow HSL hS hbu hu
          go_wp2_with (at_builtin; refine wpList_append_OWL (w0 := w4) rfl _ _ rfl _ _ rfl HO3.out ⟨wr.heap.size, 0, none⟩ 1 1 [_] [[Y]] rfl rfl rfl (cell_one_new _ _ _) ?q1 ?q2 ?q3 ?q4 ?_)
          case q1 =>
            intro j hj
            match j, hj with
            | 0, _ => exact .inr HBS.out
          case q2 => intro u hu; simp at hu; subst hu; rfl
          case q3 => rw [onD_length]; omega
          case q4 => simp; omega
          intro v' w5 ho5 hg5 hblk
          rw [← HES.out] at ho5
          have O5 := hid ho5
          have B5 : Hid (Below w4.heap.size w4 w5) := ((B.out.alloc hsz _).grown hg5 (by simp; omega) (fun g e => (hblk g e).1))
          clear ho5 hg5 hblk hsl
          go_wp2
          exact ⟨⟨J + 1, by omega, by go_num, O5, B5⟩, by simp [intOf]; omega⟩
        · have hJ' : J = K := by omega
          subst hJ'
          obtain ⟨xs, hrow, _⟩ := HO.out
          obtain ⟨po, co, eo⟩ := own_slc hrow
          subst eo
          rw [onD_length]
          have HO5 := hid (HO.out.hl B.out)
          have CE5 := hid (encode_ok wr gc J M _ (onD D i J) 1 (HC4.out.below B.out) h1 hk hn HO5.out (onD_length _ _ _) (fun j hj => by rw [onD_length] at hj; rw [onD_get _ _ _ _ hj]; rfl) (by omega))
          rw [onD_length] at CE5
          clear hrow
          go_wp2_with fail
          refine CE5.out.mono ?_
          rintro e w6 ⟨v6, rfl, hp6, hb6⟩
          have B46 := hid (B.out.trans (hb6.mono B.out.size))
          have B6 := hid (B4.out.trans (B46.out.mono B4.out.size))
          obtain ⟨g6, c6, e6, hlc6, hm6, hh6⟩ := hp6.at (by rw [prL_length]; omega)
          rw [prL_length] at e6 hlc6 hh6
          subst e6
          have HH6 := hid hh6
          have hu6 : w6.cell? ⟨b3, o3, none⟩ = some (.slice pu L cu) := (B46.out.cell (World.block_lt_of_cell? w4 _ hu4)).trans hu4
          clear hp6 hb6 CE5 hh6 hu4
          go_wp2
          go_loopw [19] (fun j wz => ∃ Z : Nat, Z ≤ M ∧ j = .int .i64 (Z : Int) ∧ Dr w6 wz) (fun j _ => M - (intOf j).toNat)
          case atStart => exact ⟨0, Nat.zero_le _, rfl, Dr.refl _⟩
          case round =>
            obtain ⟨Z, hZ, rfl, q, rfl⟩ := hrel
            by_cases hlz : Z < M
            · obtain ⟨y1, hy1, hby1⟩ := HH4.out Z hlz
              obtain ⟨y2, hy2, hby2⟩ := HH6.out Z hlz
              rw [prL_get _ _ _ _ _ _ hlz] at hby1 hby2
              have hz1 : w6.cell? ⟨g4, Z, none⟩ = some y1 := (B46.out.cell (World.block_lt_of_cell? w4 _ hy1)).trans hy1
              have hbz1 := hby1.below B46.out
              obtain ⟨bb1, oo1, cc1, ee1, hl1, hm1, hc1⟩ := hbz1.first (by rw [mixL, tbL_length]; omega)
              obtain ⟨bb2, oo2, cc2, ee2, hl2, hm2, hc2⟩ := hby2.first (by rw [mixL, tbL_length]; omega)
              have hx1 := hc1 i (by rw [mixL, tbL_length]; omega)
              have hx2 := hc2 0 (by rw [mixL, tbL_length]; omega)
              obtain ⟨hr1, hr2⟩ := hbz1.byte i
              rw [Nat.add_zero] at hx2
              rw [mixL, tbL_get _ _ _ (by omega)] at hx1 hr1 hr2
              rw [mixL, tbL_get _ _ _ (by omega), mix_one _ _ _ _ _ (Nat.le_refl _)] at hx2
              obtain ⟨X, HX⟩ : ∃ x, Hid (((mixV (rwL (elL J M) J Z) D J i : Nat) : Int) = x) := ⟨_, rfl⟩
              rw [HX.out] at hx1 hx2 hr1 hr2
              rw [mixL, tbL_length] at ee1 ee2 hl1 hl2
              subst ee1
              subst ee2
              have hLL : ((L : Int) != (L : Int)) = false := by simp
              have hXX : (X != X) = false := by simp
              clear hy1 hby1 hby2 hbz1 hc1 hc2
              go_wp2
              go_quiet (fail)
              go_wp2
              exact ⟨⟨Z + 1, by omega, by go_num, Dr.one _ _⟩, by simp [intOf]; omega⟩
            · have hZ' : Z = M := by omega
              subst hZ'
              go_wp2
              go_ret
              exact ⟨rfl, B6.out.trans ((Dr.one w6 q).below _)⟩
end Go.Proofs.Ytmlhfjflkcenkaa
namespace Go.Proofs.Ytmlhfjflkcenkaa
open Go.RowKit
theorem run_append_byte (w : World) (base : Nat) (ty : TypeId) (v : Value) (n : Nat) (xs : List Value) (hown : w.ownsRow base 5 1 v n xs) (a : Addr) (c : Nat) (x : Int) (hx : w.cell? a = some (.int .u8 x)) (hn : n + 1 ≤ 140737488355328) (hbase : base ≤ w.heap.size) :
    ∃ v' w', (Builtin.append_ #[22, 22] ty #[v, .slice (some a) 1 c]).run Try.prog w = .ok v' w' ∧ w'.ownsRow base 5 1 v' (n + 1) (xs ++ [.int .u8 x]) ∧ w.grownBy w' v.ownBlock ∧
      (v'.ownBlock = v.ownBlock ∨ (v'.ownBlock = some w.heap.size ∧ w.grownBy w' none)) := by
  obtain ⟨i0, hi, hz0, hz1, hz2⟩ := info_parts info_u8
  have hnews : ∀ j u, [Value.int .u8 x][j]? = some u → w.cell? (a.add j) = some u := by
    intro j u hj
    match j, hj with
    | 0, hj => simp at hj; subst hj; simpa [Addr.add] using hx
  have h1 : ∀ u ∈ [Value.int .u8 x], u.oneCell' = true := by intro u hu; simp at hu; subst hu; rfl
  obtain ⟨v', w', hr, h2, h3, _⟩ := run_append_own (P := Try.prog) w base 22 ty 5 i0 (.int .u8 0) 1 1 Try.underlying22 hi hz0 hz1 hz2 rfl (by decide) v n xs hown a 1 c [.int .u8 x] rfl hnews h1 (by unfold maxLen; omega) (by omega) hbase
  refine ⟨v', w', hr, h2, h3, ?_⟩
  rcases hown.2 with ⟨rfl, rfl⟩ | ⟨g, cap, cur, rfl, hbg, hg, hnc, hcm, hcs, htake⟩
  · have hr2 := run_append_nil (P := Try.prog) w 22 ty 5 i0 (.int .u8 0) Try.underlying22 hi hz0 a 1 c [.int .u8 x] (by rw [hz1]; rfl) hnews (by omega) (by omega) (by rw [hz2]; omega)
    rw [hr] at hr2
    simp only [Result.ok.injEq] at hr2
    obtain ⟨rfl, rfl⟩ := hr2
    exact .inr ⟨rfl, ⟨rfl, rfl, rfl, by simp, fun k hk _ => heap_alloc_old w.drew _ hk⟩⟩
  · by_cases hroom : n + 1 ≤ cap
    · obtain ⟨w2, hr2, _⟩ := run_append_fits (P := Try.prog) w base 22 ty 5 i0 1 Try.underlying22 hi hz1 g n cap xs hown a 1 c [.int .u8 x] rfl hnews h1 hroom
      rw [hr] at hr2
      simp only [Result.ok.injEq] at hr2
      obtain ⟨rfl, rfl⟩ := hr2
      exact .inl rfl
    · have hr2 := run_append_grow (P := Try.prog) w 22 ty 5 i0 (.int .u8 0) Try.underlying22 hi hz0 ⟨g, 0, none⟩ n cap xs (by rw [hz1]; exact hown.1) (hown.cells (g := g) rfl) a 1 c [.int .u8 x] (by rw [hz1]; rfl) hnews (by omega) (by omega) (growslice_fits (by omega) (by rw [hz2]; omega))
      rw [hr] at hr2
      simp only [Result.ok.injEq] at hr2
      obtain ⟨rfl, rfl⟩ := hr2
      exact .inr ⟨rfl, ⟨rfl, rfl, rfl, by simp, fun k hk _ => heap_alloc_old w.drew _ hk⟩⟩
theorem wpList_append_byte {w : World} {ops : Array Oper} {rest : List Oper} {o : Oper} {a : Act} {Q : Exit → Act → World → Prop} (hgd : o.guard = none) (s x : Operand)
    (ho : o.op = .call { callee := .builtin .append, args := #[s, x], argTypes := #[22, 22] })
    (base : Nat) (v : Value) (n : Nat) (xs : List Value) (hs : a.eval s = v) (hown : w.ownsRow base 5 1 v n xs)
    (ad : Addr) (c : Nat) (y : Int) (hx : a.eval x = .slice (some ad) 1 c) (hy : w.cell? ad = some (.int .u8 y)) (hn : n + 1 ≤ 140737488355328) (hbase : base ≤ w.heap.size)
    (h : ∀ v' w', w'.ownsRow base 5 1 v' (n + 1) (xs ++ [.int .u8 y]) → w.grownBy w' v.ownBlock → (v'.ownBlock = v.ownBlock ∨ (v'.ownBlock = some w.heap.size ∧ w.grownBy w' none)) → wpList Try.prog ops Q rest (a.put o.dst v') w') : wpList Try.prog ops Q (o :: rest) a w := by
  refine wpList_plain hgd fun K hK => ?_
  obtain ⟨v', w', hr, h2, h3, h4⟩ := run_append_byte w base o.type v n xs hown ad c y hy hn hbase
  unfold Oper.wp execOp
  simp only [ho, resolve, invoke, builtin, Sem.run_bind, Sem.run_pure, Result.andThen_ok, List.map_toArray, List.map_cons, List.map_nil, hs, hx, hr]
  exact hK _ _ (h v' w' h2 h3 h4)
end Go.Proofs.Ytmlhfjflkcenkaa
namespace Go.Proofs.Ytmlhfjflkcenkaa
open Go Go.RowKit
theorem cell_rowB (w : World) (g o : Nat) (m : Array Value) (T : TypeId) (fr : Nat × Nat) (h : w.heap[g]? = some (.cells m T fr)) : w.cell? ⟨g, o, none⟩ = m[o]? := by simp [World.cell?, h]
theorem owp_appendB {o : Oper} {a : Act} {w w' : World} {K : Act → World → Prop} {Q : Exit → Act → World → Prop} {v v' : Value} {ad : Addr} {c : Nat} (s x : Operand)
    (ho : o.op = .call { callee := .builtin .append, args := #[s, x], argTypes := #[22, 22] }) (hs : a.eval s = v) (hx : a.eval x = .slice (some ad) 1 c)
    (hr : (Builtin.append_ #[22, 22] o.type #[v, .slice (some ad) 1 c]).run Try.prog w = .ok v' w') (h : K (a.put o.dst v') w') : o.wp Try.prog a w K Q := by
  unfold Oper.wp execOp
  simp only [ho, resolve, invoke, builtin, Sem.run_bind, Sem.run_pure, Result.andThen_ok, List.map_toArray, List.map_cons, List.map_nil, hs, hx, hr]
  exact h
def boL (la lb : List Int) : List Int := tbL la.length fun i => gN la i ^^^ gN lb i
theorem boL_length (la lb : List Int) : (boL la lb).length = la.length := tbL_length _ _
theorem boL_gN {la lb : List Int} (i : Nat) (h : i < la.length) : gN (boL la lb) i = gN la i ^^^ gN lb i := by
  show ((boL la lb).getD i 0).toNat = _
  unfold boL
  rw [tbL_get _ _ _ h]
  simp
theorem xor_gN {x y : Int} (hx : 0 ≤ x ∧ x < 256) (hy : 0 ≤ y ∧ y < 256) : bits .xor .u8 x y = ((x.toNat ^^^ y.toNat : Nat) : Int) := u8_xor x y hx.1 hx.2 hy.1 hy.2
set_option maxRecDepth 100000 in
set_option maxHeartbeats 2000000 in
theorem both_any (w2 : World) (va vb : Value) (l st : List Int) (ha : HB w2 va l) (hb : HB w2 vb st) (hlen : st.length = l.length) (hn : l.length ≤ 140737488355327) :
    Calls Try.prog 17 #[va, vb] w2 fun e w' => ∃ v', e = .returned v' ∧ w'.ownsRow w2.heap.size 5 1 v' l.length ((boL l st).map (Value.int .u8)) ∧ BytI (boL l st) ∧ Below w2.heap.size w2 w' := by
  have V2 := hid ha
  have S2 := hid hb
  have STL := hid hlen
  obtain ⟨X, HX⟩ : ∃ x, Hid (boL l st = x) := ⟨_, rfl⟩
  have XL : Hid (X.length = l.length) := by rw [← HX.out]; exact hid (boL_length _ _)
  have XG : Hid (∀ i, i < l.length → X.getD i 0 = bits .xor .u8 (l.getD i 0) (st.getD i 0)) := hid fun i hi => by
    rw [← HX.out, xor_gN (ha.byte i) (hb.byte i)]
    unfold boL
    rw [tbL_get _ _ _ hi]
    rfl
  have XB : Hid (BytI X) := by
    rw [← HX.out]
    exact hid (tbL_byt _ fun i => Nat.xor_lt_two_pow (n := 8) (ha.gN i).2 (hb.gN i).2)
  rw [HX.out]
  clear HX
  obtain ⟨n, Hn⟩ : ∃ x, Hid (l.length = x) := ⟨_, rfl⟩
  obtain ⟨pa, ca, rfl, _, _⟩ := ha.open
  obtain ⟨pb, cb, rfl, _, _⟩ := hb.open
  clear ha hb
  rw [hlen]
  rw [hlen] at S2
  clear hlen
  rw [Hn.out] at STL XL XG hn V2 S2 ⊢
  go_enter Try.func17, Try.ntmps17
  go_wp2
  go_loopw [5, 6] (fun out ii wr => ∃ I : Nat, I ≤ n ∧ ii = .int .i64 (I : Int) ∧ Hid (wr.ownsRow w2.heap.size 5 1 out I ((X.take I).map (Value.int .u8))) ∧ Hid (Below w2.heap.size w2 wr)) (fun _ ii _ => n - (intOf ii).toNat)
  case atStart => exact ⟨0, by omega, rfl, hid (by simpa using World.ownsRow_nil _ _ _ _), hid (Below.refl _ _)⟩
  case round =>
    obtain ⟨I, hI, rfl, HO, HB⟩ := hrel
    by_cases hlt : I < n
    case neg =>
      have hIn : I = n := by omega
      have HO2 := HO.out
      rw [hIn, List.take_of_length_le (by rw [XL.out]; exact Nat.le_refl _)] at HO2
      have HO3 := hid HO2
      have BF := hid HB.out
      clear HO2
      go_wp2
      go_ret
      exact ⟨_, rfl, HO3.out, XB.out, BF.out⟩
    case pos =>
      obtain ⟨bx, ox, cx, ex, _, _, hx⟩ := V2.out.ne (by rw [Hn.out]; omega)
      simp only [Value.slice.injEq] at ex
      obtain ⟨e1, e2, e3⟩ := ex
      clear e2 e3
      subst e1
      obtain ⟨by', oy, cy, ey, _, _, hy⟩ := S2.out.ne (by rw [STL.out]; omega)
      simp only [Value.slice.injEq] at ey
      obtain ⟨e1, e2, e3⟩ := ey
      clear e2 e3
      subst e1
      have CX : Hid (∀ W, Below w2.heap.size w2 W → W.cell? ⟨bx, ox + I, none⟩ = some (.int .u8 (l.getD I 0)) ∧ W.cell? ⟨by', oy + I, none⟩ = some (.int .u8 (st.getD I 0))) := hid fun W hW => ⟨(hW.cell (World.block_lt_of_cell? w2 _ (hx I (by rw [Hn.out]; exact hlt)))).trans (hx I (by rw [Hn.out]; exact hlt)), (hW.cell (World.block_lt_of_cell? w2 _ (hy I (by rw [STL.out]; exact hlt)))).trans (hy I (by rw [STL.out]; exact hlt))⟩
      have XI := hid (XG.out I hlt)
      have TK : Hid (X.take (I + 1) = X.take I ++ [X.getD I 0]) := hid (by
        rw [List.take_succ_eq_append_getElem (by rw [XL.out]; exact hlt)]
        simp [List.getD, show I < X.length by rw [XL.out]; exact hlt])
      obtain ⟨lx, Hlx⟩ : ∃ y, Hid (l.getD I 0 = y) := ⟨_, rfl⟩
      obtain ⟨sy, Hsy⟩ : ∃ y, Hid (st.getD I 0 = y) := ⟨_, rfl⟩
      rw [Hlx.out, Hsy.out] at CX XI
      rw [XI.out] at TK
      clear hx hy
      have hib : (I : Int) < (n : Int) := by omega
      go_wp2
      refine wp_region_held_drew (S := Below w2.heap.size w2) (by kernel_rfl) HB.out.drew (fun hHeld => ?_)
      have HS := hid hHeld
      clear hHeld
      change wpAnyH _ _ _ _ _ _ _ _ (World.drew _)
      refine wpAnyH_take (i := 0) (v := ?_) rfl (by kernel_rfl) (by kernel_rfl) (by kernel_rfl) (fun _ _ _ h => h) (Or.inl ⟨by rfl, ?q0⟩) HS.out ?_
      case q0 => intro w hSw; go_simp; rfl
      simp only [Act.put, List.getElem_toArray, List.getElem_cons_zero, List.getElem_cons_succ, List.setIfInBounds_toArray, List.set_cons_zero, List.set_cons_succ]
      refine wpAnyH_take (i := 1) (v := ?_) rfl (by kernel_rfl) (by kernel_rfl) (by kernel_rfl) (fun _ _ _ h => h) (Or.inl ⟨by rfl, ?q1⟩) HS.out ?_
      case q1 => intro w hSw; go_simp; rfl
      simp only [Act.put, List.getElem_toArray, List.getElem_cons_zero, List.getElem_cons_succ, List.setIfInBounds_toArray, List.set_cons_zero, List.set_cons_succ]
      refine wpAnyH_take (i := 2) (v := ?_) rfl (by kernel_rfl) (by kernel_rfl) (by kernel_rfl) (fun _ _ _ h => h) (Or.inl ⟨by rfl, ?q2⟩) HS.out ?_
      case q2 => intro w hSw; go_simp; rfl
      simp only [Act.put, List.getElem_toArray, List.getElem_cons_zero, List.getElem_cons_succ, List.setIfInBounds_toArray, List.set_cons_zero, List.set_cons_succ]
      refine wpAnyH_take (i := 3) (v := ?_) rfl (by kernel_rfl) (by kernel_rfl) (by kernel_rfl) (fun _ _ _ h => h) (Or.inl ⟨by rfl, ?q3⟩) HS.out ?_
      case q3 => intro w hSw; go_simp; rfl
      simp only [Act.put, List.getElem_toArray, List.getElem_cons_zero, List.getElem_cons_succ, List.setIfInBounds_toArray, List.set_cons_zero, List.set_cons_succ]
      refine wpAnyH_take (i := 4) (v := .int .u8 lx) rfl (by kernel_rfl) (by kernel_rfl) (by kernel_rfl) (fun _ _ _ h => h) (Or.inl ⟨by rfl, ?q4⟩) HS.out ?_
      case q4 => intro w hSw; have hcx := (CX.out w hSw).1; go_simp
      simp only [Act.put, List.getElem_toArray, List.getElem_cons_zero, List.getElem_cons_succ, List.setIfInBounds_toArray, List.set_cons_zero, List.set_cons_succ]
      refine wpAnyH_take (i := 5) (v := ?_) rfl (by kernel_rfl) (by kernel_rfl) (by kernel_rfl) (fun _ _ _ h => h) (Or.inl ⟨by rfl, ?q5⟩) HS.out ?_
      case q5 => intro w hSw; go_simp; rfl
      simp only [Act.put, List.getElem_toArray, List.getElem_cons_zero, List.getElem_cons_succ, List.setIfInBounds_toArray, List.set_cons_zero, List.set_cons_succ]
      refine wpAnyH_take (i := 6) (v := ?_) rfl (by kernel_rfl) (by kernel_rfl) (by kernel_rfl) (fun _ _ _ h => h) (Or.inl ⟨by rfl, ?q6⟩) HS.out ?_
      case q6 => intro w hSw; go_simp; rfl
      simp only [Act.put, List.getElem_toArray, List.getElem_cons_zero, List.getElem_cons_succ, List.setIfInBounds_toArray, List.set_cons_zero, List.set_cons_succ]
      refine wpAnyH_take (i := 7) (v := ?_) rfl (by kernel_rfl) (by kernel_rfl) (by kernel_rfl) (fun _ _ _ h => h) (Or.inl ⟨by rfl, ?q7⟩) HS.out ?_
      case q7 => intro w hSw; go_simp; rfl
      simp only [Act.put, List.getElem_toArray, List.getElem_cons_zero, List.getElem_cons_succ, List.setIfInBounds_toArray, List.set_cons_zero, List.set_cons_succ]
      refine wpAnyH_take (i := 8) (v := .int .u8 sy) rfl (by kernel_rfl) (by kernel_rfl) (by kernel_rfl) (fun _ _ _ h => h) (Or.inl ⟨by rfl, ?q8⟩) HS.out ?_
      case q8 => intro w hSw; have hcx := (CX.out w hSw).2; go_simp
      simp only [Act.put, List.getElem_toArray, List.getElem_cons_zero, List.getElem_cons_succ, List.setIfInBounds_toArray, List.set_cons_zero, List.set_cons_succ]
      refine wpAnyH_take (i := 9) (v := .int .u8 (bits .xor .u8 lx sy)) rfl (by kernel_rfl) (by kernel_rfl) (by kernel_rfl) (fun _ _ _ h => h) (Or.inl ⟨by rfl, ?q9⟩) HS.out ?_
      case q9 => intro w hSw; go_simp
      simp only [Act.put, List.getElem_toArray, List.getElem_cons_zero, List.getElem_cons_succ, List.setIfInBounds_toArray, List.set_cons_zero, List.set_cons_succ]
      refine wpAnyH_ready (rs := [10]) (by kernel_rfl) (by simp) ?_
      refine AllReadyH.cons rfl (fun K hK => ?_) AllReadyH.nil
      replace hK := hid hK
      go_simp
      have HS2 := hid (HS.out.alloc HS.out.size (.cells #[.int .u8 (bits .xor .u8 lx sy)] 5))
      refine hK.out _ _ HS2.out (fun _ => ?_)
      clear hK K
      clear HS
      have HS := HS2
      clear HS2
      try simp only [Act.put, List.getElem_toArray, List.getElem_cons_zero, List.getElem_cons_succ, List.setIfInBounds_toArray, List.set_cons_zero, List.set_cons_succ]
      have bal : Below wr.heap.size wr (wr.drew.alloc (.cells #[.int .u8 (bits .xor .u8 lx sy)] 5)) := ((Below.refl wr.heap.size wr).drew).alloc (Nat.le_refl _) _
      have OA := hid (own_below HO.out bal)
      have CA : (wr.drew.alloc (.cells #[.int .u8 (bits .xor .u8 lx sy)] 5)).cell? ⟨wr.heap.size, 0, none⟩ = some (.int .u8 (bits .xor .u8 lx sy)) := (cell_rowB _ wr.heap.size 0 _ _ _ (heap_alloc_new wr.drew _)).trans rfl
      obtain ⟨v9, w9, hr9, ho9, hg9, hb9⟩ := run_append_byte (wr.drew.alloc (.cells #[.int .u8 (bits .xor .u8 lx sy)] 5)) w2.heap.size 22 _ I _ OA.out ⟨wr.heap.size, 0, none⟩ 1 (bits .xor .u8 lx sy) CA (by omega) (Nat.le_trans HB.out.size bal.size)
      have HS3 := hid (HS.out.grown hg9 HS.out.size (fun q e => (OA.out.lt q e).1))
      have O9 : Hid (w9.ownsRow w2.heap.size 5 1 v9 (I + 1) ((X.take (I + 1)).map (Value.int .u8))) := hid (by rw [TK.out, List.map_append]; exact ho9)
      clear ho9 hg9 hb9 bal CA
      refine wpAnyH_ready (rs := [11]) (by kernel_rfl) (by simp) ?_
      refine AllReadyH.cons rfl (fun K hK => ?_) AllReadyH.nil
      replace hK := hid hK
      try simp only [if_pos]
      first | refine owp_appendB _ _ rfl rfl rfl hr9 ?_ | refine (fun h => by simpa using h) (owp_appendB _ _ rfl rfl rfl hr9 ?_)
      simp only [Act.put, List.getElem_toArray, List.getElem_cons_zero, List.getElem_cons_succ, List.setIfInBounds_toArray, List.set_cons_zero, List.set_cons_succ]
      refine hK.out _ _ HS3.out (fun _ => ?_)
      clear hK K
      clear HS hr9
      have HS := HS3
      clear HS3
      try simp only [Act.put, List.getElem_toArray, List.getElem_cons_zero, List.getElem_cons_succ, List.setIfInBounds_toArray, List.set_cons_zero, List.set_cons_succ]
      refine wpAnyH_take (i := 12) (v := ?_) rfl (by kernel_rfl) (by kernel_rfl) (by kernel_rfl) (fun _ _ _ h => h) (Or.inl ⟨by rfl, ?q12⟩) HS.out ?_
      case q12 => intro w hSw; go_simp; rfl
      simp only [Act.put, List.getElem_toArray, List.getElem_cons_zero, List.getElem_cons_succ, List.setIfInBounds_toArray, List.set_cons_zero, List.set_cons_succ]
      refine wpAnyH_done (by kernel_rfl) ?_ _
      have BZ := hid HS.out
      go_wp2
      exact ⟨⟨I + 1, by omega, by go_num, O9, BZ⟩, by simp [intOf]; omega⟩
theorem un_prod {u c U : Nat} (hu : u < 256) (hc : c < 256) (hU : U < 256) (h : prod u U = 1) : prod u (prod c U) = c := by
  rw [prod_assoc u c U hu hc hU, prod_comm u c hu hc, ← prod_assoc c u U hc hu hU, h, prod_one c hc]
theorem one_term {c d u v U V : Nat} (hc : c < 256) (hd : d < 256) (hu : u < 256) (hv : v < 256) (hU : U < 256) (hV : V < 256) (h1 : prod u U = 1) (h2 : prod v V = 1) :
    prod (u ^^^ d) (prod c U) ^^^ prod (v ^^^ d) (prod c V) = prod (u ^^^ v) (prod (prod c (prod d V)) U) := by
  have e3 : prod u (prod (prod c (prod d V)) U) = prod d (prod c V) := by
    rw [un_prod hu (prod_lt _ hc) hU h1, prod_assoc c d V hc hd hV, prod_comm c d hc hd, ← prod_assoc d c V hd hc hV]
  have e4 : prod v (prod (prod c (prod d V)) U) = prod d (prod c U) := by
    rw [prod_assoc c d V hc hd hV, ← prod_assoc (prod c d) V U (prod_lt _ hc) hV hU, prod_comm V U hV hU, prod_assoc (prod c d) U V (prod_lt _ hc) hU hV, un_prod hv (prod_lt _ (prod_lt _ hc)) hV h2, prod_comm c d hc hd, ← prod_assoc d c U hd hc hU]
  rw [prod_left u d _ hu hd, prod_left v d _ hv hd, prod_left u v _ hu hv, un_prod hu hc hU h1, un_prod hv hc hV h2, e3, e4, Nat.xor_assoc, xlc (prod d (prod c U)) c, ← Nat.xor_assoc c c, Nat.xor_self, Nat.zero_xor, Nat.xor_comm]
def sumC (c : Nat → Nat) (x : Nat) : List Nat → Nat
  | [] => 0
  | y :: ys => prod (c y) (inv (x ^^^ y)) ^^^ sumC c x ys
theorem xor_zero {x y : Nat} (h : x ^^^ y = 0) : x = y := by
  have e2 := congrArg (fun z => z ^^^ y) h
  simpa [Nat.xor_assoc] using e2
theorem sumC_lt {c : Nat → Nat} (hc : ∀ y, c y < 256) (x : Nat) : ∀ ys, sumC c x ys < 256
  | [] => (by decide : 0 < 256)
  | y :: ys => xor_lt' (prod_lt _ (hc y)) (sumC_lt hc x ys)
theorem sum_two {c : Nat → Nat} (hc : ∀ y, c y < 256) {x x0 y0 : Nat} (hx : x < 256) (hx0 : x0 < 256) (hy0 : y0 < 256) : ∀ ys : List Nat, (∀ y ∈ ys, y < 256 ∧ x ≠ y ∧ x0 ≠ y) →
    prod (x ^^^ y0) (sumC c x ys) ^^^ prod (x0 ^^^ y0) (sumC c x0 ys) = prod (x ^^^ x0) (sumC (fun y => prod (c y) (prod (y ^^^ y0) (inv (x0 ^^^ y)))) x ys)
  | [], _ => by simp [sumC, prod_zero]
  | y :: ys, h => by
    obtain ⟨hy, hxy, hx0y⟩ := h y (by simp)
    have hu : x ^^^ y < 256 := xor_lt' hx hy
    have hv : x0 ^^^ y < 256 := xor_lt' hx0 hy
    have hd : y ^^^ y0 < 256 := xor_lt' hy hy0
    have t := one_term (hc y) hd hu hv (inv_lt _) (inv_lt _) (prod_inv _ hu fun e => hxy (xor_zero e)) (prod_inv _ hv fun e => hx0y (xor_zero e))
    rw [show (x ^^^ y) ^^^ (y ^^^ y0) = x ^^^ y0 by rw [Nat.xor_assoc, xor_left_self], show (x0 ^^^ y) ^^^ (y ^^^ y0) = x0 ^^^ y0 by rw [Nat.xor_assoc, xor_left_self], show (x ^^^ y) ^^^ (x0 ^^^ y) = x ^^^ x0 by rw [Nat.xor_comm x0 y, Nat.xor_assoc, xor_left_self]] at t
    have ih := sum_two hc hx hx0 hy0 ys fun z hz => h z (by simp [hz])
    unfold sumC
    rw [prod_right, prod_right, prod_right, ← t, ← ih]
    simp only [Nat.xor_assoc]
    rw [xlc (prod (x ^^^ y0) (sumC c x ys))]
theorem sumC_congr {c d : Nat → Nat} (x : Nat) : ∀ ys : List Nat, (∀ y ∈ ys, c y = d y) → sumC c x ys = sumC d x ys
  | [], _ => rfl
  | y :: ys, h => by
    unfold sumC
    rw [h y (by simp), sumC_congr x ys fun z hz => h z (by simp [hz])]
theorem sumC_none {c : Nat → Nat} (x : Nat) : ∀ ys : List Nat, (∀ y ∈ ys, c y = 0) → sumC c x ys = 0
  | [], _ => rfl
  | y :: ys, h => by
    unfold sumC
    rw [h y (by simp), sumC_none x ys fun z hz => h z (by simp [hz]), zero_prod _ (inv_lt _)]
    rfl
theorem inv_ne {a : Nat} (ha : a < 256) (h0 : a ≠ 0) : inv a ≠ 0 := fun e => by
  have := prod_inv a ha h0
  rw [e, prod_zero] at this
  cases this
theorem cauchy : ∀ (ys xs : List Nat) (c : Nat → Nat), (∀ y, c y < 256) → xs.length = ys.length → ys.Nodup → xs.Nodup → (∀ y ∈ ys, y < 256) → (∀ x ∈ xs, x < 256) → (∀ x ∈ xs, ∀ y ∈ ys, x ≠ y) → (∀ x ∈ xs, sumC c x ys = 0) → ∀ y ∈ ys, c y = 0
  | [], _, _, _, _, _, _, _, _, _, _, y, hy => by cases hy
  | y0 :: ys, [], _, _, h, _, _, _, _, _, _, _, _ => by cases h
  | y0 :: ys, x0 :: xs, c, hc, hl, hdy, hdx, hby, hbx, hne, hs, y, hy => by
    have hy0 := hby y0 (by simp)
    have hx0 := hbx x0 (by simp)
    obtain ⟨hn1, hdy'⟩ := List.nodup_cons.1 hdy
    obtain ⟨hn2, hdx'⟩ := List.nodup_cons.1 hdx
    have hall : ∀ z ∈ ys, c z = 0 := by
      have ih := cauchy ys xs (fun y => prod (c y) (prod (y ^^^ y0) (inv (x0 ^^^ y)))) (fun y => prod_lt _ (hc y)) (by simpa using hl) hdy' hdx' (fun z hz => hby z (by simp [hz])) (fun z hz => hbx z (by simp [hz])) (fun x hx z hz => hne x (by simp [hx]) z (by simp [hz])) (fun x hx => by
        have hx' := hbx x (by simp [hx])
        have hs1 := hs x (by simp [hx])
        have hs0 := hs x0 (by simp)
        have t := sum_two hc hx' hx0 hy0 (y0 :: ys) (fun z hz => ⟨hby z hz, hne x (by simp [hx]) z hz, hne x0 (by simp) z hz⟩)
        rw [hs1, hs0, prod_zero, prod_zero, Nat.xor_self] at t
        have hlt : ∀ y, (fun y => prod (c y) (prod (y ^^^ y0) (inv (x0 ^^^ y)))) y < 256 := fun y => prod_lt _ (hc y)
        rcases (prod_nought _ _ (xor_lt' hx' hx0) (sumC_lt hlt x _)).1 t.symm with q | q
        · have := xor_zero q
          subst this
          exact absurd hx hn2
        · unfold sumC at q
          rw [Nat.xor_self, zero_prod _ (inv_lt _), prod_zero, zero_prod _ (inv_lt _), Nat.zero_xor] at q
          exact q)
      intro z hz
      have hz' := hby z (by simp [hz])
      have := ih z hz
      have hne0 : z ^^^ y0 ≠ 0 := fun e => by
        have := xor_zero e
        subst this
        exact hn1 hz
      have hne1 : x0 ^^^ z ≠ 0 := fun e => hne x0 (by simp) z (by simp [hz]) (xor_zero e)
      have hi : inv (x0 ^^^ z) ≠ 0 := inv_ne (xor_lt' hx0 hz') hne1
      rcases (prod_nought _ _ (hc z) (prod_lt _ (xor_lt' hz' hy0))).1 this with q | q
      · exact q
      · rcases (prod_nought _ _ (xor_lt' hz' hy0) (inv_lt _)).1 q with q | q
        · exact absurd q hne0
        · exact absurd q hi
    rcases List.mem_cons.1 hy with rfl | hy
    · have hs0 := hs x0 (by simp)
      unfold sumC at hs0
      rw [sumC_none x0 ys hall, Nat.xor_zero] at hs0
      have hne1 : x0 ^^^ y ≠ 0 := fun e => hne x0 (by simp) y (by simp) (xor_zero e)
      rcases (prod_nought _ _ (hc y) (inv_lt _)).1 hs0 with q | q
      · exact q
      · exact absurd q (inv_ne (xor_lt' hx0 hy0) hne1)
    · exact hall y hy
theorem sumC_cons (c : Nat → Nat) (x y : Nat) (ys : List Nat) : sumC c x (y :: ys) = prod (c y) (inv (x ^^^ y)) ^^^ sumC c x ys := rfl
theorem sumC_append (c : Nat → Nat) (x : Nat) (ys : List Nat) : ∀ xs : List Nat, sumC c x (xs ++ ys) = sumC c x xs ^^^ sumC c x ys
  | [] => by simp [sumC]
  | y :: xs => by
    rw [List.cons_append, sumC_cons, sumC_cons, sumC_append c x ys xs, Nat.xor_assoc]
theorem sumC_filter (c : Nat → Nat) (x : Nat) (p : Nat → Bool) : ∀ ys : List Nat, (∀ y ∈ ys, p y = false → c y = 0) → sumC c x (ys.filter p) = sumC c x ys
  | [], _ => rfl
  | y :: ys, h => by
    have ih := sumC_filter c x p ys fun z hz => h z (by simp [hz])
    by_cases hp : p y = true
    · rw [List.filter_cons_of_pos hp]
      unfold sumC
      rw [ih]
    · rw [List.filter_cons_of_neg hp, ih]
      have := h y (by simp) (by simpa using hp)
      conv => rhs; unfold sumC
      rw [this, zero_prod _ (inv_lt _), Nat.zero_xor]
def unL (S : Nat → Bool) (n : Nat) : Nat := ((List.range n).filter fun i => !S i).length
theorem unL_succ (S : Nat → Bool) (n : Nat) : unL S (n + 1) = unL S n + if S n = true then 0 else 1 := by
  unfold unL
  rw [List.range_succ, List.filter_append, List.length_append]
  cases h : S n <;> simp [h]
theorem un_all {S : Nat → Bool} {n : Nat} (h : ∀ i, i < n → S i = true) : unL S n = 0 := by
  induction n with
  | zero => rfl
  | succ n ih => rw [unL_succ, ih fun i hi => h i (by omega), if_pos (h n (by omega))]
theorem un_split (S : Nat → Bool) (k : Nat) : ∀ m, ((List.range (k + m)).filter fun i => decide (k ≤ i) && S i).length + unL S (k + m) = m + unL S k
  | 0 => by
    have : ((List.range (k + 0)).filter fun i => decide (k ≤ i) && S i) = [] := by
      rw [List.filter_eq_nil_iff]
      intro i hi
      have := List.mem_range.1 hi
      have h2 : ¬ k ≤ i := by omega
      simp [h2]
    rw [this, Nat.add_zero, List.length_nil]
  | m + 1 => by
    have ih := un_split S k m
    rw [← Nat.add_assoc, unL_succ, List.range_succ, List.filter_append, List.length_append]
    have hk : k ≤ k + m := by omega
    cases h : S (k + m) <;> simp [h, hk] <;> omega
theorem far {k n L : Nat} (hk : k ≤ n) (hn : n ≤ 255) (S : Nat → Bool) (D : Nat → Nat → Nat) (hD : ∀ j b, D j b < 256) (h1 : ∀ i, i < k → S i = true → ∀ b, b < L → D i b = 0)
    (h2 : ∀ i, k ≤ i → i < n → S i = true → ∀ b, b < L → sumC (fun j => D j b) i (List.range k) = 0) (hu : unL S n ≤ n - k) : ∀ j, j < k → ∀ b, b < L → D j b = 0 := by
  intro j hj b hb
  by_cases hS : S j = true
  · exact h1 j hj hS b hb
  · have hsp := un_split S k (n - k)
    rw [show k + (n - k) = n by omega] at hsp
    have hlen : ((List.range k).filter fun i => !S i).length ≤ ((List.range n).filter fun i => decide (k ≤ i) && S i).length := by
      have : ((List.range k).filter fun i => !S i).length = unL S k := rfl
      omega
    have hmem : ∀ x ∈ ((List.range n).filter fun i => decide (k ≤ i) && S i).take ((List.range k).filter fun i => !S i).length, k ≤ x ∧ x < n ∧ S x = true := by
      intro x hx
      have hx := List.mem_of_mem_take hx
      rw [List.mem_filter, List.mem_range] at hx
      simpa [and_assoc, and_left_comm, and_comm] using hx
    have hmy : ∀ y ∈ ((List.range k).filter fun i => !S i), y < k := by
      intro y hy
      rw [List.mem_filter, List.mem_range] at hy
      exact hy.1
    refine cauchy ((List.range k).filter fun i => !S i) (((List.range n).filter fun i => decide (k ≤ i) && S i).take ((List.range k).filter fun i => !S i).length) (fun j => D j b) (fun j => hD j b) (by rw [List.length_take]; omega) (List.nodup_range.filter _) (List.Pairwise.sublist (List.take_sublist _ _) (List.nodup_range.filter _)) (fun y hy => by have := hmy y hy; omega) (fun x hx => by have := hmem x hx; omega) (fun x hx y hy => by have := hmem x hx; have := hmy y hy; omega) (fun x hx => ?_) j ?_
    · obtain ⟨q1, q2, q3⟩ := hmem x hx
      rw [sumC_filter]
      · exact h2 x q1 q2 q3 b hb
      · intro y hy hp
        exact h1 y (List.mem_range.1 hy) (by simpa using hp) b hb
    · rw [List.mem_filter, List.mem_range]
      exact ⟨hj, by simpa using hS⟩
theorem row_at {k n i j : Nat} (hi : i < n) (hj : j < k) : gN (rwL (elL k n) k i) j = elF k i j := by
  have h : i * k + k ≤ (elL k n).length := by
    rw [elL_length, ← Nat.succ_mul]
    exact Nat.mul_le_mul_right _ hi
  have h2 : i * k + j < n * k := by rw [elL_length] at h; omega
  unfold gN
  rw [rw_get h hj, elL_get _ _ _ h2]
  unfold elP
  rw [(el_at hj).1, (el_at hj).2]
  simp
theorem mix_far {k n i : Nat} (hk : k ≤ i) (hi : i < n) (ds : List (List Int)) (b : Nat) : ∀ m, m ≤ k → mixV (rwL (elL k n) k i) ds m b = sumC (fun j => gN (ds.getD j []) b) i (List.range m)
  | 0, _ => rfl
  | m + 1, h => by
    unfold mixV
    rw [mix_far hk hi ds b m (by omega), List.range_succ, sumC_append, row_at hi (by omega)]
    unfold elF
    rw [if_neg (by omega)]
    simp [sumC]
theorem mix_near {k n i : Nat} (hk : i < k) (hi : i < n) (ds : List (List Int)) (b : Nat) (hd : ∀ j, gN (ds.getD j []) b < 256) : ∀ m, m ≤ k → mixV (rwL (elL k n) k i) ds m b = if i < m then gN (ds.getD i []) b else 0
  | 0, _ => rfl
  | m + 1, h => by
    unfold mixV
    rw [mix_near hk hi ds b hd m (by omega), row_at hi (by omega)]
    unfold elF
    rw [if_pos hk]
    by_cases he : i = m
    · subst he
      rw [if_pos rfl, if_neg (by omega), if_pos (by omega), prod_one _ (hd _), Nat.zero_xor]
    · rw [if_neg he, prod_zero, Nat.xor_zero]
      by_cases h2 : i < m
      · rw [if_pos h2, if_pos (by omega)]
      · rw [if_neg h2, if_neg (by omega)]
theorem mix_sum (row : List Int) (xs ys zs : List (List Int)) (b : Nat) : ∀ m, (∀ j, j < m → gN (xs.getD j []) b < 256 ∧ gN (ys.getD j []) b < 256 ∧ gN (zs.getD j []) b = gN (xs.getD j []) b ^^^ gN (ys.getD j []) b) → mixV row zs m b = mixV row xs m b ^^^ mixV row ys m b
  | 0, _ => by simp [mixV]
  | m + 1, h => by
    obtain ⟨h1, h2, h3⟩ := h m (by omega)
    unfold mixV
    rw [mix_sum row xs ys zs b m fun j hj => h j (by omega), h3, prod_left _ _ _ h1 h2]
    simp only [Nat.xor_assoc]
    rw [xlc (mixV row ys m b)]
theorem sumC_xor {c d : Nat → Nat} (hc : ∀ y, c y < 256) (hd : ∀ y, d y < 256) (x : Nat) : ∀ ys, sumC (fun y => c y ^^^ d y) x ys = sumC c x ys ^^^ sumC d x ys
  | [] => by simp [sumC]
  | y :: ys => by
    unfold sumC
    rw [sumC_xor hc hd x ys, prod_left _ _ _ (hc y) (hd y)]
    simp only [Nat.xor_assoc]
    rw [xlc (sumC c x ys)]
theorem slice_hh (W : World) (p : Option Addr) (n c h : Nat) (h2 : h ≤ c) : (Instr.slice 22 (.slice p n c) none (some (.int .i64 (h : Int))) none).run Try.prog W = .ok (.slice p h c) W := by
  have hel : Try.prog.elem 22 = 5 := by kernel_rfl
  have hh := run_slice_h (P := Try.prog) W 22 p n c (by rw [hel]; exact Try.underlying22) .i64 (h : Int) (by omega) (by omega)
  have hs : (sizeOf 5).run Try.prog W = .ok 1 W := size_u8 W
  rw [hh, hel, hs, Result.andThen_ok, Int.toNat_natCast]
  unfold sliced
  by_cases hc : c = 0
  · simp [hc]
  · cases p <;> simp [Addr.add, hc]
theorem HB.trim {w : World} {p : Option Addr} {c : Nat} {l : List Int} (h : HB w (.slice p l.length c) l) (N : Nat) (hN : N ≤ l.length) (hc : l.length ≤ c) : HB w (.slice p N c) (l.take N) := by
  have := h.sliced 0 N c (Nat.zero_le _) hN (by omega) (Nat.le_refl _)
  rw [Nat.sub_zero, Nat.sub_zero, List.drop_zero] at this
  have e2 : p.map (·.add 0) = p := by cases p <;> simp [Addr.add]
  rw [e2] at this
  by_cases h0 : c = 0
  · rwa [if_pos h0] at this
  · rwa [if_neg h0] at this
theorem run_append_OWL {w0 w : World} {v : Value} {ls : List (List Int)} (ty : TypeId) (hown : OWL w0 w v ls) (ad : Addr) (c : Nat) (u : Value) (l : List Int) (hx : w.cell? ad = some u) (hu : EL w0 w u l) (hu1 : u.oneCell' = true) (hn : (ls.length + 1) * 24 ≤ 140737488355328) (hbase : w0.heap.size ≤ w.heap.size) :
    ∃ v' w', (Builtin.append_ #[29, 29] ty #[v, .slice (some ad) 1 c]).run Try.prog w = .ok v' w' ∧ OWL w0 w' v' (ls ++ [l]) ∧ w.grownBy w' v.ownBlock ∧ (∀ g, v.ownBlock = some g → w0.heap.size ≤ g) := by
  obtain ⟨xs, hrow, hel⟩ := hown
  have hblk : ∀ g, v.ownBlock = some g → w0.heap.size ≤ g ∧ BT w g 22 := by
    intro g hg
    refine ⟨(hrow.lt g hg).1, ?_⟩
    rcases hrow.2 with ⟨rfl, _⟩ | ⟨g', cap, cur, rfl, _, hh, _⟩
    · simp [Value.ownBlock] at hg
    · simp only [Value.ownBlock, Option.some.injEq] at hg
      subst hg
      exact ⟨cur, _, hh⟩
  obtain ⟨v', w', h1, h2, h3, _⟩ := run_append_slice w w0.heap.size ty v ls.length xs hrow ad c u hx hu1 hn hbase
  refine ⟨v', w', h1, ⟨xs ++ [u], by rw [List.length_append]; exact h2, fun j hj => ?_⟩, h3, fun g hg => (hblk g hg).1⟩
  have key : ∀ u l, EL w0 w u l → EL w0 w' u l := fun u l he => he.grown h3 fun g hg => by
    obtain ⟨_, cur, fz, hh⟩ := hblk g hg
    exact ⟨cur, _, fz, hh, by decide⟩
  have hxl : xs.length = ls.length := by have := hrow.1; omega
  rw [getD_app, getD_app, hxl]
  rw [List.length_append, List.length_singleton] at hj
  split
  · exact key _ _ (hel j ‹_›)
  · have e : j - ls.length = 0 := by omega
    rw [e]
    exact key _ _ hu
def boD (xs ys : List (List Int)) (m : Nat) : List (List Int) := (List.range m).map fun j => boL (xs.getD j []) (ys.getD j [])
theorem boD_length (xs ys : List (List Int)) (m : Nat) : (boD xs ys m).length = m := by simp [boD]
theorem boD_succ (xs ys : List (List Int)) (m : Nat) : boD xs ys (m + 1) = boD xs ys m ++ [boL (xs.getD m []) (ys.getD m [])] := by simp [boD, List.range_succ]
theorem boD_get (xs ys : List (List Int)) (m j : Nat) (h : j < m) : (boD xs ys m).getD j [] = boL (xs.getD j []) (ys.getD j []) := by simp [boD, List.getD, h]
theorem HL.cells {w : World} {b o K c : Nat} {ds : List (List Int)} (h : HL w (.slice (some ⟨b, o, none⟩) K c) ds) (hl : ds.length = K) (h0 : 0 < K) : ∀ j, j < K → ∃ u, w.cell? ⟨b, o + j, none⟩ = some u ∧ HB w u (ds.getD j []) := by
  obtain ⟨b', o', c', e', _, _, hh⟩ := h.ne (by omega)
  rw [hl] at e' hh
  simp only [Value.slice.injEq, Option.some.injEq, Addr.mk.injEq, and_true, true_and] at e'
  obtain ⟨⟨rfl, rfl⟩, rfl⟩ := e'
  exact hh
theorem HB.shape {w : World} {u : Value} {l : List Int} (h : HB w u l) : ∃ p c, u = .slice p l.length c := by
  obtain ⟨p, c, e, _, _⟩ := h.open
  exact ⟨p, c, e⟩
theorem mixL_both (row : List Int) (xs ys : List (List Int)) (K L : Nat) (hx : ∀ j, j < K → (xs.getD j []).length = L) (hbx : ∀ j b, gN (xs.getD j []) b < 256) (hby : ∀ j b, gN (ys.getD j []) b < 256) :
    mixL row (boD xs ys K) K L = boL (mixL row xs K L) (mixL row ys K L) := by
  have e : (mixL row xs K L).length = L := tbL_length _ _
  unfold boL
  rw [e]
  unfold mixL
  refine tbL_congr fun i hi => ?_
  rw [mix_sum row xs ys (boD xs ys K) i K fun j hj => ⟨hbx j i, hby j i, by rw [boD_get _ _ _ _ hj, boL_gN _ (by rw [hx j hj]; exact hi)]⟩]
  show _ = ((tbL L (mixV row xs K)).getD i 0).toNat ^^^ ((tbL L (mixV row ys K)).getD i 0).toNat
  rw [tbL_get _ _ _ hi, tbL_get _ _ _ hi]
  simp
theorem tbL_inj {n : Nat} {f g : Nat → Nat} (h : tbL n f = tbL n g) : ∀ i, i < n → f i = g i := fun i hi => by
  have e := congrArg (fun l : List Int => l.getD i 0) h
  rw [tbL_get _ _ _ hi, tbL_get _ _ _ hi] at e
  omega
def alk (K M L : Nat) (X Y : List (List Int)) (i : Nat) : Bool := decide (mixL (rwL (elL K M) K i) X K L = mixL (rwL (elL K M) K i) Y K L)
theorem byt_gN {l : List Int} (h : ∀ x ∈ l, 0 ≤ x ∧ x < 256) (b : Nat) : l.getD b 0 = ((gN l b : Nat) : Int) ∧ gN l b < 256 := by
  have hb : 0 ≤ l.getD b 0 ∧ l.getD b 0 < 256 := by
    by_cases hl : b < l.length
    · have e : l.getD b 0 = l[b] := by simp [List.getD, hl]
      rw [e]
      exact h _ (List.getElem_mem _)
    · have e : l.getD b 0 = 0 := by simp [List.getD, List.getElem?_eq_none (Nat.le_of_not_lt hl)]
      rw [e]
      decide
  unfold gN
  omega
theorem far_all {K M L : Nat} (h1 : 1 ≤ K) (hk : K ≤ M) (hn : M ≤ 255) {X Y : List (List Int)} (hX : X.length = K) (hY : Y.length = K) (hXL : ∀ j, j < K → (X.getD j []).length = L) (hYL : ∀ j, j < K → (Y.getD j []).length = L)
    (bX : ∀ j, ∀ x ∈ X.getD j [], 0 ≤ x ∧ x < 256) (bY : ∀ j, ∀ x ∈ Y.getD j [], 0 ≤ x ∧ x < 256) (hu : unL (alk K M L X Y) M ≤ M - K) : X = Y ∧ unL (alk K M L X Y) M = 0 := by
  have gX : ∀ j b, gN (X.getD j []) b < 256 := fun j b => (byt_gN (bX j) b).2
  have gY : ∀ j b, gN (Y.getD j []) b < 256 := fun j b => (byt_gN (bY j) b).2
  have key := far (L := L) hk hn (alk K M L X Y) (fun j b => gN (X.getD j []) b ^^^ gN (Y.getD j []) b) (fun j b => xor_lt' (gX j b) (gY j b)) (fun i hi hS b hb => by
      have e := tbL_inj (of_decide_eq_true hS) b hb
      rw [mix_near hi (by omega) X b (fun j => gX j b) K (Nat.le_refl _), mix_near hi (by omega) Y b (fun j => gY j b) K (Nat.le_refl _), if_pos hi, if_pos hi] at e
      rw [e, Nat.xor_self]) (fun i hki hi hS b hb => by
      have e := tbL_inj (of_decide_eq_true hS) b hb
      rw [mix_far hki hi X b K (Nat.le_refl _), mix_far hki hi Y b K (Nat.le_refl _)] at e
      rw [sumC_xor (fun y => gX y b) (fun y => gY y b), e, Nat.xor_self]) hu
  have hXY : X = Y := by
    apply List.ext_getElem (by omega)
    intro j hj1 hj2
    have hjK : j < K := by omega
    have e1 : X[j] = X.getD j [] := by simp [List.getD, hj1]
    have e2 : Y[j] = Y.getD j [] := by simp [List.getD, hj2]
    rw [e1, e2]
    apply List.ext_getElem (by rw [hXL j hjK, hYL j hjK])
    intro b hb1 hb2
    have hb : b < L := by rw [hXL j hjK] at hb1; exact hb1
    have e3 : (X.getD j [])[b] = (X.getD j []).getD b 0 := (getD_of_lt hb1).symm
    have e4 : (Y.getD j [])[b] = (Y.getD j []).getD b 0 := (getD_of_lt hb2).symm
    rw [e3, e4, (byt_gN (bX j) b).1, (byt_gN (bY j) b).1, xor_zero (key j hjK b hb)]
  subst hXY
  exact ⟨rfl, un_all fun i hi => by unfold alk; simp⟩
end Go.Proofs.Ytmlhfjflkcenkaa
