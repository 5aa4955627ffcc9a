/- The law MatrixNone, put together. -/
import Derived.Test.YtcgablfjjcdciaaMatNoneWalk
set_option linter.unusedVariables false
set_option linter.unusedSimpArgs false
namespace Go.Proofs.Ytcgablfjjcdciaa
open Go Go.RowKit Ev

theorem seqN_enter (args : Array Value) (w : World) : (callFunc 60 args).run Try.prog w = .ok (.enter 60 args) w := by
  simp only [callFunc, program, Sem.run_bind, Result.andThen_ok, Sem.run, Try.func60]
  rfl
theorem seqN_any (args : Array Value) (w : World) : Calls Try.prog 60 args w fun e w' => (∃ v, e = .returned v) ∧ w' = w := by
  refine calls_of_wp Try.func60 (c := .skip) (by kernel_rfl) (wp_skip ?_)
  exact ⟨rfl, _, results_none rfl _ _ _, ⟨_, rfl⟩, rfl⟩
theorem heap_setN {w : World} {b d o : Nat} {v : Value} (h : d ≠ b) : (w.setCell ⟨b, o, none⟩ v).heap[d]? = w.heap[d]? := by
  simp only [World.setCell, Array.getElem?_modify]
  rw [if_neg (fun e => h e.symm)]
theorem below_setN {w0 w : World} {B b o : Nat} {v : Value} (h : Below B w0 w) (hb : B ≤ b) : Below B w0 (w.setCell ⟨b, o, none⟩ v) :=
  ⟨h.os, h.tape, h.output, by simpa [World.setCell] using h.size, fun k hk => (heap_setN (by omega)).trans (h.block k hk)⟩
theorem store_end {a : Act} {w : World} {b : Nat} {x : Value} (h2 : a.tmps[2]? = some (.pointer (some ⟨b, 0, none⟩))) (hc : w.cell? ⟨b, 0, none⟩ = some x) (hf : w.frozen? ⟨b, 0, none⟩ = false) {Q : Exit → Act → World → Prop} (hQ : Q .normal a (w.setCell ⟨b, 0, none⟩ (.bool true))) : R42.wp Try.prog Q a w := by
  rw [end_parts]
  refine wp_region_list (wpList_step fun K hK => ?_)
  have hr := run_storeCells_cells (P := Try.prog) b 0 [.bool true] 0 w (fun j hj => by simp at hj; subst hj; simp [hc]) (fun j hj => by simp at hj; subst hj; simpa using hf) (by simp [Value.oneCell'])
  split
  case isFalse => rename_i h; exact absurd rfl h
  obtain ⟨⟨r, s⟩, h3, h4⟩ := Option.map_eq_some_iff.1 (show (rowOf Try.prog 4).map Prod.snd = some 1 by kernel_rfl)
  simp only at h4
  subst h4
  obtain ⟨d, i, hu, hi, hd, hs⟩ := rowOf_ok h3
  have he : a.eval (.tmp 2) = .pointer (some ⟨b, 0, none⟩) := by simp [Act.eval, Array.getD_eq_getD_getElem?, h2]
  simp only [World.setCells] at hr
  unfold Oper.wp
  have hx : (Instr.storeAt 4 (a.eval (.tmp 2)) (a.eval (.const (.bool true)))).run Try.prog w = .ok () (w.setCell ⟨b, 0, none⟩ (.bool true)) := by
    rw [he]
    have hsz : i.size = 1 := by omega
    simp [Instr.storeAt, Instr.sureAddr, storeVar, sizeOf, typeInfo, hi, hsz, Act.eval, Value.cells, hr]
  simp only [execOp, Sem.run_bind, hx, Result.andThen_ok, Sem.run_pure]
  exact hK _ _ hQ
/-- Marks that hold nothing are left behind. -/
theorem leave_marks {fn : Func} {tmps : Array Value} {R : Ending → World → Prop} {b B : Nat} {w0 : World} (hR : ∀ w, Below B w0 w → w.cell? ⟨b, 0, none⟩ = some (.bool true) → ∃ v, (results fn tmps).run Try.prog w = .ok v w ∧ R (.returned v) w) :
    ∀ (ds : List Nat) (w : World), ds.Nodup → (∀ d ∈ ds, w.heap[d]? = some (.deferred (some [])) ∧ B ≤ d) → Below B w0 w → w.cell? ⟨b, 0, none⟩ = some (.bool true) → b ∉ ds →
    LeavesInM Fence.wide 1 Try.prog fn tmps R (ds.map fun d => { target := .collected d, args := #[] }) .returning w
  | [], w, _, _, hB, hc, _ => hR w hB hc
  | d :: ds, w, hn, hm, hB, hc, hb => by
    obtain ⟨h1, h2⟩ := hm d (List.mem_cons_self ..)
    obtain ⟨n1, n2⟩ := List.nodup_cons.1 hn
    refine ⟨by simp, .inl ⟨d, _, rfl, run_takeDeferred h1, ?_⟩⟩
    refine leave_marks hR ds _ n2 (fun e he => ?_) ?_ ?_ (fun h => hb (List.mem_cons_of_mem _ h))
    · obtain ⟨q1, q2⟩ := hm e (List.mem_cons_of_mem _ he)
      exact ⟨(World.putObj_heap_other (show e ≠ d from fun h => n1 (h ▸ he))).trans q1, q2⟩
    · exact ⟨hB.os, hB.tape, hB.output, by simpa using hB.size, fun k hk => (World.putObj_heap_other (by omega)).trans (hB.block k hk)⟩
    · rw [← hc]
      unfold World.cell?
      rw [World.putObj_heap_other (show b ≠ d from fun h => hb (h ▸ List.mem_cons_self ..))]

/-- What holds where a round begins. -/
structure IN (ρ : Env) (w0 : World) (ms : List Nat) (b k : Nat) (ds : List Nat) (a : Act) (w : World) : Prop where
  rel : RelT ρ ms (tmL 293 (tmsN (k : Nat))) a.tmps
  hold : Holds ρ ms (roH H1) w.heap.size w
  bel : Below w0.heap.size w0 w
  frz : w.frozen? ⟨b, 0, none⟩ = false
  marks : a.defers = ds.map fun d => { target := .collected d, args := #[] }
  nodup : ds.Nodup
  ok : ∀ d ∈ ds, w.heap[d]? = some (.deferred (some [])) ∧ w0.heap.size ≤ d
theorem IN.cell {ρ : Env} {w0 : World} {ms : List Nat} {b k : Nat} {ds : List Nat} {a : Act} {w : World} (h : IN ρ w0 ms b k ds a w) (hb : ms[1]? = some b) : w.cell? ⟨b, 0, none⟩ = some (.bool false) := by
  obtain ⟨v, h1, h2, _⟩ := h.hold.cell 1 b ⟨true, true, 0, [.bool false]⟩ hb rfl 0 (.bool false) rfl
  simp only [SV.inst, Option.some.injEq] at h1
  rw [h2, ← h1]
/-- A part of the code goes on. -/
theorem IN.step {ρ : Env} {w0 : World} {ms ms' : List Nat} {b k k' : Nat} {ds : List Nat} {a a' : Act} {w w' : World} {t : Tm} (h : IN ρ w0 ms b k ds a w) (hb : ms[1]? = some b) (h1 : ms <+: ms') (h2 : RelT ρ ms' t a'.tmps) (hs : selN t = sel0 (k' : Nat)) (h3 : a'.defers = a.defers) (h4 : Holds ρ ms' (roH H1) w.heap.size w') (h5 : Below w.heap.size w w') : ms' = ms ∧ IN ρ w0 ms b k' ds a' w' := by
  have e := sameN h1 (by rw [h.hold.len, h4.len])
  subst e
  have hlt : b < w.heap.size := World.block_lt_of_cell? w _ (h.cell hb)
  refine ⟨rfl, rel_sel h2 hs, ?_, h.bel.trans (h5.mono h.bel.size), ?_, h3.trans h.marks, h.nodup, fun d hd => ?_⟩
  · have := holds_ro h4
    rwa [roH_roH] at this
  · have hf := h.frz
    unfold World.frozen? at hf ⊢
    rw [h5.block b hlt]
    exact hf
  · obtain ⟨q1, q2⟩ := h.ok d hd
    exact ⟨(h5.block d (Array.getElem?_eq_some_iff.1 q1).1).trans q1, q2⟩
/-- A mark more. -/
theorem IN.mark {ρ : Env} {w0 : World} {ms : List Nat} {b k : Nat} {ds : List Nat} {a : Act} {w W : World} (h : IN ρ w0 ms b k ds a w) (hb : ms[1]? = some b) (hg : w.grownBy W none) (hd : W.heap[w.heap.size]? = some (.deferred (some []))) : IN ρ w0 ms b k (w.heap.size :: ds) { a with defers := { target := .collected w.heap.size, args := #[] } :: a.defers } W := by
  have hB : Below w.heap.size w W := ⟨hg.os, hg.tape, hg.output, hg.size, fun i hi => hg.block i hi (by simp)⟩
  have hlt : b < w.heap.size := World.block_lt_of_cell? w _ (h.cell hb)
  have old : ∀ d ∈ ds, d < w.heap.size := fun d hd => (Array.getElem?_eq_some_iff.1 (h.ok d hd).1).1
  refine ⟨h.rel, ?_, h.bel.trans (hB.mono h.bel.size), ?_, by simp [h.marks], List.nodup_cons.2 ⟨fun hm => absurd (old _ hm) (by omega), h.nodup⟩, fun d hm => ?_⟩
  · have := holds_ro (h.hold.below hB)
    rwa [roH_roH] at this
  · have hf := h.frz
    unfold World.frozen? at hf ⊢
    rw [hB.block b hlt]
    exact hf
  · rcases List.mem_cons.1 hm with rfl | hm
    · exact ⟨hd, h.bel.size⟩
    · obtain ⟨q1, q2⟩ := h.ok d hm
      exact ⟨(hB.block d (old d hm)).trans q1, q2⟩
theorem IN.at {ρ : Env} {w0 : World} {ms : List Nat} {b k : Nat} {ds : List Nat} {a : Act} {w : World} (h : IN ρ w0 ms b k ds a w) : a.tmps[17]? = some (.int .i64 (k : Int)) := by
  obtain ⟨v, h1, h2⟩ := h.rel.get (i := 17) (x := .tv (.sc (.int .i64 (.lit (k : Nat))))) (by kernel_rfl)
  simp only [AV.inst, TV.inst, SV.inst, Ex.den, Option.some.injEq] at h2
  rw [h1, ← h2]
theorem IN.at2 {ρ : Env} {w0 : World} {ms : List Nat} {b k : Nat} {ds : List Nat} {a : Act} {w : World} (h : IN ρ w0 ms b k ds a w) (hb : ms[1]? = some b) : a.tmps[2]? = some (.pointer (some ⟨b, 0, none⟩)) := by
  obtain ⟨v, h1, h2⟩ := h.rel.get (i := 2) (x := .tv (.sc (.ptr 1 0))) (by kernel_rfl)
  simp only [AV.inst, TV.inst, SV.inst, addr, hb, Option.map_some, Option.some.injEq] at h2
  rw [h1, ← h2]
theorem result_N {tmps : Array Value} {w : World} {b : Nat} (hs : tmps.size = 293) (h2 : tmps[2]? = some (.pointer (some ⟨b, 0, none⟩))) (hc : w.cell? ⟨b, 0, none⟩ = some (.bool true)) : (results Try.f4 tmps).run Try.prog w = .ok (.bool true) w := by
  have hT : RelT (envN (fun _ => 0) undef undef) [b] (tmL 293 [(2, .tv (.sc (.ptr 0 0)))]) ({ tmps, defers := [] } : Act).tmps := RelT.ofL hs.symm (by decide) (glN _) _ fun p hp => by
    simp only [List.mem_cons, List.not_mem_nil, or_false] at hp
    subst hp
    exact ⟨_, h2, rfl⟩
  have one : ∀ {α : Type} {i : Nat} {x y : α}, [x][i]? = some y → i = 0 ∧ y = x := fun {α i x y} h => by
    cases i with
    | zero => simp at h; exact ⟨rfl, h.symm⟩
    | succ i => simp at h
  have hlt : b < w.heap.size := World.block_lt_of_cell? w _ hc
  have hH : Holds (envN (fun _ => 0) undef undef) [b] [⟨true, true, 0, [.bool true]⟩] 0 w := by
    refine ⟨rfl, glN _, fun i j c k k' hi hj _ _ _ _ => by rw [(one hi).1, (one hj).1], fun _ _ _ _ _ _ => Nat.zero_le _, fun i c k hi hk _ => by rw [(one hi).2]; exact hlt, Nat.zero_le _, fun i k hk _ => by rw [(one hk).2]; rfl, fun i c k hi hk j s hj => ?_, fun i c d k0 k hi hc' => absurd (one hc').1 (by omega)⟩
    rw [(one hi).2]
    rw [(one hk).2] at hj ⊢
    obtain ⟨rfl, rfl⟩ := one hj
    exact ⟨_, rfl, hc, fun h => by cases h⟩
  obtain ⟨u, e1, e2⟩ := evResults_ok hT hH (show evResults Try.prog Try.f4 (tmL 293 [(2, .tv (.sc (.ptr 0 0)))]) [⟨true, true, 0, [.bool true]⟩] = some (.tv (.sc (.bool true))) by kernel_rfl)
  simp only [AV.inst, TV.inst, SV.inst, Option.some.injEq] at e1
  rw [e1]
  exact e2
def intN : Value → Int | .int _ k => k | _ => 0
theorem none_walk (w : World) (c : Nat → Int) (x y : Value) (hx : x.oneCell' = true) (hy : y.oneCell' = true) :
    Calls Try.prog 4 #[.agg #[.int .i64 (c 0), .int .i64 (c 1), .int .i64 (c 2), .int .i64 (c 3), .int .i64 (c 4), .int .i64 (c 5), x, y]] w fun e w' => e = .returned (.bool true) ∧ Below w.heap.size w w' := by
  refine (callsIn_wide (n := 1)).1 ?_
  refine callsIn_of_wp_marks Try.func4 (c := bodyN) (by kernel_rfl) trivial (wpIn_wide.2 ?_) rfl
  obtain ⟨ρ, hρ⟩ : ∃ ρ, envN c x y = ρ := ⟨_, rfl⟩
  have hT0 : RelT ρ [] (Tm.make 293 [.tv (.agg cellsN)]) (#[.agg #[.int .i64 (c 0), .int .i64 (c 1), .int .i64 (c 2), .int .i64 (c 3), .int .i64 (c 4), .int .i64 (c 5), x, y]] ++ Array.replicate (293 - 1) undef) := RelT.make (by
    rw [← hρ]
    simp [AV.inst, TV.inst, SV.inst, cellsN, envN, Ex.den, hx, hy, seqO]) (by decide) (by simp) (glN _)
  obtain ⟨⟨t1, H1'⟩, hr, he⟩ := Option.map_eq_some_iff.1 pre_evN
  simp only [Prod.mk.injEq] at he
  obtain ⟨tn, g1, g2, g14, g16, rfl⟩ := he
  refine evPre_ok (selfN ρ) 13 bodyN _ _ t1 H1 hr [] _ w hT0 (holds_nil ρ w) fun ms a w1 q1 q2 q3 q4 q5 => ?_
  rw [body_parts]
  have hl : ms.length = 12 := q4.len
  obtain ⟨b, hb⟩ : ∃ b, ms[1]? = some b := ⟨ms[1]'(by omega), List.getElem?_eq_getElem _⟩
  have hbw : w.heap.size ≤ b := q4.low 1 b _ hb rfl rfl
  have hfz : w1.frozen? ⟨b, 0, none⟩ = false := by
    obtain ⟨v, _, _, h3⟩ := q4.cell 1 b (newBlk [.bool false]) hb rfl 0 (.bool false) rfl
    exact h3 rfl
  have hT1 : RelT ρ ms (tmL 293 tm0N) a.tmps := RelT.ofL (by rw [← q2.sz, tn]) (by decide) (glN _) _ fun p hp => by
    simp only [tm0N, List.mem_cons, List.not_mem_nil, or_false] at hp
    rcases hp with rfl | rfl | rfl | rfl
    · exact q2.get g1
    · exact q2.get g2
    · exact q2.get g14
    · exact q2.get g16
  obtain ⟨⟨o5, t5, H5⟩, h5, e5⟩ := Option.map_eq_some_iff.1 r20_ev
  simp only [Prod.mk.injEq] at e5
  obtain ⟨rfl, hs5, rfl⟩ := e5
  refine wp_seq (wp_seq (selfN ρ R20 _ (roH H1) .normal t5 _ h5 ms w1.heap.size a w1 _ hT1 (holds_ro q4) fun ms' a2 w2 r1 r2 r3 r4 r5 => ?_))
  have ems := sameN r1 (by rw [q4.len, r4.len]; rfl)
  subst ems
  have hlt : b < w1.heap.size := q4.bnd 1 b _ hb rfl (by simp [newBlk])
  have I0 : IN ρ w ms' b 0 [] a2 w2 := by
    refine ⟨rel_sel r2 hs5, ?_, q5.trans (r5.mono q5.size), ?_, by rw [r3, q3]; rfl, List.nodup_nil, fun d hd => by cases hd⟩
    · have := holds_ro r4
      rwa [roH_roH] at this
    · have hf := hfz
      unfold World.frozen? at hf ⊢
      rw [r5.block b hlt]
      exact hf
  show Code.wp _ (Code.block 2 (.loop LBN)) _ a2 w2
  refine wp_block (wp_loop (fun a w' => ∃ k ds, k ≤ 2 ∧ IN ρ w ms' b k ds a w') (fun a _ => 2 - (intN (a.tmps.getD 17 undef)).toNat) ⟨0, [], by decide, I0⟩ ?_)
  rintro a3 w3 ⟨k, ds, hk, I⟩
  rw [loop_parts]
  by_cases h2 : k = 2
  · subst h2
    obtain ⟨⟨o6, t6, H6⟩, h6, e6⟩ := Option.map_eq_some_iff.1 out_ev
    simp only [Prod.mk.injEq] at e6
    obtain ⟨rfl, hs6, rfl⟩ := e6
    refine wp_seq (selfN ρ (fstN LBN) _ (roH H1) (.exit 2) t6 _ h6 ms' w3.heap.size a3 w3 _ I.rel I.hold fun ms4 a4 w4 s1 s2 s3 s4 s5 => ?_)
    obtain ⟨rfl, I4⟩ := I.step hb s1 s2 (k' := 2) hs6 s3 s4 s5
    show Code.wp _ (.seq R42 .ret) _ a4 w4
    refine wp_seq (store_end (I4.at2 hb) (I4.cell hb) I4.frz ?_)
    refine wp_ret ?_
    have hnb : b ∉ ds := fun hm => by
      have h1 := (I4.ok b hm).1
      have h2 := I4.cell hb
      unfold World.cell? at h2
      rw [h1] at h2
      cases h2
    show LeavesInM _ _ _ _ a4.tmps _ a4.defers _ _
    rw [I4.marks]
    refine leave_marks (b := b) (B := w.heap.size) (w0 := w) (fun W hB hc => ?_) ds _ I4.nodup (fun d hd => ?_) (below_setN I4.bel hbw) ?_ hnb
    · exact ⟨_, result_N (I4.rel.sz.symm.trans (by kernel_rfl)) (I4.at2 hb) hc, rfl, hB⟩
    · obtain ⟨p1, p2⟩ := I4.ok d hd
      exact ⟨(heap_setN (show d ≠ b from fun e => hnb (e ▸ hd))).trans p1, p2⟩
    · exact World.cell?_setCell_same _ _ _ (I4.cell hb)
  · have hk1 : k ≤ 1 := by omega
    obtain ⟨⟨o6, t6, H6⟩, h6, e6⟩ := Option.map_eq_some_iff.1 (if_ev k hk1)
    simp only [Prod.mk.injEq] at e6
    obtain ⟨rfl, hs6, rfl⟩ := e6
    refine wp_seq (selfN ρ (fstN LBN) _ (roH H1) .normal t6 _ h6 ms' w3.heap.size a3 w3 _ I.rel I.hold fun ms4 a4 w4 s1 s2 s3 s4 s5 => ?_)
    obtain ⟨rfl, I4⟩ := I.step hb s1 s2 (k' := k) hs6 s3 s4 s5
    show Code.wp _ (Code.seq (.block 3 RDN) R22) _ a4 w4
    obtain ⟨⟨t7, H7⟩, h7, e7⟩ := Option.map_eq_some_iff.1 (round_ev k hk1)
    simp only [Prod.mk.injEq] at e7
    obtain ⟨g284, hs7, rfl⟩ := e7
    refine wp_seq (wp_block ?_)
    refine evPre_ok (selfN ρ) 13 RDN _ _ t7 _ h7 ms4 a4 w4 I4.rel I4.hold fun ms5 a5 w5 z1 z2 z3 z4 z5 => ?_
    have e284 : a5.eval (.tmp 284) = .func (.func 60) #[] #[] := by
      obtain ⟨v, p1, p2⟩ := z2.get g284
      have p3 : v = .func (.func 60) #[] #[] := (Option.some.inj (show some (.func (.func 60) #[] #[]) = some v from p2)).symm
      simp [Act.eval, Array.getD_eq_getD_getElem?, p1, p3]
    obtain ⟨rfl, I5⟩ := I4.step hb z1 z2 (k' := k) hs7 z3 z4 z5
    rw [round_parts]
    refine wp_block (wp_range_none e284 seqN_enter seqN_any fun W hg hd => ?_)
    have I6 := I5.mark hb hg hd
    generalize ha6 : ({ a5 with defers := { target := .collected w5.heap.size, args := #[] } :: a5.defers } : Act) = a6 at I6
    show Code.wp _ R22 _ _ W
    obtain ⟨⟨o8, t8, H8⟩, h8, e8⟩ := Option.map_eq_some_iff.1 (r22_evN k hk1)
    simp only [Prod.mk.injEq] at e8
    obtain ⟨rfl, hs8, rfl⟩ := e8
    refine selfN ρ R22 _ (roH H1) .normal t8 _ h8 ms5 W.heap.size a6 W _ I6.rel I6.hold fun ms9 a9 w9 y1 y2 y3 y4 y5 => ?_
    obtain ⟨rfl, I9⟩ := I6.step hb y1 y2 (k' := k + 1) hs8 y3 y4 y5
    refine ⟨⟨k + 1, _, by omega, I9⟩, ?_⟩
    have m1 := I9.at
    have m2 := I.at
    simp only [Array.getD_eq_getD_getElem?, m1, m2, Option.getD_some, intN]
    omega
end Go.Proofs.Ytcgablfjjcdciaa
