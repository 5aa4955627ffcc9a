/- Of the road to octetChunks_holds: ChI, ChT, ChH, ChG, ApartG. -/
import Derived.Test.YtnifnoadfepegaaG04
import Derived.Test.YtnifnoadfepegaaG05
import Derived.Test.YtnifnoadfepegaaG03
import Derived.Deep.RegionHeld3
set_option linter.unusedVariables false
set_option linter.unusedSimpArgs false
namespace Go.Proofs.Ytnifnoadfepegaa
open Go Go.RowKit Go.Shelf
attribute [local go_sem] Oper.semAt_some
def nCh (l : List Int) (size : Int) : Nat := if size < 1 then 0 else chN l.length size.toNat
structure ItC (l : List Int) (size : Int) (gf : Nat) (lb : Array Value) (D : Nat → Prop) (w : World) : Prop where
  en : ∀ args W, (callFunc gf args).run Try.prog W = .ok (.enter gf args) W
  it : ∀ n, IterW Fence.wide n Try.prog gf lb (fun k v => #[.int .i64 ((chAt size.toNat k : Nat) : Int), v]) (fun k v S W => W.ownsRow S 5 1 v (chPiece l size.toNat k).length ((chPiece l size.toNat k).map (Value.int .u8))) D (nCh l size) w
  lt : ∀ i, D i → i < w.heap.size
theorem ItC.kept {l : List Int} {size : Int} {gf : Nat} {lb : Array Value} {D : Nat → Prop} {w W : World} (h : ItC l size gf lb D w) (k : KE D w W) : ItC l size gf lb D W :=
  ⟨h.en, fun n l' J Jx W' hK hJ hJx hY h0 => h.it n l' J Jx W' (k.trans hK) hJ hJx hY h0, fun i hi => Nat.lt_of_lt_of_le (h.lt i hi) k.1⟩
theorem fitS_ch (l : List Int) (s : Nat) : FitS (fun k v S W => W.ownsRow S 5 1 v (chPiece l s k).length ((chPiece l s k).map (Value.int .u8))) :=
  fun k v S A b o h hb => own_ofL h fun q e => World.putObj_heap_other (by have := (own_typC h e).2.1; omega)
theorem none_iterW (n : Nat) (w0 : World) (enc : Nat → Value → Array Value) (Fit : Nat → Value → Nat → World → Prop) : IterW Fence.wide n Try.prog 14 #[] enc Fit (fun _ => False) 0 w0 := fun l' J Jx W hK hJ hJx hY h0 => by
  refine callsIn_of_wp Try.func14 rfl trivial ?_ rfl
  simp only [Try.ntmps14, List.size_toArray, List.length_cons, List.length_nil, Nat.reduceAdd, Nat.reduceSub, Array.replicate_succ, Array.replicate_zero, List.push_toArray, List.append_toArray, List.nil_append, List.cons_append]
  gi_wp2
  go_end0
  exact ⟨⟨_, rfl⟩, .inl h0, Nat.le_refl _, fun _ _ => rfl⟩
set_option maxRecDepth 100000 in
set_option maxHeartbeats 2000000 in
theorem chunksI_any (w : World) (v : Value) (l : List Int) (size : Int) (h : HB w v l) (hbig : l.length ≤ 4000) :
    Calls Try.prog 6 #[v, .int .i64 size] w fun e w' => ∃ gf lb D, e = .returned (.func (.func gf) #[] lb) ∧ ItC l size gf lb D w' ∧ (∀ i, D i → w.heap.size ≤ i) ∧ Below w.heap.size w w' := by
  by_cases hs : size < 1
  · go_enter Try.func6, Try.ntmps6
    go_wp2_with fail
    go_ret
    refine ⟨14, #[], fun _ => False, rfl, ⟨enters_of Try.func14 (by kernel_rfl) rfl, fun n => ?_, fun _ h => h.elim⟩, fun _ h => h.elim, (Below.refl _ w).alloc (Nat.le_refl _) _⟩
    unfold nCh
    rw [if_pos hs]
    exact none_iterW n _ _ _
  · obtain ⟨S, rfl⟩ : ∃ S : Nat, size = (S : Int) := ⟨size.toNat, by omega⟩
    refine (chunks_any w v l S h (by omega) (by omega)).mono ?_
    rintro e w' ⟨hv, b5, b3, rfl, hbox, hD, hb⟩
    refine ⟨_, _, chD hv b5 b3, rfl, ⟨enters_of Try.func16 (by kernel_rfl) rfl, fun n => ?_, fun i hi => (hD i hi).2⟩, fun i hi => (hD i hi).1, hb⟩
    unfold nCh
    rw [if_neg hs, Int.toNat_natCast]
    exact chunks_iterW n w' hv b5 b3 l S (by omega) (by omega) hbox (fun i hi => (hD i hi).2)
structure GW (B cb : Nat) (w0 : World) (vg vw : Value) (xs us : List Value) (lg lw : List (List Int)) (W : World) : Prop where
  c : W.heap[cb]? = some (.cells #[vg, vw] 33 (0, 0))
  g : PX B W vg xs lg
  u : W.ownsRow B TE 1 vw lw.length us
  h : ∀ j, j < lw.length → HB w0 (us.getD j undef) (lw.getD j [])
  d : vw.ownBlock = none ∨ vw.ownBlock ≠ vg.ownBlock
def gwB (cb : Nat) (vg vw : Value) (xs : List Value) (b : Nat) : Prop := b = cb ∨ vg.ownBlock = some b ∨ vw.ownBlock = some b ∨ ∃ j, j < xs.length ∧ (xs.getD j undef).ownBlock = some b
theorem PX.own {B : Nat} {w w' : World} {v : Value} {xs : List Value} {ls : List (List Int)} (h : PX B w v xs ls) (h1 : ∀ b, v.ownBlock = some b → w'.heap[b]? = w.heap[b]?) (h2 : ∀ j, j < xs.length → ∀ b, (xs.getD j undef).ownBlock = some b → w'.heap[b]? = w.heap[b]?) : PX B w' v xs ls :=
  ⟨own_ofL h.row h1, ⟨h.apt.1, fun j hj => own_ofL (h.apt.2.1 j hj) (h2 j hj), h.apt.2.2⟩, h.byt⟩
section
variable {B cb : Nat} {w0 W C : World} {vg vw : Value} {xs us : List Value} {lg lw : List (List Int)}
theorem GW.keep (h : GW B cb w0 vg vw xs us lg lw W) (hk : ∀ b, gwB cb vg vw xs b → C.heap[b]? = W.heap[b]?) : GW B cb w0 vg vw xs us lg lw C :=
  ⟨(hk cb (.inl rfl)).trans h.c, h.g.own (fun b e => hk b (.inr (.inl e))) (fun j hj b e => hk b (.inr (.inr (.inr ⟨j, hj, e⟩)))), own_ofL h.u (fun b e => hk b (.inr (.inr (.inl e)))), h.h, h.d⟩
theorem GW.lt (h : GW B cb w0 vg vw xs us lg lw W) : ∀ b, gwB cb vg vw xs b → b < W.heap.size := by
  rintro b (rfl | e | e | ⟨j, hj, e⟩)
  · exact (Array.getElem?_eq_some_iff.1 h.c).1
  · exact (h.g.lies.1 b e).2
  · exact (own_typC h.u e).1
  · exact (h.g.lies.2 j hj b e).2
theorem GW.low (h : GW B cb w0 vg vw xs us lg lw W) : ∀ b, gwB cb vg vw xs b → b = cb ∨ B ≤ b := by
  rintro b (rfl | e | e | ⟨j, hj, e⟩)
  · exact .inl rfl
  · exact .inr (h.g.lies.1 b e).1
  · exact .inr (own_typC h.u e).2.1
  · exact .inr (h.g.lies.2 j hj b e).1
theorem GW.start (h : W.heap[cb]? = some (.cells #[.slice none 0 0, .slice none 0 0] 33 (0, 0))) : GW B cb w0 (.slice none 0 0) (.slice none 0 0) [] [] [] [] W :=
  ⟨h, PX.nil _ _, World.ownsRow_nil _ _ _ _, fun j hj => absurd hj (Nat.not_lt_zero _), .inl rfl⟩
end
structure MC (w : World) (cb : Nat) (M : List (Nat × Obj)) (E : Nat → Prop) (W : World) : Prop where
  m : ∀ p ∈ M, W.heap[p.1]? = some p.2 ∧ ¬ E p.1
  e : ∀ i, E i → w.heap.size ≤ i
  g : w.grownBy W (some cb)
theorem grown_two {w A C : World} {cb : Nat} {row : Option Nat} (h : w.grownBy A (some cb)) (k : A.grownBy C row) (hr : ∀ r, row = some r → w.heap.size ≤ r ∨ r = cb) : w.grownBy C (some cb) :=
  ⟨k.os.trans h.os, k.tape.trans h.tape, k.output.trans h.output, Nat.le_trans h.size k.size, fun i hi hne => (k.block i (Nat.lt_of_lt_of_le hi h.size) fun e => by
    rcases hr i e.symm with q | q
    · omega
    · exact hne (by rw [q])).trans (h.block i hi hne)⟩
theorem MC.more {w A C : World} {cb : Nat} {M : List (Nat × Obj)} {E : Nat → Prop} (h : MC w cb M E A) (hg : A.grownBy C none) : MC w cb M (fun i => E i ∨ (A.heap.size ≤ i ∧ i < C.heap.size)) C := by
  refine ⟨fun p hp => ?_, fun i hi => ?_, grown_two h.g hg (fun r e => by cases e)⟩
  · have hl := (Array.getElem?_eq_some_iff.1 (h.m p hp).1).1
    exact ⟨(hg.block _ hl (by simp)).trans (h.m p hp).1, fun q => q.elim (h.m p hp).2 (fun z => by omega)⟩
  · rcases hi with z | z
    · exact h.e i z
    · have := h.g.size; omega
theorem MC.turn {w A C : World} {cb : Nat} {M : List (Nat × Obj)} {E : Nat → Prop} {r : Nat} (h : MC w cb M E A) (hr : E r) (hg : A.grownBy C (some r)) : MC w cb M E C :=
  ⟨fun p hp => ⟨(hg.block _ (Array.getElem?_eq_some_iff.1 (h.m p hp).1).1 (fun e => (h.m p hp).2 (by cases e; exact hr))).trans (h.m p hp).1, (h.m p hp).2⟩, h.e, grown_two h.g hg (fun q e => by cases e; exact .inl (h.e _ hr))⟩
theorem MC.less {w A : World} {cb : Nat} {M : List (Nat × Obj)} {E E' : Nat → Prop} (h : MC w cb M E A) (hl : ∀ i, E' i → E i) : MC w cb M E' A :=
  ⟨fun p hp => ⟨(h.m p hp).1, fun q => (h.m p hp).2 (hl _ q)⟩, fun i hi => h.e i (hl i hi), h.g⟩
theorem MC.at {w W : World} {cb : Nat} {M : List (Nat × Obj)} {E : Nat → Prop} (h : MC w cb M E W) {b : Nat} {o : Obj} (hm : (b, o) ∈ M) : W.heap[b]? = some o := (h.m (b, o) hm).1
theorem MC.cell {w W : World} {cb : Nat} {M : List (Nat × Obj)} {E : Nat → Prop} (h : MC w cb M E W) {b : Nat} {v : Value} {t : TypeId} (hm : (b, Obj.cells #[v] t (0, 0)) ∈ M) : W.cell? ⟨b, 0, none⟩ = some v := (cell_of_row _ _ _ _ _ _ (h.at hm)).trans rfl
theorem bk_setC {w : World} {b : Nat} {cs : Array Value} {t : TypeId} (h : w.heap[b]? = some (.cells cs t (0, 0))) {i : Nat} {v : Value} : (w.setCell ⟨b, i, none⟩ v).heap[b]? = some (.cells (cs.setIfInBounds i v) t (0, 0)) := by
  simp [World.setCell, Array.getElem?_modify, h]
theorem owp_appendC {o : Oper} {a : Act} {w w' : World} {K : Act → World → Prop} {Q : Exit → Act → World → Prop} {v v' : Value} {ad : Addr} {c : Nat} (s x : Operand)
    (ho : o.op = .call { callee := .builtin .append, args := #[s, x], argTypes := #[24, 24] }) (hs : a.eval s = v) (hx : a.eval x = .slice (some ad) 1 c)
    (hr : (Builtin.append_ #[24, 24] o.type #[v, .slice (some ad) 1 c]).run Try.prog w = .ok v' w') (h : K (a.put o.dst v') w') : o.wp Try.prog a w K Q := by
  unfold Oper.wp execOp
  simp only [ho, resolve, invoke, builtin, Sem.run_bind, Sem.run_pure, Result.andThen_ok, List.map_toArray, List.map_cons, List.map_nil, hs, hx, hr]
  exact h
structure StG (w : World) (cb : Nat) (X : Nat → Prop) (W W' : World) : Prop where
  sz : W.heap.size ≤ W'.heap.size
  fr : ∀ b, b < W.heap.size → ¬ X b → W'.heap[b]? = W.heap[b]?
  gr : w.grownBy W (some cb) → w.grownBy W' (some cb)
section
variable {B cb : Nat} {w0 w W : World} {vg vw : Value} {xs us : List Value} {lg lw : List (List Int)}
theorem GW.got (h : GW B cb w0 vg vw xs us lg lw W) {S : Nat} {u : Value} {l : List Int} (hS : ∀ b, gwB cb vg vw xs b → b < S) (hBS : B ≤ S) (hu : W.ownsRow S 5 1 u l.length (l.map (Value.int .u8))) (hby : BytI l) (hBW : B ≤ W.heap.size) (hSW : S ≤ W.heap.size) (hcb : cb < B) (hwB : w.heap.size ≤ B) (hn : (lg.length + 1) * 24 ≤ 140737488355328) (ty : TypeId) :
    ∃ v' W2, (Builtin.append_ #[24, 24] ty #[vg, .slice (some ⟨W.heap.size, 0, none⟩) 1 1]).run Try.prog (W.alloc (.cells #[u] 22)) = .ok v' W2 ∧ W2.heap[cb]? = some (.cells #[vg, vw] 33 (0, 0)) ∧
      (∃ p c, v' = .slice p (lg.length + 1) c) ∧ GW B cb w0 v' vw (xs ++ [u]) us (lg ++ [l]) lw (W2.setCell ⟨cb, 0, none⟩ v') ∧ StG w cb (gwB cb vg vw xs) W (W2.setCell ⟨cb, 0, none⟩ v') ∧ (∀ b, gwB cb v' vw (xs ++ [u]) b → gwB cb vg vw xs b ∨ S ≤ b) := by
  obtain ⟨pu, cu, eu⟩ := own_slc hu
  obtain ⟨W1, HW1⟩ : ∃ x, W.alloc (.cells #[u] 22) = x := ⟨_, rfl⟩
  have hs1 : W1.heap.size = W.heap.size + 1 := by rw [← HW1]; simp
  have b1 : ∀ b, b < W.heap.size → W1.heap[b]? = W.heap[b]? := fun b hb => by rw [← HW1]; exact Below.heap_alloc W _ b hb
  have g1 := h.g.own (w' := W1) (fun b e => b1 b (h.lt b (.inr (.inl e)))) (fun j hj b e => b1 b (h.lt b (.inr (.inr (.inr ⟨j, hj, e⟩)))))
  have u1 : W1.ownsRow S 5 1 u l.length (l.map (Value.int .u8)) := own_ofL hu fun b e => b1 b (own_typC hu e).1
  have w1 := own_ofL h.u (w' := W1) fun b e => b1 b (own_typC h.u e).1
  have c1 : W1.heap[cb]? = some (.cells #[vg, vw] 33 (0, 0)) := (b1 cb (h.lt cb (.inl rfl))).trans h.c
  have hc : W1.cell? ⟨W.heap.size, 0, none⟩ = some u := by rw [← HW1, cell_of_row _ _ _ _ _ _ (heap_alloc_new W _)]; rfl
  obtain ⟨v', W2, hr, h2, h3, h4⟩ := run_append_slice W1 B ty vg lg.length xs g1.row ⟨W.heap.size, 0, none⟩ 1 u hc (by rw [eu]; rfl) hn (by omega)
  have hg1 : W.grownBy W1 none := by rw [← HW1]; exact World.grownBy_alloc W _ none
  -- what the append leaves
  have keep2 : ∀ b, b < W1.heap.size → vg.ownBlock ≠ some b → W2.heap[b]? = W1.heap[b]? := fun b hb hne => h3.block b hb fun e => hne e.symm
  have c2 : W2.heap[cb]? = some (.cells #[vg, vw] 33 (0, 0)) := (keep2 cb (by have := h.lt cb (.inl rfl); omega) fun e => by have := (h.g.lies.1 cb e).1; omega).trans c1
  have hfresh : ∀ j, j < xs.length → u.ownBlock = none ∨ u.ownBlock ≠ (xs.getD j undef).ownBlock := fun j hj => by
    cases q : u.ownBlock with
    | none => exact .inl rfl
    | some b =>
      refine .inr fun z => ?_
      have h5 := (own_typC hu q).2.1
      have h6 := hS b (.inr (.inr (.inr ⟨j, hj, z.symm⟩)))
      omega
  have hv'b : ∀ b, v'.ownBlock = some b → vg.ownBlock = some b ∨ W1.heap.size ≤ b := fun b e => by
    rcases h4 with q | q
    · exact .inl (q.symm.trans e)
    · rw [q] at e
      have := Option.some.inj e
      exact .inr (by omega)
  have hub : vg.ownBlock = none ∨ u.ownBlock = none ∨ u.ownBlock ≠ vg.ownBlock := by
    cases q : u.ownBlock with
    | none => exact .inr (.inl rfl)
    | some b =>
      refine .inr (.inr fun z => ?_)
      have h5 := (own_typC hu q).2.1
      have h6 := hS b (.inr (.inl z.symm))
      omega
  have r2 : ∀ {t : TypeId} {n : Nat} {v : Value} {ys : List Value} {B' : Nat}, W1.ownsRow B' t 1 v n ys → (v.ownBlock = none ∨ v.ownBlock ≠ vg.ownBlock) → W2.ownsRow B' t 1 v n ys := fun ho hd => own_ofL ho fun b e => keep2 b (own_typC ho e).1 fun z => by
    rcases hd with q | q
    · rw [q] at e; cases e
    · exact q (e.trans z.symm)
  have hxne : ∀ j, j < xs.length → (xs.getD j undef).ownBlock = none ∨ (xs.getD j undef).ownBlock ≠ vg.ownBlock := fun j hj => by
    rcases own_nothC (g1.apt.2.1 j hj) g1.row (by decide) with q | q
    · exact .inl q
    · exact .inr q
  have hune : u.ownBlock = none ∨ u.ownBlock ≠ vg.ownBlock := own_nothC u1 g1.row (by decide)
  have apt2 : Apt B W2 xs lg := ⟨g1.apt.1, fun j hj => r2 (g1.apt.2.1 j hj) (hxne j hj), g1.apt.2.2⟩
  have u2 : W2.ownsRow B 5 1 u l.length (l.map (Value.int .u8)) := own_mono (r2 u1 hune) hBS
  have px2 : PX B W2 v' (xs ++ [u]) (lg ++ [l]) := ⟨by rw [List.length_append]; exact h2, apt2.snoc u2 hfresh, fun j hj => by
    rw [List.length_append, List.length_singleton] at hj
    rw [getD_app]
    split
    · exact h.g.byt j ‹_›
    · have e : j - lg.length = 0 := by omega
      rw [e]
      exact hby⟩
  have w2 := r2 w1 h.d
  -- the store
  have nb : ∀ b, b ≠ cb → (W2.setCell ⟨cb, 0, none⟩ v').heap[b]? = W2.heap[b]? := fun b hb => heap_setCell_other _ _ _ _ (by simpa using hb)
  have hsz2 : W1.heap.size ≤ W2.heap.size := h3.size
  have geB : ∀ {t : TypeId} {n : Nat} {v : Value} {ys : List Value}, W2.ownsRow B t 1 v n ys → ∀ b, v.ownBlock = some b → b ≠ cb := fun ho b e => by have := (own_typC ho e).2.1; omega
  have px3 := px2.own (w' := W2.setCell ⟨cb, 0, none⟩ v') (fun b e => nb b (geB px2.row b e)) (fun j hj b e => nb b (geB (px2.apt.2.1 j hj) b e))
  have w3 := own_ofL w2 (w' := W2.setCell ⟨cb, 0, none⟩ v') fun b e => nb b (geB w2 b e)
  refine ⟨v', W2, by rw [HW1]; exact hr, c2, own_slc h2, ⟨?_, px3, w3, h.h, ?_⟩, ⟨by simp; omega, fun b hb hx => ?_, fun hgw => ?_⟩, fun b hb => ?_⟩
  · rw [bk_setC c2]
    rfl
  · cases q : vw.ownBlock with
    | none => exact .inl rfl
    | some b =>
      refine .inr fun z => ?_
      rcases hv'b b z.symm with e | e
      · rcases h.d with d | d
        · rw [d] at q; cases q
        · exact d (q.trans e.symm)
      · have := (own_typC w1 q).1
        omega
  · rw [nb b (fun e => hx (.inl e)), keep2 b (by omega) (fun e => hx (.inr (.inl e))), b1 b hb]
  · have k1 := grown_two hgw hg1 (fun r e => by cases e)
    have k2 := grown_two k1 h3 (fun r e => .inl (by have := (h.g.lies.1 r e).1; omega))
    exact grown_two k2 (grown_set W2 cb 0 v') (fun r e => by cases e; exact .inr rfl)
  · rcases hb with rfl | e | e | ⟨j, hj, e⟩
    · exact .inl (.inl rfl)
    · rcases hv'b b e with q | q
      · exact .inl (.inr (.inl q))
      · right
        have h7 := h.lt cb (.inl rfl)
        by_cases q0 : u.ownBlock = none
        · have : S ≤ S := Nat.le_refl _
          exact Nat.le_trans hSW (by omega)
        · exact Nat.le_trans hSW (by omega)
    · exact .inl (.inr (.inr (.inl e)))
    · rw [getD_app] at e
      split at e
      · exact .inl (.inr (.inr (.inr ⟨j, ‹_›, e⟩)))
      · rw [List.length_append, List.length_singleton] at hj
        have e0 : j - xs.length = 0 := by omega
        rw [e0] at e
        exact .inr (own_typC hu e).2.1
theorem GW.want (h : GW B cb w0 vg vw xs us lg lw W) {u : Value} {l : List Int} (hu : HB w0 u l) (hBW : B ≤ W.heap.size) (hcb : cb < B) (hwB : w.heap.size ≤ B) (hn : (lw.length + 1) * 24 ≤ 140737488355328) (ty : TypeId) :
    ∃ v' W2, (Builtin.append_ #[24, 24] ty #[vw, .slice (some ⟨W.heap.size, 0, none⟩) 1 1]).run Try.prog (W.alloc (.cells #[u] 22)) = .ok v' W2 ∧ W2.heap[cb]? = some (.cells #[vg, vw] 33 (0, 0)) ∧
      (∃ p c, v' = .slice p (lw.length + 1) c) ∧ GW B cb w0 vg v' xs (us ++ [u]) lg (lw ++ [l]) (W2.setCell ⟨cb, 1, none⟩ v') ∧ StG w cb (gwB cb vg vw xs) W (W2.setCell ⟨cb, 1, none⟩ v') ∧ (∀ b, gwB cb vg v' xs b → gwB cb vg vw xs b ∨ W.heap.size ≤ b) := by
  obtain ⟨pu, cu, eu, _, _⟩ := hu.open
  obtain ⟨W1, HW1⟩ : ∃ x, W.alloc (.cells #[u] 22) = x := ⟨_, rfl⟩
  have hs1 : W1.heap.size = W.heap.size + 1 := by rw [← HW1]; simp
  have b1 : ∀ b, b < W.heap.size → W1.heap[b]? = W.heap[b]? := fun b hb => by rw [← HW1]; exact Below.heap_alloc W _ b hb
  have g1 := h.g.own (w' := W1) (fun b e => b1 b (h.lt b (.inr (.inl e)))) (fun j hj b e => b1 b (h.lt b (.inr (.inr (.inr ⟨j, hj, e⟩)))))
  have w1 := own_ofL h.u (w' := W1) fun b e => b1 b (own_typC h.u e).1
  have c1 : W1.heap[cb]? = some (.cells #[vg, vw] 33 (0, 0)) := (b1 cb (h.lt cb (.inl rfl))).trans h.c
  have hc : W1.cell? ⟨W.heap.size, 0, none⟩ = some u := by rw [← HW1, cell_of_row _ _ _ _ _ _ (heap_alloc_new W _)]; rfl
  obtain ⟨v', W2, hr, h2, h3, h4⟩ := run_append_slice W1 B ty vw lw.length us w1 ⟨W.heap.size, 0, none⟩ 1 u hc (by rw [eu]; rfl) hn (by omega)
  have hg1 : W.grownBy W1 none := by rw [← HW1]; exact World.grownBy_alloc W _ none
  have keep2 : ∀ b, b < W1.heap.size → vw.ownBlock ≠ some b → W2.heap[b]? = W1.heap[b]? := fun b hb hne => h3.block b hb fun e => hne e.symm
  have c2 : W2.heap[cb]? = some (.cells #[vg, vw] 33 (0, 0)) := (keep2 cb (by have := h.lt cb (.inl rfl); omega) fun e => by have := (own_typC h.u e).2.1; omega).trans c1
  have hv'b : ∀ b, v'.ownBlock = some b → vw.ownBlock = some b ∨ W1.heap.size ≤ b := fun b e => by
    rcases h4 with q | q
    · exact .inl (q.symm.trans e)
    · rw [q] at e
      have := Option.some.inj e
      exact .inr (by omega)
  have hxne : ∀ j, j < xs.length → ∀ b, (xs.getD j undef).ownBlock = some b → vw.ownBlock ≠ some b := fun j hj b e z => by
    rcases own_nothC (g1.apt.2.1 j hj) w1 (by decide) with q | q
    · rw [q] at e; cases e
    · exact q (e.trans z.symm)
  have hgne : ∀ b, vg.ownBlock = some b → vw.ownBlock ≠ some b := fun b e z => by
    rcases h.d with q | q
    · rw [q] at z; cases z
    · exact q (z.trans e.symm)
  have px2 : PX B W2 vg xs lg := g1.own (fun b e => keep2 b (own_typC g1.row e).1 (hgne b e)) (fun j hj b e => keep2 b (own_typC (g1.apt.2.1 j hj) e).1 (hxne j hj b e))
  have w2 : W2.ownsRow B TE 1 v' (lw ++ [l]).length (us ++ [u]) := by rw [List.length_append]; exact h2
  have nb : ∀ b, b ≠ cb → (W2.setCell ⟨cb, 1, none⟩ v').heap[b]? = W2.heap[b]? := fun b hb => heap_setCell_other _ _ _ _ (by simpa using hb)
  have hsz2 : W1.heap.size ≤ W2.heap.size := h3.size
  have px3 := px2.own (w' := W2.setCell ⟨cb, 1, none⟩ v') (fun b e => nb b (by have := (own_typC px2.row e).2.1; omega)) (fun j hj b e => nb b (by have := (own_typC (px2.apt.2.1 j hj) e).2.1; omega))
  have w3 := own_ofL w2 (w' := W2.setCell ⟨cb, 1, none⟩ v') fun b e => nb b (by have := (own_typC w2 e).2.1; omega)
  have hul : us.length = lw.length := by have := h.u.1; omega
  refine ⟨v', W2, by rw [HW1]; exact hr, c2, own_slc h2, ⟨?_, px3, w3, fun j hj => ?_, ?_⟩, ⟨by simp; omega, fun b hb hx => ?_, fun hgw => ?_⟩, fun b hb => ?_⟩
  · rw [bk_setC c2]
    rfl
  · rw [List.length_append, List.length_singleton] at hj
    rw [getD_app, getD_app, hul]
    split
    · exact h.h j ‹_›
    · have e : j - lw.length = 0 := by omega
      rw [e]
      exact hu
  · cases q : v'.ownBlock with
    | none => exact .inl rfl
    | some b =>
      refine .inr fun z => ?_
      rcases hv'b b q with e | e
      · exact hgne b z.symm e
      · have := (own_typC g1.row z.symm).1
        omega
  · rw [nb b (fun e => hx (.inl e)), keep2 b (by omega) (fun e => hx (.inr (.inr (.inl e)))), b1 b hb]
  · have k1 := grown_two hgw hg1 (fun r e => by cases e)
    have k2 := grown_two k1 h3 (fun r e => .inl (by have := (own_typC h.u e).2.1; omega))
    exact grown_two k2 (grown_set W2 cb 1 v') (fun r e => by cases e; exact .inr rfl)
  · rcases hb with rfl | e | e | ⟨j, hj, e⟩
    · exact .inl (.inl rfl)
    · exact .inl (.inr (.inl e))
    · rcases hv'b b e with q | q
      · exact .inl (.inr (.inr (.inl q)))
      · exact .inr (by omega)
    · exact .inl (.inr (.inr (.inr ⟨j, hj, e⟩)))
end
def GI (B cb : Nat) (w0 w : World) (M : List (Nat × Obj)) (ls : List (List Int)) (E : Nat → Prop) (W : World) : Prop :=
  (∃ vg vw xs us, (GW B cb w0 vg vw xs us ls ls W ∧ ∀ b, gwB cb vg vw xs b → ¬ E b) ∧ ∀ p ∈ M, ¬ gwB cb vg vw xs p.1) ∧ MC w cb M E W
theorem jn_GW (B cb : Nat) (w0 w : World) (M : List (Nat × Obj)) (vg vw : Value) (xs us : List Value) (lg lw : List (List Int)) : JN (fun (_ : Unit) E W => (GW B cb w0 vg vw xs us lg lw W ∧ ∀ b, gwB cb vg vw xs b → ¬ E b) ∧ MC w cb M E W) where
  more := fun s E A C ⟨⟨h1, h2⟩, h3⟩ hg => ⟨⟨h1.keep fun b hb => hg.block b (h1.lt b hb) (by simp), fun b hb q => q.elim (h2 b hb) (fun z => by have := h1.lt b hb; omega)⟩, h3.more hg⟩
  turn := fun s E A C r ⟨⟨h1, h2⟩, h3⟩ hE hg _ => ⟨⟨h1.keep fun b hb => hg.block b (h1.lt b hb) (fun e => h2 b hb (by cases e; exact hE)), h2⟩, h3.turn hE hg⟩
  less := fun s E E' A ⟨⟨h1, h2⟩, h3⟩ hl => ⟨⟨h1, fun b hb q => h2 b hb (hl b q)⟩, h3.less hl⟩
theorem jn_ex {α β : Type} {J : α → β → (Nat → Prop) → World → Prop} (h : ∀ a, JN (J a)) : JN (fun s E W => ∃ a, J a s E W) where
  more := fun s E A C ⟨a, q⟩ hg => ⟨a, (h a).more s E A C q hg⟩
  turn := fun s E A C r ⟨a, q⟩ hE hg hs => ⟨a, (h a).turn s E A C r q hE hg hs⟩
  less := fun s E E' A ⟨a, q⟩ hl => ⟨a, (h a).less s E E' A q hl⟩
theorem jn_and {β : Type} {J : β → (Nat → Prop) → World → Prop} (h : JN J) (R : β → Prop) : JN (fun s E W => R s ∧ J s E W) where
  more := fun s E A C ⟨r, q⟩ hg => ⟨r, h.more s E A C q hg⟩
  turn := fun s E A C r' ⟨r, q⟩ hE hg hs => ⟨r, h.turn s E A C r' q hE hg hs⟩
  less := fun s E E' A ⟨r, q⟩ hl => ⟨r, h.less s E E' A q hl⟩
theorem jn_GI {β : Type} (B cb : Nat) (w0 w : World) (M : β → List (Nat × Obj)) (ls : β → List (List Int)) (R : β → Prop) : JN (fun s E W => R s ∧ GI B cb w0 w (M s) (ls s) E W) where
  more := fun s E A C ⟨hr, ⟨vg, vw, xs, us, h1, h4⟩, h3⟩ hg => by
    have := (jn_GW B cb w0 w (M s) vg vw xs us (ls s) (ls s)).more () E A C ⟨h1, h3⟩ hg
    exact ⟨hr, ⟨vg, vw, xs, us, this.1, h4⟩, this.2⟩
  turn := fun s E A C r ⟨hr, ⟨vg, vw, xs, us, h1, h4⟩, h3⟩ hE hg hs => by
    have := (jn_GW B cb w0 w (M s) vg vw xs us (ls s) (ls s)).turn () E A C r ⟨h1, h3⟩ hE hg hs
    exact ⟨hr, ⟨vg, vw, xs, us, this.1, h4⟩, this.2⟩
  less := fun s E E' A ⟨hr, ⟨vg, vw, xs, us, h1, h4⟩, h3⟩ hl => by
    have := (jn_GW B cb w0 w (M s) vg vw xs us (ls s) (ls s)).less () E E' A ⟨h1, h3⟩ hl
    exact ⟨hr, ⟨vg, vw, xs, us, this.1, h4⟩, this.2⟩
theorem in_region_N {P : Program} {ops : Array Oper} {K : Act → World → Prop} {Qq : Exit → Act → World → Prop} {S : World → Prop} {l n id : Nat} {a : Act} {w : World} (hm : P.follows .mixedOrders = true) (hc : ops.all (fun o => Ev.calmO o && Ev.dstFree [] o) = true) (k : Nat)
    (h : Ev.wpN P ops (fun e a' w' => e = .normal ∧ Exit.then K Qq e a' w') S (fun j => j == k) ops.size false (Array.replicate ops.size false) a w.drew) : (Code.region id ops true).wpIn (Fence.wide.inRound l) n P (Exit.then K Qq) a w :=
  wpIn_mono (wpIn_region_any hm (Ev.any_in (ro := some l) (Y := []) (yv := undef) (Q := fun e a' w' => e = .normal ∧ Exit.then K Qq e a' w') (fun e a w q => q.1) hc _ _ _ _ (Ev.wpAny_of_N (W := fun j => j == k) (S := S) _ false _ _ _ h) (fun y hy => by cases hy))) (fun e a' w' q => q.1.2)
end Go.Proofs.Ytnifnoadfepegaa
namespace Go.Proofs.Ytnifnoadfepegaa
open Go Go.RowKit Go.Shelf
attribute [local go_sem] Oper.semAt_some
theorem eql_func_nilC : ∀ (w : World) (f : Fn) (a b : Array Value), (binOp .eql 29 (.func f a b) .nilFunc).run Try.prog w = .ok (.bool false) w := fun w f a b => by
  have h : ∀ d : Nat, (Op.equalIn (d + 1) 29 (.func f a b) .nilFunc).run Try.prog w = .ok false w := fun d => by
    simp [Op.equalIn, run_underlying Try.underlying29]
  simp only [binOp]
  simp [Op.equal, Op.maxDepth, h 9999]
theorem callRC {P : Program} {lp n : Nat} {f : FuncId} {args : Array Value} {w : World} {R : Ending → World → Prop} (h : Calls P f args w R) : CallsIn (Fence.wide.inRound lp) n P f args w R := CallsIn.inRound lp (callsIn_wide.2 h)
theorem owp_litC {P : Program} {o : Oper} {a : Act} {w w' : World} {K : Act → World → Prop} {Q : Exit → Act → World → Prop} (t : TypeId) (len : Nat) (parts : Array (Nat × Operand)) (ho : o.op = .buildSlice t len parts) (ps : Array (Nat × Value)) (hps : (parts.map fun (i, x) => (i, a.eval x)) = ps) (v : Value)
    (hr : (Instr.buildSlice t len ps).run P w = .ok v w') (h : K (a.put o.dst v) w') : Oper.wp P o a w K Q := by
  unfold Oper.wp execOp
  simp only [ho, Sem.run_bind, hps, hr, Result.andThen_ok]
  exact h
theorem run_lit_bsC (w : World) (p : Option Addr) (n c : Nat) : (Instr.buildSlice 24 1 #[(0, .slice p n c)]).run Try.prog w = .ok (.slice (some ⟨w.heap.size, 0, none⟩) 1 1) (w.alloc (.cells #[.slice p n c] 22)) := by kernel_rfl
def thM (b0 b1 b2 b3 b4 b5 cb : Nat) (stop : Int) (vpl vpc : Value) (r : Bool) (k : Nat) : List (Nat × Obj) :=
  [(b0, .cells #[.pointer (some ⟨cb, 0, none⟩)] 41 (0, 0)), (b1, .cells #[.int .i64 stop] 3 (0, 0)), (b2, .cells #[vpl] 23 (0, 0)), (b3, .cells #[vpc] 24 (0, 0)), (b4, .cells #[.bool r] 4 (0, 0)), (b5, .cells #[.int .i64 (k : Int)] 3 (0, 0))]
theorem MC.st {w W W' : World} {cb : Nat} {M : List (Nat × Obj)} {E X : Nat → Prop} (h : MC w cb M E W) (hst : StG w cb X W W') (hm : ∀ p ∈ M, ¬ X p.1) : MC w cb M E W' :=
  ⟨fun p hp => ⟨(hst.fr p.1 (Array.getElem?_eq_some_iff.1 (h.m p hp).1).1 (hm p hp)).trans (h.m p hp).1, (h.m p hp).2⟩, h.e, hst.gr h.g⟩
theorem StG.ke {w W W' : World} {cb : Nat} {E X : Nat → Prop} (hst : StG w cb X W W') (hE : ∀ i, E i → i < W.heap.size) (hx : ∀ b, X b → ¬ E b) : KE E W W' := ⟨hst.sz, fun i hi => hst.fr i (hE i hi) fun q => hx i q hi⟩
theorem th_next {w W : World} {b0 b1 b2 b3 b4 b5 cb : Nat} {stop : Int} {vpl vpc : Value} {r : Bool} {k : Nat} {E : Nat → Prop} (h : MC w cb (thM b0 b1 b2 b3 b4 b5 cb stop vpl vpc r k) E W) (hz : w.heap.size ≤ b5 ∧ b0 < b5 ∧ b1 < b5 ∧ b2 < b5 ∧ b3 < b5 ∧ b4 < b5) :
    MC w cb (thM b0 b1 b2 b3 b4 b5 cb stop vpl vpc r (k + 1)) E (W.setCell ⟨b5, 0, none⟩ (.int .i64 ((k : Int) + 1))) := by
  have nb : ∀ b, b < b5 → (W.setCell ⟨b5, 0, none⟩ (.int .i64 ((k : Int) + 1))).heap[b]? = W.heap[b]? := fun b hb => heap_setCell_other _ _ _ _ (by simp; omega)
  refine ⟨fun p hp => ?_, h.e, grown_two h.g (grown_set W b5 0 _) (fun r e => by cases e; exact .inl hz.1)⟩
  simp only [thM, List.mem_cons, List.not_mem_nil, or_false] at hp
  rcases hp with rfl | rfl | rfl | rfl | rfl | rfl
  · have q := h.m (b0, _) (by simp [thM]; exact .inl rfl)
    exact ⟨(nb b0 hz.2.1).trans q.1, q.2⟩
  · have q := h.m (b1, .cells #[.int .i64 stop] 3 (0, 0)) (by simp [thM])
    exact ⟨(nb b1 hz.2.2.1).trans q.1, q.2⟩
  · have q := h.m (b2, .cells #[vpl] 23 (0, 0)) (by simp [thM])
    exact ⟨(nb b2 hz.2.2.2.1).trans q.1, q.2⟩
  · have q := h.m (b3, .cells #[vpc] 24 (0, 0)) (by simp [thM])
    exact ⟨(nb b3 hz.2.2.2.2.1).trans q.1, q.2⟩
  · have q := h.m (b4, .cells #[.bool r] 4 (0, 0)) (by simp [thM])
    exact ⟨(nb b4 hz.2.2.2.2.2).trans q.1, q.2⟩
  · have q := h.m (b5, .cells #[.int .i64 (k : Int)] 3 (0, 0)) (by simp [thM])
    refine ⟨?_, q.2⟩
    rw [bk_setC q.1]
    simp
theorem th_true {w W : World} {b0 b1 b2 b3 b4 b5 cb : Nat} {stop : Int} {vpl vpc : Value} {k : Nat} {E : Nat → Prop} (h : MC w cb (thM b0 b1 b2 b3 b4 b5 cb stop vpl vpc false k) E W) (hz : w.heap.size ≤ b4 ∧ b0 < b4 ∧ b1 < b4 ∧ b2 < b4 ∧ b3 < b4 ∧ b4 < b5) :
    MC w cb (thM b0 b1 b2 b3 b4 b5 cb stop vpl vpc true k) E (W.setCell ⟨b4, 0, none⟩ (.bool true)) := by
  have nb : ∀ b, b ≠ b4 → (W.setCell ⟨b4, 0, none⟩ (.bool true)).heap[b]? = W.heap[b]? := fun b hb => heap_setCell_other _ _ _ _ (by simpa using hb)
  refine ⟨fun p hp => ?_, h.e, grown_two h.g (grown_set W b4 0 _) (fun r e => by cases e; exact .inl hz.1)⟩
  simp only [thM, List.mem_cons, List.not_mem_nil, or_false] at hp
  rcases hp with rfl | rfl | rfl | rfl | rfl | rfl
  · have q := h.m (b0, _) (by simp [thM]; exact .inl rfl)
    exact ⟨(nb b0 (by omega)).trans q.1, q.2⟩
  · have q := h.m (b1, .cells #[.int .i64 stop] 3 (0, 0)) (by simp [thM])
    exact ⟨(nb b1 (by omega)).trans q.1, q.2⟩
  · have q := h.m (b2, .cells #[vpl] 23 (0, 0)) (by simp [thM])
    exact ⟨(nb b2 (by omega)).trans q.1, q.2⟩
  · have q := h.m (b3, .cells #[vpc] 24 (0, 0)) (by simp [thM])
    exact ⟨(nb b3 (by omega)).trans q.1, q.2⟩
  · have q := h.m (b4, .cells #[.bool false] 4 (0, 0)) (by simp [thM])
    refine ⟨?_, q.2⟩
    rw [bk_setC q.1]
    simp
  · have q := h.m (b5, .cells #[.int .i64 (k : Int)] 3 (0, 0)) (by simp [thM])
    exact ⟨(nb b5 (by omega)).trans q.1, q.2⟩
theorem nCh_le (l : List Int) (size : Int) (hl : l.length ≤ 4000) : nCh l size ≤ 4000 := by
  unfold nCh
  split
  · omega
  · have := chN_le (len := l.length) (size := size.toNat) (by omega)
    omega
theorem MC.drew {w W : World} {cb : Nat} {M : List (Nat × Obj)} {E : Nat → Prop} (h : MC w cb M E W) : MC w cb M E W.drew := ⟨h.m, h.e, grown_two h.g (grown_below (r := none) (Below.refl _ W).drew) (fun r e => by cases e)⟩
theorem th_keys {b0 b1 b2 b3 b4 b5 cb : Nat} {stop : Int} {vpl vpc : Value} {r r' : Bool} {k k' : Nat} {Q : Nat → Prop} (h : ∀ p ∈ thM b0 b1 b2 b3 b4 b5 cb stop vpl vpc r k, Q p.1) : ∀ p ∈ thM b0 b1 b2 b3 b4 b5 cb stop vpl vpc r' k', Q p.1 := fun p hp => by
  have h1 : p.1 ∈ (thM b0 b1 b2 b3 b4 b5 cb stop vpl vpc r' k').map Prod.fst := List.mem_map_of_mem hp
  have h2 : p.1 ∈ (thM b0 b1 b2 b3 b4 b5 cb stop vpl vpc r k).map Prod.fst := h1
  obtain ⟨q, hq, e⟩ := List.mem_map.1 h2
  exact e ▸ h q hq
theorem ke_set {E : Nat → Prop} {W : World} {b i : Nat} (hb : ¬ E b) (v : Value) : KE E W (W.setCell ⟨b, i, none⟩ v) := ⟨by simp, fun j hj => heap_setCell_other _ _ _ _ (by simpa using fun e : j = b => hb (e ▸ hj))⟩
theorem gw_set {B cb : Nat} {w0 W : World} {vg vw : Value} {xs us : List Value} {lg lw : List (List Int)} (h : GW B cb w0 vg vw xs us lg lw W) {b i : Nat} (hb : ¬ gwB cb vg vw xs b) (v : Value) : GW B cb w0 vg vw xs us lg lw (W.setCell ⟨b, i, none⟩ v) := h.keep fun j hj => heap_setCell_other _ _ _ _ (by simpa using fun e : j = b => hb (e ▸ hj))
theorem results_boolT {fn : Func} {p : Tmp} (h : fn.results = #[.cell p 4]) (tmps : Array Value) (w : World) (g : Nat) (b : Bool) (hp : tmps.getD p undef = .pointer (some ⟨g, 0, none⟩)) (hc : w.cell? ⟨g, 0, none⟩ = some (.bool b)) : (results fn tmps).run Try.prog w = .ok (.bool b) w := by
  have hp' : tmps[p]?.getD undef = .pointer (some ⟨g, 0, none⟩) := by simpa using hp
  simp only [results, h]
  simp [hp', asAddr]
  clear hp hp'
  go_simp
set_option maxRecDepth 100000 in
set_option maxHeartbeats 8000000 in
theorem through_ok (w0 w : World) (cb : Nat) (vb : Value) (l : List Int) (size stop : Int) (vpl vpc : Value) (B1 B2 : Nat) (xs0 : List Value)
    (hc : w.heap[cb]? = some (.cells #[.slice none 0 0, .slice none 0 0] 33 (0, 0))) (hb : HB w vb l) (hl : l.length ≤ 4000)
    (hpl : w.ownsRow B1 3 1 vpl (nCh l size) (plL size.toNat (nCh l size))) (hpc : PX B2 w vpc xs0 (pcL l size.toNat (nCh l size)))
    (hp0 : ∀ j, j < nCh l size → HB w0 (xs0.getD j undef) ((pcL l size.toNat (nCh l size)).getD j [])) :
    Calls Try.prog 8 #[.pointer (some ⟨cb, 0, none⟩), vb, .int .i64 size, .int .i64 stop, vpl, vpc] w fun e w' => e = .returned (.bool true) ∧ ∃ n vg vw xs us, n ≤ nCh l size ∧ GW w.heap.size cb w0 vg vw xs us (pcL l size.toNat n) (pcL l size.toNat n) w' ∧ w.grownBy w' (some cb) := by
  have hmx : Try.prog.follows .mixedOrders = true := by kernel_rfl
  have HC := hid hc
  have HPL := hid hpl
  have HPC := hid hpc
  have HBb := hid hb
  have HP0 := hid hp0
  have hcw := (Array.getElem?_eq_some_iff.1 hc).1
  have hN4 := nCh_le l size hl
  obtain ⟨N, HN⟩ : ∃ N, Hid (nCh l size = N) := ⟨_, rfl⟩
  obtain ⟨s, HSz⟩ : ∃ s, Hid (size.toNat = s) := ⟨_, rfl⟩
  have CI := hid fun W (hW : Below w.heap.size w W) => chunksI_any W vb l size (hb.below hW) hl
  rw [HN.out] at HPL HPC HP0 hN4 ⊢
  rw [HSz.out] at HPL HPC HP0 ⊢
  obtain ⟨pl, cl, el⟩ := own_slc HPL.out
  obtain ⟨pc, cc, ec⟩ := own_slc HPC.out.row
  subst el
  subst ec
  rw [pcL_len] at HPC ⊢
  clear hc hb hpl hpc hp0
  obtain ⟨wA, HWA⟩ : ∃ x, Hid (w.alloc (.cells #[.pointer (some ⟨cb, 0, none⟩)] 41) = x) := ⟨_, rfl⟩
  obtain ⟨wB, HWB⟩ : ∃ x, Hid (wA.alloc (.cells #[.int .i64 stop] 3) = x) := ⟨_, rfl⟩
  obtain ⟨wC, HWC⟩ : ∃ x, Hid (wB.alloc (.cells #[.slice pl N cl] 23) = x) := ⟨_, rfl⟩
  obtain ⟨wD, HWD⟩ : ∃ x, Hid (wC.alloc (.cells #[.slice pc N cc] 24) = x) := ⟨_, rfl⟩
  obtain ⟨wE, HWE⟩ : ∃ x, Hid (wD.alloc (.cells #[.bool false] 4) = x) := ⟨_, rfl⟩
  have sA : wA.heap.size = w.heap.size + 1 := by rw [← HWA.out]; simp
  have sB : wB.heap.size = wA.heap.size + 1 := by rw [← HWB.out]; simp
  have sC : wC.heap.size = wB.heap.size + 1 := by rw [← HWC.out]; simp
  have sD : wD.heap.size = wC.heap.size + 1 := by rw [← HWD.out]; simp
  have sE : wE.heap.size = wD.heap.size + 1 := by rw [← HWE.out]; simp
  have bA : Below w.heap.size w wA := by rw [← HWA.out]; exact (Below.refl _ _).alloc (Nat.le_refl _) _
  have bB : Below wA.heap.size wA wB := by rw [← HWB.out]; exact (Below.refl _ _).alloc (Nat.le_refl _) _
  have bC : Below wB.heap.size wB wC := by rw [← HWC.out]; exact (Below.refl _ _).alloc (Nat.le_refl _) _
  have bD : Below wC.heap.size wC wD := by rw [← HWD.out]; exact (Below.refl _ _).alloc (Nat.le_refl _) _
  have bE : Below wD.heap.size wD wE := by rw [← HWE.out]; exact (Below.refl _ _).alloc (Nat.le_refl _) _
  have BE := hid ((((bA.trans (bB.mono (by omega))).trans (bC.mono (by omega))).trans (bD.mono (by omega))).trans (bE.mono (by omega)))
  obtain ⟨b1, Hb1⟩ : ∃ x, Hid (w.heap.size + 1 = x) := ⟨_, rfl⟩
  obtain ⟨b2, Hb2⟩ : ∃ x, Hid (b1 + 1 = x) := ⟨_, rfl⟩
  obtain ⟨b3, Hb3⟩ : ∃ x, Hid (b2 + 1 = x) := ⟨_, rfl⟩
  obtain ⟨b4, Hb4⟩ : ∃ x, Hid (b3 + 1 = x) := ⟨_, rfl⟩
  obtain ⟨b0, Hb0⟩ : ∃ x, Hid (w.heap.size = x) := ⟨_, rfl⟩
  have e1 : wA.heap.size = b1 := by have := Hb1.out; omega
  have e2 : wB.heap.size = b2 := by have := Hb2.out; omega
  have e3 : wC.heap.size = b3 := by have := Hb3.out; omega
  have e4 : wD.heap.size = b4 := by have := Hb4.out; omega
  have X0 : Hid (wE.heap[b0]? = some (.cells #[.pointer (some ⟨cb, 0, none⟩)] 41 (0, 0))) := hid (by
    rw [bE.block b0 (by have := Hb0.out; omega), bD.block b0 (by have := Hb0.out; omega), bC.block b0 (by have := Hb0.out; omega), bB.block b0 (by have := Hb0.out; omega), ← Hb0.out, ← HWA.out]
    exact heap_alloc_new w _)
  have X1 : Hid (wE.heap[b1]? = some (.cells #[.int .i64 stop] 3 (0, 0))) := hid (by
    rw [bE.block b1 (by omega), bD.block b1 (by omega), bC.block b1 (by omega), ← e1, ← HWB.out]
    exact heap_alloc_new wA _)
  have X2 : Hid (wE.heap[b2]? = some (.cells #[.slice pl N cl] 23 (0, 0))) := hid (by
    rw [bE.block b2 (by omega), bD.block b2 (by omega), ← e2, ← HWC.out]
    exact heap_alloc_new wB _)
  have X3 : Hid (wE.heap[b3]? = some (.cells #[.slice pc N cc] 24 (0, 0))) := hid (by
    rw [bE.block b3 (by omega), ← e3, ← HWD.out]
    exact heap_alloc_new wC _)
  have X4 : Hid (wE.heap[b4]? = some (.cells #[.bool false] 4 (0, 0))) := hid (by
    rw [← e4, ← HWE.out]
    exact heap_alloc_new wD _)
  have SZ : Hid (b0 = w.heap.size ∧ cb < b0 ∧ b0 < b1 ∧ b1 < b2 ∧ b2 < b3 ∧ b3 < b4 ∧ wE.heap.size = b4 + 1) := hid ⟨Hb0.out.symm, by rw [← Hb0.out]; exact hcw, by have := Hb0.out; have := Hb1.out; omega, by have := Hb2.out; omega, by have := Hb3.out; omega, by have := Hb4.out; omega, by omega⟩
  clear bA bB bC bD bE sA sB sC sD sE e1 e2 e3 e4
  refine (callsIn_wide (n := 3)).1 ?_
  refine callsIn_of_wp_marks Try.func8 rfl trivial (wpIn_wide.2 ?_) rfl
  simp only [Try.ntmps8, List.size_toArray, List.length_cons, List.length_nil, Nat.reduceAdd, Nat.reduceSub, Array.replicate_succ, Array.replicate_zero, List.push_toArray, List.append_toArray, List.nil_append, List.cons_append]
  go_wp2_with fail
  rw [HWA.out, HWB.out, HWC.out, HWD.out, HWE.out, Hb1.out, Hb2.out, Hb3.out, Hb4.out, Hb0.out]
  refine (CI.out wE BE.out).mono ?_
  rintro e w6 ⟨gf, lb, D, rfl, hit, hDl, hb6⟩
  have IT := hid hit
  have B6 := hid hb6
  have HDl := hid hDl
  obtain ⟨wF, HWF⟩ : ∃ x, Hid ((w6.alloc (.cells #[.int .i64 0] 3)) = x) := ⟨_, rfl⟩
  have heq := eql_func_nilC w6 (.func gf) #[] lb
  clear hit hDl hb6 CI
  go_wp2_with fail
  rw [HWF.out]
  obtain ⟨b5, Hb5⟩ : ∃ x, Hid (w6.heap.size = x) := ⟨_, hid rfl⟩
  rw [Hb5.out]
  have bF : Below w6.heap.size w6 wF := by rw [← HWF.out]; exact (Below.refl _ _).alloc (Nat.le_refl _) _
  have BEF := hid (B6.out.trans (bF.mono B6.out.size))
  have BF := hid (BE.out.trans (BEF.out.mono BE.out.size))
  have h5 : wE.heap.size ≤ b5 := by rw [← Hb5.out]; exact B6.out.size
  have X5 : wF.heap[b5]? = some (.cells #[.int .i64 0] 3 (0, 0)) := by rw [← Hb5.out, ← HWF.out]; exact heap_alloc_new w6 _
  have sF : wF.heap.size = b5 + 1 := by rw [← HWF.out, ← Hb5.out]; simp
  have HDF : Hid (∀ i, D i → i < wF.heap.size ∧ wE.heap.size ≤ i ∧ i ≠ b5) := hid fun i hi => by
    have h1 := IT.out.lt i hi
    have h2 := HDl.out i hi
    rw [Hb5.out] at h1
    omega
  have kef : KE D w6 wF := ⟨bF.size, fun i hi => bF.block i (IT.out.lt i hi)⟩
  have hcE : Hid (wF.heap[cb]? = some (.cells #[.slice none 0 0, .slice none 0 0] 33 (0, 0))) := hid ((BF.out.block cb hcw).trans HC.out)
  have M0 : Hid (MC w cb (thM b0 b1 b2 b3 b4 b5 cb stop (.slice pl N cl) (.slice pc N cc) false 0) D wF) := hid (by
    have hz := SZ.out
    refine ⟨fun p hp => ?_, fun i hi => ?_, grown_below (r := some cb) BF.out⟩
    · have hD : ∀ i, D i → i < wF.heap.size ∧ wE.heap.size ≤ i ∧ i ≠ b5 := HDF.out
      have key : ∀ b, b < wE.heap.size → ¬ D b := fun b hb q => by have := (hD b q).2.1; omega
      simp only [thM, List.mem_cons, List.not_mem_nil, or_false] at hp
      rcases hp with rfl | rfl | rfl | rfl | rfl | rfl
      · exact ⟨(BEF.out.block _ (by show b0 < _; omega)).trans X0.out, key _ (by show b0 < _; omega)⟩
      · exact ⟨(BEF.out.block _ (by show b1 < _; omega)).trans X1.out, key _ (by show b1 < _; omega)⟩
      · exact ⟨(BEF.out.block _ (by show b2 < _; omega)).trans X2.out, key _ (by show b2 < _; omega)⟩
      · exact ⟨(BEF.out.block _ (by show b3 < _; omega)).trans X3.out, key _ (by show b3 < _; omega)⟩
      · exact ⟨(BEF.out.block _ (by show b4 < _; omega)).trans X4.out, key _ (by show b4 < _; omega)⟩
      · exact ⟨X5, fun q => (hD _ q).2.2 rfl⟩
    · have := (HDF.out i hi).2.1
      omega)
  have G0 : Hid (GI w.heap.size cb w0 w (thM b0 b1 b2 b3 b4 b5 cb stop (.slice pl N cl) (.slice pc N cc) false 0) [] D wF) := hid (by
    have hz := SZ.out
    have only : ∀ b, gwB cb (.slice none 0 0) (.slice none 0 0) [] b → b = cb := by
      rintro b (rfl | e | e | ⟨j, hj, _⟩)
      · rfl
      · cases e
      · cases e
      · simp at hj
    refine ⟨⟨_, _, [], [], ⟨GW.start hcE.out, fun b hb q => ?_⟩, fun p hp q => ?_⟩, M0.out⟩
    · have := (HDF.out b q).2.1
      have := only b hb
      omega
    · have h1 := only _ q
      simp only [thM, List.mem_cons, List.not_mem_nil, or_false] at hp
      rcases hp with rfl | rfl | rfl | rfl | rfl | rfl <;> simp only at h1 <;> omega)
  clear bF X5 sF h5
  refine (wpIn_wide (n := 3)).1 ?_
  have hItN := IT.out.it (3 - 1)
  rw [HN.out, HSz.out] at hItN
  apply range_fitW rfl (by decide) (gf := gf) (lb := lb) rfl trivial IT.out.en hItN kef (fun i hi => (HDF.out i hi).1) (fun _ _ => rfl)
    (fun k E W => k ≤ N ∧ GI w.heap.size cb w0 w (thM b0 b1 b2 b3 b4 b5 cb stop (.slice pl N cl) (.slice pc N cc) false k) (pcL l s k) E W)
    (fun c E W => ∃ k, (c = Code.ret ∧ k ≤ N) ∧ GI w.heap.size cb w0 w (thM b0 b1 b2 b3 b4 b5 cb stop (.slice pl N cl) (.slice pc N cc) true k) (pcL l s k) E W)
    (jn_GI w.heap.size cb w0 w (fun k => thM b0 b1 b2 b3 b4 b5 cb stop (.slice pl N cl) (.slice pc N cc) false k) (fun k => pcL l s k) (fun k => k ≤ N))
    (jn_ex fun k => jn_GI (β := Code) w.heap.size cb w0 w (fun _ => thM b0 b1 b2 b3 b4 b5 cb stop (.slice pl N cl) (.slice pc N cc) true k) (fun _ => pcL l s k) (fun c => c = Code.ret ∧ k ≤ N))
    ⟨Nat.zero_le _, G0.out⟩ (fitS_ch l s)
  case hassign =>
    intro l' k v W K hK
    gi_wp2
    exact hK
  case hstop =>
    rintro d c W hd ⟨k, ⟨rfl, hk⟩, ⟨vg, vw, xs, us, ⟨hgw, hgE⟩, hgm⟩, hmc⟩ hdf hke
    have c4 := hmc.cell (b := b4) (t := 4) (v := .bool true) (by simp [thM])
    have n4 : b4 ≠ d := fun e => (hmc.m (b4, .cells #[.bool true] 4 (0, 0)) (by simp [thM])).2 (.inr e)
    have HGWS := hid (hgw.keep (C := W.putObj d (.deferred none)) fun b hb => World.putObj_heap_other (fun e => hgE b hb (.inr e)))
    have HMS := hid (grown_two hmc.g (C := W.putObj d (.deferred none)) (row := some d) ⟨rfl, rfl, rfl, by simp, fun i hi hne => World.putObj_heap_other (fun e => hne (by rw [e]))⟩ (fun r e => by cases e; exact .inl (by have := BF.out.size; omega)))
    clear hgw hgE hgm hmc
    refine wpIn_wide.2 ?_
    go_wp2_with fail
    refine ⟨by simp, .inl ⟨_, _, rfl, run_takeDeferred hdf, ?_⟩⟩
    refine ⟨_, results_boolT rfl _ _ b4 true rfl ?_, rfl, k, vg, vw, xs, us, hk, HGWS.out, HMS.out⟩
    exact (World.cell?_of_block (a := ⟨b4, 0, none⟩) (World.putObj_heap_other n4)).trans c4
  case hbody =>
    rintro lp k v E A W hlp hE hr ⟨hkN0, ⟨vg, vw, xs, us, hgw, hgm⟩, hmc⟩ hEl hcar hAW hf hDE hke hk
    obtain ⟨⟨hgW, hgE⟩, hMW⟩ := hcar _ (jn_GW w.heap.size cb w0 w (thM b0 b1 b2 b3 b4 b5 cb stop (.slice pl N cl) (.slice pc N cc) false k) vg vw xs us (pcL l s k) (pcL l s k)) ⟨hgw, hmc⟩
    have HGS := hid hgw.1.lt
    have HGW := hid hgW
    have HGE := hid hgE
    have HMW := hid hMW
    have HGM := hid hgm
    have HF := hid hf
    have HEL := hid hEl
    have HAS := hid hmc.g.size
    have HMA := hid fun p hp => (Array.getElem?_eq_some_iff.1 (hmc.m p hp).1).1
    have hne : ∀ {t : TypeId} {n : Nat} {v : Value} {ys : List Value} {B' : Nat}, w.ownsRow B' t 1 v n ys → t ≠ 33 → ∀ b, v.ownBlock = some b → W.heap[b]? = w.heap[b]? := fun ho ht b e => by
      obtain ⟨h1, _, cur, h2⟩ := own_typC ho e
      refine hMW.g.block b h1 fun z => ?_
      have z : b = cb := Option.some.inj z
      rw [z, HC.out] at h2
      simp only [Option.some.injEq, Obj.cells.injEq] at h2
      exact ht h2.2.1.symm
    have hplW := own_ofL HPL.out (hne HPL.out (by decide))
    have hpcW : PX B2 W (.slice pc N cc) xs0 (pcL l s N) := HPC.out.own (hne HPC.out.row (by decide)) (fun j hj b e => hne (HPC.out.apt.2.1 j hj) (by decide) b e)
    obtain ⟨gp, epl⟩ : ∃ g, pl = some ⟨g, 0, none⟩ := by
      rcases HPL.out.2 with ⟨e, h0⟩ | ⟨g, cap, cur, e, _⟩
      · omega
      · exact ⟨g, by cases e; rfl⟩
    obtain ⟨gq, epc⟩ : ∃ g, pc = some ⟨g, 0, none⟩ := by
      rcases HPC.out.row.2 with ⟨e, h0⟩ | ⟨g, cap, cur, e, _⟩
      · rw [pcL_len] at h0; omega
      · simp only [Value.slice.injEq] at e
        exact ⟨g, e.1⟩
    have hx0 : xs0.length = N := by have := HPC.out.len; rw [pcL_len] at this; exact this
    have z1 : W.cell? ⟨gp, k, none⟩ = some (.int .i64 ((chAt s k : Nat) : Int)) := by
      rw [epl] at hplW
      rw [hplW.cellAt k (by omega)]
      simp [plL, hk]
    obtain ⟨u, HU⟩ : ∃ u, Hid (xs0.getD k undef = u) := ⟨_, rfl⟩
    have z2 : W.cell? ⟨gq, k, none⟩ = some u := by
      have := hpcW.row
      rw [epc, pcL_len] at this
      rw [this.cellAt k (by omega), ← HU.out]
      simp [List.getD, hx0, hk]
    have hbuW : HB W u (chPiece l s k) := by
      have := HB.of_own (hpcW.apt.2.1 k (by omega)) (hpcW.byt k (by rw [pcL_len]; omega))
      rw [HU.out, pcL_get _ _ hk] at this
      exact this
    have hbuw : HB w0 u (chPiece l s k) := by
      have := HP0.out k hk
      rw [HU.out, pcL_get _ _ hk] at this
      exact this
    have HUw := hid hbuw
    obtain ⟨LP, HLP⟩ : ∃ x, Hid ((chPiece l s k).length = x) := ⟨_, rfl⟩
    have hbv : HB W v (chPiece l s k) := HB.of_own hf hbuW.2
    obtain ⟨pu, cu, eu, _, _⟩ := hbuW.open
    obtain ⟨pv, cv, ev, _, _⟩ := hbv.open
    rw [HLP.out] at eu ev
    subst eu
    subst ev
    obtain ⟨pg, cg, eg⟩ := own_slc hgW.g.row
    obtain ⟨pw, cw, ew⟩ := own_slc hgW.u
    subst eg
    subst ew
    have CS : Hid (Calls Try.prog 10 #[.slice pv LP cv, .slice pu LP cu] W fun e w' => e = .returned (.bool true) ∧ Dr W w') := hid ((sameBytes_any W _ _ _ _ hbv hbuW).mono fun e w' ⟨q1, q2⟩ => ⟨by rw [q1]; simp, q2⟩)
    have c0 := hMW.cell (b := b0) (t := 41) (v := .pointer (some ⟨cb, 0, none⟩)) (by simp [thM])
    have c2 := hMW.cell (b := b2) (t := 23) (v := .slice pl N cl) (by simp [thM])
    have c3 := hMW.cell (b := b3) (t := 24) (v := .slice pc N cc) (by simp [thM])
    have c5 := hMW.cell (b := b5) (t := 3) (v := .int .i64 (k : Int)) (by simp [thM])
    have hge : ¬ ((k : Int) ≥ (N : Int)) := by omega
    have hnn : (((chAt s k : Nat) : Int) != ((chAt s k : Nat) : Int)) = false := by simp
    have hgq := own_typC (k := gq) HPC.out.row (by rw [epc]; rfl)
    have HGQ : Hid (gq < w.heap.size ∧ gq ≠ cb) := hid ⟨hgq.1, fun e => by
      obtain ⟨_, _, cur, h2⟩ := hgq
      rw [e, HC.out] at h2
      simp only [Option.some.injEq, Obj.cells.injEq] at h2
      exact absurd h2.2.1 (by decide)⟩
    have Z2 := hid z2
    clear hgq
    obtain ⟨Pk, HPk⟩ : ∃ x, Hid (chAt s k = x) := ⟨_, rfl⟩
    rw [HPk.out] at z1 hnn ⊢
    subst epl
    subst epc
    clear hgW hgE hMW hgw hgm hmc hcar hplW hpcW hbuW hbuw hbv hf hne hEl
    gi_wp2
    refine ⟨trivial, callRC (CS.out.mono ?_)⟩
    rintro e w1 ⟨rfl, hd1⟩
    have HW1 : Hid (w1.heap = W.heap) := hid hd1.heap
    have HK1 : Hid (KE E W w1.drew) := hid ⟨by show W.heap.size ≤ w1.heap.size; rw [hd1.heap]; exact Nat.le_refl _, fun i _ => by show w1.heap[i]? = _; rw [hd1.heap]⟩
    obtain ⟨⟨hgW1, hgE1⟩, hMW1⟩ := (jn_GW w.heap.size cb w0 w (thM b0 b1 b2 b3 b4 b5 cb stop (.slice (some ⟨gp, 0, none⟩) N cl) (.slice (some ⟨gq, 0, none⟩) N cc) false k) _ _ xs us (pcL l s k) (pcL l s k)).grown (s := ()) ⟨⟨HGW.out, HGE.out⟩, HMW.out⟩ (grown_below (r := none) ((hd1.below W.heap.size).trans (Below.refl _ w1).drew))
    have HG1 := hid hgW1
    have HE1 := hid hgE1
    have HM1 := hid hMW1
    have hf1 : w1.drew.ownsRow A.heap.size 5 1 (.slice pv LP cv) (chPiece l s k).length ((chPiece l s k).map (Value.int .u8)) := own_ofL HF.out fun b _ => by show w1.heap[b]? = _; rw [hd1.heap]
    have hz := SZ.out
    have hs1 : w1.drew.heap.size = W.heap.size := by show w1.heap.size = _; rw [hd1.heap]
    obtain ⟨vg2, W2, hrun, hcb2, ⟨pg2, cg2, evg2⟩, hgw2, hst2, hnew2⟩ := hgW1.got (S := A.heap.size) HGS.out HAS.out hf1 HUw.out.2 (by have := HAS.out; omega) (by omega) hcw (w := w) (Nat.le_refl _) (by rw [pcL_len]; omega) 24
    rw [pcL_len] at evg2
    subst evg2
    have HRUN := hid hrun
    have HCB2 := hid hcb2
    have HGW2 := hid hgw2
    have HST2 := hid hst2
    have HNEW2 := hid hnew2
    rw [pcL_len] at HRUN HNEW2 HG1 HGW2 HST2 HCB2 HGM HE1
    have HSS : Hid ((fun V : World => V.cell? ⟨b0, 0, none⟩ = some (.pointer (some ⟨cb, 0, none⟩)) ∧ V.cell? ⟨cb, 0, none⟩ = some (.slice pg k cg)) w1.drew) := hid ⟨HM1.out.cell (b := b0) (t := 41) (v := .pointer (some ⟨cb, 0, none⟩)) (by simp [thM]), (cell_of_row _ _ _ _ _ _ HG1.out.c).trans rfl⟩
    clear hz hs1 hgW1 hgE1 hMW1 hf1 hrun hcb2 hgw2 hst2 hnew2 CS hd1 c0 c2 c3 c5
    gi_wp2
    refine in_region_N hmx (by kernel_rfl) 10 (S := (fun V : World => V.cell? ⟨b0, 0, none⟩ = some (.pointer (some ⟨cb, 0, none⟩)) ∧ V.cell? ⟨cb, 0, none⟩ = some (.slice pg k cg))) ?_
    change Ev.wpN _ _ _ _ _ _ _ _ _ (World.drew _)
    refine Ev.wpN_load (i := 0) (v := ?_) rfl (by kernel_rfl) (by kernel_rfl) (by kernel_rfl) (fun _ _ _ h => by cases h.1) (by rfl) (by kernel_rfl) (Or.inl ⟨by rfl, ?q0⟩) HSS.out ?_
    case q0 => intro w hSw; obtain ⟨hz0, hz1⟩ := hSw; go_simp; rfl
    simp only [Act.put, List.getElem_toArray, List.getElem_cons_zero, List.getElem_cons_succ, List.setIfInBounds_toArray, List.set_cons_zero, List.set_cons_succ]
    refine Ev.wpN_load (i := 1) (v := ?_) rfl (by kernel_rfl) (by kernel_rfl) (by kernel_rfl) (fun _ _ _ h => by cases h.1) (by rfl) (by kernel_rfl) (Or.inl ⟨by rfl, ?q1⟩) HSS.out ?_
    case q1 => intro w hSw; obtain ⟨hz0, hz1⟩ := hSw; go_simp; rfl
    simp only [Act.put, List.getElem_toArray, List.getElem_cons_zero, List.getElem_cons_succ, List.setIfInBounds_toArray, List.set_cons_zero, List.set_cons_succ]
    refine Ev.wpN_load (i := 2) (v := ?_) rfl (by kernel_rfl) (by kernel_rfl) (by kernel_rfl) (fun _ _ _ h => by cases h.1) (by rfl) (by kernel_rfl) (Or.inl ⟨by rfl, ?q2⟩) HSS.out ?_
    case q2 => intro w hSw; obtain ⟨hz0, hz1⟩ := hSw; go_simp; rfl
    simp only [Act.put, List.getElem_toArray, List.getElem_cons_zero, List.getElem_cons_succ, List.setIfInBounds_toArray, List.set_cons_zero, List.set_cons_succ]
    refine Ev.wpN_load (i := 3) (v := ?_) rfl (by kernel_rfl) (by kernel_rfl) (by kernel_rfl) (fun _ _ _ h => by cases h.1) (by rfl) (by kernel_rfl) (Or.inl ⟨by rfl, ?q3⟩) HSS.out ?_
    case q3 => intro w hSw; obtain ⟨hz0, hz1⟩ := hSw; go_simp; rfl
    simp only [Act.put, List.getElem_toArray, List.getElem_cons_zero, List.getElem_cons_succ, List.setIfInBounds_toArray, List.set_cons_zero, List.set_cons_succ]
    refine Ev.wpN_load (i := 4) (v := ?_) rfl (by kernel_rfl) (by kernel_rfl) (by kernel_rfl) (fun _ _ _ h => by cases h.1) (by rfl) (by kernel_rfl) (Or.inl ⟨by rfl, ?q4⟩) HSS.out ?_
    case q4 => intro w hSw; obtain ⟨hz0, hz1⟩ := hSw; go_simp; rfl
    simp only [Act.put, List.getElem_toArray, List.getElem_cons_zero, List.getElem_cons_succ, List.setIfInBounds_toArray, List.set_cons_zero, List.set_cons_succ]
    refine Ev.wpN_load (i := 5) (v := ?_) rfl (by kernel_rfl) (by kernel_rfl) (by kernel_rfl) (fun _ _ _ h => by cases h.1) (by rfl) (by kernel_rfl) (Or.inl ⟨by rfl, ?q5⟩) HSS.out ?_
    case q5 => intro w hSw; obtain ⟨hz0, hz1⟩ := hSw; go_simp; rfl
    simp only [Act.put, List.getElem_toArray, List.getElem_cons_zero, List.getElem_cons_succ, List.setIfInBounds_toArray, List.set_cons_zero, List.set_cons_succ]
    refine Ev.wpN_step (i := 6) (by kernel_rfl) rfl rfl ?_
    refine owp_litC 24 1 _ rfl #[(0, .slice pv LP cv)] (by go_simp) _ (run_lit_bsC _ _ _ _) ?_
    have hal : Below w1.drew.heap.size w1.drew (w1.drew.alloc (.cells #[.slice pv LP cv] 22)) := (Below.refl _ _).alloc (Nat.le_refl _) _
    have S7 : (fun V : World => V.cell? ⟨b0, 0, none⟩ = some (.pointer (some ⟨cb, 0, none⟩)) ∧ V.cell? ⟨cb, 0, none⟩ = some (.slice pg k cg)) (w1.drew.alloc (.cells #[.slice pv LP cv] 22)) := ⟨(hal.cell (World.block_lt_of_cell? _ _ HSS.out.1)).trans HSS.out.1, (hal.cell (World.block_lt_of_cell? _ _ HSS.out.2)).trans HSS.out.2⟩
    refine ⟨.inl S7, ?_⟩
    simp only [Act.put, List.getElem_toArray, List.getElem_cons_zero, List.getElem_cons_succ, List.setIfInBounds_toArray, List.set_cons_zero, List.set_cons_succ]
    refine Ev.wpN_step (i := 7) (by kernel_rfl) rfl rfl ?_
    refine owp_appendC (.tmp 50) (.tmp 52) rfl rfl rfl HRUN.out ?_
    have c02 : W2.cell? ⟨cb, 0, none⟩ = some (.slice pg k cg) := (cell_of_row _ _ _ _ _ _ HCB2.out).trans rfl
    have hcb0 : cb ≠ b0 := by have := SZ.out; omega
    have hb0w : b0 < w1.drew.heap.size := World.block_lt_of_cell? _ _ HSS.out.1
    have c00 : W2.cell? ⟨b0, 0, none⟩ = some (.pointer (some ⟨cb, 0, none⟩)) := by
      have h1 := HST2.out.fr b0 hb0w (HGM.out (b0, .cells #[.pointer (some ⟨cb, 0, none⟩)] 41 (0, 0)) (by simp [thM]))
      rw [heap_setCell_other _ _ _ _ (by simpa using hcb0.symm)] at h1
      exact (World.cell?_of_block (a := ⟨b0, 0, none⟩) h1).trans HSS.out.1
    have S8 : (fun V : World => V.cell? ⟨b0, 0, none⟩ = some (.pointer (some ⟨cb, 0, none⟩)) ∧ V.cell? ⟨cb, 0, none⟩ = some (.slice pg k cg)) W2 := ⟨c00, c02⟩
    have f02 : W2.frozen? ⟨cb, 0, none⟩ = false := by simp [World.frozen?, HCB2.out]
    refine ⟨.inl S8, ?_⟩
    try simp only [Act.put, List.getElem_toArray, List.getElem_cons_zero, List.getElem_cons_succ, List.setIfInBounds_toArray, List.set_cons_zero, List.set_cons_succ]
    refine Ev.wpN_step (i := 8) (by kernel_rfl) rfl rfl ?_
    go_simp
    try simp only [Act.put, List.getElem_toArray, List.getElem_cons_zero, List.getElem_cons_succ, List.setIfInBounds_toArray, List.set_cons_zero, List.set_cons_succ]
    refine Ev.wpN_step (i := 9) (by kernel_rfl) rfl rfl ?_
    go_simp
    try simp only [Act.put, List.getElem_toArray, List.getElem_cons_zero, List.getElem_cons_succ, List.setIfInBounds_toArray, List.set_cons_zero, List.set_cons_succ]
    refine Ev.wpN_step (i := 10) (by kernel_rfl) rfl rfl ?_
    go_simp
    refine Ev.wpN_end (by kernel_rfl) ⟨rfl, ?_⟩
    rename_i K hK
    refine hK _ _ ?_
    clear hK K S7 S8 c02 c00 f02 hal HRUN HCB2 HSS
    obtain ⟨W3, HW3⟩ : ∃ x, Hid (W2.setCell ⟨cb, 0, none⟩ (.slice pg2 (k + 1) cg2) = x) := ⟨_, hid rfl⟩
    rw [HW3.out] at HGW2 HST2 ⊢
    clear HW3
    have hlow : ¬ gwB cb (.slice pg k cg) (.slice pw k cw) xs gq := fun q => by
      rcases HG1.out.low gq q with z | z
      · exact HGQ.out.2 z
      · have := HGQ.out.1; omega
    have HM3 := hid (HM1.out.st HST2.out HGM.out)
    have HGM3 : Hid (∀ p ∈ _, _) := hid fun p hp q => (HNEW2.out p.1 q).elim (HGM.out p hp) (fun z => by have := HMA.out p hp; omega)
    have HGE3 : Hid (∀ b, gwB cb (.slice pg2 (k + 1) cg2) (.slice pw k cw) (xs ++ [.slice pv LP cv]) b → ¬ E b) := hid fun b q => (HNEW2.out b q).elim (HE1.out b) (fun z e => by have := HEL.out b e; omega)
    have HK3 := hid (HK1.out.trans (HST2.out.ke (fun i hi => by have h1 := HEL.out i hi; have h2 := HK1.out.1; omega) (fun b q => HE1.out b q)))
    have HZ2 : Hid (W3.cell? ⟨gq, k, none⟩ = some (.slice pu LP cu)) := hid ((World.cell?_of_block (a := ⟨gq, k, none⟩) (HST2.out.fr gq (by have h1 := HGQ.out.1; have h2 := HK1.out.1; have h3 := HAS.out; omega) hlow)).trans ((World.cell?_of_block (w := W) (w' := w1.drew) (a := ⟨gq, k, none⟩) (by show w1.heap[gq]? = _; rw [HW1.out])).trans Z2.out))
    obtain ⟨vw2, W4, hrun, hcb2, ⟨pw2, cw2, evw2⟩, hgw4, hst4, hnew4⟩ := (HGW2.out.keep (C := W3.drew) fun b _ => rfl).want HUw.out (by have h1 := HK3.out.1; have h2 := HAS.out; show _ ≤ W3.heap.size; omega) hcw (w := w) (Nat.le_refl _) (by rw [pcL_len]; omega) 24
    rw [pcL_len] at evw2
    subst evw2
    have HRUN := hid hrun
    have HCB4 := hid hcb2
    have HGW4 := hid hgw4
    have HST4 := hid hst4
    have HNEW4 := hid hnew4
    rw [← pcL_succ] at HGW4
    clear hrun hcb2 hgw4 hst4 hnew4
    have HM4 := hid (HM3.out.drew.st HST4.out HGM3.out)
    have hMsz : ∀ p ∈ thM b0 b1 b2 b3 b4 b5 cb stop (.slice (some ⟨gp, 0, none⟩) N cl) (.slice (some ⟨gq, 0, none⟩) N cc) false k, p.1 < W3.heap.size := fun p hp => (Array.getElem?_eq_some_iff.1 (HM3.out.m p hp).1).1
    have HGM4 : Hid (∀ p ∈ thM b0 b1 b2 b3 b4 b5 cb stop (.slice (some ⟨gp, 0, none⟩) N cl) (.slice (some ⟨gq, 0, none⟩) N cc) false k, ¬ gwB cb (.slice pg2 (k + 1) cg2) (.slice pw2 (k + 1) cw2) (xs ++ [.slice pv LP cv]) p.1) := hid fun p hp q => (HNEW4.out p.1 q).elim (HGM3.out p hp) (fun z => by have := hMsz p hp; have z : W3.heap.size ≤ p.1 := z; omega)
    have HGE4 : Hid (∀ b, gwB cb (.slice pg2 (k + 1) cg2) (.slice pw2 (k + 1) cw2) (xs ++ [.slice pv LP cv]) b → ¬ E b) := hid fun b q => (HNEW4.out b q).elim (HGE3.out b) (fun z e => by have h1 := HEL.out b e; have h2 := HK3.out.1; have z : W3.heap.size ≤ b := z; omega)
    have HK4 := hid (HK3.out.trans ((KE.trans (B := W3.drew) ⟨Nat.le_refl _, fun i _ => rfl⟩ (HST4.out.ke (E := E) (fun i hi => by have h1 := HEL.out i hi; have h2 := HK3.out.1; show i < W3.heap.size; omega) (fun b q => HGE3.out b q)))))
    have hbz := SZ.out
    have hcb0 : cb ≠ b0 := by omega
    have hcb3 : cb ≠ b3 := by omega
    have hcb5 : cb ≠ b5 := by have := B6.out.size; have := Hb5.out; omega
    have HCC3 : Hid (W3.cell? ⟨cb, 1, none⟩ = some (.slice pw k cw)) := hid ((cell_of_row _ _ _ _ _ _ HGW2.out.c).trans rfl)
    have S3 : Hid ((fun V : World => V.cell? ⟨b0, 0, none⟩ = some (.pointer (some ⟨cb, 0, none⟩)) ∧ V.cell? ⟨cb, 1, none⟩ = some (.slice pw k cw) ∧ V.cell? ⟨b3, 0, none⟩ = some (.slice (some ⟨gq, 0, none⟩) N cc) ∧ V.cell? ⟨b5, 0, none⟩ = some (.int .i64 (k : Int)) ∧ V.cell? ⟨gq, k, none⟩ = some (.slice pu LP cu)) W3.drew) := hid
      ⟨HM3.out.cell (b := b0) (t := 41) (v := .pointer (some ⟨cb, 0, none⟩)) (by simp [thM]), HCC3.out, HM3.out.cell (b := b3) (t := 24) (v := .slice (some ⟨gq, 0, none⟩) N cc) (by simp [thM]), HM3.out.cell (b := b5) (t := 3) (v := .int .i64 (k : Int)) (by simp [thM]), HZ2.out⟩
    have hnb4 : ∀ b, b < W3.heap.size → ¬ gwB cb (.slice pg2 (k + 1) cg2) (.slice pw k cw) (xs ++ [.slice pv LP cv]) b → W4.heap[b]? = W3.heap[b]? := fun b hb hx => by
      have h1 := HST4.out.fr b hb hx
      rwa [heap_setCell_other _ _ _ _ (by simpa using fun e => hx (.inl e))] at h1
    have gq4 : W4.heap[gq]? = W3.heap[gq]? := hnb4 gq (World.block_lt_of_cell? _ _ HZ2.out) fun q => by
      rcases HGW2.out.low gq q with z | z
      · exact HGQ.out.2 z
      · have := HGQ.out.1; omega
    have S4 : Hid ((fun V : World => V.cell? ⟨b0, 0, none⟩ = some (.pointer (some ⟨cb, 0, none⟩)) ∧ V.cell? ⟨cb, 1, none⟩ = some (.slice pw k cw) ∧ V.cell? ⟨b3, 0, none⟩ = some (.slice (some ⟨gq, 0, none⟩) N cc) ∧ V.cell? ⟨b5, 0, none⟩ = some (.int .i64 (k : Int)) ∧ V.cell? ⟨gq, k, none⟩ = some (.slice pu LP cu)) W4) := hid
      ⟨(World.cell?_of_block (a := ⟨b0, 0, none⟩) (hnb4 b0 (World.block_lt_of_cell? _ _ S3.out.1) (HGM3.out (b0, .cells #[.pointer (some ⟨cb, 0, none⟩)] 41 (0, 0)) (by simp [thM])))).trans S3.out.1,
       (cell_of_row _ _ _ _ _ _ HCB4.out).trans rfl,
       (World.cell?_of_block (a := ⟨b3, 0, none⟩) (hnb4 b3 (World.block_lt_of_cell? _ _ S3.out.2.2.1) (HGM3.out (b3, .cells #[.slice (some ⟨gq, 0, none⟩) N cc] 24 (0, 0)) (by simp [thM])))).trans S3.out.2.2.1,
       (World.cell?_of_block (a := ⟨b5, 0, none⟩) (hnb4 b5 (World.block_lt_of_cell? _ _ S3.out.2.2.2.1) (HGM3.out (b5, .cells #[.int .i64 (k : Int)] 3 (0, 0)) (by simp [thM])))).trans S3.out.2.2.2.1,
       (World.cell?_of_block (a := ⟨gq, k, none⟩) gq4).trans S3.out.2.2.2.2⟩
    have f4c : Hid (W4.frozen? ⟨cb, 1, none⟩ = false) := hid (by simp [World.frozen?, HCB4.out])
    clear hbz hnb4 gq4 hlow hMsz
    gi_wp2
    have HSS := S3
    refine in_region_N hmx (by kernel_rfl) 13 (S := (fun V : World => V.cell? ⟨b0, 0, none⟩ = some (.pointer (some ⟨cb, 0, none⟩)) ∧ V.cell? ⟨cb, 1, none⟩ = some (.slice pw k cw) ∧ V.cell? ⟨b3, 0, none⟩ = some (.slice (some ⟨gq, 0, none⟩) N cc) ∧ V.cell? ⟨b5, 0, none⟩ = some (.int .i64 (k : Int)) ∧ V.cell? ⟨gq, k, none⟩ = some (.slice pu LP cu))) ?_
    change Ev.wpN _ _ _ _ _ _ _ _ _ (World.drew _)
    refine Ev.wpN_load (i := 0) (v := ?_) rfl (by kernel_rfl) (by kernel_rfl) (by kernel_rfl) (fun _ _ _ h => by cases h.1) (by rfl) (by kernel_rfl) (Or.inl ⟨by rfl, ?q0⟩) HSS.out ?_
    case q0 => intro w hSw; obtain ⟨hz0, hz1, hz2, hz3, hz4⟩ := hSw; go_simp; rfl
    simp only [Act.put, List.getElem_toArray, List.getElem_cons_zero, List.getElem_cons_succ, List.setIfInBounds_toArray, List.set_cons_zero, List.set_cons_succ]
    refine Ev.wpN_load (i := 1) (v := ?_) rfl (by kernel_rfl) (by kernel_rfl) (by kernel_rfl) (fun _ _ _ h => by cases h.1) (by rfl) (by kernel_rfl) (Or.inl ⟨by rfl, ?q1⟩) HSS.out ?_
    case q1 => intro w hSw; obtain ⟨hz0, hz1, hz2, hz3, hz4⟩ := hSw; go_simp; rfl
    simp only [Act.put, List.getElem_toArray, List.getElem_cons_zero, List.getElem_cons_succ, List.setIfInBounds_toArray, List.set_cons_zero, List.set_cons_succ]
    refine Ev.wpN_load (i := 2) (v := ?_) rfl (by kernel_rfl) (by kernel_rfl) (by kernel_rfl) (fun _ _ _ h => by cases h.1) (by rfl) (by kernel_rfl) (Or.inl ⟨by rfl, ?q2⟩) HSS.out ?_
    case q2 => intro w hSw; obtain ⟨hz0, hz1, hz2, hz3, hz4⟩ := hSw; go_simp; rfl
    simp only [Act.put, List.getElem_toArray, List.getElem_cons_zero, List.getElem_cons_succ, List.setIfInBounds_toArray, List.set_cons_zero, List.set_cons_succ]
    refine Ev.wpN_load (i := 3) (v := ?_) rfl (by kernel_rfl) (by kernel_rfl) (by kernel_rfl) (fun _ _ _ h => by cases h.1) (by rfl) (by kernel_rfl) (Or.inl ⟨by rfl, ?q3⟩) HSS.out ?_
    case q3 => intro w hSw; obtain ⟨hz0, hz1, hz2, hz3, hz4⟩ := hSw; go_simp; rfl
    simp only [Act.put, List.getElem_toArray, List.getElem_cons_zero, List.getElem_cons_succ, List.setIfInBounds_toArray, List.set_cons_zero, List.set_cons_succ]
    refine Ev.wpN_load (i := 4) (v := ?_) rfl (by kernel_rfl) (by kernel_rfl) (by kernel_rfl) (fun _ _ _ h => by cases h.1) (by rfl) (by kernel_rfl) (Or.inl ⟨by rfl, ?q4⟩) HSS.out ?_
    case q4 => intro w hSw; obtain ⟨hz0, hz1, hz2, hz3, hz4⟩ := hSw; go_simp; rfl
    simp only [Act.put, List.getElem_toArray, List.getElem_cons_zero, List.getElem_cons_succ, List.setIfInBounds_toArray, List.set_cons_zero, List.set_cons_succ]
    refine Ev.wpN_load (i := 5) (v := ?_) rfl (by kernel_rfl) (by kernel_rfl) (by kernel_rfl) (fun _ _ _ h => by cases h.1) (by rfl) (by kernel_rfl) (Or.inl ⟨by rfl, ?q5⟩) HSS.out ?_
    case q5 => intro w hSw; obtain ⟨hz0, hz1, hz2, hz3, hz4⟩ := hSw; go_simp; rfl
    simp only [Act.put, List.getElem_toArray, List.getElem_cons_zero, List.getElem_cons_succ, List.setIfInBounds_toArray, List.set_cons_zero, List.set_cons_succ]
    refine Ev.wpN_load (i := 6) (v := ?_) rfl (by kernel_rfl) (by kernel_rfl) (by kernel_rfl) (fun _ _ _ h => by cases h.1) (by rfl) (by kernel_rfl) (Or.inl ⟨by rfl, ?q6⟩) HSS.out ?_
    case q6 => intro w hSw; obtain ⟨hz0, hz1, hz2, hz3, hz4⟩ := hSw; go_simp; rfl
    simp only [Act.put, List.getElem_toArray, List.getElem_cons_zero, List.getElem_cons_succ, List.setIfInBounds_toArray, List.set_cons_zero, List.set_cons_succ]
    refine Ev.wpN_load (i := 7) (v := ?_) rfl (by kernel_rfl) (by kernel_rfl) (by kernel_rfl) (fun _ _ _ h => by cases h.1) (by rfl) (by kernel_rfl) (Or.inl ⟨by rfl, ?q7⟩) HSS.out ?_
    case q7 => intro w hSw; obtain ⟨hz0, hz1, hz2, hz3, hz4⟩ := hSw; go_simp; rfl
    simp only [Act.put, List.getElem_toArray, List.getElem_cons_zero, List.getElem_cons_succ, List.setIfInBounds_toArray, List.set_cons_zero, List.set_cons_succ]
    refine Ev.wpN_load (i := 8) (v := ?_) rfl (by kernel_rfl) (by kernel_rfl) (by kernel_rfl) (fun _ _ _ h => by cases h.1) (by rfl) (by kernel_rfl) (Or.inl ⟨by rfl, ?q8⟩) HSS.out ?_
    case q8 => intro w hSw; obtain ⟨hz0, hz1, hz2, hz3, hz4⟩ := hSw; go_simp; rfl
    simp only [Act.put, List.getElem_toArray, List.getElem_cons_zero, List.getElem_cons_succ, List.setIfInBounds_toArray, List.set_cons_zero, List.set_cons_succ]
    refine Ev.wpN_step (i := 9) (by kernel_rfl) rfl rfl ?_
    refine owp_litC 24 1 _ rfl #[(0, .slice pu LP cu)] (by go_simp) _ (run_lit_bsC _ _ _ _) ?_
    have hal : Below W3.drew.heap.size W3.drew (W3.drew.alloc (.cells #[.slice pu LP cu] 22)) := (Below.refl _ _).alloc (Nat.le_refl _) _
    refine ⟨.inl ⟨(hal.cell (World.block_lt_of_cell? _ _ S3.out.1)).trans S3.out.1, (hal.cell (World.block_lt_of_cell? _ _ S3.out.2.1)).trans S3.out.2.1, (hal.cell (World.block_lt_of_cell? _ _ S3.out.2.2.1)).trans S3.out.2.2.1, (hal.cell (World.block_lt_of_cell? _ _ S3.out.2.2.2.1)).trans S3.out.2.2.2.1, (hal.cell (World.block_lt_of_cell? _ _ S3.out.2.2.2.2)).trans S3.out.2.2.2.2⟩, ?_⟩
    simp only [Act.put, List.getElem_toArray, List.getElem_cons_zero, List.getElem_cons_succ, List.setIfInBounds_toArray, List.set_cons_zero, List.set_cons_succ]
    refine Ev.wpN_step (i := 10) (by kernel_rfl) rfl rfl ?_
    refine owp_appendC (.tmp 60) (.tmp 65) rfl rfl rfl HRUN.out ?_
    refine ⟨.inl S4.out, ?_⟩
    obtain ⟨c00, c02, c03, c05, c0g⟩ := S4.out
    have f02 := f4c.out
    try simp only [Act.put, List.getElem_toArray, List.getElem_cons_zero, List.getElem_cons_succ, List.setIfInBounds_toArray, List.set_cons_zero, List.set_cons_succ]
    refine Ev.wpN_step (i := 11) (by kernel_rfl) rfl rfl ?_
    go_simp
    try simp only [Act.put, List.getElem_toArray, List.getElem_cons_zero, List.getElem_cons_succ, List.setIfInBounds_toArray, List.set_cons_zero, List.set_cons_succ]
    refine Ev.wpN_step (i := 12) (by kernel_rfl) rfl rfl ?_
    go_simp
    try simp only [Act.put, List.getElem_toArray, List.getElem_cons_zero, List.getElem_cons_succ, List.setIfInBounds_toArray, List.set_cons_zero, List.set_cons_succ]
    refine Ev.wpN_step (i := 13) (by kernel_rfl) rfl rfl ?_
    go_simp
    refine Ev.wpN_end (by kernel_rfl) ⟨rfl, ?_⟩
    rename_i K hK
    refine hK _ _ ?_
    clear hK K hal c00 c02 f02 c03 c05 c0g S3 S4 HSS f4c HRUN
    obtain ⟨W5, HW5⟩ : ∃ x, Hid (W4.setCell ⟨cb, 1, none⟩ (.slice pw2 (k + 1) cw2) = x) := ⟨_, hid rfl⟩
    rw [HW5.out] at HGW4 HST4 HM4 HK4 ⊢
    clear HW5
    have c5 := HM4.out.cell (b := b5) (t := 3) (v := .int .i64 (k : Int)) (by simp [thM])
    have c1 := HM4.out.cell (b := b1) (t := 3) (v := .int .i64 stop) (by simp [thM])
    have f5 : W5.frozen? ⟨b5, 0, none⟩ = false := by simp [World.frozen?, HM4.out.at (b := b5) (o := .cells #[.int .i64 (k : Int)] 3 (0, 0)) (by simp [thM])]
    have n15 : ¬ (b1 = b5) := by have := SZ.out; have := B6.out.size; have := Hb5.out; omega
    have n51 : ¬ (b5 = b1) := fun e => n15 e.symm
    have n45 : ¬ (b4 = b5) := by have := SZ.out; have := B6.out.size; have := Hb5.out; omega
    have n54 : ¬ (b5 = b4) := fun e => n45 e.symm
    have f4 : ∀ v, (W5.setCell ⟨b5, 0, none⟩ v).frozen? ⟨b4, 0, none⟩ = false := fun v => by
      have h := HM4.out.at (b := b4) (o := .cells #[.bool false] 4 (0, 0)) (by simp [thM])
      have h2 := (heap_setCell_other W5 ⟨b5, 0, none⟩ b4 v (by simpa using n45)).trans h
      simp [World.frozen?, h2]
    have c4 := HM4.out.cell (b := b4) (t := 4) (v := .bool false) (by simp [thM])
    have hz5 : w.heap.size ≤ b5 ∧ b0 < b5 ∧ b1 < b5 ∧ b2 < b5 ∧ b3 < b5 ∧ b4 < b5 := by have := SZ.out; have := B6.out.size; have := Hb5.out; omega
    have hz4 : w.heap.size ≤ b4 ∧ b0 < b4 ∧ b1 < b4 ∧ b2 < b4 ∧ b3 < b4 ∧ b4 < b5 := by have := SZ.out; have := B6.out.size; have := Hb5.out; omega
    have HM6 := hid (th_next HM4.out hz5)
    have HM7 := hid (th_true HM6.out hz4)
    have g5 := HGM4.out (b5, .cells #[.int .i64 (k : Int)] 3 (0, 0)) (by simp [thM])
    have g4 := HGM4.out (b4, .cells #[.bool false] 4 (0, 0)) (by simp [thM])
    have e5 := (HM4.out.m (b5, .cells #[.int .i64 (k : Int)] 3 (0, 0)) (by simp [thM])).2
    have e4 := (HM4.out.m (b4, .cells #[.bool false] 4 (0, 0)) (by simp [thM])).2
    have HGW6 := hid (gw_set (i := 0) HGW4.out g5 (.int .i64 ((k : Int) + 1)))
    have HGW7 := hid (gw_set (i := 0) HGW6.out g4 (.bool true))
    have HK6 := hid (HK4.out.trans (ke_set (i := 0) e5 (.int .i64 ((k : Int) + 1))))
    have HK7 := hid (HK6.out.trans (ke_set (i := 0) e4 (.bool true)))
    have HG6 := hid (th_keys (r' := false) (k' := k + 1) (Q := fun b => ¬ gwB cb (.slice pg2 (k + 1) cg2) (.slice pw2 (k + 1) cw2) (xs ++ [.slice pv LP cv]) b) HGM4.out)
    have HG7 := hid (th_keys (r' := true) (k' := k + 1) (Q := fun b => ¬ gwB cb (.slice pg2 (k + 1) cg2) (.slice pw2 (k + 1) cw2) (xs ++ [.slice pv LP cv]) b) HGM4.out)
    clear hz4 hz5 g5 g4 e5 e4
    gi_wp2
    · exact ⟨HK7.out, k + 1, ⟨rfl, hk⟩, ⟨_, _, _, _, ⟨HGW7.out, HGE4.out⟩, HG7.out⟩, HM7.out⟩
    · exact ⟨HK6.out, hk, ⟨_, _, _, _, ⟨HGW6.out, HGE4.out⟩, HG6.out⟩, HM6.out⟩
  case hdone =>
    rintro d W hd ⟨-, ⟨vg, vw, xs, us, ⟨hgw, hgE⟩, hgm⟩, hmc⟩ hdf hke
    have c5 := hmc.cell (b := b5) (t := 3) (v := .int .i64 (N : Int)) (by simp [thM])
    have c3 := hmc.cell (b := b3) (t := 24) (v := .slice pc N cc) (by simp [thM])
    have c4 := hmc.cell (b := b4) (t := 4) (v := .bool false) (by simp [thM])
    have x4 := hmc.at (b := b4) (o := .cells #[.bool false] 4 (0, 0)) (by simp [thM])
    have f4 : W.frozen? ⟨b4, 0, none⟩ = false := by simp [World.frozen?, x4]
    have n4 : b4 ≠ d := fun e => (hmc.m (b4, .cells #[.bool false] 4 (0, 0)) (by simp [thM])).2 (.inr e)
    have g4 := hgm (b4, .cells #[.bool false] 4 (0, 0)) (by simp [thM])
    have hw4 : w.heap.size ≤ b4 := by have := SZ.out; omega
    have HGW1 := hid (gw_set (i := 0) hgw g4 (.bool true))
    have HGWS := hid (HGW1.out.keep (C := (W.setCell ⟨b4, 0, none⟩ (.bool true)).putObj d (.deferred none)) fun b hb => World.putObj_heap_other (fun e => hgE b hb (.inr e)))
    have HM1 := hid (grown_two hmc.g (grown_set W b4 0 (.bool true)) (fun r e => by cases e; exact .inl hw4))
    have HMS := hid (grown_two HM1.out (C := (W.setCell ⟨b4, 0, none⟩ (.bool true)).putObj d (.deferred none)) (row := some d) ⟨rfl, rfl, rfl, by simp, fun i hi hne => World.putObj_heap_other (fun e => hne (by rw [e]))⟩ (fun r e => by cases e; exact .inl (by have := BF.out.size; omega)))
    have HD : Hid ((W.setCell ⟨b4, 0, none⟩ (.bool true)).heap[d]? = some (.deferred (some []))) := hid ((heap_setCell_other W ⟨b4, 0, none⟩ d _ (fun e => n4 e.symm)).trans hdf)
    have HC4 : Hid ((W.setCell ⟨b4, 0, none⟩ (.bool true)).cell? ⟨b4, 0, none⟩ = some (.bool true)) := hid (by rw [cell_of_row _ _ _ _ _ _ (bk_setC x4)]; rfl)
    clear hgw hgE hgm hmc x4 g4 hw4
    go_wp2_with fail
    refine ⟨by simp, .inl ⟨_, _, rfl, run_takeDeferred HD.out, ?_⟩⟩
    refine ⟨_, results_boolT rfl _ _ b4 true rfl ?_, rfl, N, Nat.le_refl _, ⟨vg, vw, xs, us, HGWS.out⟩, HMS.out⟩
    exact (World.cell?_of_block (a := ⟨b4, 0, none⟩) (World.putObj_heap_other n4)).trans HC4.out
theorem run_stFC (w : World) (a : Addr) (fn : Fn) (fi ca : Array Value) (m : Mode) : (store a (.func fn fi ca) m).run Try.prog w = stored Try.prog w a (.func fn fi ca) m := run_store _ w a _ m rfl
attribute [local go_sem] Oper.semAt_some run_stFC
theorem rchunks_any (w : World) (v : Value) (l : List Int) (size : Int) (h : HB w v l) (hl : l.length ≤ 4000) :
    Calls Try.prog 4 #[v, .int .i64 size] w fun e w' => ∃ vp vq xs, e = .returned (.tuple #[vp, vq]) ∧ w'.ownsRow w.heap.size 3 1 vp (nCh l size) (plL size.toNat (nCh l size)) ∧ PX w.heap.size w' vq xs (pcL l size.toNat (nCh l size)) ∧ Below w.heap.size w w' := by
  by_cases hs : size < 1
  · refine (rchunks_bad w v size hs).mono ?_
    rintro e w' ⟨rfl, rfl⟩
    have e0 : nCh l size = 0 := by unfold nCh; rw [if_pos hs]
    rw [e0]
    exact ⟨_, _, [], rfl, World.ownsRow_nil _ _ _ _, PX.nil _ _, Below.refl _ _⟩
  · obtain ⟨S, rfl⟩ : ∃ S : Nat, size = (S : Int) := ⟨size.toNat, by omega⟩
    refine (rchunks_ok w v l S h hl (by omega)).mono ?_
    rintro e w' ⟨vp, vq, xs, rfl, h1, h2, h3⟩
    have e0 : nCh l (S : Int) = chN l.length S := by unfold nCh; rw [if_neg hs, Int.toNat_natCast]
    rw [e0, Int.toNat_natCast]
    exact ⟨vp, vq, xs, rfl, h1, h2, h3⟩
theorem slice_hL (W : World) (b n c hi : Nat) (h1 : hi ≤ c) (h2 : 0 < c) : (Instr.slice 22 (.slice (some ⟨b, 0, none⟩) n c) none (some (.int .i64 (hi : Int))) none).run Try.prog W = .ok (.slice (some ⟨b, 0, none⟩) hi c) W := by
  have elm : Try.prog.elem 22 = 5 := by kernel_rfl
  have h := run_slice_h (P := Try.prog) W 22 (some ⟨b, 0, none⟩) n c (by rw [elm]; exact Try.underlying22) .i64 (hi : Int) (by omega) (by omega)
  rw [h, elm, size_u8, Result.andThen_ok, Int.toNat_natCast]
  unfold sliced
  rw [if_neg (by omega)]
  simp [Go.WideShapes.add_plain]
theorem yieldsIf_slC {P : Program} {ops : Array Oper} {S : World → Prop} {op : Oper} {a : Act} (hw : Region.wanted op (yielded ops a.tmps) = true) (t : TypeId) (x : Operand) (lo hi : Option Operand) (ht : P.underlying t = some (.slice (P.elem t))) (ho : op.op = .slice t x lo hi none) (vx : Value) (vl vh : Option Value) (hx : a.eval x = vx) (hl : lo.map a.eval = vl) (hh : hi.map a.eval = vh) (v : Value)
    (hr : ∀ w, S w → (Instr.slice t vx vl vh none).run P w = .ok v w) : YieldsIf P ops S op v a :=
  .inl ⟨hw, fun w hS => by
    unfold execOp
    simp only [ho, Sem.run_bind, Option.map_none, hx, hl, hh, run_sliceAt_slice w t _ _ _ _ ht, hr w hS, Result.andThen_ok]
    rfl⟩
theorem ch_held {P : Program} {ops : Array Oper} {Q : Exit → Act → World → Prop} {S : World → Prop} {id : Nat} {a : Act} {w : World} (hm : P.follows .mixedOrders = true) (hS : S w.drew)
    (h : S w.drew → wpAnyH P .any ops (fun e a' w' => e = .normal ∧ Q e a' w') S ops.size (Array.replicate ops.size false) a w.drew) : (Code.region id ops true).wp P Q a w :=
  Code.wp_mono (fun _ _ _ q => q.2) (wp_region_held_drew hm hS h)
theorem elm22 : Try.prog.elem 22 = 5 := by kernel_rfl
set_option maxRecDepth 100000 in
set_option maxHeartbeats 4000000 in
theorem chlaw_long (w : World) (v : Value) (l : List Int) (size stop : Int) (h : HB w v l) (hl : ¬ l.length ≤ 4000) :
    Calls Try.prog 3 #[v, .int .i64 size, .int .i64 stop] w fun e w' => e = .returned (.bool true) ∧ Below w.heap.size w w' := by
  obtain ⟨p, c, rfl, hlc, hcm⟩ := h.open
  obtain ⟨L, HL⟩ : ∃ x, Hid (l.length = x) := ⟨_, rfl⟩
  rw [HL.out] at hl ⊢
  have hL : (4000 : Int) < (L : Int) := by omega
  clear h hl hlc hcm
  go_enter Try.func3, Try.ntmps3
  go_wp2_with fail
  refine bodyPost_ret (results_boolT rfl _ _ (w.heap.size + 1) true rfl ?_) rfl ⟨rfl, ((Below.refl _ w).alloc (Nat.le_refl _) _).alloc (by simp) _⟩
  have e1 : (w.alloc (.cells #[.int .i64 stop] 3)).heap.size = w.heap.size + 1 := by simp
  rw [← e1, cell_of_row _ _ _ _ _ _ (heap_alloc_new _ _)]
  rfl
theorem MC.alloc {w W : World} {cb : Nat} {M : List (Nat × Obj)} {E : Nat → Prop} (h : MC w cb M E W) (hE : ∀ i, E i → i < W.heap.size) (cs : Array Value) (t : TypeId) : MC w cb (M ++ [(W.heap.size, .cells cs t (0, 0))]) E (W.alloc (.cells cs t)) := by
  refine ⟨fun p hp => ?_, h.e, grown_two h.g (World.grownBy_alloc W _ none) (fun r e => by cases e)⟩
  rcases List.mem_append.1 hp with z | z
  · exact ⟨(Below.heap_alloc W _ p.1 (Array.getElem?_eq_some_iff.1 (h.m p z).1).1).trans (h.m p z).1, (h.m p z).2⟩
  · obtain rfl : p = (W.heap.size, Obj.cells cs t (0, 0)) := by simpa using z
    exact ⟨heap_alloc_new W _, fun q => by have := hE _ q; omega⟩
theorem GI.alloc {B cb : Nat} {w0 w W : World} {M : List (Nat × Obj)} {ls : List (List Int)} {E : Nat → Prop} (h : GI B cb w0 w M ls E W) (hE : ∀ i, E i → i < W.heap.size) (cs : Array Value) (t : TypeId) : GI B cb w0 w (M ++ [(W.heap.size, .cells cs t (0, 0))]) ls E (W.alloc (.cells cs t)) := by
  obtain ⟨⟨vg, vw, xs, us, ⟨h1, h2⟩, h3⟩, h4⟩ := h
  refine ⟨⟨vg, vw, xs, us, ⟨h1.keep fun b hb => Below.heap_alloc W _ b (h1.lt b hb), h2⟩, fun p hp q => ?_⟩, h4.alloc hE cs t⟩
  rcases List.mem_append.1 hp with z | z
  · exact h3 p z q
  · obtain rfl : p = (W.heap.size, Obj.cells cs t (0, 0)) := by simpa using z
    have := h1.lt _ q
    simp at this
theorem GI.sub {B cb : Nat} {w0 w W : World} {M M' : List (Nat × Obj)} {ls : List (List Int)} {E E' : Nat → Prop} (h : GI B cb w0 w M ls E W) (hm : ∀ p ∈ M', p ∈ M) (hE : ∀ i, E' i → E i) : GI B cb w0 w M' ls E' W := by
  obtain ⟨⟨vg, vw, xs, us, ⟨h1, h2⟩, h3⟩, h4⟩ := h
  exact ⟨⟨vg, vw, xs, us, ⟨h1, fun b hb q => h2 b hb (hE b q)⟩, fun p hp => h3 p (hm p hp)⟩, ⟨fun p hp => ⟨(h4.m p (hm p hp)).1, fun q => (h4.m p (hm p hp)).2 (hE _ q)⟩, fun i hi => h4.e i (hE i hi), h4.g⟩⟩
theorem GI.take {B cb d : Nat} {w0 w W : World} {M : List (Nat × Obj)} {ls : List (List Int)} {D : Nat → Prop} {o : Obj} (h : GI B cb w0 w M ls (fun i => D i ∨ i = d) W) (hd : W.heap[d]? = some o) (hn : ¬ D d) : GI B cb w0 w (M ++ [(d, o)]) ls D W := by
  obtain ⟨⟨vg, vw, xs, us, ⟨h1, h2⟩, h3⟩, h4⟩ := h
  refine ⟨⟨vg, vw, xs, us, ⟨h1, fun b hb q => h2 b hb (.inl q)⟩, fun p hp q => ?_⟩, ⟨fun p hp => ?_, fun i hi => h4.e i (.inl hi), h4.g⟩⟩
  · rcases List.mem_append.1 hp with z | z
    · exact h3 p z q
    · obtain rfl : p = (d, o) := by simpa using z
      exact h2 _ q (.inr rfl)
  · rcases List.mem_append.1 hp with z | z
    · exact ⟨(h4.m p z).1, fun q => (h4.m p z).2 (.inl q)⟩
    · obtain rfl : p = (d, o) := by simpa using z
      exact ⟨hd, hn⟩
theorem GI.at {B cb : Nat} {w0 w W : World} {M : List (Nat × Obj)} {ls : List (List Int)} {E : Nat → Prop} (h : GI B cb w0 w M ls E W) {b : Nat} {o : Obj} (hm : (b, o) ∈ M) : W.heap[b]? = some o := h.2.at hm
theorem GI.cell {B cb : Nat} {w0 w W : World} {M : List (Nat × Obj)} {ls : List (List Int)} {E : Nat → Prop} (h : GI B cb w0 w M ls E W) {b : Nat} {v : Value} {t : TypeId} (hm : (b, Obj.cells #[v] t (0, 0)) ∈ M) : W.cell? ⟨b, 0, none⟩ = some v := h.2.cell hm
theorem MC.set {w W : World} {cb q : Nat} {M : List (Nat × Obj)} {E : Nat → Prop} {v v' : Value} {t : TypeId} (h : MC w cb (M ++ [(q, .cells #[v] t (0, 0))]) E W) (hq : w.heap.size ≤ q) (hn : ∀ p ∈ M, p.1 ≠ q) : MC w cb (M ++ [(q, .cells #[v'] t (0, 0))]) E (W.setCell ⟨q, 0, none⟩ v') := by
  refine ⟨fun p hp => ?_, h.e, grown_two h.g (grown_set W q 0 v') (fun r e => by cases e; exact .inl hq)⟩
  rcases List.mem_append.1 hp with z | z
  · have := h.m p (List.mem_append_left _ z)
    exact ⟨(heap_setCell_other _ _ _ _ (by simpa using hn p z)).trans this.1, this.2⟩
  · obtain rfl : p = (q, Obj.cells #[v'] t (0, 0)) := by simpa using z
    have := h.m (q, .cells #[v] t (0, 0)) (List.mem_append_right _ (by simp))
    refine ⟨?_, this.2⟩
    rw [bk_setC this.1]
    simp
theorem keyedC {P : Nat → World → Prop} {K : Act → World → Prop} {G : Prop} (A : Nat → Act) (hkey : ∀ d W', P d W' → K (A d) W') (main : (∀ d W', P d W' → K (A d) W') → G) : G := main hkey
section
variable {F : Fence} {n : Nat} {ops : Array Oper} {Q : Exit → Act → World → Prop} {o : Oper} {rest : List Oper} {a : Act} {w w' : World}
theorem wpListIn_appC {v v' : Value} {ad : Addr} {c : Nat} (s x : Operand) (hg : o.guard = none)
    (ho : o.op = .call { callee := .builtin .append, args := #[s, x], argTypes := #[24, 24] }) (hs : a.eval s = v) (hx : a.eval x = .slice (some ad) 1 c)
    (hr : (Builtin.append_ #[24, 24] o.type #[v, .slice (some ad) 1 c]).run Try.prog w = .ok v' w') (h : wpListIn F n Try.prog ops Q rest (a.put o.dst v') w') : wpListIn F n Try.prog ops Q (o :: rest) a w := by
  refine wpListIn_plain hg fun K' hK' => ?_
  unfold Oper.wpIn
  refine ⟨?_, ?_⟩
  · simp [Oper.about, ho, resolve, Target.leads, Sem.run_pure]
  · rw [Oper.semAt_plain F _ _ (by rw [ho]; intro c hc'; cases hc')]
    simp only [execOp, ho, resolve, invoke, builtin, Sem.run_bind, Sem.run_pure, Result.andThen_ok, List.map_toArray, List.map_cons, List.map_nil, hs, hx, hr]
    exact hK' _ _ h
theorem wpListIn_litC (t : TypeId) (len : Nat) (parts : Array (Nat × Operand)) (hg : o.guard = none) (ho : o.op = .buildSlice t len parts) (ps : Array (Nat × Value)) (hps : (parts.map fun (i, x) => (i, a.eval x)) = ps) (v : Value)
    (hr : (Instr.buildSlice t len ps).run Try.prog w = .ok v w') (h : wpListIn F n Try.prog ops Q rest (a.put o.dst v) w') : wpListIn F n Try.prog ops Q (o :: rest) a w := by
  refine wpListIn_plain hg fun K' hK' => ?_
  unfold Oper.wpIn
  refine ⟨?_, ?_⟩
  · simp [Oper.about, ho]
  · rw [Oper.semAt_plain F _ _ (by rw [ho]; intro c hc'; cases hc')]
    simp only [execOp, ho, Sem.run_bind, hps, hr, Result.andThen_ok]
    exact hK' _ _ h
end
end Go.Proofs.Ytnifnoadfepegaa
namespace Go.Proofs.Ytnifnoadfepegaa
open Go.RowKit
def InU (us : List Value) (b : Nat) : Prop := ∃ j, j < us.length ∧ (us.getD j undef).ownBlock = some b
structure BG (us : List Value) (B : Nat) (w w' : World) : Prop where
  bel : Below B w w'
  loc : ∀ b, b < w.heap.size → ¬ InU us b → w'.heap[b]? = w.heap[b]?
theorem BG.refl (us : List Value) (B : Nat) (w : World) : BG us B w w := ⟨Below.refl _ _, fun _ _ _ => rfl⟩
theorem BG.size {us : List Value} {B : Nat} {w w' : World} (h : BG us B w w') : w.heap.size ≤ w'.heap.size := h.bel.size
theorem BG.drew {us : List Value} {B : Nat} {w w' : World} (h : BG us B w w') : BG us B w w'.drew := ⟨h.bel.drew, h.loc⟩
theorem BG.alloc {us : List Value} {B : Nat} {w w' : World} (h : BG us B w w') (hB : B ≤ w'.heap.size) (o : Obj) : BG us B w (w'.alloc o) :=
  ⟨h.bel.alloc hB o, fun b q n => (heap_alloc_old w' o (Nat.lt_of_lt_of_le q h.size)).trans (h.loc b q n)⟩
theorem BG.setCell {us : List Value} {B : Nat} {w w' : World} (h : BG us B w w') {g i : Nat} (hp : B ≤ g) (u : Value) (hT : InU us g) : BG us B w (w'.setCell ⟨g, i, none⟩ u) :=
  ⟨h.bel.setCell hp u, fun b q n => by
    have e := h.loc b q n
    rw [← e]
    have : g ≠ b := fun x => n (x ▸ hT)
    simp [World.setCell, Array.getElem?_modify, this]⟩
theorem BG.grown {us : List Value} {B : Nat} {w w' w2 : World} {row : Option Nat} (h : BG us B w w') (hg : w'.grownBy w2 row) (hB : B ≤ w'.heap.size) (hr : ∀ k, row = some k → B ≤ k) (hT : ∀ k, row = some k → InU us k ∨ w.heap.size ≤ k) : BG us B w w2 :=
  ⟨h.bel.grown hg hB hr, fun b q n => by
    have e := h.loc b q n
    rw [← e]
    refine hg.block b (Nat.lt_of_lt_of_le q h.size) (fun x => ?_)
    rcases hT b x.symm with h2 | h2
    · exact n h2
    · omega⟩
set_option maxHeartbeats 4000000 in
theorem apart_anyG (B : Nat) (w : World) (v : Value) (us : List Value) (ls : List (List Int)) (hv : HV w v us) (ha : Apt B w us ls) (hB : B ≤ w.heap.size) (hn : us.length ≤ 5864062014634) (hls : ∀ k, (ls.getD k []).length ≤ 140737488351232) :
    Calls Try.prog 12 #[v] w fun e w' => e = .returned (.bool true) ∧ BG us B w w' := by
  obtain ⟨p, c, e, hlc, hm, hcell⟩ := id hv
  unfold maxLen at hm
  subst e
  have A : Hid (0 < us.length → ∃ b off, p = some ⟨b, off, none⟩) := fun h0 => by
    obtain ⟨b, off, e, _⟩ := hcell (by intro e; subst e; simp at h0)
    exact ⟨b, off, e⟩
  have HV0 := hid hv
  have HA0 := hid (Ph1.start ha)
  have HLS := hid hls
  clear hcell hv ha hls
  go_enter Try.func12, Try.ntmps12
  go_wp2
  go_loopw [3] (fun k wr => ∃ K : Nat, K ≤ us.length ∧ k = .int .i64 K ∧ Hid (Ph1 B wr us ls K 0) ∧ Hid (HV wr (.slice p us.length c) us) ∧ Hid (BG us B w wr)) (fun k _ => us.length - (intOf k).toNat)
  case atStart => exact ⟨0, Nat.zero_le _, rfl, HA0, HV0, BG.refl _ _ _⟩
  case round =>
    clear HA0 HV0
    obtain ⟨K, hK, rfl, HP, HVr, HBr⟩ := hrel
    by_cases hlt : K < us.length
    · obtain ⟨b, off, rfl⟩ := A.out (by omega)
      have hcells : Hid (∀ wz, HV wz (.slice (some ⟨b, off, none⟩) us.length c) us → wz.cell? ⟨b, off + K, none⟩ = some (us.getD K undef)) := by
        intro wz hz
        obtain ⟨p', c', e', _, _, h4⟩ := hz
        obtain ⟨b', off', e2, _, hc⟩ := h4 (by intro e; subst e; simp at hlt)
        simp only [Value.slice.injEq, true_and] at e'
        rw [← e'.1] at e2
        simp only [Option.some.injEq, Addr.mk.injEq, and_true] at e2
        obtain ⟨rfl, rfl⟩ := e2
        exact hc K hlt
      obtain ⟨n, HN⟩ : ∃ n, Hid ((ls.getD K []).length = n) := ⟨_, rfl⟩
      have hn2 : n ≤ 140737488351232 := by rw [← HN.out]; exact HLS.out K
      obtain ⟨pk, ck, HU⟩ : ∃ pk ck, Hid (us.getD K undef = .slice pk n ck) := by
        obtain ⟨pk, ck, e⟩ := HP.out.slice K hlt
        rw [HN.out] at e
        exact ⟨pk, ck, e⟩
      go_wp2
      go_loopw [4] (fun i wz => ∃ I : Nat, I ≤ n ∧ i = .int .i64 I ∧ Hid (Ph1 B wz us ls K I) ∧ Hid (HV wz (.slice (some ⟨b, off, none⟩) us.length c) us) ∧ Hid (BG us B w wz)) (fun i _ => n - (intOf i).toNat)
      case atStart => exact ⟨0, Nat.zero_le _, rfl, HP, HVr, HBr⟩
      case round =>
        clear HP HVr HBr
        obtain ⟨I, hI, rfl, HP, HVr, HBr⟩ := hrel
        have hc1 := hcells.out wr HVr.out
        rw [HU.out] at hc1
        by_cases hli : I < n
        · obtain ⟨g, ck', e, hck, hck2, hgB, hBT, hcc⟩ := HP.out.some K hlt (by rw [HN.out]; omega)
          rw [HU.out, HN.out] at e
          simp only [Value.slice.injEq, true_and] at e
          obtain ⟨rfl, rfl⟩ := e
          obtain ⟨⟨z, hz⟩, hfz⟩ := hcc I (by rw [HN.out]; exact hli)
          rw [HN.out] at hck2
          unfold maxLen at hck
          have HBT := hid hBT
          have hgb : b ≠ g := (HVr.out.block (by omega)).ne hBT (by decide)
          have hbg : g ≠ b := Ne.symm hgb
          clear hcc hBT
          go_wp2
          go_region_held3 (fun w' => w'.cell? ⟨b, off + K, none⟩ = some (.slice (some ⟨g, 0, none⟩) n ck)) (go_keep) ((go_at_call 13; refine (mark_eq _ (K + 1) I _ _ (wrap_succ K (by omega)) rfl (by omega) (by omega)).mono ?_; rintro e wz ⟨rfl, hw⟩; have hw' := hw.symm; subst hw'; clear hw))
          have hst := HP.out.step hlt (by rw [HN.out]; exact hli) HU.out
          have HP2 := hid hst.1.drew
          have HV2 := hid (HVr.out.grown hst.2 (fun g' e => by cases e; exact HBT.out)).drew
          have HB2 := hid (HBr.out.setCell (g := g) (i := I) hgB (.int .u8 (mkB (K + 1) I)) ⟨K, hlt, by rw [HU.out]; rfl⟩).drew
          clear hst
          go_wp2
          exact ⟨⟨I + 1, by omega, by go_num, HP2, HV2, HB2⟩, by simp [intOf]; omega⟩
        · have HP2 := hid (HP.out.next (by rw [HN.out]; omega))
          go_wp2
          exact ⟨⟨K + 1, by omega, by go_num, HP2, HVr, HBr⟩, by simp [intOf]; omega⟩
    · have hKn : K = us.length := by omega
      have HPl : Hid (Pool B wr us ls 0 0 []) := by
        have := HP.out
        rw [hKn] at this
        exact this.pool
      obtain ⟨N, HN⟩ : ∃ N, Hid (wr.heap.size = N) := ⟨_, rfl⟩
      have HNu : Hid (∀ j b, j < us.length → (us.getD j undef).ownBlock = some b → b < N) := fun j b hj hb => by rw [← HN.out]; exact (HPl.out.2.1.2.1 j b hj hb).1
      have HNv : Hid (∀ b off n c', Value.slice p us.length c = .slice (some ⟨b, off, none⟩) n c' → 0 < us.length → b < N) := fun b off n c' e h0 => by
        rw [← HN.out]
        have h1 := HVr.out
        rw [e] at h1
        obtain ⟨cur, fz, hh⟩ := h1.block h0
        exact (Array.getElem?_eq_some_iff.1 hh).1
      have HNW : Hid (w.heap.size ≤ N) := by rw [← HN.out]; exact HBr.out.size
      have HNB : Hid (B ≤ N) := by rw [← HN.out]; exact Nat.le_trans hB HBr.out.size
      have HNs : Hid (N ≤ wr.heap.size) := by rw [HN.out]; exact Nat.le_refl N
      clear HP hKn HN
      go_wp2
      go_loopw [5, 6] (fun gs k wz => ∃ (K : Nat) (gl : List Value), K ≤ us.length ∧ k = .int .i64 K ∧ Hid (Pool B wz us ls K K gl) ∧ Hid (wz.ownsRow N 22 1 gs K gl) ∧ Hid (HV wz (.slice p us.length c) us) ∧ Hid (BG us B w wz) ∧ Hid (N ≤ wz.heap.size)) (fun _ k _ => us.length - (intOf k).toNat)
      case atStart => exact ⟨0, [], Nat.zero_le _, rfl, HPl, World.ownsRow_nil _ _ _ _, HVr, HBr, HNs⟩
      case round =>
        clear HPl HVr HBr HNs hlt hK
        obtain ⟨K, gl, hK, rfl, HP, HG, HVr, HBr, HNs⟩ := hrel
        by_cases hlt : K < us.length
        · obtain ⟨b, off, rfl⟩ := A.out (by omega)
          obtain ⟨n, HNn⟩ : ∃ n, Hid ((ls.getD K []).length = n) := ⟨_, rfl⟩
          have hn2 : n ≤ 140737488351232 := by rw [← HNn.out]; exact HLS.out K
          obtain ⟨pk, ck, HU⟩ : ∃ pk ck, Hid (us.getD K undef = .slice pk n ck) := by
            obtain ⟨pk, ck, e⟩ := HP.out.2.1.2.2 K hlt
            rw [HNn.out] at e
            exact ⟨pk, ck, e⟩
          have hc1 := HVr.out.cellAt K hlt
          rw [HU.out] at hc1
          have HC := hid (Cur.start HP.out hlt)
          rw [HU.out] at HC
          go_wp2
          go_loopw [7, 8] (fun g i wz => ∃ m : Nat, m ≤ 70 ∧ i = .int .i64 m ∧ Hid (Cur B wz us ls K gl g m) ∧ Hid (∀ k, g.ownBlock = some k → InU us k ∨ N ≤ k) ∧ Hid (wz.ownsRow N 22 1 u5 K gl) ∧ Hid (HV wz (.slice (some ⟨b, off, none⟩) us.length c) us) ∧ Hid (BG us B w wz) ∧ Hid (N ≤ wz.heap.size)) (fun _ i _ => 70 - (intOf i).toNat)
          case atStart => exact ⟨0, Nat.zero_le _, rfl, HC, (fun k e => .inl ⟨K, hlt, by rw [HU.out]; exact e⟩), HG, HVr, HBr, HNs⟩
          case round =>
            clear HC HG HVr HBr HNs hc1
            obtain ⟨m, hm70, rfl, HC, HIN, HG, HVr, HBr, HNs⟩ := hrel
            have hc1 := HVr.out.cellAt K hlt
            rw [HU.out] at hc1
            by_cases hlm : m < 70
            · have hlm2 : (m : Int) < 70 := by omega
              go_wp2_with fail
              refine (mark_eq wr (K + 1) (n + m) _ _ (by omega) (by omega) (by omega) (by omega)).mono ?_
              rintro e wz ⟨rfl, hw⟩
              have hw' := hw.symm
              subst hw'
              clear hw
              have HCa := hid (HC.out.alloc hlt (.cells #[.int .u8 (mkB (K + 1) (n + m))] 5))
              have HO := HCa.out.2.1
              rw [HNn.out] at HO
              have HOh := hid HO
              clear HO
              go_wp2_with (at_builtin; refine wpList_append_byte rfl _ _ rfl B _ (n + m) _ rfl HOh.out ⟨wr.heap.size, 0, none⟩ 1 (mkB (K + 1) (n + m)) rfl (by simp) ?q1 ?q2 ?_)
              case q1 => omega
              case q2 => have := HBr.out.size; simp; omega
              intro g' w2 hown2 hgr2 hd2
              have hBT := own_BT HOh.out
              have hal := World.grownBy_alloc wr (.cells #[.int .u8 (mkB (K + 1) (n + m))] 5) none
              have HC2 := hid (HCa.out.step hlt (by rw [HNn.out]; exact hown2) hgr2 (by rw [World.size_alloc]; exact hd2))
              have HG2 : Hid (w2.ownsRow N 22 1 u5 K gl) := by
                have h1 := HG.out.alloc (.cells #[.int .u8 (mkB (K + 1) (n + m))] 5)
                refine h1.kept hgr2 ?_
                cases hx : u7.ownBlock with
                | none => cases hy : u5.ownBlock <;> simp
                | some q =>
                  obtain ⟨cur, fz, hh⟩ := hBT q hx
                  exact .inr (own_block_ne h1 hh (by decide))
              have HV2 := hid ((HVr.out.grown hal (fun g e => by cases e)).grown hgr2 hBT)
              have HB2 := hid ((HBr.out.alloc (Nat.le_trans hB HBr.out.size) (.cells #[.int .u8 (mkB (K + 1) (n + m))] 5)).grown hgr2 (by have := HBr.out.size; simp; omega) (fun k e => (HOh.out.lt k e).1) (fun k e => (HIN.out k e).imp id (fun q => Nat.le_trans HNW.out q)))
              have HIN2 : Hid (∀ k, g'.ownBlock = some k → InU us k ∨ N ≤ k) := fun k e => by
                rcases hd2 with hd | hd
                · exact HIN.out k (hd ▸ e)
                · right
                  have h2 := HNs.out
                  have h3 := hd.1.symm.trans e
                  simp only [Option.some.injEq] at h3
                  omega
              have HN2 : Hid (N ≤ w2.heap.size) := by have h1 := hgr2.size; have h2 := HNs.out; simp at h1; exact Nat.le_trans h2 (by omega)
              clear hown2 hgr2 hd2 hBT hal
              go_wp2
              exact ⟨⟨m + 1, by omega, by go_num, HC2, HIN2, HG2, HV2, HB2, HN2⟩, by simp [intOf]; omega⟩
            · have e70 : m = 70 := by omega
              subst e70
              have HPn := hid (HC.out.finish hlt)
              have HOg := HC.out.2.1
              rw [HNn.out] at HOg
              obtain ⟨pg, cg, eg, _, _⟩ : ∃ pg cg, u7 = .slice pg (n + 70) cg ∧ True ∧ True := by
                rcases HOg.2 with ⟨_, e⟩ | ⟨g', cap, cur, e, _⟩
                · omega
                · exact ⟨_, _, e, trivial, trivial⟩
              subst eg
              obtain ⟨i0, hi, hz0, hz1, hz2⟩ := info_parts info_bytes
              have HGa := hid (HG.out.alloc (.cells #[.slice pg (n + 70) cg] 22))
              have hal := World.grownBy_alloc wr (.cells #[.slice pg (n + 70) cg] 22) none
              have tr : ∀ x : Option Nat, x = none ∨ x ≠ none := fun x => by cases x <;> simp
              have HPa := hid (HPn.out.grown hal (fun i _ => tr _) (fun j _ _ => tr _) (by omega))
              have HVa := hid (HVr.out.grown hal (fun g e => by cases e))
              have HBa := hid (HBr.out.alloc (Nat.le_trans hB HBr.out.size) (.cells #[.slice pg (n + 70) cg] 22))
              clear HOg tr hal
              go_wp2_with (at_builtin; refine wpList_append_own _ rfl _ _ 24 rfl N 22 i0 (.slice none 0 0) 1 24 Try.underlying24 hi hz0 hz1 hz2 rfl (by decide) _ K gl rfl HGa.out ⟨wr.heap.size, 0, none⟩ 1 1 [_] rfl rfl (cell_one_new _ _ _) ?q1 ?q2 ?q3 ?q4 ?_)
              case q1 => intro u hu; simp only [List.mem_singleton] at hu; subst hu; rfl
              case q2 => unfold maxLen; omega
              case q3 => omega
              case q4 => have := HNs.out; simp; omega
              intro gs' w2 hown2 hgr2 _
              have hlo : ∀ g, u5.ownBlock = some g → N ≤ g := fun g e => (HGa.out.lt g e).1
              have HP2 : Hid (Pool B w2 us ls (K + 1) (K + 1) (gl ++ [.slice pg (n + 70) cg])) := by
                refine HPa.out.grown hgr2 (fun i hi => ?_) (fun j hj _ => ?_) (by omega)
                · cases hx : u5.ownBlock with
                  | none => cases hy : ((gl ++ [Value.slice pg (n + 70) cg]).getD i undef).ownBlock <;> simp
                  | some q =>
                    obtain ⟨cur, fz, hh⟩ := own_BT HGa.out q hx
                    exact .inr (own_block_ne (HPa.out.2.2.1 i hi).1 hh (by decide))
                · cases hx : (us.getD j undef).ownBlock with
                  | none => exact .inl rfl
                  | some q =>
                    right
                    intro e
                    have h1 := HNu.out j q hj hx
                    have h2 := hlo q e.symm
                    omega
              have HV2 := hid (HVa.out.apart hgr2 hlo HNv.out)
              have HB2 := hid (HBa.out.grown hgr2 (by have := HBr.out.size; simp; omega) (fun k e => Nat.le_trans HNB.out (hlo k e)) (fun k e => .inr (Nat.le_trans HNW.out (hlo k e))))
              have HG2 : Hid (w2.ownsRow N 22 1 gs' (K + 1) (gl ++ [.slice pg (n + 70) cg])) := hown2
              have HN2 : Hid (N ≤ w2.heap.size) := by have h1 := hgr2.size; have h2 := HNs.out; simp at h1; exact Nat.le_trans h2 (by omega)
              clear hown2 hgr2 hlo
              go_wp2
              exact ⟨⟨K + 1, _, by omega, by go_num, HP2, HG2, HV2, HB2, HN2⟩, by simp [intOf]; omega⟩
        · have hKn : K = us.length := by omega
          subst hKn
          obtain ⟨pg, cg, eg⟩ : ∃ pg cg, u5 = .slice pg us.length cg := by
            rcases HG.out.2 with ⟨e, e2⟩ | ⟨g', cap, cur, e, _⟩
            · exact ⟨none, 0, by rw [e, e2]⟩
            · exact ⟨_, _, e⟩
          subst eg
          go_wp2
          go_loop [9] (fun k => ∃ Q : Nat, Q ≤ us.length ∧ k = .int .i64 Q) (fun k => us.length - (intOf k).toNat)
          case atStart => exact ⟨0, Nat.zero_le _, rfl⟩
          case round =>
            obtain ⟨Q, hQ, rfl⟩ := hrel
            by_cases hlq : Q < us.length
            · obtain ⟨b, off, rfl⟩ := A.out (by omega)
              obtain ⟨n, HNn⟩ : ∃ n, Hid ((ls.getD Q []).length = n) := ⟨_, rfl⟩
              have hn2 : n ≤ 140737488351232 := by rw [← HNn.out]; exact HLS.out Q
              have hc1 := HVr.out.cellAt Q hlq
              obtain ⟨hrow, hu⟩ := HP.out.2.2.1 Q hlq
              rw [HNn.out] at hrow hu
              obtain ⟨pk, ck, HU⟩ : ∃ pk ck, Hid (us.getD Q undef = .slice pk n ck) := by
                obtain ⟨pk, ck, e⟩ := HP.out.2.1.2.2 Q hlq
                rw [HNn.out] at e
                exact ⟨pk, ck, e⟩
              rw [HU.out] at hc1 hu
              obtain ⟨gg, capg, eg, _, hcg1, hcg2, hgc⟩ := ownsRow_cells HG.out (by omega)
              simp only [Value.slice.injEq, true_and] at eg
              obtain ⟨rfl, rfl⟩ := eg
              have hgl : gl.length = us.length := HP.out.1
              have hc2 := hgc Q (gl.getD Q undef) (by simp [List.getD, List.getElem?_eq_getElem (show Q < gl.length by omega)])
              rw [Nat.zero_add] at hc2
              obtain ⟨gq, capq, eq, _, hq1, hq2, hqc⟩ := ownsRow_cells hrow (by omega)
              rw [eq] at hc2
              have HQ : Hid (∀ I, I < n + 70 → wr.cell? ⟨gq, I, none⟩ = some (.int .u8 (mkB (Q + 1) I))) := fun I hI => by
                have hjl : I < (marksL (Q + 1) (n + 70)).length := by rw [marksL_length]; exact hI
                have := hqc I (.int .u8 (mkB (Q + 1) I)) (by rw [List.getElem?_map, List.getElem?_eq_getElem hjl, ← getD_of_lt hjl, marksL_getD _ _ _ hI]; rfl)
                rwa [Nat.zero_add] at this
              have HUc : Hid (∀ I, I < n → ∃ b' off', pk = some ⟨b', off', none⟩ ∧ wr.cell? ⟨b', off' + I, none⟩ = some (.int .u8 (mkB (Q + 1) I)) ∧ n ≤ ck) := fun I hI => by
                obtain ⟨b', off', c', e, h1, h2, hh⟩ := hu.ne (by rw [marksL_length]; omega)
                rw [marksL_length] at e hh h1
                simp only [Value.slice.injEq, true_and] at e
                obtain ⟨rfl, rfl⟩ := e
                have := hh I hI
                rw [marksL_getD _ _ _ hI] at this
                exact ⟨b', off', rfl, this, h1⟩
              unfold maxLen at hcg2 hq2
              clear hrow hu hgc hqc eq hgl
              go_wp2
              go_loop [10] (fun i => ∃ I : Nat, I ≤ n + 70 ∧ i = .int .i64 I) (fun i => n + 70 - (intOf i).toNat)
              case atStart => exact ⟨0, Nat.zero_le _, rfl⟩
              case round =>
                obtain ⟨I, hI, rfl⟩ := hrel
                by_cases hli : I < n + 70
                · have hx1 := HQ.out I hli
                  have hli2 : (I : Int) < (n : Int) + 70 := by omega
                  go_wp2_with fail
                  refine (mark_eq wr (Q + 1) I _ _ (by omega) rfl (by omega) (by omega)).mono ?_
                  rintro e wz ⟨rfl, hw⟩
                  have hw' := hw.symm
                  subst hw'
                  clear hw
                  obtain ⟨x, HX⟩ : ∃ x, Hid (mkB (Q + 1) I = x) := ⟨_, rfl⟩
                  rw [HX.out] at hx1 ⊢
                  have hxx : (x != x) = false := by simp
                  by_cases hln : I < n
                  · have hdn : decide ((I : Int) < (n : Int)) = true := by simp; omega
                    have hln2 : (I : Int) < (n : Int) := by omega
                    obtain ⟨b', off', rfl, hx2, _⟩ := HUc.out I hln
                    rw [HX.out] at hx2
                    go_wp2
                    exact ⟨⟨I + 1, by omega, by go_num⟩, by simp [intOf]; omega⟩
                  · have hdn : decide ((I : Int) < (n : Int)) = false := by simp; omega
                    go_wp2
                    exact ⟨⟨I + 1, by omega, by go_num⟩, by simp [intOf]; omega⟩
                · have hli2 : ¬ ((I : Int) < (n : Int) + 70) := by omega
                  go_wp2
                  exact ⟨⟨Q + 1, by omega, by go_num⟩, by simp [intOf]; omega⟩
            · go_wp2
              go_ret
              exact ⟨rfl, HBr.out⟩
end Go.Proofs.Ytnifnoadfepegaa
