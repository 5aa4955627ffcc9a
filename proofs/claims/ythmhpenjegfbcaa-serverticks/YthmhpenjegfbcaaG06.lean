/- Of the road to serverTicksUpto_holds: SvDo, SvDoN, SvUsed, SvStore, SvDoS, SvLawA, SvLawB, SvDoF, SvTkP, IntsA. -/
import Derived.Test.YthmhpenjegfbcaaG05
import Derived.Test.YthmhpenjegfbcaaG01
import Derived.Test.YthmhpenjegfbcaaG04
import Derived.Test.YthmhpenjegfbcaaG03
import Derived.Test.YthmhpenjegfbcaaG00
import Derived.Laws.AppendOwn
set_option linter.unusedVariables false
set_option linter.unusedSimpArgs false
namespace Go.Proofs.Ythmhpenjegfbcaa
open Go Go.RowKit
theorem lays_any (w : World) (k : Int) : Calls Try.prog 30 #[.int .u8 k] w fun e w' => e = .returned (.bool (k == 2 || k == 4)) ∧ w' = w := by
  go_enter Try.func30, Try.ntmps30
  go_wp2
  all_goals go_ret
  all_goals (refine ⟨?_, rfl⟩; simp_all)
theorem results_cellT {P : Program} {fn : Func} {p q : Tmp} {ty : TypeId} (h : fn.results = #[.cell p ty, .tmp q]) (tmps : Array Value) (w : World) (g : Nat) (t : TypeId) (cs : Array Value) (fr : Nat × Nat) (d : TypeDesc) (u : Value)
    (hp : tmps.getD p undef = .pointer (some ⟨g, 0, none⟩)) (hq : tmps.getD q undef = u) (hg : w.heap[g]? = some (.cells cs t fr)) (hu : P.underlying ty = some d) (hd : (match d with | .struct _ | .array _ _ => true | _ => false) = true) (hi : (P.info? ty).map (·.size) = some cs.size) :
    (results fn tmps).run P w = .ok (.tuple #[.agg cs, u]) w := by
  have hp' : tmps[p]?.getD undef = .pointer (some ⟨g, 0, none⟩) := by simpa using hp
  have hq' : tmps[q]?.getD undef = u := by simpa using hq
  simp [results, h, hp', hq', asAddr, run_loadVar_row w g t ty cs fr d hg hu hd hi]
theorem wanted_look {P : Program} {ops : Array Oper} {o : Oper} {a : Act} {w : World} {K : Act → World → Prop} {Q : Exit → Act → World → Prop} {X : Prop} (hw : Region.wanted o (yielded ops a.tmps) = true) (t : TypeId) (x y : Operand) (two : Bool) (ho : o.op = .lookup t x y two) (vx vy : Value) (hx : a.eval x = vx) (hy : a.eval y = vy) (v : Value)
    (hr : (Instr.lookup t vx vy two).run P w = .ok v w) (h : K (a.put o.dst v) w) : if Region.wanted o (yielded ops a.tmps) = true then Oper.wp P o a w K Q else X := by
  rw [if_pos hw]
  unfold Oper.wp execOp
  simp only [ho, Sem.run_bind, hx, hy, hr, Result.andThen_ok]
  exact h
theorem free_row {w : World} {b : Nat} {cs : Array Value} {T : TypeId} (h : w.heap[b]? = some (.cells cs T (0, 0))) : ∀ i, w.frozen? ⟨b, i, none⟩ = false := fun i => free_of h i
set_option maxRecDepth 100000 in
set_option maxHeartbeats 16000000 in
theorem do_have {w : World} {g b c : Nat} {room tick : Int} {Z : List (MapEntry × En)} {S : Nat → Prop} (h : HZ w g b c room tick Z S) (hu : usedL Z ≤ 1125899906842624) (t : Int) (h0 : tick ≤ t) (h9 : t ≤ 1099511627776) (r : Rq) (hr : r.ok) (pv : Option Addr) (nv cv : Nat) (hk : r.k = 1) (hmay : mayB r nv = true) :
    Calls Try.prog 10 #[.pointer (some ⟨g, 0, none⟩), .int .i64 t, .agg (rqA r (.slice pv nv cv))] w fun e w' => ∃ vn, e = .returned (.tuple #[.agg #[.int .u8 1, vn, .slice none 0 0], .int .i64 0]) ∧ w'.ownsRow w.heap.size 3 1 vn (numsL (tkZ tick t Z) (fun _ => true) r.ix 255).length (ivN (numsL (tkZ tick t Z) (fun _ => true) r.ix 255)) ∧ HZ w' g b c room t (tkZ tick t Z) S ∧ Ex S w w' := by
  obtain ⟨m, HM⟩ : ∃ m, Hid (rqA r (.slice pv nv cv) = m) := ⟨_, hid rfl⟩
  rw [HM.out]
  obtain ⟨W1, HW1⟩ : ∃ W : World, Hid (w.alloc (.cells m 33) = W) := ⟨_, hid rfl⟩
  obtain ⟨W2, HW2⟩ : ∃ W : World, Hid (W1.alloc (.cells #[.int .u8 0, .slice none 0 0, .slice none 0 0] 46) = W) := ⟨_, hid rfl⟩
  have Z1 : Hid (W1.heap.size = w.heap.size + 1) := hid (by rw [← HW1.out]; simp)
  have Z2 : Hid (W2.heap.size = w.heap.size + 2) := hid (by rw [← HW2.out]; simp [Z1.out])
  have B1 : Hid (Below w.heap.size w W1) := by rw [← HW1.out]; exact hid ((Below.refl _ w).alloc (Nat.le_refl _) _)
  have B2 : Hid (Below W1.heap.size W1 W2) := by rw [← HW2.out]; exact hid ((Below.refl _ W1).alloc (Nat.le_refl _) _)
  have BB : Hid (Below w.heap.size w W2) := hid (B1.out.trans (B2.out.mono B1.out.size))
  have hbx : Hid (W2.heap[w.heap.size]? = some (.cells (rqL r (.slice pv nv cv)).toArray 33 (0, 0))) := hid ((B2.out.block _ (by have := Z1.out; omega)).trans (by rw [show (rqL r (.slice pv nv cv)).toArray = m from HM.out, ← HW1.out]; exact heap_alloc_new w _))
  have hrep : Hid (W2.heap[w.heap.size + 1]? = some (.cells #[.int .u8 0, .slice none 0 0, .slice none 0 0] 46 (0, 0))) := hid (by rw [← Z1.out, ← HW2.out]; exact heap_alloc_new W1 _)
  have SR := hid (size_rq hr (.slice pv nv cv))
  have CT := hid (tick_ok (h.below BB.out) hu t h0 h9)
  have HSl : Hid (∀ k, S k → k < w.heap.size) := hid h.lt
  have CM := hid fun (W : World) => may_any W r hr pv nv cv
  rw [hmay, HM.out] at CM
  have CL := hid lays_any
  have HLM : Hid ((rqL r (.slice pv nv cv)).toArray = m) := hid HM.out
  have Z1' := Z1.out
  have q0 : Hid (∀ W : World, W.heap[w.heap.size]? = some (.cells (rqL r (.slice pv nv cv)).toArray 33 (0, 0)) → W.cell? ⟨w.heap.size, 0, none⟩ = some (.int .u8 1)) := hid (fun W hW => by rw [cell_of_row _ _ _ _ _ _ hW, ← hk]; rfl)
  have HRK := hid hr
  clear h hr hmay hk
  go_enter Try.func10, Try.ntmps10
  refine wp_seq_k fun K0 h0 => ?_
  have H0 := hid h0
  clear h0
  go_wp2
  rw [HW1.out, HW2.out]
  refine H0.out _ _ ?_
  go_wp2_with fail
  refine CT.out.mono ?_
  rintro e w3 ⟨rfl, hz3, hx3⟩
  have HZ3 := hid hz3
  have EX3 := hid hx3
  clear hz3 hx3 CT
  have b3 : Hid (w3.heap[w.heap.size]? = some (.cells (rqL r (.slice pv nv cv)).toArray 33 (0, 0))) := hid ((EX3.out.block _ (by have := Z2.out; omega) (fun q => by have := HSl.out _ q; omega)).trans hbx.out)
  have r3 : Hid (w3.heap[w.heap.size + 1]? = some (.cells #[.int .u8 0, .slice none 0 0, .slice none 0 0] 46 (0, 0))) := hid ((EX3.out.block _ (by have := Z2.out; omega) (fun q => by have := HSl.out _ q; omega)).trans hrep.out)
  have R3 := hid (range_of b3.out)
  go_wp2_with (refine wpList_load_mid rfl 33 _ rfl w.heap.size 0 rfl (rqL r (.slice pv nv cv)) _ R3.out Try.underlying33 rfl SR.out ?_; rw [HLM.out])
  refine (CM.out _).mono ?_
  rintro e w4 ⟨rfl, hb4⟩
  have B4 := hid hb4
  clear hb4
  have s3 := EX3.out.size
  have s3' := Z2.out
  have b4 : Hid (w4.heap[w.heap.size]? = some (.cells (rqL r (.slice pv nv cv)).toArray 33 (0, 0))) := hid ((B4.out.block _ (by omega)).trans b3.out)
  have r4 : Hid (w4.heap[w.heap.size + 1]? = some (.cells #[.int .u8 0, .slice none 0 0, .slice none 0 0] 46 (0, 0))) := hid ((B4.out.block _ (by omega)).trans r3.out)
  have k4 := q0.out _ b4.out
  go_wp2_with fail
  refine (CL.out _ _).mono ?_
  rintro e w5 ⟨rfl, hw5⟩
  subst hw5
  have R4 : Hid (∀ W, Ex (fun k => k = w.heap.size + 1) w5 W → W.rangeAt w.heap.size 0 (rqL r (.slice pv nv cv)) ∧ W.cell? ⟨w.heap.size, 0, none⟩ = some (.int .u8 1)) := hid (fun W hW => by
    have q := (hW.block w.heap.size (by have := B4.out.size; omega) (by omega)).trans b4.out
    exact ⟨range_of q, q0.out _ q⟩)
  have bd : Ex (fun k => k = w.heap.size + 1) w5 w5.drew := (Ex.refl _ w5).drew
  have HX : Hid (∀ W, Ex (fun k => k = w.heap.size + 1) w5 W → HZ W g b c room t (tkZ tick t Z) S) := hid (fun W hW => (HZ3.out.below B4.out).ex hW (fun k hk e => by have := HSl.out k hk; omega))
  have CD := hid fun (W : World) => deeds_any W g
  have CH := hid fun (W : World) (hW : Ex (fun k => k = w.heap.size + 1) w5 W) => have_any (HX.out W hW) r HRK.out (.slice pv nv cv)
  rw [HM.out] at CH
  have k5 := k4
  go_wp2_with fail
  refine wp_region_held_drew (S := Ex (fun k => k = w.heap.size + 1) w5) (by kernel_rfl) bd (fun hHeld => ?_)
  have HS := hid hHeld
  clear hHeld
  change wpAnyH _ _ _ _ _ _ _ _ (World.drew _)
  refine wpAnyH_take (i := 0) (v := ?_) rfl (by kernel_rfl) (by kernel_rfl) (by kernel_rfl) (fun _ _ _ h => h) (Or.inl ⟨by rfl, ?q0⟩) HS.out ?_
  case q0 => intro w hSw; obtain ⟨z1, z2⟩ := R4.out _ hSw; go_simp; rfl
  simp only [Act.put, List.getElem_toArray, List.getElem_cons_zero, List.getElem_cons_succ, List.setIfInBounds_toArray, List.set_cons_zero, List.set_cons_succ]
  refine wpAnyH_take (i := 2) (v := ?_) rfl (by kernel_rfl) (by kernel_rfl) (by kernel_rfl) (fun _ _ _ h => h) (Or.inl ⟨by rfl, ?q2⟩) HS.out ?_
  case q2 => intro w hSw; obtain ⟨z1, z2⟩ := R4.out _ hSw; go_simp; rfl
  simp only [Act.put, List.getElem_toArray, List.getElem_cons_zero, List.getElem_cons_succ, List.setIfInBounds_toArray, List.set_cons_zero, List.set_cons_succ]
  refine wpAnyH_take (i := 3) (v := ?_) rfl (by kernel_rfl) (by kernel_rfl) (by kernel_rfl) (fun _ _ _ h => h) (Or.inl ⟨by rfl, ?q3⟩) HS.out ?_
  case q3 => intro w hSw; obtain ⟨z1, z2⟩ := R4.out _ hSw; go_simp; rfl
  simp only [Act.put, List.getElem_toArray, List.getElem_cons_zero, List.getElem_cons_succ, List.setIfInBounds_toArray, List.set_cons_zero, List.set_cons_succ]
  refine wpAnyH_take (i := 5) rfl (by kernel_rfl) (by kernel_rfl) (by kernel_rfl) (fun _ _ _ h => h) (yieldsIf_load_mid (by rfl) 33 _ rfl w.heap.size 0 rfl (rqL r (.slice pv nv cv)) _ (fun W hW => (R4.out W hW).1) Try.underlying33 rfl SR.out) HS.out ?_
  simp only [Act.put, List.getElem_toArray, List.getElem_cons_zero, List.getElem_cons_succ, List.setIfInBounds_toArray, List.set_cons_zero, List.set_cons_succ]
  rw [HLM.out]
  refine wpAnyH_ready (rs := [1]) (by kernel_rfl) (by simp) ?_
  refine AllReadyH.cons rfl (fun K hK => ?_) AllReadyH.nil
  replace hK := hid hK
  go_simp
  refine (CD.out _).mono ?_
  rintro e w6 ⟨rfl, hm6, hb6⟩
  have E6 := hid (HS.out.trans (S' := fun _ => False) (Ex.of_below hb6) (fun _ q => q.elim))
  have M6 := hid hm6
  have B6 : Hid (Below w5.heap.size w5.drew w6) := hid hb6
  clear hm6 hb6
  refine hK.out _ _ E6.out (fun _ => ?_)
  clear hK K HS
  have HS := E6
  have lk := run_lookK M6.out (deed_1 g)
  refine wpAnyH_ready (rs := [4]) (by kernel_rfl) (by simp) ?_
  refine AllReadyH.cons rfl (fun K hK => ?_) AllReadyH.nil
  replace hK := hid hK
  refine wanted_look (by rfl) 81 _ _ false rfl _ _ rfl rfl _ lk ?_
  simp only [Act.put, List.getElem_toArray, List.getElem_cons_zero, List.getElem_cons_succ, List.setIfInBounds_toArray, List.set_cons_zero, List.set_cons_succ]
  refine hK.out _ _ HS.out (fun _ => ?_)
  clear hK K lk
  refine wpAnyH_ready (rs := [6]) (by kernel_rfl) (by simp) ?_
  refine AllReadyH.cons rfl (fun K hK => ?_) AllReadyH.nil
  replace hK := hid hK
  go_simp
  refine (CH.out _ HS.out).mono ?_
  rintro e w7 ⟨vn, rfl, ho7, hb7⟩
  have E7 := hid (HS.out.trans (S' := fun _ => False) (Ex.of_below hb7) (fun _ q => q.elim))
  have O7 := hid ho7
  obtain ⟨pn, cn, hvn⟩ := own_slc ho7
  subst hvn
  have B7 := hid hb7
  clear hb7 ho7
  have r7 : w7.heap[w.heap.size + 1]? = some (.cells #[.int .u8 0, .slice none 0 0, .slice none 0 0] 46 (0, 0)) := (B7.out.block _ (by have := B4.out.size; have : w5.heap.size ≤ w6.heap.size := B6.out.size; omega)).trans ((B6.out.block _ (by have := B4.out.size; omega)).trans r4.out)
  have f0 := free_of r7 0
  have f1 := free_of r7 1
  have f2 := free_of r7 2
  have i0 : w7.cell? ⟨w.heap.size + 1, 0, none⟩ = some (.int .u8 0) := (cell_of_row _ _ _ _ _ _ r7).trans rfl
  have i1 : w7.cell? ⟨w.heap.size + 1, 1, none⟩ = some (.slice none 0 0) := (cell_of_row _ _ _ _ _ _ r7).trans rfl
  have i2 : w7.cell? ⟨w.heap.size + 1, 2, none⟩ = some (.slice none 0 0) := (cell_of_row _ _ _ _ _ _ r7).trans rfl
  have K7 := hid r7
  clear r7
  refine hK.out _ _ E7.out (fun _ => ?_)
  clear hK K HS
  have HS := E7
  refine wpAnyH_ready (rs := [7]) (by kernel_rfl) (by simp) ?_
  refine AllReadyH.cons rfl (fun K hK => ?_) AllReadyH.nil
  replace hK := hid hK
  go_simp
  refine hK.out _ _ (((E7.out.setCell (x := w.heap.size + 1) (o := 0) rfl (.int .u8 1)).setCell (x := w.heap.size + 1) (o := 1) rfl (.slice pn (numsL (tkZ tick t Z) (fun _ => true) r.ix 255).length cn)).setCell (x := w.heap.size + 1) (o := 2) rfl (.slice none 0 0)) (fun _ => ?_)
  clear hK K HS
  have HS := hid (((E7.out.setCell (x := w.heap.size + 1) (o := 0) rfl (.int .u8 1)).setCell (x := w.heap.size + 1) (o := 1) rfl (.slice pn (numsL (tkZ tick t Z) (fun _ => true) r.ix 255).length cn)).setCell (x := w.heap.size + 1) (o := 2) rfl (.slice none 0 0))
  refine wpAnyH_take (i := 8) (v := ?_) rfl (by kernel_rfl) (by kernel_rfl) (by kernel_rfl) (fun _ _ _ h => h) (Or.inl ⟨by rfl, ?q8⟩) HS.out ?_
  case q8 => intro w hSw; obtain ⟨z1, z2⟩ := R4.out _ hSw; go_simp; rfl
  simp only [Act.put, List.getElem_toArray, List.getElem_cons_zero, List.getElem_cons_succ, List.setIfInBounds_toArray, List.set_cons_zero, List.set_cons_succ]
  refine wpAnyH_done (by kernel_rfl) ?_ _
  go_wp2
  have hcell := heap_setCell (heap_setCell (heap_setCell K7.out 0 (.int .u8 1)) 1 (.slice pn (numsL (tkZ tick t Z) (fun _ => true) r.ix 255).length cn)) 2 (.slice none 0 0)
  refine bodyPost_ret (v := .tuple #[.agg #[.int .u8 1, .slice pn (numsL (tkZ tick t Z) (fun _ => true) r.ix 255).length cn, .slice none 0 0], .int .i64 0]) (results_cellT (p := 6) (q := 7) (ty := 46) rfl _ _ (w.heap.size + 1) 46 _ (0, 0) _ (.int .i64 0) rfl rfl hcell Try.underlying46 rfl (by kernel_rfl)) rfl ?_
  have s6 : w5.heap.size ≤ w6.heap.size := B6.out.size
  have s4 := B4.out.size
  refine ⟨_, rfl, ownsRow_of (own_mono O7.out (by omega)) (fun j hj => ?_), HX.out _ HS.out, (((Ex.of_below BB.out).trans EX3.out (fun _ q => .inl q)).trans (S' := fun _ => False) (Ex.of_below B4.out) (fun _ q => q.elim)).trans HS.out (fun k hk => .inr (by omega))⟩
  have hj2 := (ownsRow_block O7.out hj).1
  have hne : j ≠ w.heap.size + 1 := by omega
  rw [heap_setCell_ne hne, heap_setCell_ne hne, heap_setCell_ne hne]
set_option maxRecDepth 100000 in
set_option maxHeartbeats 16000000 in
theorem do_no {w : World} {g b c : Nat} {room tick : Int} {Z : List (MapEntry × En)} {S : Nat → Prop} (h : HZ w g b c room tick Z S) (hu : usedL Z ≤ 1125899906842624) (t : Int) (h0 : tick ≤ t) (h9 : t ≤ 1099511627776) (r : Rq) (hr : r.ok) (pv : Option Addr) (nv cv : Nat) (hmay : mayB r nv = false) :
    Calls Try.prog 10 #[.pointer (some ⟨g, 0, none⟩), .int .i64 t, .agg (rqA r (.slice pv nv cv))] w fun e w' => e = .returned (.tuple #[.agg #[.int .u8 7, .slice none 0 0, .slice none 0 0], .int .i64 0]) ∧ HZ w' g b c room t (tkZ tick t Z) S ∧ Ex S w w' := by
  obtain ⟨m, HM⟩ : ∃ m, Hid (rqA r (.slice pv nv cv) = m) := ⟨_, hid rfl⟩
  rw [HM.out]
  obtain ⟨W1, HW1⟩ : ∃ W : World, Hid (w.alloc (.cells m 33) = W) := ⟨_, hid rfl⟩
  obtain ⟨W2, HW2⟩ : ∃ W : World, Hid (W1.alloc (.cells #[.int .u8 0, .slice none 0 0, .slice none 0 0] 46) = W) := ⟨_, hid rfl⟩
  have Z1 : Hid (W1.heap.size = w.heap.size + 1) := hid (by rw [← HW1.out]; simp)
  have Z2 : Hid (W2.heap.size = w.heap.size + 2) := hid (by rw [← HW2.out]; simp [Z1.out])
  have B1 : Hid (Below w.heap.size w W1) := by rw [← HW1.out]; exact hid ((Below.refl _ w).alloc (Nat.le_refl _) _)
  have B2 : Hid (Below W1.heap.size W1 W2) := by rw [← HW2.out]; exact hid ((Below.refl _ W1).alloc (Nat.le_refl _) _)
  have BB : Hid (Below w.heap.size w W2) := hid (B1.out.trans (B2.out.mono B1.out.size))
  have hbx : Hid (W2.heap[w.heap.size]? = some (.cells (rqL r (.slice pv nv cv)).toArray 33 (0, 0))) := hid ((B2.out.block _ (by have := Z1.out; omega)).trans (by rw [show (rqL r (.slice pv nv cv)).toArray = m from HM.out, ← HW1.out]; exact heap_alloc_new w _))
  have hrep : Hid (W2.heap[w.heap.size + 1]? = some (.cells #[.int .u8 0, .slice none 0 0, .slice none 0 0] 46 (0, 0))) := hid (by rw [← Z1.out, ← HW2.out]; exact heap_alloc_new W1 _)
  have SR := hid (size_rq hr (.slice pv nv cv))
  have CT := hid (tick_ok (h.below BB.out) hu t h0 h9)
  have HSl : Hid (∀ k, S k → k < w.heap.size) := hid h.lt
  have CM := hid fun (W : World) => may_any W r hr pv nv cv
  rw [hmay, HM.out] at CM
  have CL := hid lays_any
  have HLM : Hid ((rqL r (.slice pv nv cv)).toArray = m) := hid HM.out
  have Z1' := Z1.out
  have HRK := hid hr
  clear h hr hmay
  go_enter Try.func10, Try.ntmps10
  refine wp_seq_k fun K0 h0 => ?_
  have H0 := hid h0
  clear h0
  go_wp2
  rw [HW1.out, HW2.out]
  refine H0.out _ _ ?_
  go_wp2_with fail
  refine CT.out.mono ?_
  rintro e w3 ⟨rfl, hz3, hx3⟩
  have HZ3 := hid hz3
  have EX3 := hid hx3
  clear hz3 hx3 CT
  have b3 : Hid (w3.heap[w.heap.size]? = some (.cells (rqL r (.slice pv nv cv)).toArray 33 (0, 0))) := hid ((EX3.out.block _ (by have := Z2.out; omega) (fun q => by have := HSl.out _ q; omega)).trans hbx.out)
  have r3 : Hid (w3.heap[w.heap.size + 1]? = some (.cells #[.int .u8 0, .slice none 0 0, .slice none 0 0] 46 (0, 0))) := hid ((EX3.out.block _ (by have := Z2.out; omega) (fun q => by have := HSl.out _ q; omega)).trans hrep.out)
  have R3 := hid (range_of b3.out)
  go_wp2_with (refine wpList_load_mid rfl 33 _ rfl w.heap.size 0 rfl (rqL r (.slice pv nv cv)) _ R3.out Try.underlying33 rfl SR.out ?_; rw [HLM.out])
  refine (CM.out _).mono ?_
  rintro e w4 ⟨rfl, hb4⟩
  have B4 := hid hb4
  clear hb4
  have s3 := EX3.out.size
  have s3' := Z2.out
  have b4 : Hid (w4.heap[w.heap.size]? = some (.cells (rqL r (.slice pv nv cv)).toArray 33 (0, 0))) := hid ((B4.out.block _ (by omega)).trans b3.out)
  have r4 : Hid (w4.heap[w.heap.size + 1]? = some (.cells #[.int .u8 0, .slice none 0 0, .slice none 0 0] 46 (0, 0))) := hid ((B4.out.block _ (by omega)).trans r3.out)
  have f0 := free_of r4.out 0
  have f1 := free_of r4.out 1
  have f2 := free_of r4.out 2
  have i0 : w4.cell? ⟨w.heap.size + 1, 0, none⟩ = some (.int .u8 0) := (cell_of_row _ _ _ _ _ _ r4.out).trans rfl
  have i1 : w4.cell? ⟨w.heap.size + 1, 1, none⟩ = some (.slice none 0 0) := (cell_of_row _ _ _ _ _ _ r4.out).trans rfl
  have i2 : w4.cell? ⟨w.heap.size + 1, 2, none⟩ = some (.slice none 0 0) := (cell_of_row _ _ _ _ _ _ r4.out).trans rfl
  go_wp2
  have hcell := heap_setCell (heap_setCell (heap_setCell r4.out 0 (.int .u8 7)) 1 (.slice none 0 0)) 2 (.slice none 0 0)
  refine bodyPost_ret (v := .tuple #[.agg #[.int .u8 7, .slice none 0 0, .slice none 0 0], .int .i64 0]) (results_cellT (p := 6) (q := 7) (ty := 46) rfl _ _ (w.heap.size + 1) 46 _ (0, 0) _ (.int .i64 0) rfl rfl hcell Try.underlying46 rfl (by kernel_rfl)) rfl ?_
  have EE := (((Ex.refl (fun k => k = w.heap.size + 1) w4).setCell (x := w.heap.size + 1) (o := 0) rfl (.int .u8 7)).setCell (x := w.heap.size + 1) (o := 1) rfl (.slice none 0 0)).setCell (x := w.heap.size + 1) (o := 2) rfl (.slice none 0 0)
  exact ⟨rfl, (HZ3.out.below B4.out).ex EE (fun k hk e => by have := HSl.out k hk; omega), (((Ex.of_below BB.out).trans EX3.out (fun _ q => .inl q)).trans (S' := fun _ => False) (Ex.of_below B4.out) (fun _ q => q.elim)).trans EE (fun k hk => .inr (by omega))⟩
set_option maxRecDepth 100000 in
set_option maxHeartbeats 16000000 in
theorem do_bad {w : World} {g b c : Nat} {room tick : Int} {Z : List (MapEntry × En)} {S : Nat → Prop} (h : HZ w g b c room tick Z S) (t : Int) (ht : t < tick ∨ 1099511627776 < t) (r : Rq) (v : Value) :
    Calls Try.prog 10 #[.pointer (some ⟨g, 0, none⟩), .int .i64 t, .agg (rqA r v)] w fun e w' => e = .returned (.tuple #[.agg #[.int .u8 0, .slice none 0 0, .slice none 0 0], .int .i64 191]) ∧ Below w.heap.size w w' := by
  obtain ⟨m, HM⟩ : ∃ m, Hid (rqA r v = m) := ⟨_, hid rfl⟩
  rw [HM.out]
  obtain ⟨W1, HW1⟩ : ∃ W : World, Hid (w.alloc (.cells m 33) = W) := ⟨_, hid rfl⟩
  obtain ⟨W2, HW2⟩ : ∃ W : World, Hid (W1.alloc (.cells #[.int .u8 0, .slice none 0 0, .slice none 0 0] 46) = W) := ⟨_, hid rfl⟩
  have Z1 : Hid (W1.heap.size = w.heap.size + 1) := hid (by rw [← HW1.out]; simp)
  have Z2 : Hid (W2.heap.size = w.heap.size + 2) := hid (by rw [← HW2.out]; simp [Z1.out])
  have B1 : Hid (Below w.heap.size w W1) := by rw [← HW1.out]; exact hid ((Below.refl _ w).alloc (Nat.le_refl _) _)
  have B2 : Hid (Below W1.heap.size W1 W2) := by rw [← HW2.out]; exact hid ((Below.refl _ W1).alloc (Nat.le_refl _) _)
  have BB : Hid (Below w.heap.size w W2) := hid (B1.out.trans (B2.out.mono B1.out.size))
  have hrep : Hid (W2.heap[w.heap.size + 1]? = some (.cells #[.int .u8 0, .slice none 0 0, .slice none 0 0] 46 (0, 0))) := hid (by rw [← Z1.out, ← HW2.out]; exact heap_alloc_new W1 _)
  have CT := hid (tick_bad (h.below BB.out) t ht)
  have Z1' := Z1.out
  clear h
  go_enter Try.func10, Try.ntmps10
  refine wp_seq_k fun K0 h0 => ?_
  have H0 := hid h0
  clear h0
  go_wp2
  rw [HW1.out, HW2.out]
  refine H0.out _ _ ?_
  go_wp2_with fail
  refine CT.out.mono ?_
  rintro e w3 ⟨rfl, hb3⟩
  have B3 := hid hb3
  have r4 : Hid (w3.heap[w.heap.size + 1]? = some (.cells #[.int .u8 0, .slice none 0 0, .slice none 0 0] 46 (0, 0))) := hid ((hb3.block _ (by have := Z2.out; omega)).trans hrep.out)
  clear hb3 CT
  have f0 := free_of r4.out 0
  have f1 := free_of r4.out 1
  have f2 := free_of r4.out 2
  have i0 : w3.cell? ⟨w.heap.size + 1, 0, none⟩ = some (.int .u8 0) := (cell_of_row _ _ _ _ _ _ r4.out).trans rfl
  have i1 : w3.cell? ⟨w.heap.size + 1, 1, none⟩ = some (.slice none 0 0) := (cell_of_row _ _ _ _ _ _ r4.out).trans rfl
  have i2 : w3.cell? ⟨w.heap.size + 1, 2, none⟩ = some (.slice none 0 0) := (cell_of_row _ _ _ _ _ _ r4.out).trans rfl
  go_wp2
  have hcell := heap_setCell (heap_setCell (heap_setCell r4.out 0 (.int .u8 0)) 1 (.slice none 0 0)) 2 (.slice none 0 0)
  refine bodyPost_ret (v := .tuple #[.agg #[.int .u8 0, .slice none 0 0, .slice none 0 0], .int .i64 191]) (results_cellT (p := 6) (q := 7) (ty := 46) rfl _ _ (w.heap.size + 1) 46 _ (0, 0) _ (.int .i64 191) rfl rfl hcell Try.underlying46 rfl (by kernel_rfl)) rfl ?_
  exact ⟨rfl, (((BB.out.trans (B3.out.mono BB.out.size)).setCell (Nat.le_succ _) _).setCell (Nat.le_succ _) _).setCell (Nat.le_succ _) _⟩
set_option maxRecDepth 100000 in
set_option maxHeartbeats 4000000 in
theorem used_any {w : World} {g b c : Nat} {room tick : Int} {Z : List (MapEntry × En)} {S : Nat → Prop} (h : HZ w g b c room tick Z S) :
    Calls Try.prog 16 #[.pointer (some ⟨g, 0, none⟩)] w fun e w' => e = .returned (.int .i64 (usedL Z)) ∧ w' = w := by
  have CM := hid (made_yes w g b room tick _ h.top)
  have c3 := h.top.c.2.2.2.1
  clear h
  go_enter Try.func16, Try.ntmps16
  go_wp2_with fail
  refine CM.out.mono ?_
  rintro e w' ⟨rfl, hw'⟩
  subst hw'
  go_wp2
  go_ret
  exact ⟨rfl, rfl⟩
set_option maxRecDepth 100000 in
set_option maxHeartbeats 16000000 in
theorem store_new {w : World} {g b c : Nat} {room tick : Int} {Z : List (MapEntry × En)} {S : Nat → Prop} (h : HZ w g b c room tick Z S) (hu : usedL Z ≤ 1125899906842624) (r : Rq) (hr : r.ok) (hnb : 0 ≤ r.nb ∧ r.nb < 255) (pv : Option Addr) (cv : Nat) (bs : List Int) (hv : HB w (.slice pv bs.length cv) bs) (hbig : bs.length ≤ 1048576) (hno : ∀ z ∈ Z, z.2.k.sp ≠ ⟨r.ix, r.nb⟩) (hroom : usedL Z + (bs.length : Int) ≤ room) :
    Calls Try.prog 47 #[.pointer (some ⟨g, 0, none⟩), .agg (rqA r (.slice pv bs.length cv))] w fun e w' => ∃ z, e = .returned (.agg #[.int .u8 2, .slice none 0 0, .slice none 0 0]) ∧ z.2.k = ⟨⟨r.ix, r.nb⟩, bs, [⟨r.who, r.til⟩]⟩ ∧ HZ w' g b (c + 1) room tick (Z ++ [z]) (SU S z.2) ∧ (∀ k, z.2.S k → w.heap.size ≤ k) ∧ Ex S w w' := by
  have up := used_pos Z
  obtain ⟨m, HM⟩ : ∃ m, Hid (rqA r (.slice pv bs.length cv) = m) := ⟨_, hid rfl⟩
  rw [HM.out]
  obtain ⟨W1, HW1⟩ : ∃ W : World, Hid (w.alloc (.cells m 33) = W) := ⟨_, hid rfl⟩
  obtain ⟨W2, HW2⟩ : ∃ W : World, Hid (W1.alloc (.cells #[.int .u8 0, .slice none 0 0, .slice none 0 0] 46) = W) := ⟨_, hid rfl⟩
  have Z1 : Hid (W1.heap.size = w.heap.size + 1) := hid (by rw [← HW1.out]; simp)
  have Z2 : Hid (W2.heap.size = w.heap.size + 2) := hid (by rw [← HW2.out]; simp [Z1.out])
  have B1 : Hid (Below w.heap.size w W1) := by rw [← HW1.out]; exact hid ((Below.refl _ w).alloc (Nat.le_refl _) _)
  have B2 : Hid (Below W1.heap.size W1 W2) := by rw [← HW2.out]; exact hid ((Below.refl _ W1).alloc (Nat.le_refl _) _)
  have BB : Hid (Below w.heap.size w W2) := hid (B1.out.trans (B2.out.mono B1.out.size))
  have hbx : W2.heap[w.heap.size]? = some (.cells (rqL r (.slice pv bs.length cv)).toArray 33 (0, 0)) := (B2.out.block _ (by have := Z1.out; omega)).trans (by rw [show (rqL r (.slice pv bs.length cv)).toArray = m from HM.out, ← HW1.out]; exact heap_alloc_new w _)
  have hrep : W2.heap[w.heap.size + 1]? = some (.cells #[.int .u8 0, .slice none 0 0, .slice none 0 0] 46 (0, 0)) := by rw [← Z1.out, ← HW2.out]; exact heap_alloc_new W1 _
  have sok : (⟨r.ix, r.nb⟩ : Sp).ok := ⟨hr.1, hr.2, by show (-9223372036854775808 : Int) ≤ r.nb; omega, by show r.nb ≤ 9223372036854775807; omega⟩
  obtain ⟨s, HSs⟩ : ∃ s : Sp, Hid ((⟨r.ix, r.nb⟩ : Sp) = s) := ⟨_, hid rfl⟩
  rw [HSs.out] at sok hno
  rw [HSs.out]
  obtain ⟨ia, HIA⟩ : ∃ m, Hid (cellsB r.ix = m) := ⟨_, hid rfl⟩
  have HIA' : Hid ((r.ix.map (Value.int .u8)).toArray = ia) := hid HIA.out
  obtain ⟨ms, Hms⟩ : ∃ m, Hid (spA s = m) := ⟨_, hid rfl⟩
  have hbs : Hid (∀ W, (Instr.build 63 #[(0, .agg ia), (1, .int .i64 r.nb)]).run Try.prog W = .ok (.agg ms) W) := hid (fun W => by
    have := run_build_spot W sok
    rw [Hms.out, ← HSs.out] at this
    rw [show ixA (⟨r.ix, r.nb⟩ : Sp) = ia from HIA.out] at this
    exact this)
  have hms : Hid (ms.size = 17) := hid (by rw [← Hms.out]; exact spA_size sok)
  have hm1 : Hid (ms.all (·.oneCell') = true) := hid (by rw [← Hms.out]; exact all_oneCell_toArray fun v hv => spL_one hv)
  have hmi : Hid ((Try.prog.info? 63).map (·.size) = some ms.size) := hid (by rw [hms.out]; exact size_spot)
  have SI : Hid ((Try.prog.info? 27).map (·.size) = some (r.ix.map (Value.int .u8)).length) := hid (by rw [List.length_map, hr.1]; kernel_rfl)
  have SP := hid (size_sp sok)
  have RX := hid (rq_ix (range_of hbx))
  have c17 : W2.cell? ⟨w.heap.size, 17, none⟩ = some (.int .i64 r.nb) := (cell_of_row _ _ _ _ _ _ hbx).trans (rqA_17 hr _)
  obtain ⟨W3, HW3⟩ : ∃ x, Hid ((W2.alloc (.cells zspot 63)).setRow (w.heap.size + 2) ms = x) := ⟨_, hid rfl⟩
  have B3 : Hid (Below W2.heap.size W2 W3) := hid (by
    rw [← HW3.out]
    refine ⟨rfl, rfl, rfl, by simp [World.setRow], fun k hk => ?_⟩
    simp only [World.setRow, Array.getElem?_modify]
    rw [if_neg (by have := Z2.out; omega)]
    exact Below.heap_alloc _ _ _ hk)
  have Z3 : Hid (W3.heap.size = w.heap.size + 3) := hid (by rw [← HW3.out]; simp [World.setRow, Z2.out])
  have hsb3 : W3.heap[w.heap.size + 2]? = some (.cells (spL s).toArray 63 (0, 0)) := by
    rw [show (spL s).toArray = ms from Hms.out, ← HW3.out]
    exact setRow_heap _ _ _ _ _ _ (by rw [← Z2.out]; exact heap_alloc_new W2 (.cells zspot 63))
  have hMS : Hid ((spL s).toArray = ms) := hid Hms.out
  have BA : Hid (Below w.heap.size w W3) := hid (BB.out.trans (B3.out.mono BB.out.size))
  have H3 := hid (h.below BA.out)
  have V3 := hid (hv.below BA.out)
  have HSl : Hid (∀ k, S k → k < w.heap.size) := hid h.lt
  obtain ⟨rz, hz1, hz2, hz3⟩ := H3.out.look sok
  have hrz : rz = none := by
    cases rz with
    | none => rfl
    | some z => exact absurd (hz1 z rfl).2 (hno z (hz1 z rfl).1)
  rw [hrz, Hms.out] at hz3
  have bx3 : Hid (W3.heap[w.heap.size]? = some (.cells (rqL r (.slice pv bs.length cv)).toArray 33 (0, 0))) := hid ((B3.out.block _ (by have := Z2.out; omega)).trans hbx)
  have rp3 : Hid (W3.heap[w.heap.size + 1]? = some (.cells #[.int .u8 0, .slice none 0 0, .slice none 0 0] 46 (0, 0))) := hid ((B3.out.block _ (by have := Z2.out; omega)).trans hrep)
  obtain ⟨X, HX⟩ : ∃ y, Hid (usedL Z = y) := ⟨_, hid rfl⟩
  obtain ⟨n, Hn⟩ : ∃ y, Hid (bs.length = y) := ⟨_, hid rfl⟩
  have KD : Hid (∀ W, Below W3.heap.size W3 W → W.cell? ⟨g, 4, none⟩ = some (.map (some b)) ∧ W.cell? ⟨g, 3, none⟩ = some (.int .i64 X) ∧ W.cell? ⟨g, 1, none⟩ = some (.int .i64 room) ∧ W.cell? ⟨w.heap.size, 22, none⟩ = some (.slice pv n cv) ∧ W.cell? ⟨w.heap.size, 20, none⟩ = some (.int .u32 r.who) ∧ W.cell? ⟨w.heap.size, 21, none⟩ = some (.int .i64 r.til)) := hid (fun W hW => by
    have q := (H3.out.below hW).top.c
    have q2 := (hW.block w.heap.size (by have := Z3.out; omega)).trans bx3.out
    rw [← HX.out, ← Hn.out]
    exact ⟨q.2.2.2.2, q.2.2.2.1, q.2.1, (cell_of_row _ _ _ _ _ _ q2).trans (rqA_22 hr _), (cell_of_row _ _ _ _ _ _ q2).trans (rqA_20 hr _), (cell_of_row _ _ _ _ _ _ q2).trans (rqA_21 hr _)⟩)
  have RS : Hid (∀ W, Below W3.heap.size W3 W → W.rangeAt (w.heap.size + 2) 0 (spL s)) := hid (fun W hW => range_of ((hW.block _ (by have := Z3.out; omega)).trans hsb3))
  have LK : Hid (∀ W, Below W3.heap.size W3 W → (Instr.lookup 64 (.map (some b)) (.agg ms) true).run Try.prog W = .ok (.tuple #[.pointer none, .bool false]) W) := hid (fun W hW => hz3 W (H3.out.below hW))
  have CK : Hid (∀ W, Below W3.heap.size W3 W → ∀ vl, RdL W vl [⟨r.who, r.til⟩] → Calls Try.prog 19 #[.pointer (some ⟨g, 0, none⟩), .agg ms, .slice pv n cv, vl] W fun e w' => ∃ z, e = .returned (.tuple #[]) ∧ z.2.k = ⟨s, bs, [⟨r.who, r.til⟩]⟩ ∧ HZ w' g b (c + 1) room tick (Z ++ [z]) (SU S z.2) ∧ (∀ k, z.2.S k → W.heap.size ≤ k) ∧ Ex S W w') := hid (fun W hW vl hl => by
    rw [← Hms.out, ← Hn.out]
    exact keep_any (H3.out.below hW) s sok hno _ vl bs _ (V3.out.below hW) hbig hl (by simp) (by simp) hu)
  rw [Hn.out] at hbig hroom
  rw [HX.out] at hroom up hu
  have hgt : decide (X + (n : Int) > room) = false := by simp; omega
  have hgt2 : decide (room < X + (n : Int)) = false := by simp; omega
  have HWR : Hid (IntKind.i64.wrap (X + (n : Int)) = X + (n : Int)) := hid (by rw [IntKind.wrap_i64]; omega)
  have Z1' := Z1.out
  have Z2' := Z2.out
  have HRO := hid hroom
  clear h hr hv hno hz1 hz2 hz3 hbx hrep hsb3 sok
  rw [← Hn.out] at *
  go_enter Try.func47, Try.ntmps47
  refine wp_seq_k fun K0 h0 => ?_
  have H0 := hid h0
  clear h0
  go_wp2
  rw [HW1.out, HW2.out]
  refine H0.out _ _ ?_
  go_wp2_with (first | (refine wpList_load_mid rfl 27 _ rfl w.heap.size 1 rfl (r.ix.map (Value.int .u8)) _ RX.out Try.underlying27 rfl SI.out ?_; rw [HIA'.out]) | (refine wpList_build_runS rfl 63 _ rfl #[(0, .agg ia), (1, .int .i64 r.nb)] (by go_simp) _ (hbs.out _) ?_) | (refine wpList_store_row rfl 63 _ _ rfl (w.heap.size + 2) ms rfl rfl 63 zspot (by rw [← Z2.out]; exact heap_alloc_new W2 _) hmi.out (by rw [hms.out]; exact zspot_size) hm1.out ?_; rw [HW3.out]))
  have bd : Below W3.heap.size W3 W3.drew := (Below.refl _ W3).drew
  refine wp_region_held_drew (S := Below W3.heap.size W3) (by kernel_rfl) bd (fun hHeld => ?_)
  have HS := hid hHeld
  clear hHeld
  change wpAnyH _ _ _ _ _ _ _ _ (World.drew _)
  refine wpAnyH_take (i := 0) (v := ?_) rfl (by kernel_rfl) (by kernel_rfl) (by kernel_rfl) (fun _ _ _ h => h) (Or.inl ⟨by rfl, ?q0⟩) HS.out ?_
  case q0 => intro w hSw; obtain ⟨q1, q2, q3, q4, q5, q6⟩ := KD.out _ hSw; go_simp; rfl
  simp only [Act.put, List.getElem_toArray, List.getElem_cons_zero, List.getElem_cons_succ, List.setIfInBounds_toArray, List.set_cons_zero, List.set_cons_succ]
  refine wpAnyH_take (i := 1) (v := ?_) rfl (by kernel_rfl) (by kernel_rfl) (by kernel_rfl) (fun _ _ _ h => h) (Or.inl ⟨by rfl, ?q1⟩) HS.out ?_
  case q1 => intro w hSw; obtain ⟨q1, q2, q3, q4, q5, q6⟩ := KD.out _ hSw; go_simp; rfl
  simp only [Act.put, List.getElem_toArray, List.getElem_cons_zero, List.getElem_cons_succ, List.setIfInBounds_toArray, List.set_cons_zero, List.set_cons_succ]
  refine wpAnyH_take (i := 2) (v := ?_) rfl (by kernel_rfl) (by kernel_rfl) (by kernel_rfl) (fun _ _ _ h => h) (Or.inl ⟨by rfl, ?q2⟩) HS.out ?_
  case q2 => intro w hSw; obtain ⟨q1, q2, q3, q4, q5, q6⟩ := KD.out _ hSw; go_simp; rfl
  simp only [Act.put, List.getElem_toArray, List.getElem_cons_zero, List.getElem_cons_succ, List.setIfInBounds_toArray, List.set_cons_zero, List.set_cons_succ]
  refine wpAnyH_take (i := 3) (v := ?_) rfl (by kernel_rfl) (by kernel_rfl) (by kernel_rfl) (fun _ _ _ h => h) (Or.inl ⟨by rfl, ?q3⟩) HS.out ?_
  case q3 => intro w hSw; obtain ⟨q1, q2, q3, q4, q5, q6⟩ := KD.out _ hSw; go_simp; rfl
  simp only [Act.put, List.getElem_toArray, List.getElem_cons_zero, List.getElem_cons_succ, List.setIfInBounds_toArray, List.set_cons_zero, List.set_cons_succ]
  refine wpAnyH_take (i := 4) rfl (by kernel_rfl) (by kernel_rfl) (by kernel_rfl) (fun _ _ _ h => h) (yieldsIf_load_mid (by rfl) 63 _ rfl (w.heap.size + 2) 0 rfl (spL s) _ RS.out Try.underlying63 rfl SP.out) HS.out ?_
  simp only [Act.put, List.getElem_toArray, List.getElem_cons_zero, List.getElem_cons_succ, List.setIfInBounds_toArray, List.set_cons_zero, List.set_cons_succ]
  rw [hMS.out]
  refine wpAnyH_take (i := 5) rfl (by kernel_rfl) (by kernel_rfl) (by kernel_rfl) (fun _ _ _ h => h) (yieldsIf_look (by rfl) 64 _ _ true rfl (.map (some b)) (.agg ms) rfl rfl _ (fun W hW => LK.out W hW)) HS.out ?_
  simp only [Act.put, List.getElem_toArray, List.getElem_cons_zero, List.getElem_cons_succ, List.setIfInBounds_toArray, List.set_cons_zero, List.set_cons_succ]
  refine wpAnyH_take (i := 6) (v := ?_) rfl (by kernel_rfl) (by kernel_rfl) (by kernel_rfl) (fun _ _ _ h => h) (Or.inl ⟨by rfl, ?q6⟩) HS.out ?_
  case q6 => intro w hSw; obtain ⟨q1, q2, q3, q4, q5, q6⟩ := KD.out _ hSw; go_simp; rfl
  simp only [Act.put, List.getElem_toArray, List.getElem_cons_zero, List.getElem_cons_succ, List.setIfInBounds_toArray, List.set_cons_zero, List.set_cons_succ]
  refine wpAnyH_take (i := 7) (v := ?_) rfl (by kernel_rfl) (by kernel_rfl) (by kernel_rfl) (fun _ _ _ h => h) (Or.inl ⟨by rfl, ?q7⟩) HS.out ?_
  case q7 => intro w hSw; obtain ⟨q1, q2, q3, q4, q5, q6⟩ := KD.out _ hSw; go_simp; rfl
  simp only [Act.put, List.getElem_toArray, List.getElem_cons_zero, List.getElem_cons_succ, List.setIfInBounds_toArray, List.set_cons_zero, List.set_cons_succ]
  refine wpAnyH_take (i := 8) (v := ?_) rfl (by kernel_rfl) (by kernel_rfl) (by kernel_rfl) (fun _ _ _ h => h) (Or.inl ⟨by rfl, ?q8⟩) HS.out ?_
  case q8 => intro w hSw; obtain ⟨q1, q2, q3, q4, q5, q6⟩ := KD.out _ hSw; go_simp; rfl
  simp only [Act.put, List.getElem_toArray, List.getElem_cons_zero, List.getElem_cons_succ, List.setIfInBounds_toArray, List.set_cons_zero, List.set_cons_succ]
  refine wpAnyH_take (i := 9) (v := ?_) rfl (by kernel_rfl) (by kernel_rfl) (by kernel_rfl) (fun _ _ _ h => h) (Or.inl ⟨by rfl, ?q9⟩) HS.out ?_
  case q9 => intro w hSw; obtain ⟨q1, q2, q3, q4, q5, q6⟩ := KD.out _ hSw; go_simp; rfl
  simp only [Act.put, List.getElem_toArray, List.getElem_cons_zero, List.getElem_cons_succ, List.setIfInBounds_toArray, List.set_cons_zero, List.set_cons_succ]
  refine wpAnyH_take (i := 10) (v := ?_) rfl (by kernel_rfl) (by kernel_rfl) (by kernel_rfl) (fun _ _ _ h => h) (Or.inl ⟨by rfl, ?q10⟩) HS.out ?_
  case q10 => intro w hSw; obtain ⟨q1, q2, q3, q4, q5, q6⟩ := KD.out _ hSw; go_simp; rfl
  simp only [Act.put, List.getElem_toArray, List.getElem_cons_zero, List.getElem_cons_succ, List.setIfInBounds_toArray, List.set_cons_zero, List.set_cons_succ]
  refine wpAnyH_done (by kernel_rfl) ?_ _
  go_wp2_with fail
  refine wp_region_held_drew (S := Below W3.heap.size W3) (by kernel_rfl) bd.drew (fun hHeld => ?_)
  have HS := hid hHeld
  clear hHeld
  change wpAnyH _ _ _ _ _ _ _ _ (World.drew _)
  refine wpAnyH_take (i := 0) (v := ?_) rfl (by kernel_rfl) (by kernel_rfl) (by kernel_rfl) (fun _ _ _ h => h) (Or.inl ⟨by rfl, ?q0⟩) HS.out ?_
  case q0 => intro w hSw; obtain ⟨q1, q2, q3, q4, q5, q6⟩ := KD.out _ hSw; go_simp; rfl
  simp only [Act.put, List.getElem_toArray, List.getElem_cons_zero, List.getElem_cons_succ, List.setIfInBounds_toArray, List.set_cons_zero, List.set_cons_succ]
  refine wpAnyH_take (i := 1) (v := ?_) rfl (by kernel_rfl) (by kernel_rfl) (by kernel_rfl) (fun _ _ _ h => h) (Or.inl ⟨by rfl, ?q1⟩) HS.out ?_
  case q1 => intro w hSw; obtain ⟨q1, q2, q3, q4, q5, q6⟩ := KD.out _ hSw; go_simp; rfl
  simp only [Act.put, List.getElem_toArray, List.getElem_cons_zero, List.getElem_cons_succ, List.setIfInBounds_toArray, List.set_cons_zero, List.set_cons_succ]
  refine wpAnyH_take (i := 2) (v := ?_) rfl (by kernel_rfl) (by kernel_rfl) (by kernel_rfl) (fun _ _ _ h => h) (Or.inl ⟨by rfl, ?q2⟩) HS.out ?_
  case q2 => intro w hSw; obtain ⟨q1, q2, q3, q4, q5, q6⟩ := KD.out _ hSw; go_simp; rfl
  simp only [Act.put, List.getElem_toArray, List.getElem_cons_zero, List.getElem_cons_succ, List.setIfInBounds_toArray, List.set_cons_zero, List.set_cons_succ]
  refine wpAnyH_take (i := 3) (v := ?_) rfl (by kernel_rfl) (by kernel_rfl) (by kernel_rfl) (fun _ _ _ h => h) (Or.inl ⟨by rfl, ?q3⟩) HS.out ?_
  case q3 => intro w hSw; obtain ⟨q1, q2, q3, q4, q5, q6⟩ := KD.out _ hSw; go_simp; rfl
  simp only [Act.put, List.getElem_toArray, List.getElem_cons_zero, List.getElem_cons_succ, List.setIfInBounds_toArray, List.set_cons_zero, List.set_cons_succ]
  refine wpAnyH_take (i := 4) (v := ?_) rfl (by kernel_rfl) (by kernel_rfl) (by kernel_rfl) (fun _ _ _ h => h) (Or.inl ⟨by rfl, ?q4⟩) HS.out ?_
  case q4 => intro w hSw; obtain ⟨q1, q2, q3, q4, q5, q6⟩ := KD.out _ hSw; go_simp; rfl
  simp only [Act.put, List.getElem_toArray, List.getElem_cons_zero, List.getElem_cons_succ, List.setIfInBounds_toArray, List.set_cons_zero, List.set_cons_succ]
  refine wpAnyH_take (i := 5) (v := ?_) rfl (by kernel_rfl) (by kernel_rfl) (by kernel_rfl) (fun _ _ _ h => h) (Or.inl ⟨by rfl, ?q5⟩) HS.out ?_
  case q5 => intro w hSw; obtain ⟨q1, q2, q3, q4, q5, q6⟩ := KD.out _ hSw; go_simp; rfl
  simp only [Act.put, List.getElem_toArray, List.getElem_cons_zero, List.getElem_cons_succ, List.setIfInBounds_toArray, List.set_cons_zero, List.set_cons_succ]
  refine wpAnyH_take (i := 6) (v := ?_) rfl (by kernel_rfl) (by kernel_rfl) (by kernel_rfl) (fun _ _ _ h => h) (Or.inl ⟨by rfl, ?q6⟩) HS.out ?_
  case q6 => intro w hSw; obtain ⟨q1, q2, q3, q4, q5, q6⟩ := KD.out _ hSw; go_simp; rfl
  simp only [Act.put, List.getElem_toArray, List.getElem_cons_zero, List.getElem_cons_succ, List.setIfInBounds_toArray, List.set_cons_zero, List.set_cons_succ]
  refine wpAnyH_take (i := 7) (v := ?_) rfl (by kernel_rfl) (by kernel_rfl) (by kernel_rfl) (fun _ _ _ h => h) (Or.inl ⟨by rfl, ?q7⟩) HS.out ?_
  case q7 => intro w hSw; obtain ⟨q1, q2, q3, q4, q5, q6⟩ := KD.out _ hSw; go_simp; rfl
  simp only [Act.put, List.getElem_toArray, List.getElem_cons_zero, List.getElem_cons_succ, List.setIfInBounds_toArray, List.set_cons_zero, List.set_cons_succ]
  refine wpAnyH_take (i := 8) (v := ?_) rfl (by kernel_rfl) (by kernel_rfl) (by kernel_rfl) (fun _ _ _ h => h) (Or.inl ⟨by rfl, ?q8⟩) HS.out ?_
  case q8 => intro w hSw; obtain ⟨q1, q2, q3, q4, q5, q6⟩ := KD.out _ hSw; go_simp; rfl
  simp only [Act.put, List.getElem_toArray, List.getElem_cons_zero, List.getElem_cons_succ, List.setIfInBounds_toArray, List.set_cons_zero, List.set_cons_succ]
  refine wpAnyH_take (i := 9) (v := ?_) rfl (by kernel_rfl) (by kernel_rfl) (by kernel_rfl) (fun _ _ _ h => h) (Or.inl ⟨by rfl, ?q9⟩) HS.out ?_
  case q9 => intro w hSw; obtain ⟨q1, q2, q3, q4, q5, q6⟩ := KD.out _ hSw; go_simp; rfl
  simp only [Act.put, List.getElem_toArray, List.getElem_cons_zero, List.getElem_cons_succ, List.setIfInBounds_toArray, List.set_cons_zero, List.set_cons_succ]
  refine wpAnyH_take (i := 10) (v := ?_) rfl (by kernel_rfl) (by kernel_rfl) (by kernel_rfl) (fun _ _ _ h => h) (Or.inl ⟨by rfl, ?q10⟩) HS.out ?_
  case q10 => intro w hSw; obtain ⟨q1, q2, q3, q4, q5, q6⟩ := KD.out _ hSw; go_simp; rfl
  simp only [Act.put, List.getElem_toArray, List.getElem_cons_zero, List.getElem_cons_succ, List.setIfInBounds_toArray, List.set_cons_zero, List.set_cons_succ]
  rw [HWR.out]
  refine wpAnyH_take (i := 11) (v := ?_) rfl (by kernel_rfl) (by kernel_rfl) (by kernel_rfl) (fun _ _ _ h => h) (Or.inl ⟨by rfl, ?q11⟩) HS.out ?_
  case q11 => intro w hSw; obtain ⟨q1, q2, q3, q4, q5, q6⟩ := KD.out _ hSw; go_simp; rfl
  simp only [Act.put, List.getElem_toArray, List.getElem_cons_zero, List.getElem_cons_succ, List.setIfInBounds_toArray, List.set_cons_zero, List.set_cons_succ]
  refine wpAnyH_take (i := 12) (v := ?_) rfl (by kernel_rfl) (by kernel_rfl) (by kernel_rfl) (fun _ _ _ h => h) (Or.inl ⟨by rfl, ?q12⟩) HS.out ?_
  case q12 => intro w hSw; obtain ⟨q1, q2, q3, q4, q5, q6⟩ := KD.out _ hSw; go_simp; rfl
  simp only [Act.put, List.getElem_toArray, List.getElem_cons_zero, List.getElem_cons_succ, List.setIfInBounds_toArray, List.set_cons_zero, List.set_cons_succ]
  refine wpAnyH_take (i := 13) (v := ?_) rfl (by kernel_rfl) (by kernel_rfl) (by kernel_rfl) (fun _ _ _ h => h) (Or.inl ⟨by rfl, ?q13⟩) HS.out ?_
  case q13 => intro w hSw; obtain ⟨q1, q2, q3, q4, q5, q6⟩ := KD.out _ hSw; go_simp; rfl
  simp only [Act.put, List.getElem_toArray, List.getElem_cons_zero, List.getElem_cons_succ, List.setIfInBounds_toArray, List.set_cons_zero, List.set_cons_succ]
  refine wpAnyH_take (i := 14) (v := ?_) rfl (by kernel_rfl) (by kernel_rfl) (by kernel_rfl) (fun _ _ _ h => h) (Or.inl ⟨by rfl, ?q14⟩) HS.out ?_
  case q14 => intro w hSw; obtain ⟨q1, q2, q3, q4, q5, q6⟩ := KD.out _ hSw; go_simp; rfl
  simp only [Act.put, List.getElem_toArray, List.getElem_cons_zero, List.getElem_cons_succ, List.setIfInBounds_toArray, List.set_cons_zero, List.set_cons_succ]
  refine wpAnyH_take (i := 15) (v := ?_) rfl (by kernel_rfl) (by kernel_rfl) (by kernel_rfl) (fun _ _ _ h => h) (Or.inl ⟨by rfl, ?q15⟩) HS.out ?_
  case q15 => intro w hSw; obtain ⟨q1, q2, q3, q4, q5, q6⟩ := KD.out _ hSw; go_simp; rfl
  simp only [Act.put, List.getElem_toArray, List.getElem_cons_zero, List.getElem_cons_succ, List.setIfInBounds_toArray, List.set_cons_zero, List.set_cons_succ]
  refine wpAnyH_take (i := 16) (v := ?_) rfl (by kernel_rfl) (by kernel_rfl) (by kernel_rfl) (fun _ _ _ h => h) (Or.inl ⟨by rfl, ?q16⟩) HS.out ?_
  case q16 => intro w hSw; obtain ⟨q1, q2, q3, q4, q5, q6⟩ := KD.out _ hSw; go_simp; rfl
  simp only [Act.put, List.getElem_toArray, List.getElem_cons_zero, List.getElem_cons_succ, List.setIfInBounds_toArray, List.set_cons_zero, List.set_cons_succ]
  refine wpAnyH_take (i := 17) (v := ?_) rfl (by kernel_rfl) (by kernel_rfl) (by kernel_rfl) (fun _ _ _ h => h) (Or.inl ⟨by rfl, ?q17⟩) HS.out ?_
  case q17 => intro w hSw; obtain ⟨q1, q2, q3, q4, q5, q6⟩ := KD.out _ hSw; go_simp; rfl
  simp only [Act.put, List.getElem_toArray, List.getElem_cons_zero, List.getElem_cons_succ, List.setIfInBounds_toArray, List.set_cons_zero, List.set_cons_succ]
  refine wpAnyH_done (by kernel_rfl) ?_ _
  have DD : Hid (Below W3.heap.size W3 (W3.drewN 2)) := hid (bel_drewN (Below.refl _ W3) 2)
  have rs7 := hid (RS.out _ DD.out)
  have q7 := KD.out _ (Below.refl _ W3)
  obtain ⟨q1, q2, q3, q4, q5, q6⟩ := q7
  go_wp2_with (refine wpList_load_mid rfl 63 _ rfl (w.heap.size + 2) 0 rfl (spL s) _ rs7.out Try.underlying63 rfl SP.out ?_; rw [hMS.out])
  have B7 : Hid (Below W3.heap.size W3 ((W3.alloc (.cells #[.int .u32 r.who, .int .i64 r.til] 30)).drew.drew)) := hid (((Below.refl _ W3).alloc (Nat.le_refl _) _).drew.drew)
  have L7 : RdL ((W3.alloc (.cells #[.int .u32 r.who, .int .i64 r.til] 30)).drew.drew) (.slice (some ⟨W3.heap.size, 0, none⟩) 1 1) [⟨r.who, r.til⟩] := ⟨_, 1, rfl, fun _ => ⟨_, 0, rfl, range_of (show ((W3.alloc (.cells #[.int .u32 r.who, .int .i64 r.til] 30)).drew.drew).heap[W3.heap.size]? = some (.cells (lzL [⟨r.who, r.til⟩]).toArray 30 (0, 0)) from heap_alloc_new W3 _)⟩⟩
  refine (CK.out _ B7.out _ L7).mono ?_
  rintro e w8 ⟨z, rfl, hk8, hz8, hf8, hx8⟩
  have s3 := Z3.out
  have r8 : Hid (w8.heap[w.heap.size + 1]? = some (.cells #[.int .u8 0, .slice none 0 0, .slice none 0 0] 46 (0, 0))) := hid ((hx8.block _ (Nat.lt_of_lt_of_le (by omega) B7.out.size) (fun q => by have := HSl.out _ q; omega)).trans ((B7.out.block _ (by omega)).trans rp3.out))
  have HK8 := hid hk8
  have HZ8 := hid hz8
  have HF8 : Hid (∀ k, z.2.S k → w.heap.size + 3 ≤ k) := hid (fun k q => Nat.le_trans (by rw [← s3]; exact B7.out.size) (hf8 k q))
  have HX8 := hid hx8
  have f0 := free_of r8.out 0
  have f1 := free_of r8.out 1
  have f2 := free_of r8.out 2
  have i0 : w8.cell? ⟨w.heap.size + 1, 0, none⟩ = some (.int .u8 0) := (cell_of_row _ _ _ _ _ _ r8.out).trans rfl
  have i1 : w8.cell? ⟨w.heap.size + 1, 1, none⟩ = some (.slice none 0 0) := (cell_of_row _ _ _ _ _ _ r8.out).trans rfl
  have i2 : w8.cell? ⟨w.heap.size + 1, 2, none⟩ = some (.slice none 0 0) := (cell_of_row _ _ _ _ _ _ r8.out).trans rfl
  clear hk8 hz8 hf8 hx8 L7 q1 q2 q3 q4 q5 q6 s3
  go_wp2
  have hcell := heap_setCell (heap_setCell (heap_setCell r8.out 0 (.int .u8 2)) 1 (.slice none 0 0)) 2 (.slice none 0 0)
  refine bodyPost_ret (v := .agg #[.int .u8 2, .slice none 0 0, .slice none 0 0]) (results_cellS (p := 4) (ty := 46) rfl _ _ (w.heap.size + 1) 46 _ (0, 0) _ rfl hcell Try.underlying46 rfl (by kernel_rfl)) rfl ?_
  have EE := (((Ex.refl (fun k => k = w.heap.size + 1) w8).setCell (x := w.heap.size + 1) (o := 0) rfl (.int .u8 2)).setCell (x := w.heap.size + 1) (o := 1) rfl (.slice none 0 0)).setCell (x := w.heap.size + 1) (o := 2) rfl (.slice none 0 0)
  have BW := BA.out.trans (B7.out.mono BA.out.size)
  refine ⟨z, rfl, HK8.out, HZ8.out.ex EE (fun k hk e => ?_), (fun k q => by have := HF8.out k q; omega), ((Ex.of_below BW).trans HX8.out (fun _ q => .inl q)).trans EE (fun k hk => .inr (by omega))⟩
  rcases hk with q | q
  · have := HSl.out k q; omega
  · have := HF8.out k q; omega
set_option maxRecDepth 100000 in
set_option maxHeartbeats 16000000 in
theorem do_store_new {w : World} {g b c : Nat} {room tick : Int} {Z : List (MapEntry × En)} {S : Nat → Prop} (h : HZ w g b c room tick Z S) (hu : usedL Z ≤ 1125899906842624) (t : Int) (h0 : tick ≤ t) (h9 : t ≤ 1099511627776) (r : Rq) (hr : r.ok) (pv : Option Addr) (cv : Nat) (bs : List Int) (hv : HB w (.slice pv bs.length cv) bs) (hbig : bs.length ≤ 1048576) (hk : r.k = 2) (hmay : mayB r bs.length = true) (htil : t ≤ r.til) (HVS : ∀ W, Ex S w W → HB W (.slice pv bs.length cv) bs) (hno : ∀ z ∈ tkZ tick t Z, z.2.k.sp ≠ ⟨r.ix, r.nb⟩) (hu2 : usedL (tkZ tick t Z) ≤ 1125899906842624) (hroom : usedL (tkZ tick t Z) + (bs.length : Int) ≤ room) :
    Calls Try.prog 10 #[.pointer (some ⟨g, 0, none⟩), .int .i64 t, .agg (rqA r (.slice pv bs.length cv))] w fun e w' => ∃ z, e = .returned (.tuple #[.agg #[.int .u8 2, .slice none 0 0, .slice none 0 0], .int .i64 0]) ∧ z.2.k = ⟨⟨r.ix, r.nb⟩, bs, [⟨r.who, r.til⟩]⟩ ∧ HZ w' g b (c + 1) room t (tkZ tick t Z ++ [z]) (SU S z.2) ∧ (∀ k, z.2.S k → w.heap.size ≤ k) ∧ Ex S w w' := by
  obtain ⟨m, HM⟩ : ∃ m, Hid (rqA r (.slice pv bs.length cv) = m) := ⟨_, hid rfl⟩
  rw [HM.out]
  obtain ⟨W1, HW1⟩ : ∃ W : World, Hid (w.alloc (.cells m 33) = W) := ⟨_, hid rfl⟩
  obtain ⟨W2, HW2⟩ : ∃ W : World, Hid (W1.alloc (.cells #[.int .u8 0, .slice none 0 0, .slice none 0 0] 46) = W) := ⟨_, hid rfl⟩
  have Z1 : Hid (W1.heap.size = w.heap.size + 1) := hid (by rw [← HW1.out]; simp)
  have Z2 : Hid (W2.heap.size = w.heap.size + 2) := hid (by rw [← HW2.out]; simp [Z1.out])
  have B1 : Hid (Below w.heap.size w W1) := by rw [← HW1.out]; exact hid ((Below.refl _ w).alloc (Nat.le_refl _) _)
  have B2 : Hid (Below W1.heap.size W1 W2) := by rw [← HW2.out]; exact hid ((Below.refl _ W1).alloc (Nat.le_refl _) _)
  have BB : Hid (Below w.heap.size w W2) := hid (B1.out.trans (B2.out.mono B1.out.size))
  have hbx : Hid (W2.heap[w.heap.size]? = some (.cells (rqL r (.slice pv bs.length cv)).toArray 33 (0, 0))) := hid ((B2.out.block _ (by have := Z1.out; omega)).trans (by rw [show (rqL r (.slice pv bs.length cv)).toArray = m from HM.out, ← HW1.out]; exact heap_alloc_new w _))
  have hrep : Hid (W2.heap[w.heap.size + 1]? = some (.cells #[.int .u8 0, .slice none 0 0, .slice none 0 0] 46 (0, 0))) := hid (by rw [← Z1.out, ← HW2.out]; exact heap_alloc_new W1 _)
  have SR := hid (size_rq hr (.slice pv bs.length cv))
  have CT := hid (tick_ok (h.below BB.out) hu t h0 h9)
  have HSl : Hid (∀ k, S k → k < w.heap.size) := hid h.lt
  have CM := hid fun (W : World) => may_any W r hr pv bs.length cv
  rw [hmay, HM.out] at CM
  have CL := hid lays_any
  have HLM : Hid ((rqL r (.slice pv bs.length cv)).toArray = m) := hid HM.out
  have Z1' := Z1.out
  have q0 : Hid (∀ W : World, W.heap[w.heap.size]? = some (.cells (rqL r (.slice pv bs.length cv)).toArray 33 (0, 0)) → W.cell? ⟨w.heap.size, 0, none⟩ = some (.int .u8 2)) := hid (fun W hW => by rw [cell_of_row _ _ _ _ _ _ hW, ← hk]; rfl)
  have HRK := hid hr
  have HNB : Hid (0 ≤ r.nb ∧ r.nb < 255) := hid (by
    have q := hmay
    unfold mayB at q
    rw [hk] at q
    simp [nbB] at q
    omega)
  have q20 : Hid (∀ W : World, W.heap[w.heap.size]? = some (.cells (rqL r (.slice pv bs.length cv)).toArray 33 (0, 0)) → W.cell? ⟨w.heap.size, 20, none⟩ = some (.int .u32 r.who) ∧ W.cell? ⟨w.heap.size, 21, none⟩ = some (.int .i64 r.til)) := hid (fun W hW => ⟨(cell_of_row _ _ _ _ _ _ hW).trans (rqA_20 HRK.out _), (cell_of_row _ _ _ _ _ _ hW).trans (rqA_21 HRK.out _)⟩)
  have HV := hid hv
  have HVL : Hid (∀ W, Ex S w W → HB W (.slice pv bs.length cv) bs) := hid (fun W hW => HVS W hW)
  have CR := hid runs_any
  have htd : decide (t ≤ r.til) = true := by simpa using htil
  have HNO := hid hno
  have HU2 := hid hu2
  have HRO := hid hroom
  clear h hr hmay hk hno hv HVS hu2 hroom
  go_enter Try.func10, Try.ntmps10
  refine wp_seq_k fun K0 h0 => ?_
  have H0 := hid h0
  clear h0
  go_wp2
  rw [HW1.out, HW2.out]
  refine H0.out _ _ ?_
  go_wp2_with fail
  refine CT.out.mono ?_
  rintro e w3 ⟨rfl, hz3, hx3⟩
  have HZ3 := hid hz3
  have EX3 := hid hx3
  clear hz3 hx3 CT
  have b3 : Hid (w3.heap[w.heap.size]? = some (.cells (rqL r (.slice pv bs.length cv)).toArray 33 (0, 0))) := hid ((EX3.out.block _ (by have := Z2.out; omega) (fun q => by have := HSl.out _ q; omega)).trans hbx.out)
  have r3 : Hid (w3.heap[w.heap.size + 1]? = some (.cells #[.int .u8 0, .slice none 0 0, .slice none 0 0] 46 (0, 0))) := hid ((EX3.out.block _ (by have := Z2.out; omega) (fun q => by have := HSl.out _ q; omega)).trans hrep.out)
  have R3 := hid (range_of b3.out)
  go_wp2_with (refine wpList_load_mid rfl 33 _ rfl w.heap.size 0 rfl (rqL r (.slice pv bs.length cv)) _ R3.out Try.underlying33 rfl SR.out ?_; rw [HLM.out])
  refine (CM.out _).mono ?_
  rintro e w4 ⟨rfl, hb4⟩
  have B4 := hid hb4
  clear hb4
  have s3 := EX3.out.size
  have s3' := Z2.out
  have b4 : Hid (w4.heap[w.heap.size]? = some (.cells (rqL r (.slice pv bs.length cv)).toArray 33 (0, 0))) := hid ((B4.out.block _ (by omega)).trans b3.out)
  have r4 : Hid (w4.heap[w.heap.size + 1]? = some (.cells #[.int .u8 0, .slice none 0 0, .slice none 0 0] 46 (0, 0))) := hid ((B4.out.block _ (by omega)).trans r3.out)
  have k4 := q0.out _ b4.out
  go_wp2_with fail
  refine (CL.out _ _).mono ?_
  rintro e w4q ⟨rfl, hw5⟩
  subst hw5
  obtain ⟨k20, k21⟩ := q20.out _ b4.out
  go_wp2_with fail
  refine (CR.out _ ⟨r.who, r.til⟩ t).mono ?_
  rintro e w5 ⟨rfl, hb5⟩
  have B4q : Hid (Below w3.heap.size w3 w5) := hid (B4.out.trans (hb5.mono B4.out.size))
  have s4q := B4.out.size
  have b4q : Hid (w5.heap[w.heap.size]? = some (.cells (rqL r (.slice pv bs.length cv)).toArray 33 (0, 0))) := hid ((hb5.block _ (by omega)).trans b4.out)
  have r4q : Hid (w5.heap[w.heap.size + 1]? = some (.cells #[.int .u8 0, .slice none 0 0, .slice none 0 0] 46 (0, 0))) := hid ((hb5.block _ (by omega)).trans r4.out)
  clear k4 k20 k21 b4 r4 B4 hb5
  have B4 := B4q
  have b4 := b4q
  have r4 := r4q
  have k4 := q0.out _ b4.out
  have R4 : Hid (∀ W, Ex (fun k => S k ∨ k = w.heap.size + 1) w5 W → W.rangeAt w.heap.size 0 (rqL r (.slice pv bs.length cv)) ∧ W.cell? ⟨w.heap.size, 0, none⟩ = some (.int .u8 2)) := hid (fun W hW => by
    have q := (hW.block w.heap.size (by have := B4.out.size; omega) (fun q => by rcases q with q | q; exact absurd (HSl.out _ q) (Nat.lt_irrefl _); omega)).trans b4.out
    exact ⟨range_of q, q0.out _ q⟩)
  have bd : Ex (fun k => S k ∨ k = w.heap.size + 1) w5 w5.drew := (Ex.refl _ w5).drew
  have HX : Hid (∀ W, Below w5.heap.size w5 W → HZ W g b c room t (tkZ tick t Z) S) := hid (fun W hW => (HZ3.out.below B4.out).below hW)
  have EW5 : Hid (Ex S w w5) := hid (((Ex.of_below BB.out).trans EX3.out (fun _ q => .inl q)).trans (S' := fun _ => False) (Ex.of_below B4.out) (fun _ q => q.elim))
  have CD := hid fun (W : World) => deeds_any W g
  have CH := hid fun (W : World) (hW : Below w5.heap.size w5 W) => store_new (HX.out W hW) HU2.out r HRK.out HNB.out pv cv bs (HVL.out W (EW5.out.trans (S' := fun _ => False) (Ex.of_below hW) (fun _ q => q.elim))) hbig HNO.out HRO.out
  rw [HM.out] at CH
  have k5 := k4
  go_wp2_with fail
  refine wp_region_held_drew (S := Ex (fun k => S k ∨ k = w.heap.size + 1) w5) (by kernel_rfl) bd (fun hHeld => ?_)
  have HS := hid hHeld
  clear hHeld
  change wpAnyH _ _ _ _ _ _ _ _ (World.drew _)
  refine wpAnyH_take (i := 0) (v := ?_) rfl (by kernel_rfl) (by kernel_rfl) (by kernel_rfl) (fun _ _ _ h => h) (Or.inl ⟨by rfl, ?q0⟩) HS.out ?_
  case q0 => intro w hSw; obtain ⟨z1, z2⟩ := R4.out _ hSw; go_simp; rfl
  simp only [Act.put, List.getElem_toArray, List.getElem_cons_zero, List.getElem_cons_succ, List.setIfInBounds_toArray, List.set_cons_zero, List.set_cons_succ]
  refine wpAnyH_take (i := 2) (v := ?_) rfl (by kernel_rfl) (by kernel_rfl) (by kernel_rfl) (fun _ _ _ h => h) (Or.inl ⟨by rfl, ?q2⟩) HS.out ?_
  case q2 => intro w hSw; obtain ⟨z1, z2⟩ := R4.out _ hSw; go_simp; rfl
  simp only [Act.put, List.getElem_toArray, List.getElem_cons_zero, List.getElem_cons_succ, List.setIfInBounds_toArray, List.set_cons_zero, List.set_cons_succ]
  refine wpAnyH_take (i := 3) (v := ?_) rfl (by kernel_rfl) (by kernel_rfl) (by kernel_rfl) (fun _ _ _ h => h) (Or.inl ⟨by rfl, ?q3⟩) HS.out ?_
  case q3 => intro w hSw; obtain ⟨z1, z2⟩ := R4.out _ hSw; go_simp; rfl
  simp only [Act.put, List.getElem_toArray, List.getElem_cons_zero, List.getElem_cons_succ, List.setIfInBounds_toArray, List.set_cons_zero, List.set_cons_succ]
  refine wpAnyH_take (i := 5) rfl (by kernel_rfl) (by kernel_rfl) (by kernel_rfl) (fun _ _ _ h => h) (yieldsIf_load_mid (by rfl) 33 _ rfl w.heap.size 0 rfl (rqL r (.slice pv bs.length cv)) _ (fun W hW => (R4.out W hW).1) Try.underlying33 rfl SR.out) HS.out ?_
  simp only [Act.put, List.getElem_toArray, List.getElem_cons_zero, List.getElem_cons_succ, List.setIfInBounds_toArray, List.set_cons_zero, List.set_cons_succ]
  rw [HLM.out]
  refine wpAnyH_ready (rs := [1]) (by kernel_rfl) (by simp) ?_
  refine AllReadyH.cons rfl (fun K hK => ?_) AllReadyH.nil
  replace hK := hid hK
  go_simp
  refine (CD.out _).mono ?_
  rintro e w6 ⟨rfl, hm6, hb6⟩
  have E6 := hid (HS.out.trans (S' := fun _ => False) (Ex.of_below hb6) (fun _ q => q.elim))
  have M6 := hid hm6
  have B6 : Hid (Below w5.heap.size w5.drew w6) := hid hb6
  clear hm6 hb6
  refine hK.out _ _ E6.out (fun _ => ?_)
  clear hK K HS
  have HS := E6
  have lk := run_lookK M6.out (deed_2 g)
  refine wpAnyH_ready (rs := [4]) (by kernel_rfl) (by simp) ?_
  refine AllReadyH.cons rfl (fun K hK => ?_) AllReadyH.nil
  replace hK := hid hK
  refine wanted_look (by rfl) 81 _ _ false rfl _ _ rfl rfl _ lk ?_
  simp only [Act.put, List.getElem_toArray, List.getElem_cons_zero, List.getElem_cons_succ, List.setIfInBounds_toArray, List.set_cons_zero, List.set_cons_succ]
  refine hK.out _ _ HS.out (fun _ => ?_)
  clear hK K lk
  refine wpAnyH_ready (rs := [6]) (by kernel_rfl) (by simp) ?_
  refine AllReadyH.cons rfl (fun K hK => ?_) AllReadyH.nil
  replace hK := hid hK
  go_simp
  have B56 : Hid (Below w5.heap.size w5 w6) := hid ((Below.refl _ w5).drew.trans B6.out)
  refine (CH.out _ B56.out).mono ?_
  rintro e w7 ⟨z, rfl, hk7, hz7, hf7, hx7⟩
  have E7 := hid (HS.out.trans hx7 (fun _ q => .inl (.inl q)))
  have X7 := hid hx7
  have N7 := hid (And.intro hk7 (And.intro hz7 hf7))
  clear hk7 hz7 hf7 hx7
  have r7 : w7.heap[w.heap.size + 1]? = some (.cells #[.int .u8 0, .slice none 0 0, .slice none 0 0] 46 (0, 0)) := (X7.out.block _ (by have := B4.out.size; have : w5.heap.size ≤ w6.heap.size := B6.out.size; omega) (fun q => by have := HSl.out _ q; omega)).trans ((B6.out.block _ (by have := B4.out.size; omega)).trans r4.out)
  have f0 := free_of r7 0
  have f1 := free_of r7 1
  have f2 := free_of r7 2
  have i0 : w7.cell? ⟨w.heap.size + 1, 0, none⟩ = some (.int .u8 0) := (cell_of_row _ _ _ _ _ _ r7).trans rfl
  have i1 : w7.cell? ⟨w.heap.size + 1, 1, none⟩ = some (.slice none 0 0) := (cell_of_row _ _ _ _ _ _ r7).trans rfl
  have i2 : w7.cell? ⟨w.heap.size + 1, 2, none⟩ = some (.slice none 0 0) := (cell_of_row _ _ _ _ _ _ r7).trans rfl
  have K7 := hid r7
  clear r7
  refine hK.out _ _ E7.out (fun _ => ?_)
  clear hK K HS
  have HS := E7
  refine wpAnyH_ready (rs := [7]) (by kernel_rfl) (by simp) ?_
  refine AllReadyH.cons rfl (fun K hK => ?_) AllReadyH.nil
  replace hK := hid hK
  go_simp
  refine hK.out _ _ (((E7.out.setCell (x := w.heap.size + 1) (o := 0) (.inr rfl) (.int .u8 2)).setCell (x := w.heap.size + 1) (o := 1) (.inr rfl) (.slice none 0 0)).setCell (x := w.heap.size + 1) (o := 2) (.inr rfl) (.slice none 0 0)) (fun _ => ?_)
  clear hK K HS
  have HS := hid (((E7.out.setCell (x := w.heap.size + 1) (o := 0) (.inr rfl) (.int .u8 2)).setCell (x := w.heap.size + 1) (o := 1) (.inr rfl) (.slice none 0 0)).setCell (x := w.heap.size + 1) (o := 2) (.inr rfl) (.slice none 0 0))
  refine wpAnyH_take (i := 8) (v := ?_) rfl (by kernel_rfl) (by kernel_rfl) (by kernel_rfl) (fun _ _ _ h => h) (Or.inl ⟨by rfl, ?q8⟩) HS.out ?_
  case q8 => intro w hSw; obtain ⟨z1, z2⟩ := R4.out _ hSw; go_simp; rfl
  simp only [Act.put, List.getElem_toArray, List.getElem_cons_zero, List.getElem_cons_succ, List.setIfInBounds_toArray, List.set_cons_zero, List.set_cons_succ]
  refine wpAnyH_done (by kernel_rfl) ?_ _
  go_wp2
  have hcell := heap_setCell (heap_setCell (heap_setCell K7.out 0 (.int .u8 2)) 1 (.slice none 0 0)) 2 (.slice none 0 0)
  refine bodyPost_ret (v := .tuple #[.agg #[.int .u8 2, .slice none 0 0, .slice none 0 0], .int .i64 0]) (results_cellT (p := 6) (q := 7) (ty := 46) rfl _ _ (w.heap.size + 1) 46 _ (0, 0) _ (.int .i64 0) rfl rfl hcell Try.underlying46 rfl (by kernel_rfl)) rfl ?_
  have s6 : w5.heap.size ≤ w6.heap.size := B6.out.size
  have s4 := B4.out.size
  have E79 := (((Ex.refl (fun k => k = w.heap.size + 1) w7).setCell (x := w.heap.size + 1) (o := 0) rfl (.int .u8 2)).setCell (x := w.heap.size + 1) (o := 1) rfl (.slice none 0 0)).setCell (x := w.heap.size + 1) (o := 2) rfl (.slice none 0 0)
  refine ⟨z, rfl, N7.out.1, N7.out.2.1.ex E79 (fun k hk e => ?_), (fun k q => by have := N7.out.2.2 k q; omega), EW5.out.trans HS.out (fun k hk => by rcases hk with q | q; exact .inl q; exact .inr (by omega))⟩
  rcases hk with q | q
  · have := HSl.out k q; omega
  · have := N7.out.2.2 k q; omega
abbrev zix : Array Value := #[.int .u8 0, .int .u8 0, .int .u8 0, .int .u8 0, .int .u8 0, .int .u8 0, .int .u8 0, .int .u8 0, .int .u8 0, .int .u8 0, .int .u8 0, .int .u8 0, .int .u8 0, .int .u8 0, .int .u8 0, .int .u8 0]
abbrev ix1 (x : Int) : List Int := [x, 0, 0, 0, 0, 0, 0, 0, 0, 0, 0, 0, 0, 0, 0, 0]
set_option maxRecDepth 100000 in
set_option maxHeartbeats 8000000 in
theorem run_build_ix (w : World) (x : Int) : (Instr.build 27 #[(0, .int .u8 x)]).run Try.prog w = .ok (.agg (cellsB (ix1 x))) w := by
  unfold cellsB
  kernel_rfl
set_option maxRecDepth 100000 in
set_option maxHeartbeats 8000000 in
theorem index_any (w : World) (x : Int) : Calls Try.prog 13 #[.int .u8 x] w fun e w' => e = .returned (.agg (cellsB (ix1 x))) ∧ Below w.heap.size w w' := by
  have hbd := hid fun W => run_build_ix W x
  obtain ⟨ia, HIA⟩ : ∃ m, Hid (cellsB (ix1 x) = m) := ⟨_, hid rfl⟩
  have hms : Hid (ia.size = 16) := hid (by rw [← HIA.out]; rfl)
  have hm1 : Hid (ia.all (·.oneCell') = true) := hid (by rw [← HIA.out]; exact cellsB_one _)
  have hmi : Hid ((Try.prog.info? 27).map (·.size) = some ia.size) := hid (by rw [hms.out]; kernel_rfl)
  rw [HIA.out] at hbd
  rw [HIA.out]
  obtain ⟨W2, HW2⟩ : ∃ W, Hid ((w.alloc (.cells zix 27)).setRow w.heap.size ia = W) := ⟨_, hid rfl⟩
  have hh : Hid (W2.heap[w.heap.size]? = some (.cells ia 27 (0, 0))) := hid (by rw [← HW2.out]; exact setRow_heap _ _ _ _ _ _ (heap_alloc_new w (.cells zix 27)))
  have B2 : Hid (Below w.heap.size w W2) := hid (by
    rw [← HW2.out]
    refine ⟨rfl, rfl, rfl, by simp [World.setRow], fun k hk => ?_⟩
    simp only [World.setRow, Array.getElem?_modify]
    rw [if_neg (by omega)]
    exact Below.heap_alloc _ _ _ hk)
  go_enter Try.func13, Try.ntmps13
  go_wp2_with (first | (refine wpList_build_runS rfl 27 _ rfl #[(0, .int .u8 x)] (by go_simp) _ (hbd.out _) ?_) | (refine wpList_store_row rfl 27 _ _ rfl w.heap.size ia rfl rfl 27 zix (heap_alloc_new w _) hmi.out (by rw [hms.out]; rfl) hm1.out ?_; rw [HW2.out]))
  refine bodyPost_ret (v := .agg ia) (results_cellS (p := 2) (ty := 27) rfl _ _ w.heap.size 27 _ (0, 0) _ rfl hh.out Try.underlying27 rfl (by rw [hms.out]; kernel_rfl)) rfl ?_
  exact ⟨rfl, B2.out⟩
abbrev zreq : Array Value := #[.int .u8 0, .int .u8 0, .int .u8 0, .int .u8 0, .int .u8 0, .int .u8 0, .int .u8 0, .int .u8 0, .int .u8 0, .int .u8 0, .int .u8 0, .int .u8 0, .int .u8 0, .int .u8 0, .int .u8 0, .int .u8 0, .int .u8 0, .int .i64 0, .int .i64 0, .int .i64 0, .int .u32 0, .int .i64 0, .slice none 0 0]
set_option maxRecDepth 100000 in
set_option maxHeartbeats 8000000 in
theorem run_build_req (w : World) (ix : List Int) (h : ix.length = 16) (n who til : Int) (p : Option Addr) (l c : Nat) : (Instr.build 33 #[(0, .int .u8 2), (1, .agg (cellsB ix)), (2, .int .i64 n), (5, .agg #[.int .u32 who, .int .i64 til]), (6, .slice p l c)]).run Try.prog w = .ok (.agg (rqA ⟨2, ix, n, 0, 0, who, til⟩ (.slice p l c))) w := by
  obtain ⟨x0, x1, x2, x3, x4, x5, x6, x7, x8, x9, x10, x11, x12, x13, x14, x15, hx⟩ := list16s ix h
  subst hx
  unfold cellsB rqA rqL
  kernel_rfl
set_option maxRecDepth 100000 in
set_option maxHeartbeats 8000000 in
theorem lstore_any (w : World) (ix : List Int) (h : ix.length = 16) (n who til : Int) (p : Option Addr) (l c : Nat) : Calls Try.prog 12 #[.agg (cellsB ix), .int .i64 n, .slice p l c, .int .u32 who, .int .i64 til] w fun e w' => e = .returned (.agg (rqA ⟨2, ix, n, 0, 0, who, til⟩ (.slice p l c))) ∧ Below w.heap.size w w' := by
  have hbd := hid fun W => run_build_req W ix h n who til p l c
  have hsz : Hid ((rqA ⟨2, ix, n, 0, 0, who, til⟩ (.slice p l c)).size = 23) := hid (by simp [rqA, rqL, h])
  obtain ⟨m, HM⟩ : ∃ m, Hid (rqA ⟨2, ix, n, 0, 0, who, til⟩ (.slice p l c) = m) := ⟨_, hid rfl⟩
  have hm1 : Hid (m.all (·.oneCell') = true) := hid (by
    rw [← HM.out]
    refine all_oneCell_toArray fun v hv => ?_
    unfold rqL at hv
    simp at hv
    rcases hv with rfl | ⟨x, _, rfl⟩ | rfl | rfl | rfl | rfl | rfl | rfl <;> rfl)
  rw [HM.out] at hbd hsz
  rw [HM.out]
  have hmi : Hid ((Try.prog.info? 33).map (·.size) = some m.size) := hid (by rw [hsz.out]; kernel_rfl)
  have SI : Hid ((Try.prog.info? 27).map (·.size) = some (ix.map (Value.int .u8)).length) := hid (by rw [List.length_map, h]; kernel_rfl)
  obtain ⟨ia, HIA⟩ : ∃ m, Hid (cellsB ix = m) := ⟨_, hid rfl⟩
  have HIA' : Hid ((ix.map (Value.int .u8)).toArray = ia) := hid HIA.out
  rw [HIA.out] at hbd
  rw [HIA.out]
  obtain ⟨W1, HW1⟩ : ∃ W : World, Hid (w.alloc (.cells ia 27) = W) := ⟨_, hid rfl⟩
  obtain ⟨W2, HW2⟩ : ∃ W : World, Hid (W1.alloc (.cells zreq 33) = W) := ⟨_, hid rfl⟩
  have Z1 : Hid (W1.heap.size = w.heap.size + 1) := hid (by rw [← HW1.out]; simp)
  have B1 : Hid (Below w.heap.size w W1) := by rw [← HW1.out]; exact hid ((Below.refl _ w).alloc (Nat.le_refl _) _)
  have B2 : Hid (Below W1.heap.size W1 W2) := by rw [← HW2.out]; exact hid ((Below.refl _ W1).alloc (Nat.le_refl _) _)
  have BB : Hid (Below w.heap.size w W2) := hid (B1.out.trans (B2.out.mono B1.out.size))
  have RI : Hid (W2.rangeAt w.heap.size 0 (ix.map (Value.int .u8))) := hid (range_of ((B2.out.block _ (by have := Z1.out; omega)).trans (by rw [HIA'.out, ← HW1.out]; exact heap_alloc_new w _)))
  have hq2 : Hid (W2.heap[w.heap.size + 1]? = some (.cells zreq 33 (0, 0))) := hid (by rw [← Z1.out, ← HW2.out]; exact heap_alloc_new W1 _)
  obtain ⟨W3, HW3⟩ : ∃ W, Hid (W2.setRow (w.heap.size + 1) m = W) := ⟨_, hid rfl⟩
  have hh : Hid (W3.heap[w.heap.size + 1]? = some (.cells m 33 (0, 0))) := hid (by rw [← HW3.out]; exact setRow_heap _ _ _ _ _ _ hq2.out)
  have B3 : Hid (Below w.heap.size w W3) := hid (BB.out.trans (by
    rw [← HW3.out]
    refine ⟨rfl, rfl, rfl, by simp [World.setRow], fun k hk => ?_⟩
    simp only [World.setRow, Array.getElem?_modify]
    rw [if_neg (by omega)]))
  have Z1' := Z1.out
  go_enter Try.func12, Try.ntmps12
  refine wp_seq_k fun K0 h0 => ?_
  have H0 := hid h0
  clear h0
  go_wp2
  rw [HW1.out, HW2.out]
  refine H0.out _ _ ?_
  go_wp2_with (first | (refine wpList_load_mid rfl 27 _ rfl w.heap.size 0 rfl (ix.map (Value.int .u8)) _ RI.out Try.underlying27 rfl SI.out ?_; rw [HIA'.out]) | (refine wpList_build_runS rfl 33 _ rfl #[(0, .int .u8 2), (1, .agg ia), (2, .int .i64 n), (5, .agg #[.int .u32 who, .int .i64 til]), (6, .slice p l c)] (by go_simp) _ (hbd.out _) ?_) | (refine wpList_store_row rfl 33 _ _ rfl (w.heap.size + 1) m rfl rfl 33 zreq hq2.out hmi.out (by rw [hsz.out]; rfl) hm1.out ?_; rw [HW3.out]))
  refine bodyPost_ret (v := .agg m) (results_cellS (p := 10) (ty := 33) rfl _ _ (w.heap.size + 1) 33 _ (0, 0) _ rfl hh.out Try.underlying33 rfl (by rw [hsz.out]; kernel_rfl)) rfl ?_
  exact ⟨rfl, B3.out⟩
def FtR (w' : World) (B : Nat) (Z : List (MapEntry × En)) (r : Rq) (kd : Int) (vb : Value) : Prop :=
  (kd = 6 ∧ vb = .slice none 0 0 ∧ ∀ z ∈ Z, z.2.k.sp = ⟨r.ix, r.nb⟩ → (z.2.k.bs.length : Int) < r.pl + r.ln) ∨
  (kd = 5 ∧ ∃ z ∈ Z, z.2.k.sp = ⟨r.ix, r.nb⟩ ∧ r.pl + r.ln ≤ (z.2.k.bs.length : Int) ∧ OwB w' B vb ((z.2.k.bs.take (r.pl + r.ln).toNat).drop r.pl.toNat))
theorem FtQ.open {w w' : World} {Z : List (MapEntry × En)} {r : Rq} {e : Ending} (h : FtQ w Z r e w') : ∃ kd p n c, e = .returned (.agg #[.int .u8 kd, .slice none 0 0, .slice p n c]) ∧ FtR w' w.heap.size Z r kd (.slice p n c) := by
  rcases h with ⟨h1, h2⟩ | ⟨z, hz, v, h1, h2, h3, h4⟩
  · exact ⟨6, none, 0, 0, h1, .inl ⟨rfl, rfl, h2⟩⟩
  · obtain ⟨p, c, hv⟩ := own_slc h4.1
    exact ⟨5, p, _, c, by rw [h3, hv], .inr ⟨rfl, z, hz, h1, h2, by rw [← hv]; exact h4⟩⟩
theorem FtR.of {w w' : World} {B B' : Nat} {Z : List (MapEntry × En)} {r : Rq} {kd : Int} {vb : Value} (h : FtR w B Z r kd vb) (hB : B' ≤ B) (hk : ∀ j, B ≤ j → w'.heap[j]? = w.heap[j]?) : FtR w' B' Z r kd vb := by
  rcases h with h | ⟨h1, z, hz, h2, h3, h4⟩
  · exact .inl h
  · exact .inr ⟨h1, z, hz, h2, h3, own_mono (ownsRow_of h4.1 fun j hj => hk j (ownsRow_block h4.1 hj).1) hB, h4.2⟩
set_option maxRecDepth 100000 in
set_option maxHeartbeats 16000000 in
theorem do_fetch {w : World} {g b c : Nat} {room tick : Int} {Z : List (MapEntry × En)} {S : Nat → Prop} (h : HZ w g b c room tick Z S) (hu : usedL Z ≤ 1125899906842624) (t : Int) (h0 : tick ≤ t) (h9 : t ≤ 1099511627776) (r : Rq) (hr : r.ok) (pv : Option Addr) (nv cv : Nat) (hk : r.k = 3) (hmay : mayB r nv = true) :
    Calls Try.prog 10 #[.pointer (some ⟨g, 0, none⟩), .int .i64 t, .agg (rqA r (.slice pv nv cv))] w fun e w' => ∃ kd vb, e = .returned (.tuple #[.agg #[.int .u8 kd, .slice none 0 0, vb], .int .i64 0]) ∧ FtR w' w.heap.size (tkZ tick t Z) r kd vb ∧ HZ w' g b c room t (tkZ tick t Z) S ∧ Ex S w w' := by
  obtain ⟨m, HM⟩ : ∃ m, Hid (rqA r (.slice pv nv cv) = m) := ⟨_, hid rfl⟩
  rw [HM.out]
  obtain ⟨W1, HW1⟩ : ∃ W : World, Hid (w.alloc (.cells m 33) = W) := ⟨_, hid rfl⟩
  obtain ⟨W2, HW2⟩ : ∃ W : World, Hid (W1.alloc (.cells #[.int .u8 0, .slice none 0 0, .slice none 0 0] 46) = W) := ⟨_, hid rfl⟩
  have Z1 : Hid (W1.heap.size = w.heap.size + 1) := hid (by rw [← HW1.out]; simp)
  have Z2 : Hid (W2.heap.size = w.heap.size + 2) := hid (by rw [← HW2.out]; simp [Z1.out])
  have B1 : Hid (Below w.heap.size w W1) := by rw [← HW1.out]; exact hid ((Below.refl _ w).alloc (Nat.le_refl _) _)
  have B2 : Hid (Below W1.heap.size W1 W2) := by rw [← HW2.out]; exact hid ((Below.refl _ W1).alloc (Nat.le_refl _) _)
  have BB : Hid (Below w.heap.size w W2) := hid (B1.out.trans (B2.out.mono B1.out.size))
  have hbx : Hid (W2.heap[w.heap.size]? = some (.cells (rqL r (.slice pv nv cv)).toArray 33 (0, 0))) := hid ((B2.out.block _ (by have := Z1.out; omega)).trans (by rw [show (rqL r (.slice pv nv cv)).toArray = m from HM.out, ← HW1.out]; exact heap_alloc_new w _))
  have hrep : Hid (W2.heap[w.heap.size + 1]? = some (.cells #[.int .u8 0, .slice none 0 0, .slice none 0 0] 46 (0, 0))) := hid (by rw [← Z1.out, ← HW2.out]; exact heap_alloc_new W1 _)
  have SR := hid (size_rq hr (.slice pv nv cv))
  have CT := hid (tick_ok (h.below BB.out) hu t h0 h9)
  have HSl : Hid (∀ k, S k → k < w.heap.size) := hid h.lt
  have CM := hid fun (W : World) => may_any W r hr pv nv cv
  rw [hmay, HM.out] at CM
  have CL := hid lays_any
  have HLM : Hid ((rqL r (.slice pv nv cv)).toArray = m) := hid HM.out
  have Z1' := Z1.out
  have q0 : Hid (∀ W : World, W.heap[w.heap.size]? = some (.cells (rqL r (.slice pv nv cv)).toArray 33 (0, 0)) → W.cell? ⟨w.heap.size, 0, none⟩ = some (.int .u8 3)) := hid (fun W hW => by rw [cell_of_row _ _ _ _ _ _ hW, ← hk]; rfl)
  have HRK := hid hr
  have HQ : Hid ((0 ≤ r.nb ∧ r.nb < 255) ∧ (0 ≤ r.pl ∧ r.pl ≤ 33554432) ∧ (1 ≤ r.ln ∧ r.ln ≤ 131072)) := hid (by
    have q := hmay
    unfold mayB at q
    rw [hk] at q
    simp [nbB, stB] at q
    omega)
  clear h hr hmay hk
  go_enter Try.func10, Try.ntmps10
  refine wp_seq_k fun K0 h0 => ?_
  have H0 := hid h0
  clear h0
  go_wp2
  rw [HW1.out, HW2.out]
  refine H0.out _ _ ?_
  go_wp2_with fail
  refine CT.out.mono ?_
  rintro e w3 ⟨rfl, hz3, hx3⟩
  have HZ3 := hid hz3
  have EX3 := hid hx3
  clear hz3 hx3 CT
  have b3 : Hid (w3.heap[w.heap.size]? = some (.cells (rqL r (.slice pv nv cv)).toArray 33 (0, 0))) := hid ((EX3.out.block _ (by have := Z2.out; omega) (fun q => by have := HSl.out _ q; omega)).trans hbx.out)
  have r3 : Hid (w3.heap[w.heap.size + 1]? = some (.cells #[.int .u8 0, .slice none 0 0, .slice none 0 0] 46 (0, 0))) := hid ((EX3.out.block _ (by have := Z2.out; omega) (fun q => by have := HSl.out _ q; omega)).trans hrep.out)
  have R3 := hid (range_of b3.out)
  go_wp2_with (refine wpList_load_mid rfl 33 _ rfl w.heap.size 0 rfl (rqL r (.slice pv nv cv)) _ R3.out Try.underlying33 rfl SR.out ?_; rw [HLM.out])
  refine (CM.out _).mono ?_
  rintro e w4 ⟨rfl, hb4⟩
  have B4 := hid hb4
  clear hb4
  have s3 := EX3.out.size
  have s3' := Z2.out
  have b4 : Hid (w4.heap[w.heap.size]? = some (.cells (rqL r (.slice pv nv cv)).toArray 33 (0, 0))) := hid ((B4.out.block _ (by omega)).trans b3.out)
  have r4 : Hid (w4.heap[w.heap.size + 1]? = some (.cells #[.int .u8 0, .slice none 0 0, .slice none 0 0] 46 (0, 0))) := hid ((B4.out.block _ (by omega)).trans r3.out)
  have k4 := q0.out _ b4.out
  go_wp2_with fail
  refine (CL.out _ _).mono ?_
  rintro e w5 ⟨rfl, hw5⟩
  subst hw5
  have R4 : Hid (∀ W, Ex (fun k => k = w.heap.size + 1) w5 W → W.rangeAt w.heap.size 0 (rqL r (.slice pv nv cv)) ∧ W.cell? ⟨w.heap.size, 0, none⟩ = some (.int .u8 3)) := hid (fun W hW => by
    have q := (hW.block w.heap.size (by have := B4.out.size; omega) (by omega)).trans b4.out
    exact ⟨range_of q, q0.out _ q⟩)
  have bd : Ex (fun k => k = w.heap.size + 1) w5 w5.drew := (Ex.refl _ w5).drew
  have HX : Hid (∀ W, Ex (fun k => k = w.heap.size + 1) w5 W → HZ W g b c room t (tkZ tick t Z) S) := hid (fun W hW => (HZ3.out.below B4.out).ex hW (fun k hk e => by have := HSl.out k hk; omega))
  have CD := hid fun (W : World) => deeds_any W g
  have CH := hid fun (W : World) (hW : Ex (fun k => k = w.heap.size + 1) w5 W) => fetch_any (HX.out W hW) r HRK.out HQ.out.1 HQ.out.2.1 HQ.out.2.2 (.slice pv nv cv)
  rw [HM.out] at CH
  have k5 := k4
  go_wp2_with fail
  refine wp_region_held_drew (S := Ex (fun k => k = w.heap.size + 1) w5) (by kernel_rfl) bd (fun hHeld => ?_)
  have HS := hid hHeld
  clear hHeld
  change wpAnyH _ _ _ _ _ _ _ _ (World.drew _)
  refine wpAnyH_take (i := 0) (v := ?_) rfl (by kernel_rfl) (by kernel_rfl) (by kernel_rfl) (fun _ _ _ h => h) (Or.inl ⟨by rfl, ?q0⟩) HS.out ?_
  case q0 => intro w hSw; obtain ⟨z1, z2⟩ := R4.out _ hSw; go_simp; rfl
  simp only [Act.put, List.getElem_toArray, List.getElem_cons_zero, List.getElem_cons_succ, List.setIfInBounds_toArray, List.set_cons_zero, List.set_cons_succ]
  refine wpAnyH_take (i := 2) (v := ?_) rfl (by kernel_rfl) (by kernel_rfl) (by kernel_rfl) (fun _ _ _ h => h) (Or.inl ⟨by rfl, ?q2⟩) HS.out ?_
  case q2 => intro w hSw; obtain ⟨z1, z2⟩ := R4.out _ hSw; go_simp; rfl
  simp only [Act.put, List.getElem_toArray, List.getElem_cons_zero, List.getElem_cons_succ, List.setIfInBounds_toArray, List.set_cons_zero, List.set_cons_succ]
  refine wpAnyH_take (i := 3) (v := ?_) rfl (by kernel_rfl) (by kernel_rfl) (by kernel_rfl) (fun _ _ _ h => h) (Or.inl ⟨by rfl, ?q3⟩) HS.out ?_
  case q3 => intro w hSw; obtain ⟨z1, z2⟩ := R4.out _ hSw; go_simp; rfl
  simp only [Act.put, List.getElem_toArray, List.getElem_cons_zero, List.getElem_cons_succ, List.setIfInBounds_toArray, List.set_cons_zero, List.set_cons_succ]
  refine wpAnyH_take (i := 5) rfl (by kernel_rfl) (by kernel_rfl) (by kernel_rfl) (fun _ _ _ h => h) (yieldsIf_load_mid (by rfl) 33 _ rfl w.heap.size 0 rfl (rqL r (.slice pv nv cv)) _ (fun W hW => (R4.out W hW).1) Try.underlying33 rfl SR.out) HS.out ?_
  simp only [Act.put, List.getElem_toArray, List.getElem_cons_zero, List.getElem_cons_succ, List.setIfInBounds_toArray, List.set_cons_zero, List.set_cons_succ]
  rw [HLM.out]
  refine wpAnyH_ready (rs := [1]) (by kernel_rfl) (by simp) ?_
  refine AllReadyH.cons rfl (fun K hK => ?_) AllReadyH.nil
  replace hK := hid hK
  go_simp
  refine (CD.out _).mono ?_
  rintro e w6 ⟨rfl, hm6, hb6⟩
  have E6 := hid (HS.out.trans (S' := fun _ => False) (Ex.of_below hb6) (fun _ q => q.elim))
  have M6 := hid hm6
  have B6 : Hid (Below w5.heap.size w5.drew w6) := hid hb6
  clear hm6 hb6
  refine hK.out _ _ E6.out (fun _ => ?_)
  clear hK K HS
  have HS := E6
  have lk := run_lookK M6.out (deed_3 g)
  refine wpAnyH_ready (rs := [4]) (by kernel_rfl) (by simp) ?_
  refine AllReadyH.cons rfl (fun K hK => ?_) AllReadyH.nil
  replace hK := hid hK
  refine wanted_look (by rfl) 81 _ _ false rfl _ _ rfl rfl _ lk ?_
  simp only [Act.put, List.getElem_toArray, List.getElem_cons_zero, List.getElem_cons_succ, List.setIfInBounds_toArray, List.set_cons_zero, List.set_cons_succ]
  refine hK.out _ _ HS.out (fun _ => ?_)
  clear hK K lk
  refine wpAnyH_ready (rs := [6]) (by kernel_rfl) (by simp) ?_
  refine AllReadyH.cons rfl (fun K hK => ?_) AllReadyH.nil
  replace hK := hid hK
  go_simp
  refine (CH.out _ HS.out).mono ?_
  rintro e w7 ⟨hf7, hb7⟩
  obtain ⟨kd, pn, nn, cn, rfl, ho7⟩ := hf7.open
  have E7 := hid (HS.out.trans (S' := fun _ => False) (Ex.of_below hb7) (fun _ q => q.elim))
  have O7 := hid ho7
  have B7 := hid hb7
  clear hb7 ho7 hf7
  have r7 : w7.heap[w.heap.size + 1]? = some (.cells #[.int .u8 0, .slice none 0 0, .slice none 0 0] 46 (0, 0)) := (B7.out.block _ (by have := B4.out.size; have : w5.heap.size ≤ w6.heap.size := B6.out.size; omega)).trans ((B6.out.block _ (by have := B4.out.size; omega)).trans r4.out)
  have f0 := free_of r7 0
  have f1 := free_of r7 1
  have f2 := free_of r7 2
  have i0 : w7.cell? ⟨w.heap.size + 1, 0, none⟩ = some (.int .u8 0) := (cell_of_row _ _ _ _ _ _ r7).trans rfl
  have i1 : w7.cell? ⟨w.heap.size + 1, 1, none⟩ = some (.slice none 0 0) := (cell_of_row _ _ _ _ _ _ r7).trans rfl
  have i2 : w7.cell? ⟨w.heap.size + 1, 2, none⟩ = some (.slice none 0 0) := (cell_of_row _ _ _ _ _ _ r7).trans rfl
  have K7 := hid r7
  clear r7
  refine hK.out _ _ E7.out (fun _ => ?_)
  clear hK K HS
  have HS := E7
  refine wpAnyH_ready (rs := [7]) (by kernel_rfl) (by simp) ?_
  refine AllReadyH.cons rfl (fun K hK => ?_) AllReadyH.nil
  replace hK := hid hK
  go_simp
  refine hK.out _ _ (((E7.out.setCell (x := w.heap.size + 1) (o := 0) rfl (.int .u8 kd)).setCell (x := w.heap.size + 1) (o := 1) rfl (.slice none 0 0)).setCell (x := w.heap.size + 1) (o := 2) rfl (.slice pn nn cn)) (fun _ => ?_)
  clear hK K HS
  have HS := hid (((E7.out.setCell (x := w.heap.size + 1) (o := 0) rfl (.int .u8 kd)).setCell (x := w.heap.size + 1) (o := 1) rfl (.slice none 0 0)).setCell (x := w.heap.size + 1) (o := 2) rfl (.slice pn nn cn))
  refine wpAnyH_take (i := 8) (v := ?_) rfl (by kernel_rfl) (by kernel_rfl) (by kernel_rfl) (fun _ _ _ h => h) (Or.inl ⟨by rfl, ?q8⟩) HS.out ?_
  case q8 => intro w hSw; obtain ⟨z1, z2⟩ := R4.out _ hSw; go_simp; rfl
  simp only [Act.put, List.getElem_toArray, List.getElem_cons_zero, List.getElem_cons_succ, List.setIfInBounds_toArray, List.set_cons_zero, List.set_cons_succ]
  refine wpAnyH_done (by kernel_rfl) ?_ _
  go_wp2
  have hcell := heap_setCell (heap_setCell (heap_setCell K7.out 0 (.int .u8 kd)) 1 (.slice none 0 0)) 2 (.slice pn nn cn)
  refine bodyPost_ret (v := .tuple #[.agg #[.int .u8 kd, .slice none 0 0, .slice pn nn cn], .int .i64 0]) (results_cellT (p := 6) (q := 7) (ty := 46) rfl _ _ (w.heap.size + 1) 46 _ (0, 0) _ (.int .i64 0) rfl rfl hcell Try.underlying46 rfl (by kernel_rfl)) rfl ?_
  have s6 : w5.heap.size ≤ w6.heap.size := B6.out.size
  have s4 := B4.out.size
  refine ⟨kd, _, rfl, O7.out.of (by omega) (fun j hj => ?_), HX.out _ HS.out, (((Ex.of_below BB.out).trans EX3.out (fun _ q => .inl q)).trans (S' := fun _ => False) (Ex.of_below B4.out) (fun _ q => q.elim)).trans HS.out (fun k hk => .inr (by omega))⟩
  have hne : j ≠ w.heap.size + 1 := by omega
  rw [heap_setCell_ne hne, heap_setCell_ne hne, heap_setCell_ne hne]
def endK (t : Int) (k : Kp) : Option Kp := if keptL (overT t k.sp) k.ls = [] then none else some { k with ls := keptL (overT t k.sp) k.ls }
def tkK (tick t : Int) (K : List Kp) : List Kp := if tick < t then K.filterMap (endK t) else K
theorem keptL_keptL (s : Sp) (t u : Int) (h : t ≤ u) (l : List Lz) : keptL (overT u s) (keptL (overT t s) l) = keptL (overT u s) l := by
  unfold keptL overT
  rw [List.filter_filter]
  refine List.filter_congr fun x _ => ?_
  simp
  omega
theorem endK_endK {t u : Int} (h : t ≤ u) (k : Kp) : (endK t k).bind (endK u) = endK u k := by
  have e := keptL_keptL k.sp t u h k.ls
  by_cases h1 : keptL (overT t k.sp) k.ls = []
  · have e1 : endK t k = none := by unfold endK; rw [if_pos h1]
    have h2 : keptL (overT u k.sp) k.ls = [] := by rw [← e, h1]; rfl
    rw [e1]
    unfold endK
    rw [if_pos h2]
    rfl
  · have e1 : endK t k = some { k with ls := keptL (overT t k.sp) k.ls } := by unfold endK; rw [if_neg h1]
    rw [e1]
    show endK u { k with ls := keptL (overT t k.sp) k.ls } = _
    unfold endK
    simp only
    rw [e]
theorem tkK_tkK {tick a b : Int} (h0 : tick ≤ a) (h : a ≤ b) (K : List Kp) : tkK a b (tkK tick a K) = tkK tick b K := by
  unfold tkK
  by_cases h1 : tick < a
  · rw [if_pos h1, if_pos (show tick < b by omega)]
    by_cases h2 : a < b
    · rw [if_pos h2, List.filterMap_filterMap]
      exact congrArg (fun f => List.filterMap f K) (funext fun k => endK_endK h k)
    · have : a = b := by omega
      subst this
      rw [if_neg (by omega)]
  · have : tick = a := by omega
    subst this
    rw [if_neg h1]
theorem tkK_same (t : Int) (K : List Kp) : tkK t t K = K := by unfold tkK; rw [if_neg (by omega)]
theorem kpK_end (t : Int) (Z : List (MapEntry × En)) : kpK (Z.filterMap (endZ (overT t))) = (kpK Z).filterMap (endK t) := by
  unfold kpK
  rw [List.map_filterMap, List.filterMap_map]
  refine congrArg (fun f => List.filterMap f Z) (funext fun z => ?_)
  show (endZ (overT t) z).map _ = endK t z.2.k
  unfold endZ endK
  by_cases h : keptL (overT t z.2.k.sp) z.2.k.ls = []
  · rw [if_pos h, if_pos h]; rfl
  · rw [if_neg h, if_neg h]; rfl
theorem kpK_tk (tick t : Int) (Z : List (MapEntry × En)) : kpK (tkZ tick t Z) = tkK tick t (kpK Z) := by
  unfold tkZ tkK
  by_cases h : tick < t
  · rw [if_pos h, if_pos h]; exact kpK_end t Z
  · rw [if_neg h, if_neg h]
theorem endK_bs {t : Int} {k k' : Kp} (h : endK t k = some k') : k'.bs = k.bs ∧ k'.sp = k.sp ∧ k'.ls.length ≤ k.ls.length := by
  unfold endK at h
  split at h
  · cases h
  · cases h
    exact ⟨rfl, rfl, List.length_filter_le _ _⟩
def usedP (K : List Kp) : Int := (K.map fun k => (k.bs.length : Int)).sum
theorem usedL_kp (Z : List (MapEntry × En)) : usedL Z = usedP (kpK Z) := by
  unfold usedL usedP kpK
  rw [List.map_map]
  rfl
theorem usedP_end (t : Int) : ∀ K : List Kp, 0 ≤ usedP (K.filterMap (endK t)) ∧ usedP (K.filterMap (endK t)) ≤ usedP K
  | [] => by simp [usedP]
  | k :: K => by
    have ih := usedP_end t K
    have e : usedP (k :: K) = (k.bs.length : Int) + usedP K := by simp [usedP]
    cases h : endK t k with
    | none =>
      rw [List.filterMap_cons_none h, e]
      omega
    | some k' =>
      rw [List.filterMap_cons_some h, e]
      have e2 : usedP (k' :: K.filterMap (endK t)) = (k'.bs.length : Int) + usedP (K.filterMap (endK t)) := by simp [usedP]
      rw [e2, (endK_bs h).1]
      omega
theorem usedP_tk (tick t : Int) (K : List Kp) : usedP (tkK tick t K) ≤ usedP K := by
  unfold tkK
  split
  · exact (usedP_end t K).2
  · exact Int.le_refl _
theorem tkK_len (tick t : Int) (K : List Kp) : (tkK tick t K).length ≤ K.length := by
  unfold tkK
  split
  · exact List.length_filterMap_le _ _
  · exact Nat.le_refl _
theorem tkK_each {tick t : Int} {K : List Kp} {P : Kp → Prop} (h : ∀ k ∈ K, P k) (hP : ∀ k k', endK t k = some k' → P k → P k') : ∀ k ∈ tkK tick t K, P k := by
  unfold tkK
  split
  · intro k hk
    obtain ⟨k0, h0, h1⟩ := List.mem_filterMap.1 hk
    exact hP _ _ h1 (h _ h0)
  · exact h
theorem sortedK_eq : ∀ {a b : List Kp}, a.Pairwise (fun x y => cmpS x.sp y.sp < 0) → b.Pairwise (fun x y => cmpS x.sp y.sp < 0) → a.Perm b → a = b := by
  intro a b ha hb hp
  refine List.Perm.eq_of_pairwise (le := fun x y => cmpS x.sp y.sp < 0) (fun x y _ _ h1 h2 => ?_) ha hb hp
  have := cmpS_trans h1 h2
  rw [cmpS_self] at this
  omega
theorem pairK {Ks : List Rk} (h : Ks.Pairwise (fun x y => cmpS x.k.sp y.k.sp < 0)) : (Ks.map (·.k)).Pairwise (fun x y => cmpS x.sp y.sp < 0) := List.pairwise_map.2 h
theorem states_same {Xs Ys : List Rk} {A B : List Kp} (hX : Xs.Pairwise (fun x y => cmpS x.k.sp y.k.sp < 0)) (hY : Ys.Pairwise (fun x y => cmpS x.k.sp y.k.sp < 0)) (pX : (Xs.map (·.k)).Perm A) (pY : (Ys.map (·.k)).Perm B) (h : A = B) : ksE Xs Ys = true := by
  subst h
  exact ksE_iff.2 (sortedK_eq (pairK hX) (pairK hY) (pX.trans pY.symm))
end Go.Proofs.Ythmhpenjegfbcaa
namespace Go.Proofs.Ythmhpenjegfbcaa.I
open Go Go.RowKit Go.Proofs.Ythmhpenjegfbcaa
def HB (w : World) (v : Value) (l : List Int) : Prop :=
  (∃ (p : Option Addr) (c : Nat), v = .slice p l.length c ∧ l.length ≤ c ∧ c ≤ maxLen ∧ (p = none → c = 0) ∧
    (l ≠ [] → ∃ b off, p = some ⟨b, off, none⟩ ∧ ∀ j, j < l.length → w.cell? ⟨b, off + j, none⟩ = some (.int .i64 (l.getD j 0)))) ∧ ∀ x ∈ l, -9223372036854775808 ≤ x ∧ x < 9223372036854775808
theorem HB.open {w : World} {v : Value} {l : List Int} (h : HB w v l) : ∃ (p : Option Addr) (c : Nat), v = .slice p l.length c ∧ l.length ≤ c ∧ c ≤ maxLen := by
  obtain ⟨⟨p, c, h1, h2, h3, _⟩, _⟩ := h
  exact ⟨p, c, h1, h2, h3⟩
theorem HB.ne {w : World} {v : Value} {l : List Int} (h : HB w v l) (hl : 0 < l.length) :
    ∃ b off c, v = .slice (some ⟨b, off, none⟩) l.length c ∧ l.length ≤ c ∧ c ≤ maxLen ∧ ∀ j, j < l.length → w.cell? ⟨b, off + j, none⟩ = some (.int .i64 (l.getD j 0)) := by
  obtain ⟨⟨p, c, h1, h2, h3, _, h4⟩, _⟩ := h
  obtain ⟨b, off, rfl, hc⟩ := h4 (by intro e; subst e; simp at hl)
  exact ⟨b, off, c, h1, h2, h3, hc⟩
theorem HB.byte {w : World} {v : Value} {l : List Int} (h : HB w v l) (j : Nat) : -9223372036854775808 ≤ l.getD j 0 ∧ l.getD j 0 < 9223372036854775808 := by
  by_cases hj : j < l.length
  · have e : l.getD j 0 = l[j] := by simp [List.getD, List.getElem?_eq_getElem hj]
    rw [e]
    exact h.2 _ (List.getElem_mem hj)
  · have e : l.getD j 0 = 0 := by simp [List.getD, List.getElem?_eq_none (by omega : l.length ≤ j)]
    rw [e]; omega
theorem HB.later {w w' : World} {v : Value} {l : List Int} (h : HB w v l) (hc : ∀ a (n : Int), w.cell? a = some (.int .i64 n) → w'.cell? a = some (.int .i64 n)) : HB w' v l := by
  obtain ⟨⟨p, c, h1, h2, h3, h6, h4⟩, h5⟩ := h
  refine ⟨⟨p, c, h1, h2, h3, h6, fun hl => ?_⟩, h5⟩
  obtain ⟨b, off, e, hh⟩ := h4 hl
  exact ⟨b, off, e, fun j hj => hc _ _ (hh j hj)⟩
theorem HB.below {w w' : World} {v : Value} {l : List Int} (h : HB w v l) (hb : Below w.heap.size w w') : HB w' v l :=
  h.later fun a _ hx => (hb.cell (World.block_lt_of_cell? w a hx)).trans hx
theorem HB.drewN {w : World} {v : Value} {l : List Int} (h : HB w v l) (q : Nat) : HB (w.drewN q) v l := h.later fun _ _ hx => hx
theorem HB.of_own {w : World} {B : Nat} {e : TypeId} {v : Value} {l : List Int} (h : w.ownsRow B e 1 v l.length (l.map (Value.int .i64))) (hx : ∀ x ∈ l, -9223372036854775808 ≤ x ∧ x < 9223372036854775808) : HB w v l := by
  refine ⟨?_, hx⟩
  by_cases h0 : 0 < l.length
  · obtain ⟨g, cap, rfl, _, hn, hm, hc⟩ := ownsRow_cells h h0
    refine ⟨_, cap, rfl, hn, hm, (fun e => by cases e), fun _ => ⟨g, 0, rfl, fun j hj => ?_⟩⟩
    exact hc j _ (by simp [List.getD, List.getElem?_eq_getElem hj])
  · have e : l = [] := List.length_eq_zero_iff.1 (by omega)
    subst e
    rcases h.2 with ⟨rfl, _⟩ | ⟨g, cap, cur, rfl, _, _, hn, hm, _⟩
    · exact ⟨none, 0, rfl, Nat.le_refl _, Nat.zero_le _, fun _ => rfl, fun h => absurd rfl h⟩
    · exact ⟨_, cap, rfl, hn, hm, (fun e => by cases e), fun h => absurd rfl h⟩
theorem HB.grown {w w' : World} {v : Value} {l : List Int} {g : Nat} (h : HB w v l) (hg : w.grownBy w' (some g)) (hn : ∀ o sp (n : Int), w.cell? ⟨g, o, sp⟩ ≠ some (.int .i64 n)) : HB w' v l :=
  h.later fun a n hx => hg.cell hx (by
    intro e
    obtain ⟨b, o, sp⟩ := a
    simp only [Option.some.injEq] at e
    subst e
    exact hn o sp n hx)
theorem HB.nil (w : World) : HB w (.slice none 0 0) [] := ⟨⟨none, 0, rfl, Nat.zero_le _, Nat.zero_le _, fun _ => rfl, fun h => absurd rfl h⟩, by simp⟩
theorem HB.dr {w w' : World} {v : Value} {l : List Int} (h : HB w v l) (d : Dr w w') : HB w' v l := h.later fun a _ hx => (d.cell a).trans hx
theorem info_i64 : (Try.prog.info? 3).map (fun i => (i.zero, i.size, i.bytes)) = some (some (.int .i64 0), 1, 8) := by kernel_rfl
theorem size_i64 : ∀ w, Sem.run Try.prog (Go.sizeOf 3) w = .ok 1 w := fun w => by
  obtain ⟨i0, hi, hz0, hz1, hz2⟩ := info_parts info_i64
  simp [Go.sizeOf, typeInfo, hi, hz1]
theorem eql_nil_bytes : ∀ (w : World) (a : Option Addr) (n c n' c' : Nat), (binOp .eql 44 (.slice a n c) (.slice none n' c')).run Try.prog w = .ok (.bool a.isNone) w :=
  fun w a n c n' c' => Lib.run_eql_slice_nil w _ _ a n c n' c' Try.underlying44
theorem take_eq_step (la lb : List Int) (k : Nat) (ha : k < la.length) (hb : k < lb.length) (h : la.take k = lb.take k) (e : la.getD k 0 = lb.getD k 0) : la.take (k + 1) = lb.take (k + 1) := by
  rw [List.take_succ_eq_append_getElem ha, List.take_succ_eq_append_getElem hb, h]
  have e1 : la.getD k 0 = la[k] := by simp [List.getD, List.getElem?_eq_getElem ha]
  have e2 : lb.getD k 0 = lb[k] := by simp [List.getD, List.getElem?_eq_getElem hb]
  rw [e1, e2] at e
  rw [e]
theorem take_ne (la lb : List Int) (k : Nat) (e : la.getD k 0 ≠ lb.getD k 0) : la ≠ lb := fun h => e (by rw [h])
set_option maxHeartbeats 400000 in
theorem sameBytes_any (w : World) (va vb : Value) (la lb : List Int) (ha : HB w va la) (hb : HB w vb lb) :
    Calls Try.prog 14 #[va, vb] w fun e w' => e = .returned (.bool (decide (la = lb))) ∧ Dr w w' := by
  by_cases hlen : la.length = lb.length
  · by_cases h0 : 0 < la.length
    · obtain ⟨b1, o1, c1, rfl, hc1, hm1, hk1⟩ := ha.ne h0
      obtain ⟨b2, o2, c2, rfl, hc2, hm2, hk2⟩ := hb.ne (by omega)
      unfold maxLen at hm1 hm2
      have hm : la.length ≤ 9223372036854775807 := by omega
      have HL : Hid (la.length = lb.length) := hlen
      rw [← hlen]
      have hcd : ∀ j, j < la.length → w.cell? ⟨b2, o2 + j, none⟩ = some (.int .i64 (lb.getD j 0)) := fun j hj => hk2 j (by omega)
      clear hlen hk2
      go_enter Try.func14, Try.ntmps14
      go_wp2
      go_loopw [5] (fun i wr => ∃ k : Nat, k ≤ la.length ∧ i = .int .i64 k ∧ la.take k = lb.take k ∧ Dr w wr) (fun i _ => la.length - (intOf i).toNat)
      case atStart => exact ⟨0, Nat.zero_le _, rfl, rfl, Dr.refl _⟩
      case round =>
        obtain ⟨k, hk, rfl, ht, q, rfl⟩ := hrel
        by_cases hlt : k < la.length
        · have g1 := hk1 k hlt
          have g2 := hcd k hlt
          obtain ⟨x, hx⟩ : ∃ x, la.getD k 0 = x := ⟨_, rfl⟩
          obtain ⟨y, hy⟩ : ∃ y, lb.getD k 0 = y := ⟨_, rfl⟩
          rw [hx] at g1
          rw [hy] at g2
          have HX := hid hx
          have HY := hid hy
          clear hx hy hk1 hcd
          by_cases he : x = y
          · have hne : (x != y) = false := by simpa using he
            have HE := hid he
            clear he
            go_wp2
            go_quiet (fail)
            go_wp2
            exact ⟨⟨k + 1, by omega, by go_num, take_eq_step la lb k hlt (by have := HL.out; omega) ht (by rw [HX.out, HY.out, HE.out]), Dr.one _ _⟩, by simp [intOf]; omega⟩
          · have hne : (x != y) = true := by simpa using he
            go_wp2
            go_quiet (fail)
            go_wp2
            go_ret
            exact ⟨by simp [take_ne la lb k (by rw [HX.out, HY.out]; exact he)], (Dr.one _ _).drewN _⟩
        · go_wp2
          go_ret
          have e : la = lb := by
            have h1 := List.take_of_length_le (show la.length ≤ k by omega)
            have h2 := List.take_of_length_le (show lb.length ≤ k by have := HL.out; omega)
            rw [← h1, ← h2, ht]
          exact ⟨by simp [e], Dr.one _ _⟩
    · obtain ⟨p1, c1, rfl, _, _⟩ := ha.open
      obtain ⟨p2, c2, rfl, _, _⟩ := hb.open
      have e1 : la = [] := List.length_eq_zero_iff.1 (by omega)
      have e2 : lb = [] := List.length_eq_zero_iff.1 (by omega)
      subst e1 e2
      go_enter Try.func14, Try.ntmps14
      go_wp2
      go_loop [5] (fun i => i = .int .i64 0) (fun _ => 0)
      case atStart => rfl
      case round =>
        subst hrel
        go_wp2
        go_ret
        exact ⟨rfl, Dr.refl _⟩
  · obtain ⟨p1, c1, rfl, _, _⟩ := ha.open
    obtain ⟨p2, c2, rfl, _, _⟩ := hb.open
    have hne : ((la.length : Int) != (lb.length : Int)) = true := by rw [bne_iff_ne]; omega
    go_enter Try.func14, Try.ntmps14
    go_wp2
    go_ret
    exact ⟨by simp [show la ≠ lb from fun e => hlen (by rw [e])], Dr.refl _⟩
theorem run_append_byte (w : World) (base : Nat) (ty : TypeId) (v : Value) (n : Nat) (xs : List Value) (hown : w.ownsRow base 3 1 v n xs) (a : Addr) (c : Nat) (x : Int) (hx : w.cell? a = some (.int .i64 x)) (hn : n + 1 ≤ 17592186044416) (hbase : base ≤ w.heap.size) :
    ∃ v' w', (Builtin.append_ #[44, 44] ty #[v, .slice (some a) 1 c]).run Try.prog w = .ok v' w' ∧ w'.ownsRow base 3 1 v' (n + 1) (xs ++ [.int .i64 x]) ∧ w.grownBy w' v.ownBlock ∧
      (v'.ownBlock = v.ownBlock ∨ (v'.ownBlock = some w.heap.size ∧ w.grownBy w' none)) := by
  obtain ⟨i0, hi, hz0, hz1, hz2⟩ := info_parts info_i64
  have hnews : ∀ j u, [Value.int .i64 x][j]? = some u → w.cell? (a.add j) = some u := by
    intro j u hj
    match j, hj with
    | 0, hj => simp at hj; subst hj; simpa [Addr.add] using hx
  have h1 : ∀ u ∈ [Value.int .i64 x], u.oneCell' = true := by intro u hu; simp at hu; subst hu; rfl
  obtain ⟨v', w', hr, h2, h3, _⟩ := run_append_own (P := Try.prog) w base 44 ty 3 i0 (.int .i64 0) 1 8 Try.underlying44 hi hz0 hz1 hz2 rfl (by decide) v n xs hown a 1 c [.int .i64 x] rfl hnews h1 (by unfold maxLen; omega) (by omega) hbase
  refine ⟨v', w', hr, h2, h3, ?_⟩
  rcases hown.2 with ⟨rfl, rfl⟩ | ⟨g, cap, cur, rfl, hbg, hg, hnc, hcm, hcs, htake⟩
  · have hr2 := run_append_nil (P := Try.prog) w 44 ty 3 i0 (.int .i64 0) Try.underlying44 hi hz0 a 1 c [.int .i64 x] (by rw [hz1]; rfl) hnews (by omega) (by omega) (by rw [hz2]; omega)
    rw [hr] at hr2
    simp only [Result.ok.injEq] at hr2
    obtain ⟨rfl, rfl⟩ := hr2
    exact .inr ⟨rfl, ⟨rfl, rfl, rfl, by simp, fun k hk _ => heap_alloc_old w.drew _ hk⟩⟩
  · by_cases hroom : n + 1 ≤ cap
    · obtain ⟨w2, hr2, _⟩ := run_append_fits (P := Try.prog) w base 44 ty 3 i0 1 Try.underlying44 hi hz1 g n cap xs hown a 1 c [.int .i64 x] rfl hnews h1 hroom
      rw [hr] at hr2
      simp only [Result.ok.injEq] at hr2
      obtain ⟨rfl, rfl⟩ := hr2
      exact .inl rfl
    · have hr2 := run_append_grow (P := Try.prog) w 44 ty 3 i0 (.int .i64 0) Try.underlying44 hi hz0 ⟨g, 0, none⟩ n cap xs (by rw [hz1]; exact hown.1) (hown.cells (g := g) rfl) a 1 c [.int .i64 x] (by rw [hz1]; rfl) hnews (by omega) (by omega) (growslice_fits (by omega) (by rw [hz2]; omega))
      rw [hr] at hr2
      simp only [Result.ok.injEq] at hr2
      obtain ⟨rfl, rfl⟩ := hr2
      exact .inr ⟨rfl, ⟨rfl, rfl, rfl, by simp, fun k hk _ => heap_alloc_old w.drew _ hk⟩⟩
theorem wpList_append_byte {w : World} {ops : Array Oper} {rest : List Oper} {o : Oper} {a : Act} {Q : Exit → Act → World → Prop} (hgd : o.guard = none) (s x : Operand)
    (ho : o.op = .call { callee := .builtin .append, args := #[s, x], argTypes := #[44, 44] })
    (base : Nat) (v : Value) (n : Nat) (xs : List Value) (hs : a.eval s = v) (hown : w.ownsRow base 3 1 v n xs)
    (ad : Addr) (c : Nat) (y : Int) (hx : a.eval x = .slice (some ad) 1 c) (hy : w.cell? ad = some (.int .i64 y)) (hn : n + 1 ≤ 17592186044416) (hbase : base ≤ w.heap.size)
    (h : ∀ v' w', w'.ownsRow base 3 1 v' (n + 1) (xs ++ [.int .i64 y]) → w.grownBy w' v.ownBlock → (v'.ownBlock = v.ownBlock ∨ (v'.ownBlock = some w.heap.size ∧ w.grownBy w' none)) → wpList Try.prog ops Q rest (a.put o.dst v') w') : wpList Try.prog ops Q (o :: rest) a w := by
  refine wpList_plain hgd fun K hK => ?_
  obtain ⟨v', w', hr, h2, h3, h4⟩ := run_append_byte w base o.type v n xs hown ad c y hy hn hbase
  unfold Oper.wp execOp
  simp only [ho, resolve, invoke, builtin, Sem.run_bind, Sem.run_pure, Result.andThen_ok, List.map_toArray, List.map_cons, List.map_nil, hs, hx, hr]
  exact hK _ _ (h v' w' h2 h3 h4)
def mkB (k i : Nat) : Int := ((1000003 * (k + 1) + i) % 4611686018427387904 : Nat)
theorem mkB_byt (k i : Nat) : -9223372036854775808 ≤ mkB k i ∧ mkB k i < 9223372036854775808 := by unfold mkB; omega
theorem wrap_succ (k : Nat) (h : k ≤ 1000000000) : IntKind.i64.wrap ((k : Int) + 1) = ((k + 1 : Nat) : Int) := by rw [IntKind.wrap_i64]; omega
def lent (l : List Int) : List Int := l ++ (List.range 70).map fun i => mkB 0 (l.length + i)
def lentTo (l : List Int) (m : Nat) : List Int := l ++ (List.range m).map fun i => mkB 0 (l.length + i)
theorem lent_length (l : List Int) : (lent l).length = l.length + 70 := by simp [lent]
theorem lentTo_length (l : List Int) (m : Nat) : (lentTo l m).length = l.length + m := by simp [lentTo]
theorem lentTo_succ (l : List Int) (m : Nat) : lentTo l (m + 1) = lentTo l m ++ [mkB 0 (l.length + m)] := by simp [lentTo, List.range_succ]
theorem lent_byt {l : List Int} (h : ∀ x ∈ l, -9223372036854775808 ≤ x ∧ x < 9223372036854775808) : ∀ x ∈ lent l, -9223372036854775808 ≤ x ∧ x < 9223372036854775808 := by
  intro x hx
  unfold lent at hx
  rcases List.mem_append.1 hx with hx | hx
  · exact h x hx
  · obtain ⟨i, _, rfl⟩ := List.mem_map.1 hx
    exact mkB_byt _ _
theorem lent_take (l : List Int) : (lent l).take l.length = l := by simp [lent]
end Go.Proofs.Ythmhpenjegfbcaa.I
