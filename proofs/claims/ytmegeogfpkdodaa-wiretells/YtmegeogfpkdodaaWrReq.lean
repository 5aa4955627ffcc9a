/- wire.Request, walked. -/
import Derived.Test.YtmegeogfpkdodaaWrRead
import Derived.Laws.Tables
set_option linter.unusedVariables false
set_option linter.unusedSimpArgs false
namespace Go.Proofs.Ytmegeogfpkdodaa
open Go Go.RowKit

theorem results_cellTT {P : Program} {fn : Func} {p q q' : Tmp} {ty : TypeId} (h : fn.results = #[.cell p ty, .tmp q, .tmp q']) (tmps : Array Value) (w : World) (g : Nat) (t : TypeId) (cs : Array Value) (fr : Nat × Nat) (d : TypeDesc) (u u' : Value)
    (hp : tmps.getD p undef = .pointer (some ⟨g, 0, none⟩)) (hq : tmps.getD q undef = u) (hq2 : tmps.getD q' undef = u') (hg : w.heap[g]? = some (.cells cs t fr)) (hu : P.underlying ty = some d) (hd : (match d with | .struct _ | .array _ _ => true | _ => false) = true) (hi : (P.info? ty).map (·.size) = some cs.size) :
    (results fn tmps).run P w = .ok (.tuple #[.agg cs, u, u']) w := by
  have hp' : tmps[p]?.getD undef = .pointer (some ⟨g, 0, none⟩) := by simpa using hp
  have hq' : tmps[q]?.getD undef = u := by simpa using hq
  have hq2' : tmps[q']?.getD undef = u' := by simpa using hq2
  simp [results, h, hp', hq', hq2', asAddr, run_loadVar_row w g t ty cs fr d hg hu hd hi]
theorem wpList_buildQ {P : Program} {ops : Array Oper} {rest : List Oper} {o : Oper} {a : Act} {w : World} {Q : Exit → Act → World → Prop} (hw : Region.wanted o (yielded ops a.tmps) = true) (t : TypeId) (parts : Array (Nat × Operand)) (ho : o.op = .build t parts) (ps : Array (Nat × Value)) (hps : (parts.map fun (i, x) => (i, a.eval x)) = ps) (v : Value)
    (hr : (Instr.build t ps).run P w = .ok v w) (h : wpList P ops Q rest (a.put o.dst v) w) : wpList P ops Q (o :: rest) a w := by
  refine wpList_step fun K hK => ?_
  simp only [hw, if_true]
  unfold Oper.wp execOp
  simp only [ho, Sem.run_bind, hps, hr, Result.andThen_ok]
  exact hK _ _ h
abbrev zreq : Array Value := #[.int .u8 0, .int .u8 0, .int .u8 0, .int .u8 0, .int .u8 0, .int .u8 0, .int .u8 0, .int .u8 0, .int .u8 0, .int .u8 0, .int .u8 0, .int .u8 0, .int .u8 0, .int .u8 0, .int .u8 0, .int .u8 0, .int .u8 0, .int .i64 0, .int .i64 0, .int .i64 0, .int .u32 0, .int .i64 0, .slice none 0 0]
def rq0 : Rq := ⟨0, [0, 0, 0, 0, 0, 0, 0, 0, 0, 0, 0, 0, 0, 0, 0, 0], 0, 0, 0, 0, 0⟩
theorem rq0_ok : rq0.ok := ⟨rfl, by decide⟩
theorem rq0_z : rqA rq0 (.slice none 0 0) = zreq := rfl
/-- Where the reading of bytes begins. -/
def qs0 (l : List Int) : QS := ⟨false, l, rq0, 0⟩
set_option maxRecDepth 100000 in
theorem run_build_rr (w : World) (g : Nat) (n : Int) : (Instr.build TQ #[(0, .agg #[.pointer (some ⟨g, 0, none⟩), .int .i64 n])]).run Try.prog w = .ok (.agg #[.pointer (some ⟨g, 0, none⟩), .int .i64 n, .int .u8 0, .int .u8 0, .int .u8 0, .int .u8 0, .int .u8 0, .int .u8 0, .int .u8 0, .int .u8 0, .int .u8 0, .int .u8 0, .int .u8 0, .int .u8 0, .int .u8 0, .int .u8 0, .int .u8 0, .int .u8 0, .int .u8 0, .int .i64 0, .int .i64 0, .int .i64 0, .int .u32 0, .int .i64 0, .slice none 0 0, .int .i64 0]) w := by
  kernel_rfl
set_option maxRecDepth 100000 in
theorem run_build_r0 (w : World) : (Instr.build 38 #[]).run Try.prog w = .ok (.agg zreq) w := by
  kernel_rfl
theorem rqA_one (r : Rq) (v : Value) (hv : v.oneCell' = true) : (rqA r v).all (·.oneCell') = true := by
  refine all_oneCell_toArray fun u hu => ?_
  unfold rqL at hu
  simp at hu
  rcases hu with rfl | ⟨x, _, rfl⟩ | rfl | rfl | rfl | rfl | rfl | rfl <;> first | rfl | exact hv
/-- What Request tells of bytes. -/
def rqBad (l : List Int) (p : Int) : Prop :=
  ((rd1 l.length (qs0 l)).2 = false ∧ p = (rd1 l.length (qs0 l)).1) ∨
  ((rd1 l.length (qs0 l)).2 = true ∧ (rd2 l.length (qs0 l)).2 = false ∧ p = (rd2 l.length (qs0 l)).1) ∨
  ((rd1 l.length (qs0 l)).2 = true ∧ (rd2 l.length (qs0 l)).2 = true ∧ ((st2 (qs0 l)).l.length : Int) ≠ (st2 (qs0 l)).sz ∧ p = edA l.length (st2 (qs0 l)).l (st2 (qs0 l)).sz)
def rqGood (l : List Int) (r : Rq) (b : List Int) : Prop :=
  (rd1 l.length (qs0 l)).2 = true ∧ (rd2 l.length (qs0 l)).2 = true ∧ ((st2 (qs0 l)).l.length : Int) = (st2 (qs0 l)).sz ∧ r = (st2 (qs0 l)).r ∧ b = taken (st2 (qs0 l)).l (st2 (qs0 l)).sz
def ReqQ (w : World) (l : List Int) (e : Ending) (w' : World) : Prop :=
  (∃ p, rqBad l p ∧ e = .returned (.tuple #[.agg (rqA rq0 (.slice none 0 0)), .int .i64 p, .int .i64 200])) ∨
  (∃ r b v B, rqGood l r b ∧ r.ok ∧ e = .returned (.tuple #[.agg (rqA r v), .int .i64 0, .int .i64 0]) ∧ w'.ownsRow B 5 1 v b.length (b.map (Value.int .u8)) ∧ w.heap.size ≤ B ∧ ∀ x ∈ b, 0 ≤ x ∧ x < 256)
theorem own_setRow {w : World} {B : Nat} {v : Value} {n : Nat} {xs : List Value} {b : Nat} {cs cs' : Array Value} {T : TypeId} (h : w.ownsRow B 5 1 v n xs) (hb : w.heap[b]? = some (.cells cs T (0, 0))) (hT : T ≠ 5) : (w.setRow b cs').ownsRow B 5 1 v n xs := by
  refine ⟨h.1, h.2.elim .inl fun ⟨gg, cap, cur, z1, z2, z3, z4⟩ => .inr ⟨gg, cap, cur, z1, z2, ?_, z4⟩⟩
  rw [← z3]
  have hne : b ≠ gg := fun e => by rw [← e, hb] at z3; simp only [Option.some.injEq, Obj.cells.injEq] at z3; exact hT z3.2.1
  simp [World.setRow, Array.getElem?_modify, hne]
theorem ex_setRow {S : Nat → Prop} {w w' : World} (h : Ex S w w') {b : Nat} (hb : S b) (cs : Array Value) : Ex S w (w'.setRow b cs) :=
  ⟨h.os, h.tape, h.output, by have := h.size; simpa [World.setRow] using this, fun k hk hn => by rw [← h.block k hk hn]; simp [World.setRow, Array.getElem?_modify, show b ≠ k from fun e => hn (e ▸ hb)]⟩
set_option maxRecDepth 100000 in
set_option maxHeartbeats 16000000 in
theorem request_any (w : World) (v : Value) (l : List Int) (h : HB w v l) (hbig : l.length ≤ 140737488355328) :
    Calls Try.prog 15 #[v] w fun e w' => ReqQ w l e w' ∧ Below w.heap.size w w' := by
  obtain ⟨W1, HW1⟩ : ∃ W : World, Hid (w.alloc (.cells zreq 38) = W) := ⟨_, hid rfl⟩
  have B1 : Hid (Below w.heap.size w W1) := by rw [← HW1.out]; exact hid ((Below.refl _ w).alloc (Nat.le_refl _) _)
  have hs1 : Hid (W1.heap.size = w.heap.size + 1) := hid (by rw [← HW1.out]; simp)
  have hbx : Hid (W1.heap[w.heap.size]? = some (.cells zreq 38 (0, 0))) := hid (by rw [← HW1.out]; exact heap_alloc_new w _)
  have C1 := hid (newSource_any W1 v l (h.later fun a _ hx => (B1.out.cell (World.block_lt_of_cell? w a hx)).trans hx) hbig)
  clear h
  go_enter Try.func15, Try.ntmps15
  refine wp_seq_k fun K0 h0 => ?_
  have H0 := hid h0
  clear h0
  go_wp2
  rw [HW1.out]
  refine H0.out _ _ ?_
  go_wp2_with fail
  refine C1.out.mono ?_
  rintro e w2 ⟨g, rfl, hr2, hg2, hB2⟩
  have hbd := hid fun W => run_build_rr W g (l.length : Int)
  have hqe : Hid ((#[.pointer (some ⟨g, 0, none⟩), .int .i64 (l.length : Int), .int .u8 0, .int .u8 0, .int .u8 0, .int .u8 0, .int .u8 0, .int .u8 0, .int .u8 0, .int .u8 0, .int .u8 0, .int .u8 0, .int .u8 0, .int .u8 0, .int .u8 0, .int .u8 0, .int .u8 0, .int .u8 0, .int .u8 0, .int .i64 0, .int .i64 0, .int .i64 0, .int .u32 0, .int .i64 0, .slice none 0 0, .int .i64 0] : Array Value) = (qrL g l.length rq0 (.slice none 0 0) 0).toArray) := hid rfl
  rw [hqe.out] at hbd
  obtain ⟨qa, HQA⟩ : ∃ m, Hid ((qrL g l.length rq0 (.slice none 0 0) 0).toArray = m) := ⟨_, hid rfl⟩
  rw [HQA.out] at hbd
  obtain ⟨W3, HW3⟩ : ∃ W : World, Hid (w2.alloc (.cells qa TQ) = W) := ⟨_, hid rfl⟩
  have Q3 : Hid (QR W3 w2.heap.size g l.length (qs0 l)) := hid ⟨⟨by rw [← HW3.out, ← HQA.out]; exact heap_alloc_new w2 _, by rw [← HW3.out]; exact hr2.grow ((Below.refl _ w2).alloc (Nat.le_refl _) _)⟩, rq0_ok, by show (0 : Int) ≤ 0; decide, by show (0 : Int) < 4294967296; decide⟩
  have hb3 : Hid (W3.heap[w.heap.size]? = some (.cells zreq 38 (0, 0))) := hid (by
    have h1 := (hB2.block w.heap.size (by have := hs1.out; omega)).trans hbx.out
    have h2 : Below w2.heap.size w2 W3 := by rw [← HW3.out]; exact (Below.refl _ w2).alloc (Nat.le_refl _) _
    exact (h2.block _ (Array.getElem?_eq_some_iff.1 h1).1).trans h1)
  have B3 : Hid (Below w.heap.size w W3) := hid (B1.out.trans ((hB2.mono B1.out.size).trans (by rw [← HW3.out]; exact (Below.refl _ w2).alloc (Nat.le_trans B1.out.size hB2.size) _)))
  have hne : Hid (w.heap.size < g ∧ w.heap.size < w2.heap.size) := hid (by have := hs1.out; have := hB2.size; omega)
  have C3 := hid (read_any W3 w2.heap.size g l.length (qs0 l) Q3.out hbig (Nat.le_refl _))
  have SR : Hid ((Try.prog.info? 38).map (·.size) = some 23) := hid (by kernel_rfl)
  generalize hRR : w2.heap.size = R at C3 Q3 hne
  clear hr2 hg2 hB2 C1 hqe HQA
  go_wp2_with (first | (refine wpList_buildQ rfl TQ _ rfl #[(0, .agg #[.pointer (some ⟨g, 0, none⟩), .int .i64 (l.length : Int)])] (by go_simp) _ (hbd.out _) ?_) | rw [HW3.out] | fail)
  refine C3.out.mono ?_
  rintro e w4 ⟨hq4, he4⟩
  have h4 : w4.heap[w.heap.size]? = some (.cells zreq 38 (0, 0)) := (he4.block _ (Array.getElem?_eq_some_iff.1 hb3.out).1 (by have := hne.out; rintro (e | e) <;> omega)).trans hb3.out
  have B4 : Hid (Below w.heap.size w w4) := hid (B3.out.trans (he4.below B3.out.size (fun k q => by have := hne.out; rcases q with q | q <;> omega)))
  have H4 := hid h4
  clear h4 he4 C3 hbd HW3 hRR
  have BAD : Hid (∀ p, rqBad l p → ReqQ w l (.returned (.tuple #[.agg zreq, .int .i64 p, .int .i64 200])) (w4.setRow w.heap.size zreq)) := hid (fun p hp => .inl ⟨p, hp, rfl⟩)
  have BS : Hid (∀ cs, Below w.heap.size w (w4.setRow w.heap.size cs)) := hid (fun cs => B4.out.trans ((ex_setRow (Ex.refl (fun k => k = w.heap.size) w4) rfl cs).below B4.out.size (fun k e => by omega)))
  have HS4 : Hid (∀ cs : Array Value, (w4.setRow w.heap.size cs).heap[w.heap.size]? = some (.cells cs 38 (0, 0))) := hid (fun cs => setRow_heap _ _ _ _ _ _ H4.out)
  have hz1 : Hid (zreq.all (·.oneCell') = true) := hid (rqA_one rq0 _ rfl)
  have hb0 := hid run_build_r0
  obtain ⟨zr, HZR⟩ : ∃ z, Hid (zreq = z) := ⟨_, hid rfl⟩
  have hzs : Hid (zr.size = 23) := hid (by rw [← HZR.out]; rfl)
  rw [HZR.out] at H4 BAD hz1 hb0
  have BADW : Hid (∀ p, rqBad l p → ∀ tmps : Array Value, tmps.getD 2 undef = .pointer (some ⟨w.heap.size, 0, none⟩) → tmps.getD 3 undef = .int .i64 p → tmps.getD 4 undef = .int .i64 200 → True) := hid (fun _ _ _ _ _ _ => trivial)
  rcases hq4 with ⟨q1, rfl⟩ | ⟨q1, q2, rfl⟩ | ⟨q1, q2, q3, rfl⟩ | ⟨q1, q2, q3, rfl, v4, B, q4, q5, q6, q7, q8⟩
  · have HB := hid (BAD.out _ (.inl ⟨q1, rfl⟩))
    generalize (rd1 l.length (qs0 l)).1 = p at HB ⊢
    go_wp2_with (first | (refine wpList_buildQ rfl 38 _ rfl #[] (by go_simp) _ (hb0.out _) ?_) | (refine wpList_store_row rfl 38 _ _ rfl w.heap.size zr rfl rfl 38 zr H4.out (by rw [hzs.out]; exact SR.out) rfl hz1.out ?_) | fail)
    refine bodyPost_ret (v := .tuple #[.agg zr, .int .i64 p, .int .i64 200]) (results_cellTT (p := 2) (q := 3) (q' := 4) (ty := 38) rfl _ _ w.heap.size 38 _ (0, 0) _ _ _ rfl rfl rfl (HS4.out _) Try.underlying38 rfl (by rw [hzs.out]; exact SR.out)) rfl ?_
    exact ⟨HB.out, BS.out _⟩
  · have HB := hid (BAD.out _ (.inr (.inl ⟨q1, q2, rfl⟩)))
    generalize (rd2 l.length (qs0 l)).1 = p at HB ⊢
    go_wp2_with (first | (refine wpList_buildQ rfl 38 _ rfl #[] (by go_simp) _ (hb0.out _) ?_) | (refine wpList_store_row rfl 38 _ _ rfl w.heap.size zr rfl rfl 38 zr H4.out (by rw [hzs.out]; exact SR.out) rfl hz1.out ?_) | fail)
    refine bodyPost_ret (v := .tuple #[.agg zr, .int .i64 p, .int .i64 200]) (results_cellTT (p := 2) (q := 3) (q' := 4) (ty := 38) rfl _ _ w.heap.size 38 _ (0, 0) _ _ _ rfl rfl rfl (HS4.out _) Try.underlying38 rfl (by rw [hzs.out]; exact SR.out)) rfl ?_
    exact ⟨HB.out, BS.out _⟩
  · have HB := hid (BAD.out _ (.inr (.inr ⟨q1, q2, q3, rfl⟩)))
    generalize edA l.length (st2 (qs0 l)).l (st2 (qs0 l)).sz = p at HB ⊢
    go_wp2_with (first | (refine wpList_buildQ rfl 38 _ rfl #[] (by go_simp) _ (hb0.out _) ?_) | (refine wpList_store_row rfl 38 _ _ rfl w.heap.size zr rfl rfl 38 zr H4.out (by rw [hzs.out]; exact SR.out) rfl hz1.out ?_) | fail)
    refine bodyPost_ret (v := .tuple #[.agg zr, .int .i64 p, .int .i64 200]) (results_cellTT (p := 2) (q := 3) (q' := 4) (ty := 38) rfl _ _ w.heap.size 38 _ (0, 0) _ _ _ rfl rfl rfl (HS4.out _) Try.underlying38 rfl (by rw [hzs.out]; exact SR.out)) rfl ?_
    exact ⟨HB.out, BS.out _⟩
  · have hv4 : ∃ p c, v4 = .slice p (taken (st2 (qs0 l)).l (st2 (qs0 l)).sz).length c := by
      rcases q5.2 with ⟨e1, e2⟩ | ⟨gg, cap, cur, e1, _⟩
      · exact ⟨none, 0, by rw [e1, e2]⟩
      · exact ⟨_, _, e1⟩
    have hone : v4.oneCell' = true := by obtain ⟨p, c, rfl⟩ := hv4; rfl
    have HQ : Hid (∀ cs', ReqQ w l (.returned (.tuple #[.agg (rqA (st2 (qs0 l)).r v4), .int .i64 0, .int .i64 0])) (w4.setRow w.heap.size cs')) := hid (fun cs' => .inr ⟨_, _, v4, B, ⟨q1, q2, q3, rfl, rfl⟩, q8, rfl, own_setRow q5 H4.out (by decide), Nat.le_trans B3.out.size q6, q7⟩)
    have RR : Hid (w4.rangeAt R 2 (rqL (st2 (qs0 l)).r v4)) := hid (fun j u hj => by
      rw [cell_of_row _ _ _ _ _ _ q4]
      have hl : (rqL (st2 (qs0 l)).r v4).length = 23 := by simp [rqL, q8.1]
      have hj2 : j < 23 := by have := (List.getElem?_eq_some_iff.1 hj).1; omega
      rw [List.getElem?_toArray]
      unfold qrL
      rw [show 2 + j = j + 1 + 1 by omega, List.getElem?_cons_succ, List.getElem?_cons_succ, List.getElem?_append_left (by omega)]
      exact hj)
    have hm1 : Hid ((rqA (st2 (qs0 l)).r v4).all (·.oneCell') = true) := hid (rqA_one _ _ hone)
    have hms : Hid ((rqA (st2 (qs0 l)).r v4).size = 23) := hid (rqA_size q8 v4)
    have SL : Hid ((Try.prog.info? 38).map (·.size) = some (rqL (st2 (qs0 l)).r v4).length) := hid (by rw [show (rqL (st2 (qs0 l)).r v4).length = 23 by simp [rqL, q8.1]]; exact SR.out)
    have HMM : Hid ((rqL (st2 (qs0 l)).r v4).toArray = rqA (st2 (qs0 l)).r v4) := hid rfl
    obtain ⟨m, HM⟩ : ∃ m, Hid (rqA (st2 (qs0 l)).r v4 = m) := ⟨_, hid rfl⟩
    rw [HM.out] at HQ hm1 hms HMM
    clear q1 q2 q3 q4 q5 q6 q7 q8 hv4 hone BAD hb0 hz1
    go_wp2_with (first | (refine wpList_load_mid rfl 38 _ rfl R 2 rfl (rqL (st2 (qs0 l)).r v4) _ RR.out Try.underlying38 rfl SL.out ?_; rw [HMM.out]) | (refine wpList_store_row rfl 38 _ _ rfl w.heap.size m rfl rfl 38 zr H4.out (by rw [hms.out]; exact SR.out) (by rw [hms.out]; exact hzs.out) hm1.out ?_) | fail)
    refine bodyPost_ret (v := .tuple #[.agg m, .int .i64 0, .int .i64 0]) (results_cellTT (p := 2) (q := 3) (q' := 4) (ty := 38) rfl _ _ w.heap.size 38 _ (0, 0) _ _ _ rfl rfl rfl (HS4.out _) Try.underlying38 rfl (by rw [hms.out]; exact SR.out)) rfl ?_
    exact ⟨HQ.out _, BS.out _⟩
end Go.Proofs.Ytmegeogfpkdodaa
