/- The kit's SameRequest and SameReply, at two that are the same. -/
import Derived.Test.YtmegeogfpkdodaaWrCutWalk
import Derived.Test.YtmegeogfpkdodaaArrB
set_option linter.unusedVariables false
set_option linter.unusedSimpArgs false
namespace Go.Proofs.Ytmegeogfpkdodaa
open Go Go.RowKit

theorem wpList_load_midW {P : Program} {ops : Array Oper} {rest : List Oper} {op : Oper} {a : Act} {w : World} {Q : Exit → Act → World → Prop} (hw : Region.wanted op (yielded ops a.tmps) = true) (ty : TypeId) (x : Operand) (ho : op.op = .load ty x)
    (b o : Nat) (hx : a.eval x = .pointer (some ⟨b, o, none⟩)) (cs : List Value) (d : TypeDesc) (hc : w.rangeAt b o cs)
    (hu : P.underlying ty = some d) (hd : d.isRow = true) (hi : (P.info? ty).map (·.size) = some cs.length)
    (h : wpList P ops Q rest (a.put op.dst (.agg cs.toArray)) w) : wpList P ops Q (op :: rest) a w := by
  refine wpList_step fun K hK => ?_
  simp only [hw, if_true]
  exact wp_load_mid ty x ho b o hx cs d hc hu hd hi (hK _ _ h)
theorem range_ix {w : World} {b : Nat} {r : Rq} {v : Value} (h : w.heap[b]? = some (.cells (rqA r v) 38 (0, 0))) (hr : r.ok) : w.rangeAt b 1 (r.ix.map (Value.int .u8)) := fun j u hj => by
  rw [cell_of_row _ _ _ _ _ _ h]
  unfold rqA rqL
  have hj2 : j < (r.ix.map (Value.int .u8)).length := (List.getElem?_eq_some_iff.1 hj).1
  rw [List.getElem?_toArray, show 1 + j = j + 1 by omega, List.getElem?_cons_succ, List.getElem?_append_left hj2]
  exact hj
theorem range_le {w : World} {b : Nat} {r : Rq} {v : Value} (h : w.heap[b]? = some (.cells (rqA r v) 38 (0, 0))) (hr : r.ok) : w.rangeAt b 20 [.int .u32 r.who, .int .i64 r.til] := fun j u hj => by
  rw [cell_of_row _ _ _ _ _ _ h]
  have hj2 : j < 2 := by have := (List.getElem?_eq_some_iff.1 hj).1; simpa using this
  rcases (by omega : j = 0 ∨ j = 1) with rfl | rfl
  · rw [rqA_20 hr v]; simpa using hj
  · rw [rqA_21 hr v]; simpa using hj
set_option maxRecDepth 100000 in
set_option maxHeartbeats 8000000 in
theorem sameReq_ok (w : World) (r : Rq) (hr : r.ok) (va vb : Value) (l : List Int) (ha : HB w va l) (hb : HB w vb l) :
    Calls Try.prog 16 #[.agg (rqA r va), .agg (rqA r vb)] w fun e w' => e = .returned (.bool true) ∧ Below w.heap.size w w' := by
  obtain ⟨m1, HM1⟩ : ∃ m, Hid (rqA r va = m) := ⟨_, hid rfl⟩
  obtain ⟨m2, HM2⟩ : ∃ m, Hid (rqA r vb = m) := ⟨_, hid rfl⟩
  obtain ⟨W1, HW1⟩ : ∃ W : World, Hid (w.alloc (.cells m1 38) = W) := ⟨_, hid rfl⟩
  obtain ⟨W2, HW2⟩ : ∃ W : World, Hid (W1.alloc (.cells m2 38) = W) := ⟨_, hid rfl⟩
  have Z1 : W1.heap.size = w.heap.size + 1 := by rw [← HW1.out]; simp
  have B1 : Hid (Below w.heap.size w W1) := by rw [← HW1.out]; exact hid ((Below.refl _ w).alloc (Nat.le_refl _) _)
  have B2 : Hid (Below W1.heap.size W1 W2) := by rw [← HW2.out]; exact hid ((Below.refl _ W1).alloc (Nat.le_refl _) _)
  have BB : Hid (Below w.heap.size w W2) := hid (B1.out.trans (B2.out.mono B1.out.size))
  have x1 : W2.heap[w.heap.size]? = some (.cells (rqA r va) 38 (0, 0)) := by rw [HM1.out]; exact (B2.out.block _ (by omega)).trans (by rw [← HW1.out]; exact heap_alloc_new w _)
  have x2 : W2.heap[w.heap.size + 1]? = some (.cells (rqA r vb) 38 (0, 0)) := by rw [HM2.out, ← Z1, ← HW2.out]; exact heap_alloc_new W1 _
  have R1 := hid (range_ix x1 hr)
  have R2 := hid (range_ix x2 hr)
  have L1 := hid (range_le x1 hr)
  have L2 := hid (range_le x2 hr)
  have SI : Hid ((Try.prog.info? 32).map (·.size) = some (r.ix.map (Value.int .u8)).length) := hid (by rw [List.length_map, hr.1]; kernel_rfl)
  have SLe : Hid ((Try.prog.info? 35).map (·.size) = some ([.int .u32 r.who, .int .i64 r.til] : List Value).length) := hid (by kernel_rfl)
  have c0 : W2.cell? ⟨w.heap.size, 0, none⟩ = some (.int .u8 r.k) := by rw [cell_of_row _ _ _ _ _ _ x1]; rfl
  have d0 : W2.cell? ⟨w.heap.size + 1, 0, none⟩ = some (.int .u8 r.k) := by rw [cell_of_row _ _ _ _ _ _ x2]; rfl
  have c17 : W2.cell? ⟨w.heap.size, 17, none⟩ = some (.int .i64 r.nb) := by rw [cell_of_row _ _ _ _ _ _ x1]; exact rqA_17 hr _
  have d17 : W2.cell? ⟨w.heap.size + 1, 17, none⟩ = some (.int .i64 r.nb) := by rw [cell_of_row _ _ _ _ _ _ x2]; exact rqA_17 hr _
  have c18 : W2.cell? ⟨w.heap.size, 18, none⟩ = some (.int .i64 r.pl) := by rw [cell_of_row _ _ _ _ _ _ x1]; exact rqA_18 hr _
  have d18 : W2.cell? ⟨w.heap.size + 1, 18, none⟩ = some (.int .i64 r.pl) := by rw [cell_of_row _ _ _ _ _ _ x2]; exact rqA_18 hr _
  have c19 : W2.cell? ⟨w.heap.size, 19, none⟩ = some (.int .i64 r.ln) := by rw [cell_of_row _ _ _ _ _ _ x1]; exact rqA_19 hr _
  have d19 : W2.cell? ⟨w.heap.size + 1, 19, none⟩ = some (.int .i64 r.ln) := by rw [cell_of_row _ _ _ _ _ _ x2]; exact rqA_19 hr _
  have c20 : W2.cell? ⟨w.heap.size, 20, none⟩ = some (.int .u32 r.who) := by rw [cell_of_row _ _ _ _ _ _ x1]; exact rqA_20 hr _
  have d20 : W2.cell? ⟨w.heap.size + 1, 20, none⟩ = some (.int .u32 r.who) := by rw [cell_of_row _ _ _ _ _ _ x2]; exact rqA_20 hr _
  have c21 : W2.cell? ⟨w.heap.size, 21, none⟩ = some (.int .i64 r.til) := by rw [cell_of_row _ _ _ _ _ _ x1]; exact rqA_21 hr _
  have d21 : W2.cell? ⟨w.heap.size + 1, 21, none⟩ = some (.int .i64 r.til) := by rw [cell_of_row _ _ _ _ _ _ x2]; exact rqA_21 hr _
  have c22 : W2.cell? ⟨w.heap.size, 22, none⟩ = some va := by rw [cell_of_row _ _ _ _ _ _ x1]; exact rqA_22 hr _
  have d22 : W2.cell? ⟨w.heap.size + 1, 22, none⟩ = some vb := by rw [cell_of_row _ _ _ _ _ _ x2]; exact rqA_22 hr _
  have CS := hid (sameBytes_any W2 va vb l l (ha.below BB.out) (hb.below BB.out))
  have heq : Hid (∀ W, (binOp .eql 32 (.agg (cellsB r.ix)) (.agg (cellsB r.ix))).run Try.prog W = .ok (.bool true) W) := hid (fun W => by
    have := run_eql_bytes W 16 32 Try.underlying32 r.ix r.ix hr.1 hr.1
    simpa using this)
  have hle := run_eql_lease
  obtain ⟨pa, ca, rfl, _, _⟩ := ha.open
  obtain ⟨pb, cb, rfl, _, _⟩ := hb.open
  rw [HM1.out, HM2.out]
  obtain ⟨ia, HIA⟩ : ∃ m, Hid (cellsB r.ix = m) := ⟨_, hid rfl⟩
  rw [HIA.out] at heq
  have heq' := heq.out
  have HIA' : Hid ((r.ix.map (Value.int .u8)).toArray = ia) := hid HIA.out
  clear x1 x2 ha hb heq
  go_enter Try.func16, Try.ntmps16
  refine wp_seq_k fun K0 h0 => ?_
  have H0 := hid h0
  clear h0
  go_wp2
  rw [HW1.out, HW2.out]
  refine H0.out _ _ ?_
  clear H0 K0
  go_wp2_with (first | (refine wpList_load_midW (by rfl) 32 _ rfl w.heap.size 1 rfl (r.ix.map (Value.int .u8)) _ R1.out Try.underlying32 rfl SI.out ?_; rw [HIA'.out]) | (refine wpList_load_midW (by rfl) 32 _ rfl (w.heap.size + 1) 1 rfl (r.ix.map (Value.int .u8)) _ R2.out Try.underlying32 rfl SI.out ?_; rw [HIA'.out]) | fail)
  refine CS.out.mono ?_
  rintro e w3 ⟨rfl, d3⟩
  have BF : Hid (Below w.heap.size w w3) := hid (BB.out.trans (d3.below _))
  clear CS
  simp only [decide_true]
  go_wp2_with fail
  go_ret
  exact ⟨rfl, BF.out⟩
set_option maxRecDepth 100000 in
set_option maxHeartbeats 8000000 in
theorem sameRep_ok (w : World) (k : Int) (na nb va vb : Value) (ns l : List Int) (hna : I.HB w na ns) (hnb : I.HB w nb ns) (ha : HB w va l) (hb : HB w vb l) :
    Calls Try.prog 20 #[.agg (rpA k na va), .agg (rpA k nb vb)] w fun e w' => e = .returned (.bool true) ∧ Below w.heap.size w w' := by
  unfold rpA
  obtain ⟨W1, HW1⟩ : ∃ W : World, Hid (w.alloc (.cells #[.int .u8 k, na, va] 42) = W) := ⟨_, hid rfl⟩
  obtain ⟨W2, HW2⟩ : ∃ W : World, Hid (W1.alloc (.cells #[.int .u8 k, nb, vb] 42) = W) := ⟨_, hid rfl⟩
  have Z1 : W1.heap.size = w.heap.size + 1 := by rw [← HW1.out]; simp
  have B1 : Hid (Below w.heap.size w W1) := by rw [← HW1.out]; exact hid ((Below.refl _ w).alloc (Nat.le_refl _) _)
  have B2 : Hid (Below W1.heap.size W1 W2) := by rw [← HW2.out]; exact hid ((Below.refl _ W1).alloc (Nat.le_refl _) _)
  have BB : Hid (Below w.heap.size w W2) := hid (B1.out.trans (B2.out.mono B1.out.size))
  have x1 : W2.heap[w.heap.size]? = some (.cells #[.int .u8 k, na, va] 42 (0, 0)) := (B2.out.block _ (by omega)).trans (by rw [← HW1.out]; exact heap_alloc_new w _)
  have x2 : W2.heap[w.heap.size + 1]? = some (.cells #[.int .u8 k, nb, vb] 42 (0, 0)) := by rw [← Z1, ← HW2.out]; exact heap_alloc_new W1 _
  have KX : Hid (∀ W, Dr W2 W → W.cell? ⟨w.heap.size, 2, none⟩ = some va ∧ W.cell? ⟨w.heap.size + 1, 2, none⟩ = some vb) := hid (fun W hW => by
    refine ⟨(hW.cell _).trans ?_, (hW.cell _).trans ?_⟩
    · rw [cell_of_row _ _ _ _ _ _ x1]; rfl
    · rw [cell_of_row _ _ _ _ _ _ x2]; rfl)
  have c0 : W2.cell? ⟨w.heap.size, 0, none⟩ = some (.int .u8 k) := by rw [cell_of_row _ _ _ _ _ _ x1]; rfl
  have d0 : W2.cell? ⟨w.heap.size + 1, 0, none⟩ = some (.int .u8 k) := by rw [cell_of_row _ _ _ _ _ _ x2]; rfl
  have c1 : W2.cell? ⟨w.heap.size, 1, none⟩ = some na := by rw [cell_of_row _ _ _ _ _ _ x1]; rfl
  have d1 : W2.cell? ⟨w.heap.size + 1, 1, none⟩ = some nb := by rw [cell_of_row _ _ _ _ _ _ x2]; rfl
  have CI := hid (I.sameBytes_any W2 na nb ns ns (hna.below BB.out) (hnb.below BB.out))
  have CS : Hid (∀ W, Dr W2 W → Calls Try.prog 17 #[va, vb] W fun e w' => e = .returned (.bool (decide (l = l))) ∧ Dr W w') := hid (fun W hW => sameBytes_any W va vb l l ((ha.below BB.out).dr hW) ((hb.below BB.out).dr hW))
  obtain ⟨pa, ca, rfl, _, _⟩ := ha.open
  obtain ⟨pb, cb, rfl, _, _⟩ := hb.open
  obtain ⟨qa, da, rfl, _, _⟩ := hna.open
  obtain ⟨qb, db, rfl, _, _⟩ := hnb.open
  clear x1 x2 ha hb hna hnb
  go_enter Try.func20, Try.ntmps20
  refine wp_seq_k fun K0 h0 => ?_
  have H0 := hid h0
  clear h0
  go_wp2
  rw [HW1.out, HW2.out]
  refine H0.out _ _ ?_
  clear H0 K0
  go_wp2_with fail
  refine CI.out.mono ?_
  rintro e w3 ⟨rfl, d3⟩
  obtain ⟨k1, k2⟩ := KX.out w3 d3
  have CS2 := hid (CS.out w3 d3)
  have D3 := hid d3
  clear CI CS d3 KX
  simp only [decide_true]
  go_wp2_with fail
  refine CS2.out.mono ?_
  rintro e w4 ⟨rfl, d4⟩
  have BF : Hid (Below w.heap.size w w4) := hid (BB.out.trans ((D3.out.trans d4).below _))
  clear CS2
  simp only [decide_true]
  go_wp2_with fail
  go_ret
  exact ⟨rfl, BF.out⟩
end Go.Proofs.Ytmegeogfpkdodaa
