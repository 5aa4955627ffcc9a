/- Of the road to wireCallsUpto_holds: WrCutWalk, ArrB, WrSame, WrAsksWalk, WrTellsWalk, OpensWr, WrPlace, WrRfA, WrDq. -/
import Derived.Test.YtgjadpidoaianaaG08
import Derived.Test.YtgjadpidoaianaaG00
import Derived.Deep.MidRow
import Derived.ChangeArms
import Derived.Test.YtgjadpidoaianaaG06
set_option linter.unusedVariables false
set_option linter.unusedSimpArgs false
namespace Go.Proofs.Ytgjadpidoaianaa
open Go Go.RowKit
theorem setRow_new (w : World) (c c' : Array Value) (t : TypeId) : (w.alloc (.cells c t)).setRow w.heap.size c' = w.alloc (.cells c' t) := by
  simp only [World.setRow, World.alloc]
  congr 1
  apply Array.ext_getElem?
  intro i
  rw [Array.getElem?_modify, Array.getElem?_push, Array.getElem?_push]
  by_cases e : w.heap.size = i
  · subst e; simp
  · rw [if_neg e, if_neg (Ne.symm e), if_neg (Ne.symm e)]
theorem elmB : Try.prog.elem 36 = 5 := by kernel_rfl
theorem slice_hB (W : World) (b off n c hi : Nat) (h1 : hi ≤ c) (h2 : 0 < c) : (Instr.slice 36 (.slice (some ⟨b, off, none⟩) n c) none (some (.int .i64 (hi : Int))) none).run Try.prog W = .ok (.slice (some ⟨b, off, none⟩) hi c) W := by
  have h := run_slice_h (P := Try.prog) W 36 (some ⟨b, off, none⟩) n c (by rw [elmB]; exact Try.underlying36) .i64 (hi : Int) (by omega) (by omega)
  rw [h, elmB, size_u8, Result.andThen_ok, Int.toNat_natCast]
  unfold sliced
  rw [if_neg (by omega)]
  simp [Go.WideShapes.add_plain]
end Go.Proofs.Ytgjadpidoaianaa
namespace Go.Proofs.Ytgjadpidoaianaa
open Go.RowKit
def cellsB (l : List Int) : Array Value := (l.map (Value.int .u8)).toArray
theorem part_u8 (w : World) (l : List Int) (i : Nat) (hi : i < l.length) : (part 5 (cellsB l) i).run Try.prog w = .ok (.int .u8 (l.getD i 0)) w := by
  have e : (cellsB l)[i]? = some (.int .u8 (l.getD i 0)) := by simp [cellsB, List.getD, List.getElem?_eq_getElem hi]
  simp [part, e]
def eqRound (d : Nat) (xs ys : List Int) (i : Nat) (_ : Option Bool × Unit) : Sem (ForInStep (Option Bool × Unit)) := do
  let a ← part 5 (cellsB xs) (i * 1)
  let b ← part 5 (cellsB ys) (i * 1)
  let c ← Op.equalIn (d + 1) 5 a b
  if (!c) = true then pure (ForInStep.done (some false, ())) else pure (ForInStep.yield (none, ()))
theorem run_eqRound (w : World) (d : Nat) (xs ys : List Int) (i : Nat) (s : Option Bool × Unit) (hx : i < xs.length) (hy : i < ys.length) :
    (eqRound d xs ys i s).run Try.prog w = .ok (if xs.getD i 0 = ys.getD i 0 then .yield (none, ()) else .done (some false, ())) w := by
  unfold eqRound
  simp only [Sem.run_bind, Nat.mul_one, part_u8 w xs i hx, part_u8 w ys i hy, Result.andThen_ok, run_equalIn_int w d 5 .u8 .u8 _ _ Try.underlying5]
  by_cases h : xs.getD i 0 = ys.getD i 0
  · have e : (xs.getD i 0 == ys.getD i 0) = true := by simpa using h
    rw [e, if_pos h]; rfl
  · have e : (xs.getD i 0 == ys.getD i 0) = false := by simpa using h
    rw [e, if_neg h]; rfl
theorem run_eqRounds (w : World) (d n : Nat) (xs ys : List Int) (hx : xs.length = n) (hy : ys.length = n) : ∀ (m k : Nat), k + m = n → xs.take k = ys.take k →
    (forIn (List.range' k m 1) ((none : Option Bool), ()) (eqRound d xs ys)).run Try.prog w = .ok (if xs = ys then (none, ()) else (some false, ())) w
  | 0, k, hk, ht => by
    have e : xs = ys := by rw [← List.take_of_length_le (show xs.length ≤ k by omega), ← List.take_of_length_le (show ys.length ≤ k by omega), ht]
    simp [e]
  | m + 1, k, hk, ht => by
    rw [List.range'_succ, List.forIn_cons, Sem.run_bind, run_eqRound w d xs ys k _ (by omega) (by omega), Result.andThen_ok]
    by_cases h : xs.getD k 0 = ys.getD k 0
    · rw [if_pos h]
      have h2 : xs.take (k + 1) = ys.take (k + 1) := by
        rw [List.take_succ_eq_append_getElem (by omega), List.take_succ_eq_append_getElem (by omega), ht]
        rw [getD_of_lt (by omega), getD_of_lt (by omega)] at h
        rw [h]
      exact run_eqRounds w d n xs ys hx hy m (k + 1) (by omega) h2
    · rw [if_neg h, if_neg (fun e => h (by rw [e]))]
      rfl
theorem run_equalIn_bytes (w : World) (d n : Nat) (t : TypeId) (ht : Try.prog.underlying t = some (.array n 5)) (xs ys : List Int) (hx : xs.length = n) (hy : ys.length = n) :
    (Op.equalIn (d + 2) t (.agg (cellsB xs)) (.agg (cellsB ys))).run Try.prog w = .ok (decide (xs = ys)) w := by
  rw [Op.equalIn]
  simp only [Sem.run_bind, run_underlying ht, Result.andThen_ok, size_u8]
  have hr := run_eqRounds w d n xs ys hx hy n 0 (by omega) rfl
  have e : (forIn (m := Sem) [:n] ((none : Option Bool), ()) (eqRound d xs ys)) = forIn (List.range' 0 n 1) ((none : Option Bool), ()) (eqRound d xs ys) := by
    rw [Std.Legacy.Range.forIn_eq_forIn_range']
    simp [Std.Legacy.Range.size]
  rw [← e] at hr
  refine (congrArg (fun r => Result.andThen r _) hr).trans ?_
  by_cases h : xs = ys
  · simp [h]
  · simp [h]
theorem run_eql_bytes (w : World) (n : Nat) (t : TypeId) (ht : Try.prog.underlying t = some (.array n 5)) (xs ys : List Int) (hx : xs.length = n) (hy : ys.length = n) :
    (binOp .eql t (.agg (cellsB xs)) (.agg (cellsB ys))).run Try.prog w = .ok (.bool (decide (xs = ys))) w := by
  rw [run_eql_struct, run_equalIn_bytes w 9998 n t ht xs ys hx hy]
  rfl
end Go.Proofs.Ytgjadpidoaianaa
namespace Go.Proofs.Ytgjadpidoaianaa
open Go Go.RowKit
theorem wpList_load_midW {P : Program} {ops : Array Oper} {rest : List Oper} {op : Oper} {a : Act} {w : World} {Q : Exit → Act → World → Prop} (hw : Region.wanted op (yielded ops a.tmps) = true) (ty : TypeId) (x : Operand) (ho : op.op = .load ty x)
    (b o : Nat) (hx : a.eval x = .pointer (some ⟨b, o, none⟩)) (cs : List Value) (d : TypeDesc) (hc : w.rangeAt b o cs)
    (hu : P.underlying ty = some d) (hd : d.isRow = true) (hi : (P.info? ty).map (·.size) = some cs.length)
    (h : wpList P ops Q rest (a.put op.dst (.agg cs.toArray)) w) : wpList P ops Q (op :: rest) a w := by
  refine wpList_step fun K hK => ?_
  simp only [hw, if_true]
  exact wp_load_mid ty x ho b o hx cs d hc hu hd hi (hK _ _ h)
theorem range_ix {w : World} {b : Nat} {r : Rq} {v : Value} (h : w.heap[b]? = some (.cells (rqA r v) 38 (0, 0))) (hr : r.ok) : w.rangeAt b 1 (r.ix.map (Value.int .u8)) := fun j u hj => by
  rw [cell_of_row _ _ _ _ _ _ h]
  unfold rqA rqL
  have hj2 : j < (r.ix.map (Value.int .u8)).length := (List.getElem?_eq_some_iff.1 hj).1
  rw [List.getElem?_toArray, show 1 + j = j + 1 by omega, List.getElem?_cons_succ, List.getElem?_append_left hj2]
  exact hj
theorem range_le {w : World} {b : Nat} {r : Rq} {v : Value} (h : w.heap[b]? = some (.cells (rqA r v) 38 (0, 0))) (hr : r.ok) : w.rangeAt b 20 [.int .u32 r.who, .int .i64 r.til] := fun j u hj => by
  rw [cell_of_row _ _ _ _ _ _ h]
  have hj2 : j < 2 := by have := (List.getElem?_eq_some_iff.1 hj).1; simpa using this
  rcases (by omega : j = 0 ∨ j = 1) with rfl | rfl
  · rw [rqA_20 hr v]; simpa using hj
  · rw [rqA_21 hr v]; simpa using hj
set_option maxRecDepth 100000 in
set_option maxHeartbeats 8000000 in
theorem sameReq_ok (w : World) (r : Rq) (hr : r.ok) (va vb : Value) (l : List Int) (ha : HB w va l) (hb : HB w vb l) :
    Calls Try.prog 16 #[.agg (rqA r va), .agg (rqA r vb)] w fun e w' => e = .returned (.bool true) ∧ Below w.heap.size w w' := by
  obtain ⟨m1, HM1⟩ : ∃ m, Hid (rqA r va = m) := ⟨_, hid rfl⟩
  obtain ⟨m2, HM2⟩ : ∃ m, Hid (rqA r vb = m) := ⟨_, hid rfl⟩
  obtain ⟨W1, HW1⟩ : ∃ W : World, Hid (w.alloc (.cells m1 38) = W) := ⟨_, hid rfl⟩
  obtain ⟨W2, HW2⟩ : ∃ W : World, Hid (W1.alloc (.cells m2 38) = W) := ⟨_, hid rfl⟩
  have Z1 : W1.heap.size = w.heap.size + 1 := by rw [← HW1.out]; simp
  have B1 : Hid (Below w.heap.size w W1) := by rw [← HW1.out]; exact hid ((Below.refl _ w).alloc (Nat.le_refl _) _)
  have B2 : Hid (Below W1.heap.size W1 W2) := by rw [← HW2.out]; exact hid ((Below.refl _ W1).alloc (Nat.le_refl _) _)
  have BB : Hid (Below w.heap.size w W2) := hid (B1.out.trans (B2.out.mono B1.out.size))
  have x1 : W2.heap[w.heap.size]? = some (.cells (rqA r va) 38 (0, 0)) := by rw [HM1.out]; exact (B2.out.block _ (by omega)).trans (by rw [← HW1.out]; exact heap_alloc_new w _)
  have x2 : W2.heap[w.heap.size + 1]? = some (.cells (rqA r vb) 38 (0, 0)) := by rw [HM2.out, ← Z1, ← HW2.out]; exact heap_alloc_new W1 _
  have R1 := hid (range_ix x1 hr)
  have R2 := hid (range_ix x2 hr)
  have L1 := hid (range_le x1 hr)
  have L2 := hid (range_le x2 hr)
  have SI : Hid ((Try.prog.info? 32).map (·.size) = some (r.ix.map (Value.int .u8)).length) := hid (by rw [List.length_map, hr.1]; kernel_rfl)
  have SLe : Hid ((Try.prog.info? 35).map (·.size) = some ([.int .u32 r.who, .int .i64 r.til] : List Value).length) := hid (by kernel_rfl)
  have c0 : W2.cell? ⟨w.heap.size, 0, none⟩ = some (.int .u8 r.k) := by rw [cell_of_row _ _ _ _ _ _ x1]; rfl
  have d0 : W2.cell? ⟨w.heap.size + 1, 0, none⟩ = some (.int .u8 r.k) := by rw [cell_of_row _ _ _ _ _ _ x2]; rfl
  have c17 : W2.cell? ⟨w.heap.size, 17, none⟩ = some (.int .i64 r.nb) := by rw [cell_of_row _ _ _ _ _ _ x1]; exact rqA_17 hr _
  have d17 : W2.cell? ⟨w.heap.size + 1, 17, none⟩ = some (.int .i64 r.nb) := by rw [cell_of_row _ _ _ _ _ _ x2]; exact rqA_17 hr _
  have c18 : W2.cell? ⟨w.heap.size, 18, none⟩ = some (.int .i64 r.pl) := by rw [cell_of_row _ _ _ _ _ _ x1]; exact rqA_18 hr _
  have d18 : W2.cell? ⟨w.heap.size + 1, 18, none⟩ = some (.int .i64 r.pl) := by rw [cell_of_row _ _ _ _ _ _ x2]; exact rqA_18 hr _
  have c19 : W2.cell? ⟨w.heap.size, 19, none⟩ = some (.int .i64 r.ln) := by rw [cell_of_row _ _ _ _ _ _ x1]; exact rqA_19 hr _
  have d19 : W2.cell? ⟨w.heap.size + 1, 19, none⟩ = some (.int .i64 r.ln) := by rw [cell_of_row _ _ _ _ _ _ x2]; exact rqA_19 hr _
  have c20 : W2.cell? ⟨w.heap.size, 20, none⟩ = some (.int .u32 r.who) := by rw [cell_of_row _ _ _ _ _ _ x1]; exact rqA_20 hr _
  have d20 : W2.cell? ⟨w.heap.size + 1, 20, none⟩ = some (.int .u32 r.who) := by rw [cell_of_row _ _ _ _ _ _ x2]; exact rqA_20 hr _
  have c21 : W2.cell? ⟨w.heap.size, 21, none⟩ = some (.int .i64 r.til) := by rw [cell_of_row _ _ _ _ _ _ x1]; exact rqA_21 hr _
  have d21 : W2.cell? ⟨w.heap.size + 1, 21, none⟩ = some (.int .i64 r.til) := by rw [cell_of_row _ _ _ _ _ _ x2]; exact rqA_21 hr _
  have c22 : W2.cell? ⟨w.heap.size, 22, none⟩ = some va := by rw [cell_of_row _ _ _ _ _ _ x1]; exact rqA_22 hr _
  have d22 : W2.cell? ⟨w.heap.size + 1, 22, none⟩ = some vb := by rw [cell_of_row _ _ _ _ _ _ x2]; exact rqA_22 hr _
  have CS := hid (sameBytes_any W2 va vb l l (ha.below BB.out) (hb.below BB.out))
  have heq : Hid (∀ W, (binOp .eql 32 (.agg (cellsB r.ix)) (.agg (cellsB r.ix))).run Try.prog W = .ok (.bool true) W) := hid (fun W => by
    have := run_eql_bytes W 16 32 Try.underlying32 r.ix r.ix hr.1 hr.1
    simpa using this)
  have hle := run_eql_lease
  obtain ⟨pa, ca, rfl, _, _⟩ := ha.open
  obtain ⟨pb, cb, rfl, _, _⟩ := hb.open
  rw [HM1.out, HM2.out]
  obtain ⟨ia, HIA⟩ : ∃ m, Hid (cellsB r.ix = m) := ⟨_, hid rfl⟩
  rw [HIA.out] at heq
  have heq' := heq.out
  have HIA' : Hid ((r.ix.map (Value.int .u8)).toArray = ia) := hid HIA.out
  clear x1 x2 ha hb heq
  go_enter Try.func16, Try.ntmps16
  refine wp_seq_k fun K0 h0 => ?_
  have H0 := hid h0
  clear h0
  go_wp2
  rw [HW1.out, HW2.out]
  refine H0.out _ _ ?_
  clear H0 K0
  go_wp2_with (first | (refine wpList_load_midW (by rfl) 32 _ rfl w.heap.size 1 rfl (r.ix.map (Value.int .u8)) _ R1.out Try.underlying32 rfl SI.out ?_; rw [HIA'.out]) | (refine wpList_load_midW (by rfl) 32 _ rfl (w.heap.size + 1) 1 rfl (r.ix.map (Value.int .u8)) _ R2.out Try.underlying32 rfl SI.out ?_; rw [HIA'.out]) | fail)
  refine CS.out.mono ?_
  rintro e w3 ⟨rfl, d3⟩
  have BF : Hid (Below w.heap.size w w3) := hid (BB.out.trans (d3.below _))
  clear CS
  simp only [decide_true]
  go_wp2_with fail
  go_ret
  exact ⟨rfl, BF.out⟩
set_option maxRecDepth 100000 in
set_option maxHeartbeats 8000000 in
theorem sameRep_ok (w : World) (k : Int) (na nb va vb : Value) (ns l : List Int) (hna : I.HB w na ns) (hnb : I.HB w nb ns) (ha : HB w va l) (hb : HB w vb l) :
    Calls Try.prog 20 #[.agg (rpA k na va), .agg (rpA k nb vb)] w fun e w' => e = .returned (.bool true) ∧ Below w.heap.size w w' := by
  unfold rpA
  obtain ⟨W1, HW1⟩ : ∃ W : World, Hid (w.alloc (.cells #[.int .u8 k, na, va] 42) = W) := ⟨_, hid rfl⟩
  obtain ⟨W2, HW2⟩ : ∃ W : World, Hid (W1.alloc (.cells #[.int .u8 k, nb, vb] 42) = W) := ⟨_, hid rfl⟩
  have Z1 : W1.heap.size = w.heap.size + 1 := by rw [← HW1.out]; simp
  have B1 : Hid (Below w.heap.size w W1) := by rw [← HW1.out]; exact hid ((Below.refl _ w).alloc (Nat.le_refl _) _)
  have B2 : Hid (Below W1.heap.size W1 W2) := by rw [← HW2.out]; exact hid ((Below.refl _ W1).alloc (Nat.le_refl _) _)
  have BB : Hid (Below w.heap.size w W2) := hid (B1.out.trans (B2.out.mono B1.out.size))
  have x1 : W2.heap[w.heap.size]? = some (.cells #[.int .u8 k, na, va] 42 (0, 0)) := (B2.out.block _ (by omega)).trans (by rw [← HW1.out]; exact heap_alloc_new w _)
  have x2 : W2.heap[w.heap.size + 1]? = some (.cells #[.int .u8 k, nb, vb] 42 (0, 0)) := by rw [← Z1, ← HW2.out]; exact heap_alloc_new W1 _
  have KX : Hid (∀ W, Dr W2 W → W.cell? ⟨w.heap.size, 2, none⟩ = some va ∧ W.cell? ⟨w.heap.size + 1, 2, none⟩ = some vb) := hid (fun W hW => by
    refine ⟨(hW.cell _).trans ?_, (hW.cell _).trans ?_⟩
    · rw [cell_of_row _ _ _ _ _ _ x1]; rfl
    · rw [cell_of_row _ _ _ _ _ _ x2]; rfl)
  have c0 : W2.cell? ⟨w.heap.size, 0, none⟩ = some (.int .u8 k) := by rw [cell_of_row _ _ _ _ _ _ x1]; rfl
  have d0 : W2.cell? ⟨w.heap.size + 1, 0, none⟩ = some (.int .u8 k) := by rw [cell_of_row _ _ _ _ _ _ x2]; rfl
  have c1 : W2.cell? ⟨w.heap.size, 1, none⟩ = some na := by rw [cell_of_row _ _ _ _ _ _ x1]; rfl
  have d1 : W2.cell? ⟨w.heap.size + 1, 1, none⟩ = some nb := by rw [cell_of_row _ _ _ _ _ _ x2]; rfl
  have CI := hid (I.sameBytes_any W2 na nb ns ns (hna.below BB.out) (hnb.below BB.out))
  have CS : Hid (∀ W, Dr W2 W → Calls Try.prog 17 #[va, vb] W fun e w' => e = .returned (.bool (decide (l = l))) ∧ Dr W w') := hid (fun W hW => sameBytes_any W va vb l l ((ha.below BB.out).dr hW) ((hb.below BB.out).dr hW))
  obtain ⟨pa, ca, rfl, _, _⟩ := ha.open
  obtain ⟨pb, cb, rfl, _, _⟩ := hb.open
  obtain ⟨qa, da, rfl, _, _⟩ := hna.open
  obtain ⟨qb, db, rfl, _, _⟩ := hnb.open
  clear x1 x2 ha hb hna hnb
  go_enter Try.func20, Try.ntmps20
  refine wp_seq_k fun K0 h0 => ?_
  have H0 := hid h0
  clear h0
  go_wp2
  rw [HW1.out, HW2.out]
  refine H0.out _ _ ?_
  clear H0 K0
  go_wp2_with fail
  refine CI.out.mono ?_
  rintro e w3 ⟨rfl, d3⟩
  obtain ⟨k1, k2⟩ := KX.out w3 d3
  have CS2 := hid (CS.out w3 d3)
  have D3 := hid d3
  clear CI CS d3 KX
  simp only [decide_true]
  go_wp2_with fail
  refine CS2.out.mono ?_
  rintro e w4 ⟨rfl, d4⟩
  have BF : Hid (Below w.heap.size w w4) := hid (BB.out.trans ((D3.out.trans d4).below _))
  clear CS2
  simp only [decide_true]
  go_wp2_with fail
  go_ret
  exact ⟨rfl, BF.out⟩
theorem layQ_byt {r : Rq} {b : List Int} (hr : r.ok) (hk : 0 ≤ r.k ∧ r.k < 256) (hb : ∀ x ∈ b, 0 ≤ x ∧ x < 256) : ∀ x ∈ layQ r b, 0 ≤ x ∧ x < 256 := by
  intro x hx
  unfold layQ at hx
  rcases List.mem_cons.1 hx with rfl | hx
  · exact hk
  · rcases List.mem_append.1 hx with h | h
    · exact hr.2 x h
    · (repeat' split at h) <;> (try simp only [List.mem_append, List.not_mem_nil] at h)
      · rcases h with h | h | h | h | h
        · exact bigL_byt _ _ x h
        · exact bigL_byt _ _ x h
        · exact bigL_byt _ _ x h
        · exact bigL_byt _ _ x h
        · exact hb x h
      · rcases h with h | h | h <;> exact bigL_byt _ _ x h
      · rcases h with h | h <;> exact bigL_byt _ _ x h
      · exact bigL_byt _ _ x h
theorem layP_byt {k : Int} {ns b : List Int} (hk : 0 ≤ k ∧ k < 256) (hb : ∀ x ∈ b, 0 ≤ x ∧ x < 256) (hm : mayP k ns b.length = true) : ∀ x ∈ layP k ns b, 0 ≤ x ∧ x < 256 := by
  intro x hx
  unfold layP at hx
  unfold mayP at hm
  rcases List.mem_cons.1 hx with rfl | hx
  · exact hk
  · split at hm
    · rename_i h1
      rw [if_pos h1] at hx
      simp at hm
      rcases List.mem_append.1 hx with h | h
      · exact bigL_byt _ _ x h
      · have := (ris_len hm.1).2 x h; omega
    · rename_i h1
      rw [if_neg h1] at hx
      split at hx
      · rcases List.mem_append.1 hx with h | h
        · exact bigL_byt _ _ x h
        · exact hb x h
      · simp at hx
end Go.Proofs.Ytgjadpidoaianaa
namespace Go.Proofs.Ytgjadpidoaianaa
open Go.ChangeShapes Go.WideShapes Go.ChangeAt Go.RowKit
variable {H : Type} {enc : TypeId × Value → H} {W : World}
theorem Opn.cells_kind : Try.prog.cellsOf 30 = 1 := by kernel_rfl
theorem Opn.cells_rkind : Try.prog.cellsOf 39 = 1 := by kernel_rfl
theorem Opn.cells_u32 : Try.prog.cellsOf 33 = 1 := by kernel_rfl
theorem Opn.cells_ix : Try.prog.cellsOf 32 = 16 := by kernel_rfl
theorem Opn.cells_lease : Try.prog.cellsOf 35 = 2 := by kernel_rfl
theorem Opn.cells_ints : Try.prog.cellsOf 40 = 1 := by kernel_rfl
theorem Opn.cells_req : Try.prog.cellsOf 38 = 23 := by kernel_rfl
theorem Opn.cells_rep : Try.prog.cellsOf 42 = 3 := by kernel_rfl
theorem open_ixQ {base fuel : Nat} {cs : List Value} {x : DataW H × List MemPlace} (h : DataW.trod enc Try.prog W base (fun _ => true) true fuel 32 cs = some x) : ∃ d : List Int, (d.length = 16 ∧ ∀ x ∈ d, 0 ≤ x ∧ x < 256) ∧ cs = d.map (Value.int .u8) := by
  obtain ⟨xs, m, rfl, rfl, hl, hxl, hx⟩ := DataW.trod_array Try.underlying32 h
  rw [Opn.cells_ix] at hl
  have each : ∀ j, j < 16 → ∃ k : Int, (0 ≤ k ∧ k < 256) ∧ cs[j]? = some (.int .u8 k) := fun j hj => by
    have hj2 := hx j hj
    rw [Opn.cells_u8, List.getElem?_eq_getElem (by omega)] at hj2
    obtain ⟨z, e1, _, w1⟩ := DataW.trod_int Try.underlying5 hj2
    refine ⟨z, by have := bounds_u8 w1; omega, ?_⟩
    have e2 : ((cs.drop (j * 1)).take 1)[0]? = some (.int .u8 z) := by rw [e1]; rfl
    rw [List.getElem?_take, if_pos (by decide), List.getElem?_drop] at e2
    simpa using e2
  refine ⟨(List.range 16).map fun j => if hj : j < 16 then Classical.choose (each j hj) else 0, ⟨by simp, fun y hy => ?_⟩, ?_⟩
  · obtain ⟨j, hj, rfl⟩ := List.mem_map.1 hy
    have hj' := List.mem_range.1 hj
    simp only [hj', dif_pos]
    exact (Classical.choose_spec (each j hj')).1
  · rw [List.map_map]
    refine List.ext_getElem? fun j => ?_
    by_cases hj : j < 16
    · rw [(Classical.choose_spec (each j hj)).2]
      simp [hj]
    · rw [List.getElem?_eq_none (by omega), List.getElem?_eq_none (by simp; omega)]
theorem open_intQ {base fuel : Nat} {cs : List Value} {x : DataW H × List MemPlace} (h : DataW.trod enc Try.prog W base (fun _ => true) true fuel 3 cs = some x) : ∃ z : Int, cs = [.int .i64 z] := by
  obtain ⟨z, e1, _, w1⟩ := DataW.trod_int Try.underlying3 h
  exact ⟨z, e1⟩
theorem part_ofQ {cs : List Value} {o n : Nat} {l : List Value} (h : (cs.drop o).take n = l) (hn : l.length = n) (m : List Value) (hm : cs.drop (o + n) = m) : cs.drop o = l ++ m := by
  rw [← List.take_append_drop n (cs.drop o), h, List.drop_drop, hm]
theorem wf_u32 {n : Int} (h : (Lit.int .u32 n).wf = true) : 0 ≤ n ∧ n < 4294967296 := by
  simp [Lit.wf, IntKind.min, IntKind.max, IntKind.signed, IntKind.bits] at h
  omega
theorem open_leaseQ {base fuel : Nat} {cs : List Value} {x : DataW H × List MemPlace} (hm : DataW.trod enc Try.prog W base (fun _ => true) true fuel 35 cs = some x) : ∃ who til : Int, (0 ≤ who ∧ who < 4294967296) ∧ cs = [.int .u32 who, .int .i64 til] := by
  obtain ⟨xs, n, rfl, _, hl, hxl, g⟩ := DataW.trod_struct Try.underlying35 hm
  rw [Opn.cells_lease] at hl
  have hx : ∀ i, i < 2 → ∃ x, xs[i]? = some x := fun i hi => ⟨_, List.getElem?_eq_getElem (by rw [hxl]; exact hi)⟩
  obtain ⟨x0, e0⟩ := hx 0 (by omega)
  obtain ⟨x1, e1⟩ := hx 1 (by omega)
  have f0 : DataW.trod enc Try.prog W base (fun _ => true) true n 33 ((cs.drop 0).take (Try.prog.cellsOf 33)) = xs[0]? := g 0 _ rfl
  have f1 : DataW.trod enc Try.prog W base (fun _ => true) true n 3 ((cs.drop 1).take (Try.prog.cellsOf 3)) = xs[1]? := g 1 _ rfl
  rw [e0, Opn.cells_u32] at f0
  rw [e1, Opn.cells_int] at f1
  obtain ⟨who, q0, _, w0⟩ := DataW.trod_int Try.underlying33 f0
  obtain ⟨til, q1⟩ := open_intQ f1
  refine ⟨who, til, wf_u32 w0, ?_⟩
  have h2 : cs.drop 2 = [] := List.drop_eq_nil_of_le (by omega)
  have h1 := part_ofQ q1 rfl _ h2
  have h0 := part_ofQ q0 rfl _ h1
  rw [List.drop_zero] at h0
  rw [h0]
  rfl
end Go.Proofs.Ytgjadpidoaianaa
namespace Go.Proofs.Ytgjadpidoaianaa
open Go Go.RowKit
set_option maxRecDepth 10000 in
theorem place_2 (ix a0 a1 a2 a3 t : List Int) (h16 : (ix.length : Int) = 16) (h0 : (a0.length : Int) = 1) (h1 : (a1.length : Int) = 4) (h2 : (a2.length : Int) = 8) (h3 : (a3.length : Int) = 4) :
    (rd2 (2 :: (ix ++ (a0 ++ (a1 ++ (a2 ++ (a3 ++ t)))))).length (qs0 (2 :: (ix ++ (a0 ++ (a1 ++ (a2 ++ (a3 ++ t)))))))).1 = if nbB ((smallNo 1 a0 : Nat)) = false then 17 else if tkB (IntKind.i64.wrap (smallNo 8 a2 : Nat)) = false then 22 else if plB ((smallNo 4 a3 : Nat)) = false then 30 else (0 : Int) := by
  obtain ⟨n, hn⟩ : ∃ n, (2 :: (ix ++ (a0 ++ (a1 ++ (a2 ++ (a3 ++ t)))))).length = n := ⟨_, rfl⟩
  rw [hn]
  unfold rd2 tkS
  rw [st1_cons 2 (by omega)]
  simp only []
  obtain ⟨s1, hs1⟩ : ∃ x : QS, (⟨false, (ix ++ (a0 ++ (a1 ++ (a2 ++ (a3 ++ t))))), { rq0 with k := 2 }, 0⟩ : QS) = x := ⟨_, rfl⟩
  rw [hs1]
  have q0 : sq (flS 2) s1 0 = ⟨false, (ix ++ (a0 ++ (a1 ++ (a2 ++ (a3 ++ t))))), { rq0 with k := 2 }, 0⟩ := hs1.symm
  have q1 : sq (flS 2) s1 1 = ⟨false, (a0 ++ (a1 ++ (a2 ++ (a3 ++ t)))), ⟨2, ix, 0, 0, 0, 0, 0⟩, 0⟩ := by
    show (indexF s1).1 = _
    rw [← hs1, indexF_app _ _ _ _ _ h16]
    rfl
  have q2 : sq (flS 2) s1 2 = ⟨false, (a1 ++ (a2 ++ (a3 ++ t))), ⟨2, ix, (smallNo 1 a0 : Nat), 0, 0, 0, 0⟩, 0⟩ := by
    show (numberF (sq (flS 2) s1 1)).1 = _
    rw [q1, numberF_app _ _ _ _ _ h0]
  have q3 : sq (flS 2) s1 3 = ⟨false, (a2 ++ (a3 ++ t)), ⟨2, ix, (smallNo 1 a0 : Nat), 0, 0, (smallNo 4 a1 : Nat), 0⟩, 0⟩ := by
    show (whoF (sq (flS 2) s1 2)).1 = _
    rw [q2, whoF_app _ _ _ _ _ h1]
  have q4 : sq (flS 2) s1 4 = ⟨false, (a3 ++ t), ⟨2, ix, (smallNo 1 a0 : Nat), 0, 0, (smallNo 4 a1 : Nat), IntKind.i64.wrap (smallNo 8 a2 : Nat)⟩, 0⟩ := by
    show (untilF (sq (flS 2) s1 3)).1 = _
    rw [q3, untilF_app _ _ _ _ _ h2]
  have q5 : sq (flS 2) s1 5 = ⟨false, t, ⟨2, ix, (smallNo 1 a0 : Nat), 0, 0, (smallNo 4 a1 : Nat), IntKind.i64.wrap (smallNo 8 a2 : Nat)⟩, (smallNo 4 a3 : Nat)⟩ := by
    show (bytesF (sq (flS 2) s1 4)).1 = _
    rw [q4, bytesF_app _ _ _ _ _ h3]
  have b0 : ((flS 2).getD 0 (fun s => (s, true)) (sq (flS 2) s1 0)).2 = true := rfl
  have b1 : ((flS 2).getD 1 (fun s => (s, true)) (sq (flS 2) s1 1)).2 = nbB ((smallNo 1 a0 : Nat)) := by
    show (numberF (sq (flS 2) s1 1)).2 = _
    rw [q1, numberF_app _ _ _ _ _ h0]
  have b2 : ((flS 2).getD 2 (fun s => (s, true)) (sq (flS 2) s1 2)).2 = true := rfl
  have b3 : ((flS 2).getD 3 (fun s => (s, true)) (sq (flS 2) s1 3)).2 = tkB (IntKind.i64.wrap (smallNo 8 a2 : Nat)) := by
    show (untilF (sq (flS 2) s1 3)).2 = _
    rw [q3, untilF_app _ _ _ _ _ h2]
  have b4 : ((flS 2).getD 4 (fun s => (s, true)) (sq (flS 2) s1 4)).2 = plB ((smallNo 4 a3 : Nat)) := by
    show (bytesF (sq (flS 2) s1 4)).2 = _
    rw [q4, bytesF_app _ _ _ _ _ h3]
  unfold tkE
  rw [show (flS 2).length = 5 from rfl]
  simp only [q5]
  rw [if_neg (by simp)]
  simp only [tkA, b0, b1, b2, b3, b4, Bool.not_true, Bool.false_and, Bool.false_eq_true, if_false]
  simp only [q0, q1, q2, q3, q4]
  have hl : (n : Int) = 17 + ((a0 ++ (a1 ++ (a2 ++ (a3 ++ t)))).length : Int) := by rw [← hn]; simp; omega
  simp only [List.length_append] at hl ⊢
  generalize nbB ((smallNo 1 a0 : Nat)) = e0
  generalize tkB (IntKind.i64.wrap (smallNo 8 a2 : Nat)) = e1
  generalize plB ((smallNo 4 a3 : Nat)) = e2
  cases e0 <;> cases e1 <;> cases e2 <;> simp <;> omega
set_option maxRecDepth 10000 in
theorem place_3 (ix a0 a1 a2 t : List Int) (h16 : (ix.length : Int) = 16) (h0 : (a0.length : Int) = 1) (h1 : (a1.length : Int) = 4) (h2 : (a2.length : Int) = 4) :
    (rd2 (3 :: (ix ++ (a0 ++ (a1 ++ (a2 ++ t))))).length (qs0 (3 :: (ix ++ (a0 ++ (a1 ++ (a2 ++ t))))))).1 = if nbB ((smallNo 1 a0 : Nat)) = false then 17 else if plB ((smallNo 4 a1 : Nat)) = false then 18 else if flB ((smallNo 4 a2 : Nat)) = false then 22 else (0 : Int) := by
  obtain ⟨n, hn⟩ : ∃ n, (3 :: (ix ++ (a0 ++ (a1 ++ (a2 ++ t))))).length = n := ⟨_, rfl⟩
  rw [hn]
  unfold rd2 tkS
  rw [st1_cons 3 (by omega)]
  simp only []
  obtain ⟨s1, hs1⟩ : ∃ x : QS, (⟨false, (ix ++ (a0 ++ (a1 ++ (a2 ++ t)))), { rq0 with k := 3 }, 0⟩ : QS) = x := ⟨_, rfl⟩
  rw [hs1]
  have q0 : sq (flS 3) s1 0 = ⟨false, (ix ++ (a0 ++ (a1 ++ (a2 ++ t)))), { rq0 with k := 3 }, 0⟩ := hs1.symm
  have q1 : sq (flS 3) s1 1 = ⟨false, (a0 ++ (a1 ++ (a2 ++ t))), ⟨3, ix, 0, 0, 0, 0, 0⟩, 0⟩ := by
    show (indexF s1).1 = _
    rw [← hs1, indexF_app _ _ _ _ _ h16]
    rfl
  have q2 : sq (flS 3) s1 2 = ⟨false, (a1 ++ (a2 ++ t)), ⟨3, ix, (smallNo 1 a0 : Nat), 0, 0, 0, 0⟩, 0⟩ := by
    show (numberF (sq (flS 3) s1 1)).1 = _
    rw [q1, numberF_app _ _ _ _ _ h0]
  have q3 : sq (flS 3) s1 3 = ⟨false, (a2 ++ t), ⟨3, ix, (smallNo 1 a0 : Nat), (smallNo 4 a1 : Nat), 0, 0, 0⟩, 0⟩ := by
    show (atF (sq (flS 3) s1 2)).1 = _
    rw [q2, atF_app _ _ _ _ _ h1]
  have q4 : sq (flS 3) s1 4 = ⟨false, t, ⟨3, ix, (smallNo 1 a0 : Nat), (smallNo 4 a1 : Nat), (smallNo 4 a2 : Nat), 0, 0⟩, 0⟩ := by
    show (lengthF (sq (flS 3) s1 3)).1 = _
    rw [q3, lengthF_app _ _ _ _ _ h2]
  have b0 : ((flS 3).getD 0 (fun s => (s, true)) (sq (flS 3) s1 0)).2 = true := rfl
  have b1 : ((flS 3).getD 1 (fun s => (s, true)) (sq (flS 3) s1 1)).2 = nbB ((smallNo 1 a0 : Nat)) := by
    show (numberF (sq (flS 3) s1 1)).2 = _
    rw [q1, numberF_app _ _ _ _ _ h0]
  have b2 : ((flS 3).getD 2 (fun s => (s, true)) (sq (flS 3) s1 2)).2 = plB ((smallNo 4 a1 : Nat)) := by
    show (atF (sq (flS 3) s1 2)).2 = _
    rw [q2, atF_app _ _ _ _ _ h1]
  have b3 : ((flS 3).getD 3 (fun s => (s, true)) (sq (flS 3) s1 3)).2 = flB ((smallNo 4 a2 : Nat)) := by
    show (lengthF (sq (flS 3) s1 3)).2 = _
    rw [q3, lengthF_app _ _ _ _ _ h2]
  unfold tkE
  rw [show (flS 3).length = 4 from rfl]
  simp only [q4]
  rw [if_neg (by simp)]
  simp only [tkA, b0, b1, b2, b3, Bool.not_true, Bool.false_and, Bool.false_eq_true, if_false]
  simp only [q0, q1, q2, q3]
  have hl : (n : Int) = 17 + ((a0 ++ (a1 ++ (a2 ++ t))).length : Int) := by rw [← hn]; simp; omega
  simp only [List.length_append] at hl ⊢
  generalize nbB ((smallNo 1 a0 : Nat)) = e0
  generalize plB ((smallNo 4 a1 : Nat)) = e1
  generalize flB ((smallNo 4 a2 : Nat)) = e2
  cases e0 <;> cases e1 <;> cases e2 <;> simp <;> omega
set_option maxRecDepth 10000 in
theorem place_4 (ix a0 a1 t : List Int) (h16 : (ix.length : Int) = 16) (h0 : (a0.length : Int) = 4) (h1 : (a1.length : Int) = 8) :
    (rd2 (4 :: (ix ++ (a0 ++ (a1 ++ t)))).length (qs0 (4 :: (ix ++ (a0 ++ (a1 ++ t)))))).1 = if tkB (IntKind.i64.wrap (smallNo 8 a1 : Nat)) = false then 21 else (0 : Int) := by
  obtain ⟨n, hn⟩ : ∃ n, (4 :: (ix ++ (a0 ++ (a1 ++ t)))).length = n := ⟨_, rfl⟩
  rw [hn]
  unfold rd2 tkS
  rw [st1_cons 4 (by omega)]
  simp only []
  obtain ⟨s1, hs1⟩ : ∃ x : QS, (⟨false, (ix ++ (a0 ++ (a1 ++ t))), { rq0 with k := 4 }, 0⟩ : QS) = x := ⟨_, rfl⟩
  rw [hs1]
  have q0 : sq (flS 4) s1 0 = ⟨false, (ix ++ (a0 ++ (a1 ++ t))), { rq0 with k := 4 }, 0⟩ := hs1.symm
  have q1 : sq (flS 4) s1 1 = ⟨false, (a0 ++ (a1 ++ t)), ⟨4, ix, 0, 0, 0, 0, 0⟩, 0⟩ := by
    show (indexF s1).1 = _
    rw [← hs1, indexF_app _ _ _ _ _ h16]
    rfl
  have q2 : sq (flS 4) s1 2 = ⟨false, (a1 ++ t), ⟨4, ix, 0, 0, 0, (smallNo 4 a0 : Nat), 0⟩, 0⟩ := by
    show (whoF (sq (flS 4) s1 1)).1 = _
    rw [q1, whoF_app _ _ _ _ _ h0]
  have q3 : sq (flS 4) s1 3 = ⟨false, t, ⟨4, ix, 0, 0, 0, (smallNo 4 a0 : Nat), IntKind.i64.wrap (smallNo 8 a1 : Nat)⟩, 0⟩ := by
    show (untilF (sq (flS 4) s1 2)).1 = _
    rw [q2, untilF_app _ _ _ _ _ h1]
  have b0 : ((flS 4).getD 0 (fun s => (s, true)) (sq (flS 4) s1 0)).2 = true := rfl
  have b1 : ((flS 4).getD 1 (fun s => (s, true)) (sq (flS 4) s1 1)).2 = true := rfl
  have b2 : ((flS 4).getD 2 (fun s => (s, true)) (sq (flS 4) s1 2)).2 = tkB (IntKind.i64.wrap (smallNo 8 a1 : Nat)) := by
    show (untilF (sq (flS 4) s1 2)).2 = _
    rw [q2, untilF_app _ _ _ _ _ h1]
  unfold tkE
  rw [show (flS 4).length = 3 from rfl]
  simp only [q3]
  rw [if_neg (by simp)]
  simp only [tkA, b0, b1, b2, Bool.not_true, Bool.false_and, Bool.false_eq_true, if_false]
  simp only [q0, q1, q2]
  have hl : (n : Int) = 17 + ((a0 ++ (a1 ++ t)).length : Int) := by rw [← hn]; simp; omega
  simp only [List.length_append] at hl ⊢
  generalize tkB (IntKind.i64.wrap (smallNo 8 a1 : Nat)) = e0
  cases e0 <;> simp <;> omega
set_option maxRecDepth 100000 in
set_option maxHeartbeats 4000000 in
theorem rnumber_any (w : World) (t : Int) : Calls Try.prog 73 #[.int .i64 t] w fun e w' => e = .returned (.bool (nbB t)) ∧ w' = w := by
  go_enter Try.func73, Try.ntmps73
  go_wp2
  all_goals go_ret
  all_goals (refine ⟨?_, rfl⟩; simp [nbB]; try omega)
def hdN (k : Int) : Nat := if k = 1 then 17 else if k = 2 then 34 else if k = 3 then 26 else if k = 4 then 29 else if k = 5 then 21 else 0
set_option maxRecDepth 100000 in
set_option maxHeartbeats 4000000 in
theorem rhead_any (w : World) (k : Int) : Calls Try.prog 48 #[.int .u8 k] w fun e w' => e = .returned (.int .i64 (hdN k : Nat)) ∧ w' = w := by
  have HD : Hid (hdN k = if k = 1 then 17 else if k = 2 then 34 else if k = 3 then 26 else if k = 4 then 29 else if k = 5 then 21 else 0) := hid rfl
  obtain ⟨n, HN⟩ : ∃ n, Hid (hdN k = n) := ⟨_, hid rfl⟩
  rw [HN.out] at HD ⊢
  clear HN
  go_enter Try.func48, Try.ntmps48
  go_wp2
  all_goals go_ret
  all_goals (refine ⟨?_, rfl⟩; rw [HD.out]; simp_all)
theorem valL_pre (l : List Int) (p i : Nat) (h : p + i < l.length) : valL ((l.drop p).take (i + 1)) = valL ((l.drop p).take i) * 256 + (l.getD (p + i) 0).toNat := by
  rw [List.take_succ_eq_append_getElem (by simp; omega), valL_snoc, List.getElem_drop, getD_of_lt h]
set_option maxRecDepth 100000 in
set_option maxHeartbeats 4000000 in
theorem rat_any (w : World) (v : Value) (l : List Int) (h : HB w v l) (p n : Nat) (hn : n ≤ 8) (hp : p + n ≤ l.length) (hp2 : p ≤ 1000) : Calls Try.prog 49 #[v, .int .i64 (p : Int), .int .i64 (n : Int)] w fun e w' => e = .returned (.int .u64 (valL ((l.drop p).take n) : Nat)) ∧ w' = w := by
  obtain ⟨R, HR⟩ : ∃ x, Hid (valL ((l.drop p).take n) = x) := ⟨_, hid rfl⟩
  rw [HR.out]
  obtain ⟨q, c, e, hlc, hm⟩ := h.open
  have A : Hid (∀ j, j < l.length → ∃ b off, q = some ⟨b, off, none⟩ ∧ w.cell? ⟨b, off + j, none⟩ = some (.int .u8 (l.getD j 0))) := hid (fun j hj => by
    obtain ⟨b, off, c', e', _, _, hh⟩ := h.ne (by omega)
    rw [e] at e'
    simp only [Value.slice.injEq, true_and] at e'
    exact ⟨b, off, e'.1, hh j hj⟩)
  have HBt := hid h.byte
  have HB2 := hid h.2
  clear h
  subst e
  go_enter Try.func49, Try.ntmps49
  go_wp2
  go_loop [7, 8] (fun x i => ∃ k : Nat, k ≤ n ∧ i = .int .i64 k ∧ x = .int .u64 (valL ((l.drop p).take k) : Nat)) (fun _ i => n - (intOf i).toNat)
  case atStart => exact ⟨0, Nat.zero_le _, rfl, by simp [valL]⟩
  case round =>
    obtain ⟨k, hk, rfl, rfl⟩ := hrel
    by_cases hlt : k < n
    · obtain ⟨b, off, rfl, hc⟩ := A.out (p + k) (by omega)
      have hy := HBt.out (p + k)
      have ST : Hid (valL ((l.drop p).take (k + 1)) = valL ((l.drop p).take k) * 256 + (l.getD (p + k) 0).toNat) := hid (valL_pre l p k (by omega))
      have hX : valL ((l.drop p).take k) < 72057594037927936 := by
        have h1 := valL_lt ((l.drop p).take k) (fun x hx => HB2.out x (List.mem_of_mem_drop (List.mem_of_mem_take hx)))
        have h2 : ((l.drop p).take k).length ≤ 7 := by rw [List.length_take]; omega
        exact Nat.lt_of_lt_of_le h1 (Nat.le_trans (Nat.pow_le_pow_right (by omega) h2) (by decide))
      generalize l.getD (p + k) 0 = y at hc hy ST
      generalize valL ((l.drop p).take k) = X at hX ST
      obtain ⟨yN, rfl⟩ := Int.eq_ofNat_of_zero_le hy.1
      have w1 : IntKind.u64.wrap ((X : Int) * 256) = (X : Int) * 256 := by rw [IntKind.wrap_u64]; omega
      have w2 : IntKind.u64.wrap ((X : Int) * 256 + (yN : Int)) = ((X * 256 + yN : Nat) : Int) := by rw [IntKind.wrap_u64]; omega
      have w3 : IntKind.i64.wrap ((p : Int) + (k : Int)) = ((p + k : Nat) : Int) := by rw [IntKind.wrap_i64]; omega
      have w4 : IntKind.u64.wrap (yN : Int) = (yN : Int) := by rw [IntKind.wrap_u64]; omega
      have hpk : p + k < l.length := by omega
      have hpk2 : ((p + k : Nat) : Int) < (l.length : Int) := by omega
      clear hp
      go_wp2
      exact ⟨⟨k + 1, by omega, by go_num, by rw [ST.out]; simp⟩, by simp [intOf]; omega⟩
    · obtain rfl : k = n := by omega
      rw [HR.out]
      go_wp2
      go_ret
      exact ⟨rfl, rfl⟩
def vA (l : List Int) (p n : Nat) : Nat := valL ((l.drop p).take n)
def dqF (l : List Int) (k : Int) : Option Int :=
  if k = 2 then (if l.getD 17 0 = 255 then some 17 else if 1099511627776 < vA l 22 8 then some 22 else if 33554432 < vA l 30 4 then some 30 else none)
  else if k = 3 then (if l.getD 17 0 = 255 then some 17 else if 33554432 < vA l 18 4 then some 18 else if vA l 22 4 < 1 ∨ 131072 < vA l 22 4 then some 22 else none)
  else if k = 4 then (if 1099511627776 < vA l 21 8 then some 21 else none) else none
def dqE (l : List Int) (k : Int) : Nat := hdN k + if k = 2 then vA l 30 4 else 0
def dqR (l : List Int) (k : Int) : Rq :=
  ⟨k, (l.drop 1).take 16, if k = 2 ∨ k = 3 then l.getD 17 0 else 0, if k = 3 then (vA l 18 4 : Nat) else 0, if k = 3 then (vA l 22 4 : Nat) else 0, if k = 2 then (vA l 18 4 : Nat) else if k = 4 ∨ k = 5 then (vA l 17 4 : Nat) else 0, if k = 2 then (vA l 22 8 : Nat) else if k = 4 then (vA l 21 8 : Nat) else 0⟩
def dqP (l : List Int) : Option Int :=
  if hdN (l.getD 0 0) = 0 then some 0 else if l.length < hdN (l.getD 0 0) then some l.length
  else match dqF l (l.getD 0 0) with
    | some p => some p
    | none => if l.length < dqE l (l.getD 0 0) then some l.length else if dqE l (l.getD 0 0) < l.length then some (dqE l (l.getD 0 0) : Nat) else none
theorem vA_mid (l p a t : List Int) (i n : Nat) (e : l = p ++ (a ++ t)) (hp : p.length = i) (ha : (a.length : Int) = n) : vA l i n = smallNo n a := by
  subst e
  subst hp
  have h : a.length = n := by omega
  rw [vA, List.drop_left, ← h, List.take_left, small_of rfl]
theorem getD_mid (l p a t : List Int) (i : Nat) (e : l = p ++ (a ++ t)) (hp : p.length = i) (ha : (a.length : Int) = 1) (hb : ∀ x ∈ a, 0 ≤ x ∧ x < 256) : l.getD i 0 = (smallNo 1 a : Nat) := by
  subst e
  subst hp
  match a, ha with
  | [x], _ =>
    have := hb x (by simp)
    rw [small1 x this.1]
    simp
theorem rd2_lack {n : Nat} {s : QS} (h : (st2 s).f = true) : rd2 n s = ((n : Int), false) := by
  unfold rd2 tkS tkE
  exact if_pos h
theorem rd1_no (n : Nat) (l : List Int) (hn : l.length = n) (h : (rd1 n (qs0 l)).2 = false) : (rd1 n (qs0 l)).1 = 0 := by
  cases l with
  | nil =>
    subst hn
    rfl
  | cons k T =>
    unfold rd1 tkS tkE at h ⊢
    have e : (sq [kindF] (qs0 (k :: T)) 1).f = false := by simp [sq, kindF, qs0, QS.adv, okT_cons]
    simp only [List.length_singleton, e, Bool.false_eq_true, if_false, tkA] at h ⊢
    generalize ([kindF].getD 0 (fun s => (s, true)) (sq [kindF] (qs0 (k :: T)) 0)).snd = q at h ⊢
    cases q with
    | true => simp at h
    | false => simp [sq, qs0, ← hn]
theorem hd_kd (k : Int) : hdN k = 0 ↔ kdB k = false := by
  unfold hdN kdB
  simp only [decide_eq_false_iff_not]
  constructor
  · intro h
    split at h <;> try omega
    split at h <;> try omega
    split at h <;> try omega
    split at h <;> try omega
    split at h <;> omega
  · intro h
    rw [if_neg (by omega), if_neg (by omega), if_neg (by omega), if_neg (by omega), if_neg (by omega)]
set_option maxRecDepth 10000 in
theorem invf_1 (T : List Int) (h : (st2 (qs0 (1 :: T))).f = false) : ∃ ix t : List Int, T = ix ++ t ∧ (ix.length : Int) = 16 := by
  rw [st2_cons 1 (by omega)] at h
  have f1 := h
  obtain ⟨s1, hs1⟩ : ∃ x : QS, (⟨false, T, { rq0 with k := 1 }, 0⟩ : QS) = x := ⟨_, rfl⟩
  rw [hs1] at f1
  clear h
  change (sq (flS 1) s1 1).f = false at f1
  obtain ⟨-, ix, T0, e0, h16⟩ := indexF_f (s := s1) f1
  rw [← hs1] at e0
  simp only at e0
  subst e0
  exact ⟨ix, T0, rfl, h16⟩
set_option maxRecDepth 10000 in
theorem cut_1 (T : List Int) (h : 16 ≤ T.length) : ∃ ix t : List Int, T = ix ++ t ∧ (ix.length : Int) = 16 := by
  refine ⟨T.take 16, T.drop 16, ?_, by simp; omega⟩
  exact (List.take_append_drop 16 T).symm
set_option maxRecDepth 1000000 in
theorem dq_1 (ix t : List Int) (h16 : (ix.length : Int) = 16)  (hb : ∀ x ∈ 1 :: (ix ++ t), 0 ≤ x ∧ x < 256) :
    (∀ p, rqBad (1 :: (ix ++ t)) p → dqP (1 :: (ix ++ t)) = some p) ∧ ∀ r b, rqGood (1 :: (ix ++ t)) r b → dqP (1 :: (ix ++ t)) = none ∧ r = dqR (1 :: (ix ++ t)) 1 ∧ b = (1 :: (ix ++ t)).drop 17 := by
  obtain ⟨c1, c2⟩ := chain_1 (1 :: (ix ++ t)).length ix t h16
  have c0 := rd1_cons (1 :: (ix ++ t)).length 1 (by omega) (ix ++ t)
  have hn : (1 :: (ix ++ t)).length = 17 + t.length := by simp; omega
  have hdr : (1 :: (ix ++ t)).drop 17 = t := by
    rw [show 1 :: (ix ++ t) = (1 :: ix) ++ t by simp, List.drop_append_of_le_length (by simp; omega), List.drop_eq_nil_of_le (by simp; omega)]; rfl
  have hix : ((1 :: (ix ++ t)).drop 1).take 16 = ix := by
    rw [List.drop_one, List.tail_cons, List.take_append_of_le_length (by omega), List.take_of_length_le (by omega)]
  have h00 : (1 :: (ix ++ t)).getD 0 0 = 1 := rfl
  have hhd : hdN 1 = 17 := rfl
  have ed : ∀ N : Nat, (∀ p, edA N t N = p → True) := fun _ _ _ => trivial
  unfold rqBad rqGood
  rw [hdr, c0, c1]
  simp only [show kdB 1 = true from rfl, Bool.true_eq_false, false_and, true_and, false_or]
  unfold dqP dqR
  rw [h00, hhd, hix]
  obtain ⟨L, hL⟩ : ∃ L, 1 :: (ix ++ t) = L := ⟨_, rfl⟩
  rw [hL] at hb hn c2 ⊢
  clear hL hdr hix h00 c0 c1
  unfold dqF dqE edA
  rw [hhd]
  simp only [show (1 : Int) = 2 ↔ False from by decide, show (1 : Int) = 3 ↔ False from by decide, show (1 : Int) = 4 ↔ False from by decide, show (1 : Int) = 5 ↔ False from by decide, if_true, if_false, or_self, or_true, true_or, false_or, or_false]
  simp only [taken, okTake]
  have c2' : (rd2 L.length (qs0 L)).2 = decide (True) := by
    rw [Bool.eq_iff_iff, c2]; simp
  rw [c2', hn]
  clear c2 c2'
  simp only [nbB, tkB, plB, flB, IntKind.wrap_i64, decide_eq_true_eq, decide_eq_false_iff_not, Bool.and_eq_true]
  simp only [not_true_eq_false, false_and, false_or, true_and]
  refine ⟨?_, ?_⟩
  · rintro p ⟨hne, rfl⟩
    rw [if_neg (by omega), if_neg (by omega), if_neg (by omega), if_pos (by omega)]; congr 1; omega
  · rintro r b ⟨hne, rfl, rfl⟩
    refine ⟨?_, ?_, ?_⟩
    · rw [if_neg (by omega), if_neg (by omega)]
      rw [if_neg (by omega), if_neg (by omega)]
    · rfl
    · have : t = [] := List.length_eq_zero_iff.1 (by omega)
      subst this; rfl
set_option maxRecDepth 10000 in
theorem invf_2 (T : List Int) (h : (st2 (qs0 (2 :: T))).f = false) : ∃ ix a0 a1 a2 a3 t : List Int, T = ix ++ (a0 ++ (a1 ++ (a2 ++ (a3 ++ t)))) ∧ (ix.length : Int) = 16 ∧ (a0.length : Int) = 1 ∧ (a1.length : Int) = 4 ∧ (a2.length : Int) = 8 ∧ (a3.length : Int) = 4 := by
  rw [st2_cons 2 (by omega)] at h
  have f5 := h
  obtain ⟨s1, hs1⟩ : ∃ x : QS, (⟨false, T, { rq0 with k := 2 }, 0⟩ : QS) = x := ⟨_, rfl⟩
  rw [hs1] at f5
  clear h
  change (sq (flS 2) s1 5).f = false at f5
  obtain ⟨f4, c4⟩ := bytesF_f (s := sq (flS 2) s1 4) f5
  obtain ⟨f3, c3⟩ := untilF_f (s := sq (flS 2) s1 3) f4
  obtain ⟨f2, c2⟩ := whoF_f (s := sq (flS 2) s1 2) f3
  obtain ⟨f1, c1⟩ := numberF_f (s := sq (flS 2) s1 1) f2
  obtain ⟨-, ix, T0, e0, h16⟩ := indexF_f (s := s1) f1
  rw [← hs1] at e0
  simp only at e0
  subst e0
  have q1 : sq (flS 2) s1 1 = ⟨false, T0, ⟨2, ix, 0, 0, 0, 0, 0⟩, 0⟩ := by
    show (indexF s1).1 = _
    rw [← hs1, indexF_app _ _ _ _ _ h16]
    rfl
  rw [q1] at c1
  obtain ⟨a0, T1, e1, h0⟩ := c1
  simp only at e1
  subst e1
  have q2 : sq (flS 2) s1 2 = ⟨false, T1, ⟨2, ix, (smallNo 1 a0 : Nat), 0, 0, 0, 0⟩, 0⟩ := by
    show (numberF (sq (flS 2) s1 1)).1 = _
    rw [q1, numberF_app _ _ _ _ _ h0]
  rw [q2] at c2
  obtain ⟨a1, T2, e2, h1⟩ := c2
  simp only at e2
  subst e2
  have q3 : sq (flS 2) s1 3 = ⟨false, T2, ⟨2, ix, (smallNo 1 a0 : Nat), 0, 0, (smallNo 4 a1 : Nat), 0⟩, 0⟩ := by
    show (whoF (sq (flS 2) s1 2)).1 = _
    rw [q2, whoF_app _ _ _ _ _ h1]
  rw [q3] at c3
  obtain ⟨a2, T3, e3, h2⟩ := c3
  simp only at e3
  subst e3
  have q4 : sq (flS 2) s1 4 = ⟨false, T3, ⟨2, ix, (smallNo 1 a0 : Nat), 0, 0, (smallNo 4 a1 : Nat), IntKind.i64.wrap (smallNo 8 a2 : Nat)⟩, 0⟩ := by
    show (untilF (sq (flS 2) s1 3)).1 = _
    rw [q3, untilF_app _ _ _ _ _ h2]
  rw [q4] at c4
  obtain ⟨a3, T4, e4, h3⟩ := c4
  simp only at e4
  subst e4
  exact ⟨ix, a0, a1, a2, a3, T4, rfl, h16, h0, h1, h2, h3⟩
set_option maxRecDepth 10000 in
theorem cut_2 (T : List Int) (h : 33 ≤ T.length) : ∃ ix a0 a1 a2 a3 t : List Int, T = ix ++ (a0 ++ (a1 ++ (a2 ++ (a3 ++ t)))) ∧ (ix.length : Int) = 16 ∧ (a0.length : Int) = 1 ∧ (a1.length : Int) = 4 ∧ (a2.length : Int) = 8 ∧ (a3.length : Int) = 4 := by
  refine ⟨T.take 16, (T.drop 16).take 1, (T.drop 17).take 4, (T.drop 21).take 8, (T.drop 29).take 4, T.drop 33, ?_, by simp; omega, by simp; omega, by simp; omega, by simp; omega, by simp; omega⟩
  rw [show T.drop 33 = (T.drop 29).drop 4 by rw [List.drop_drop], List.take_append_drop]
  rw [show T.drop 29 = (T.drop 21).drop 8 by rw [List.drop_drop], List.take_append_drop]
  rw [show T.drop 21 = (T.drop 17).drop 4 by rw [List.drop_drop], List.take_append_drop]
  rw [show T.drop 17 = (T.drop 16).drop 1 by rw [List.drop_drop], List.take_append_drop]
  exact (List.take_append_drop 16 T).symm
set_option maxRecDepth 1000000 in
theorem dq_2 (ix a0 a1 a2 a3 t : List Int) (h16 : (ix.length : Int) = 16) (h0 : (a0.length : Int) = 1) (h1 : (a1.length : Int) = 4) (h2 : (a2.length : Int) = 8) (h3 : (a3.length : Int) = 4) (hb : ∀ x ∈ 2 :: (ix ++ (a0 ++ (a1 ++ (a2 ++ (a3 ++ t))))), 0 ≤ x ∧ x < 256) :
    (∀ p, rqBad (2 :: (ix ++ (a0 ++ (a1 ++ (a2 ++ (a3 ++ t)))))) p → dqP (2 :: (ix ++ (a0 ++ (a1 ++ (a2 ++ (a3 ++ t)))))) = some p) ∧ ∀ r b, rqGood (2 :: (ix ++ (a0 ++ (a1 ++ (a2 ++ (a3 ++ t)))))) r b → dqP (2 :: (ix ++ (a0 ++ (a1 ++ (a2 ++ (a3 ++ t)))))) = none ∧ r = dqR (2 :: (ix ++ (a0 ++ (a1 ++ (a2 ++ (a3 ++ t)))))) 2 ∧ b = (2 :: (ix ++ (a0 ++ (a1 ++ (a2 ++ (a3 ++ t)))))).drop 34 := by
  obtain ⟨c1, c2⟩ := chain_2 (2 :: (ix ++ (a0 ++ (a1 ++ (a2 ++ (a3 ++ t)))))).length ix a0 a1 a2 a3 t h16 h0 h1 h2 h3
  have c3 := place_2 ix a0 a1 a2 a3 t h16 h0 h1 h2 h3
  have c0 := rd1_cons (2 :: (ix ++ (a0 ++ (a1 ++ (a2 ++ (a3 ++ t)))))).length 2 (by omega) (ix ++ (a0 ++ (a1 ++ (a2 ++ (a3 ++ t)))))
  have hn : (2 :: (ix ++ (a0 ++ (a1 ++ (a2 ++ (a3 ++ t)))))).length = 34 + t.length := by simp; omega
  have hdr : (2 :: (ix ++ (a0 ++ (a1 ++ (a2 ++ (a3 ++ t)))))).drop 34 = t := by
    rw [show 2 :: (ix ++ (a0 ++ (a1 ++ (a2 ++ (a3 ++ t))))) = (2 :: ix ++ a0 ++ a1 ++ a2 ++ a3) ++ t by simp, List.drop_append_of_le_length (by simp; omega), List.drop_eq_nil_of_le (by simp; omega)]; rfl
  have hix : ((2 :: (ix ++ (a0 ++ (a1 ++ (a2 ++ (a3 ++ t)))))).drop 1).take 16 = ix := by
    rw [List.drop_one, List.tail_cons, List.take_append_of_le_length (by omega), List.take_of_length_le (by omega)]
  have h00 : (2 :: (ix ++ (a0 ++ (a1 ++ (a2 ++ (a3 ++ t)))))).getD 0 0 = 2 := rfl
  have hhd : hdN 2 = 34 := rfl
  have ed : ∀ N : Nat, (∀ p, edA N t N = p → True) := fun _ _ _ => trivial
  unfold rqBad rqGood
  rw [hdr, c0, c1]
  simp only [show kdB 2 = true from rfl, Bool.true_eq_false, false_and, true_and, false_or]
  unfold dqP dqR
  rw [h00, hhd, hix]
  obtain ⟨L, hL⟩ : ∃ L, 2 :: (ix ++ (a0 ++ (a1 ++ (a2 ++ (a3 ++ t))))) = L := ⟨_, rfl⟩
  rw [hL] at hb hn c2 c3 ⊢
  have v0 : L.getD 17 0 = (smallNo 1 a0 : Nat) := getD_mid L (2 :: ix) a0 (a1 ++ (a2 ++ (a3 ++ t))) 17 (by rw [← hL]; simp) (by simp; omega) h0 (fun x hx => hb x (by rw [← hL]; simp [hx]))
  have v1 : vA L 18 4 = smallNo 4 a1 := vA_mid L (2 :: ix ++ a0) a1 (a2 ++ (a3 ++ t)) 18 4 (by rw [← hL]; simp) (by simp; omega) h1
  have v2 : vA L 22 8 = smallNo 8 a2 := vA_mid L (2 :: ix ++ a0 ++ a1) a2 (a3 ++ t) 22 8 (by rw [← hL]; simp) (by simp; omega) h2
  have v3 : vA L 30 4 = smallNo 4 a3 := vA_mid L (2 :: ix ++ a0 ++ a1 ++ a2) a3 t 30 4 (by rw [← hL]; simp) (by simp; omega) h3
  have y0 : smallNo 1 a0 < 256 ^ 1 := valL_le 1 a0 (fun x hx => hb x (by rw [← hL]; simp [hx]))
  have y1 : smallNo 4 a1 < 256 ^ 4 := valL_le 4 a1 (fun x hx => hb x (by rw [← hL]; simp [hx]))
  have y2 : smallNo 8 a2 < 256 ^ 8 := valL_le 8 a2 (fun x hx => hb x (by rw [← hL]; simp [hx]))
  have y3 : smallNo 4 a3 < 256 ^ 4 := valL_le 4 a3 (fun x hx => hb x (by rw [← hL]; simp [hx]))
  clear hL hdr hix h00 c0 c1
  unfold dqF dqE edA
  rw [hhd]
  simp only [show (2 : Int) = 2 ↔ True from by decide, show (2 : Int) = 3 ↔ False from by decide, show (2 : Int) = 4 ↔ False from by decide, show (2 : Int) = 5 ↔ False from by decide, if_true, if_false, or_self, or_true, true_or, false_or, or_false, v0, v1, v2, v3]
  simp only [taken, okTake]
  rw [c3]
  have c2' : (rd2 L.length (qs0 L)).2 = decide (nbB ((smallNo 1 a0 : Nat)) = true ∧ tkB (IntKind.i64.wrap (smallNo 8 a2 : Nat)) = true ∧ plB ((smallNo 4 a3 : Nat)) = true) := by
    rw [Bool.eq_iff_iff, c2]; simp
  rw [c2', hn]
  clear c2 c2' c3
  generalize smallNo 1 a0 = x0 at *
  generalize smallNo 4 a1 = x1 at *
  generalize smallNo 8 a2 = x2 at *
  generalize smallNo 4 a3 = x3 at *
  simp only [nbB, tkB, plB, flB, IntKind.wrap_i64, decide_eq_true_eq, decide_eq_false_iff_not, Bool.and_eq_true]
  refine ⟨?_, ?_⟩
  · intro p hh
    refine Or.elim hh (fun h => ?_) (fun h => ?_)
    · have hn1 := h.1
      rw [h.2]
      clear hh h
      rw [if_neg (by omega), if_neg (by omega)]
      by_cases c0 : (x0 : Int) = 255
      · rw [if_pos c0, if_pos (show ¬(0 ≤ (x0 : Int) ∧ (x0 : Int) < 255) by omega)]
      rw [if_neg c0, if_neg (show ¬¬(0 ≤ (x0 : Int) ∧ (x0 : Int) < 255) by omega)]
      by_cases c2 : 1099511627776 < x2
      · rw [if_pos c2, if_pos (show ¬(0 ≤ ((x2 : Int) + 9223372036854775808) % 18446744073709551616 - 9223372036854775808 ∧ ((x2 : Int) + 9223372036854775808) % 18446744073709551616 - 9223372036854775808 ≤ 1099511627776) by omega)]
      rw [if_neg c2, if_neg (show ¬¬(0 ≤ ((x2 : Int) + 9223372036854775808) % 18446744073709551616 - 9223372036854775808 ∧ ((x2 : Int) + 9223372036854775808) % 18446744073709551616 - 9223372036854775808 ≤ 1099511627776) by omega)]
      by_cases c3 : 33554432 < x3
      · rw [if_pos c3, if_pos (show ¬(0 ≤ (x3 : Int) ∧ (x3 : Int) ≤ 33554432) by omega)]
      rw [if_neg c3, if_neg (show ¬¬(0 ≤ (x3 : Int) ∧ (x3 : Int) ≤ 33554432) by omega)]
      exfalso; omega
    · have hc := h.1
      have hne := h.2.1
      rw [h.2.2]
      clear hh h
      rw [if_neg (by omega), if_neg (by omega)]
      rw [if_neg (show ¬((x0 : Int) = 255) by omega)]
      rw [if_neg (show ¬(1099511627776 < x2) by omega)]
      rw [if_neg (show ¬(33554432 < x3) by omega)]
      simp only []
      by_cases q : 34 + t.length < 34 + x3
      · rw [if_pos q]; congr 1; omega
      · rw [if_neg q, if_pos (by omega)]; congr 1; omega
  · intro r b h
    have hc := h.1
    have hne := h.2.1
    rw [h.2.2.1, h.2.2.2]
    clear h
    refine ⟨?_, ?_, ?_⟩
    · rw [if_neg (by omega), if_neg (by omega)]
      rw [if_neg (show ¬((x0 : Int) = 255) by omega)]
      rw [if_neg (show ¬(1099511627776 < x2) by omega)]
      rw [if_neg (show ¬(33554432 < x3) by omega)]
      simp only []
      rw [if_neg (by omega), if_neg (by omega)]
    · simp only [Rq.mk.injEq, true_and, and_true]; omega
    · rw [if_pos (by omega), List.take_of_length_le (by omega)]
set_option maxRecDepth 10000 in
theorem invf_3 (T : List Int) (h : (st2 (qs0 (3 :: T))).f = false) : ∃ ix a0 a1 a2 t : List Int, T = ix ++ (a0 ++ (a1 ++ (a2 ++ t))) ∧ (ix.length : Int) = 16 ∧ (a0.length : Int) = 1 ∧ (a1.length : Int) = 4 ∧ (a2.length : Int) = 4 := by
  rw [st2_cons 3 (by omega)] at h
  have f4 := h
  obtain ⟨s1, hs1⟩ : ∃ x : QS, (⟨false, T, { rq0 with k := 3 }, 0⟩ : QS) = x := ⟨_, rfl⟩
  rw [hs1] at f4
  clear h
  change (sq (flS 3) s1 4).f = false at f4
  obtain ⟨f3, c3⟩ := lengthF_f (s := sq (flS 3) s1 3) f4
  obtain ⟨f2, c2⟩ := atF_f (s := sq (flS 3) s1 2) f3
  obtain ⟨f1, c1⟩ := numberF_f (s := sq (flS 3) s1 1) f2
  obtain ⟨-, ix, T0, e0, h16⟩ := indexF_f (s := s1) f1
  rw [← hs1] at e0
  simp only at e0
  subst e0
  have q1 : sq (flS 3) s1 1 = ⟨false, T0, ⟨3, ix, 0, 0, 0, 0, 0⟩, 0⟩ := by
    show (indexF s1).1 = _
    rw [← hs1, indexF_app _ _ _ _ _ h16]
    rfl
  rw [q1] at c1
  obtain ⟨a0, T1, e1, h0⟩ := c1
  simp only at e1
  subst e1
  have q2 : sq (flS 3) s1 2 = ⟨false, T1, ⟨3, ix, (smallNo 1 a0 : Nat), 0, 0, 0, 0⟩, 0⟩ := by
    show (numberF (sq (flS 3) s1 1)).1 = _
    rw [q1, numberF_app _ _ _ _ _ h0]
  rw [q2] at c2
  obtain ⟨a1, T2, e2, h1⟩ := c2
  simp only at e2
  subst e2
  have q3 : sq (flS 3) s1 3 = ⟨false, T2, ⟨3, ix, (smallNo 1 a0 : Nat), (smallNo 4 a1 : Nat), 0, 0, 0⟩, 0⟩ := by
    show (atF (sq (flS 3) s1 2)).1 = _
    rw [q2, atF_app _ _ _ _ _ h1]
  rw [q3] at c3
  obtain ⟨a2, T3, e3, h2⟩ := c3
  simp only at e3
  subst e3
  exact ⟨ix, a0, a1, a2, T3, rfl, h16, h0, h1, h2⟩
set_option maxRecDepth 10000 in
theorem cut_3 (T : List Int) (h : 25 ≤ T.length) : ∃ ix a0 a1 a2 t : List Int, T = ix ++ (a0 ++ (a1 ++ (a2 ++ t))) ∧ (ix.length : Int) = 16 ∧ (a0.length : Int) = 1 ∧ (a1.length : Int) = 4 ∧ (a2.length : Int) = 4 := by
  refine ⟨T.take 16, (T.drop 16).take 1, (T.drop 17).take 4, (T.drop 21).take 4, T.drop 25, ?_, by simp; omega, by simp; omega, by simp; omega, by simp; omega⟩
  rw [show T.drop 25 = (T.drop 21).drop 4 by rw [List.drop_drop], List.take_append_drop]
  rw [show T.drop 21 = (T.drop 17).drop 4 by rw [List.drop_drop], List.take_append_drop]
  rw [show T.drop 17 = (T.drop 16).drop 1 by rw [List.drop_drop], List.take_append_drop]
  exact (List.take_append_drop 16 T).symm
set_option maxRecDepth 1000000 in
theorem dq_3 (ix a0 a1 a2 t : List Int) (h16 : (ix.length : Int) = 16) (h0 : (a0.length : Int) = 1) (h1 : (a1.length : Int) = 4) (h2 : (a2.length : Int) = 4) (hb : ∀ x ∈ 3 :: (ix ++ (a0 ++ (a1 ++ (a2 ++ t)))), 0 ≤ x ∧ x < 256) :
    (∀ p, rqBad (3 :: (ix ++ (a0 ++ (a1 ++ (a2 ++ t))))) p → dqP (3 :: (ix ++ (a0 ++ (a1 ++ (a2 ++ t))))) = some p) ∧ ∀ r b, rqGood (3 :: (ix ++ (a0 ++ (a1 ++ (a2 ++ t))))) r b → dqP (3 :: (ix ++ (a0 ++ (a1 ++ (a2 ++ t))))) = none ∧ r = dqR (3 :: (ix ++ (a0 ++ (a1 ++ (a2 ++ t))))) 3 ∧ b = (3 :: (ix ++ (a0 ++ (a1 ++ (a2 ++ t))))).drop 26 := by
  obtain ⟨c1, c2⟩ := chain_3 (3 :: (ix ++ (a0 ++ (a1 ++ (a2 ++ t))))).length ix a0 a1 a2 t h16 h0 h1 h2
  have c3 := place_3 ix a0 a1 a2 t h16 h0 h1 h2
  have c0 := rd1_cons (3 :: (ix ++ (a0 ++ (a1 ++ (a2 ++ t))))).length 3 (by omega) (ix ++ (a0 ++ (a1 ++ (a2 ++ t))))
  have hn : (3 :: (ix ++ (a0 ++ (a1 ++ (a2 ++ t))))).length = 26 + t.length := by simp; omega
  have hdr : (3 :: (ix ++ (a0 ++ (a1 ++ (a2 ++ t))))).drop 26 = t := by
    rw [show 3 :: (ix ++ (a0 ++ (a1 ++ (a2 ++ t)))) = (3 :: ix ++ a0 ++ a1 ++ a2) ++ t by simp, List.drop_append_of_le_length (by simp; omega), List.drop_eq_nil_of_le (by simp; omega)]; rfl
  have hix : ((3 :: (ix ++ (a0 ++ (a1 ++ (a2 ++ t))))).drop 1).take 16 = ix := by
    rw [List.drop_one, List.tail_cons, List.take_append_of_le_length (by omega), List.take_of_length_le (by omega)]
  have h00 : (3 :: (ix ++ (a0 ++ (a1 ++ (a2 ++ t))))).getD 0 0 = 3 := rfl
  have hhd : hdN 3 = 26 := rfl
  have ed : ∀ N : Nat, (∀ p, edA N t N = p → True) := fun _ _ _ => trivial
  unfold rqBad rqGood
  rw [hdr, c0, c1]
  simp only [show kdB 3 = true from rfl, Bool.true_eq_false, false_and, true_and, false_or]
  unfold dqP dqR
  rw [h00, hhd, hix]
  obtain ⟨L, hL⟩ : ∃ L, 3 :: (ix ++ (a0 ++ (a1 ++ (a2 ++ t)))) = L := ⟨_, rfl⟩
  rw [hL] at hb hn c2 c3 ⊢
  have v0 : L.getD 17 0 = (smallNo 1 a0 : Nat) := getD_mid L (3 :: ix) a0 (a1 ++ (a2 ++ t)) 17 (by rw [← hL]; simp) (by simp; omega) h0 (fun x hx => hb x (by rw [← hL]; simp [hx]))
  have v1 : vA L 18 4 = smallNo 4 a1 := vA_mid L (3 :: ix ++ a0) a1 (a2 ++ t) 18 4 (by rw [← hL]; simp) (by simp; omega) h1
  have v2 : vA L 22 4 = smallNo 4 a2 := vA_mid L (3 :: ix ++ a0 ++ a1) a2 t 22 4 (by rw [← hL]; simp) (by simp; omega) h2
  have y0 : smallNo 1 a0 < 256 ^ 1 := valL_le 1 a0 (fun x hx => hb x (by rw [← hL]; simp [hx]))
  have y1 : smallNo 4 a1 < 256 ^ 4 := valL_le 4 a1 (fun x hx => hb x (by rw [← hL]; simp [hx]))
  have y2 : smallNo 4 a2 < 256 ^ 4 := valL_le 4 a2 (fun x hx => hb x (by rw [← hL]; simp [hx]))
  clear hL hdr hix h00 c0 c1
  unfold dqF dqE edA
  rw [hhd]
  simp only [show (3 : Int) = 2 ↔ False from by decide, show (3 : Int) = 3 ↔ True from by decide, show (3 : Int) = 4 ↔ False from by decide, show (3 : Int) = 5 ↔ False from by decide, if_true, if_false, or_self, or_true, true_or, false_or, or_false, v0, v1, v2]
  simp only [taken, okTake]
  rw [c3]
  have c2' : (rd2 L.length (qs0 L)).2 = decide (nbB ((smallNo 1 a0 : Nat)) = true ∧ plB ((smallNo 4 a1 : Nat)) = true ∧ flB ((smallNo 4 a2 : Nat)) = true) := by
    rw [Bool.eq_iff_iff, c2]; simp
  rw [c2', hn]
  clear c2 c2' c3
  generalize smallNo 1 a0 = x0 at *
  generalize smallNo 4 a1 = x1 at *
  generalize smallNo 4 a2 = x2 at *
  simp only [nbB, tkB, plB, flB, IntKind.wrap_i64, decide_eq_true_eq, decide_eq_false_iff_not, Bool.and_eq_true]
  refine ⟨?_, ?_⟩
  · intro p hh
    refine Or.elim hh (fun h => ?_) (fun h => ?_)
    · have hn1 := h.1
      rw [h.2]
      clear hh h
      rw [if_neg (by omega), if_neg (by omega)]
      by_cases c0 : (x0 : Int) = 255
      · rw [if_pos c0, if_pos (show ¬(0 ≤ (x0 : Int) ∧ (x0 : Int) < 255) by omega)]
      rw [if_neg c0, if_neg (show ¬¬(0 ≤ (x0 : Int) ∧ (x0 : Int) < 255) by omega)]
      by_cases c1 : 33554432 < x1
      · rw [if_pos c1, if_pos (show ¬(0 ≤ (x1 : Int) ∧ (x1 : Int) ≤ 33554432) by omega)]
      rw [if_neg c1, if_neg (show ¬¬(0 ≤ (x1 : Int) ∧ (x1 : Int) ≤ 33554432) by omega)]
      by_cases c2 : x2 < 1 ∨ 131072 < x2
      · rw [if_pos c2, if_pos (show ¬(1 ≤ (x2 : Int) ∧ (x2 : Int) ≤ 131072) by omega)]
      rw [if_neg c2, if_neg (show ¬¬(1 ≤ (x2 : Int) ∧ (x2 : Int) ≤ 131072) by omega)]
      exfalso; omega
    · have hc := h.1
      have hne := h.2.1
      rw [h.2.2]
      clear hh h
      rw [if_neg (by omega), if_neg (by omega)]
      rw [if_neg (show ¬((x0 : Int) = 255) by omega)]
      rw [if_neg (show ¬(33554432 < x1) by omega)]
      rw [if_neg (show ¬(x2 < 1 ∨ 131072 < x2) by omega)]
      simp only []
      by_cases q : 26 + t.length < 26 + 0
      · rw [if_pos q]; congr 1; omega
      · rw [if_neg q, if_pos (by omega)]; congr 1; omega
  · intro r b h
    have hc := h.1
    have hne := h.2.1
    rw [h.2.2.1, h.2.2.2]
    clear h
    refine ⟨?_, ?_, ?_⟩
    · rw [if_neg (by omega), if_neg (by omega)]
      rw [if_neg (show ¬((x0 : Int) = 255) by omega)]
      rw [if_neg (show ¬(33554432 < x1) by omega)]
      rw [if_neg (show ¬(x2 < 1 ∨ 131072 < x2) by omega)]
      simp only []
      rw [if_neg (by omega), if_neg (by omega)]
    · rfl
    · have : t = [] := List.length_eq_zero_iff.1 (by omega)
      subst this; rfl
set_option maxRecDepth 10000 in
theorem invf_4 (T : List Int) (h : (st2 (qs0 (4 :: T))).f = false) : ∃ ix a0 a1 t : List Int, T = ix ++ (a0 ++ (a1 ++ t)) ∧ (ix.length : Int) = 16 ∧ (a0.length : Int) = 4 ∧ (a1.length : Int) = 8 := by
  rw [st2_cons 4 (by omega)] at h
  have f3 := h
  obtain ⟨s1, hs1⟩ : ∃ x : QS, (⟨false, T, { rq0 with k := 4 }, 0⟩ : QS) = x := ⟨_, rfl⟩
  rw [hs1] at f3
  clear h
  change (sq (flS 4) s1 3).f = false at f3
  obtain ⟨f2, c2⟩ := untilF_f (s := sq (flS 4) s1 2) f3
  obtain ⟨f1, c1⟩ := whoF_f (s := sq (flS 4) s1 1) f2
  obtain ⟨-, ix, T0, e0, h16⟩ := indexF_f (s := s1) f1
  rw [← hs1] at e0
  simp only at e0
  subst e0
  have q1 : sq (flS 4) s1 1 = ⟨false, T0, ⟨4, ix, 0, 0, 0, 0, 0⟩, 0⟩ := by
    show (indexF s1).1 = _
    rw [← hs1, indexF_app _ _ _ _ _ h16]
    rfl
  rw [q1] at c1
  obtain ⟨a0, T1, e1, h0⟩ := c1
  simp only at e1
  subst e1
  have q2 : sq (flS 4) s1 2 = ⟨false, T1, ⟨4, ix, 0, 0, 0, (smallNo 4 a0 : Nat), 0⟩, 0⟩ := by
    show (whoF (sq (flS 4) s1 1)).1 = _
    rw [q1, whoF_app _ _ _ _ _ h0]
  rw [q2] at c2
  obtain ⟨a1, T2, e2, h1⟩ := c2
  simp only at e2
  subst e2
  exact ⟨ix, a0, a1, T2, rfl, h16, h0, h1⟩
set_option maxRecDepth 10000 in
theorem cut_4 (T : List Int) (h : 28 ≤ T.length) : ∃ ix a0 a1 t : List Int, T = ix ++ (a0 ++ (a1 ++ t)) ∧ (ix.length : Int) = 16 ∧ (a0.length : Int) = 4 ∧ (a1.length : Int) = 8 := by
  refine ⟨T.take 16, (T.drop 16).take 4, (T.drop 20).take 8, T.drop 28, ?_, by simp; omega, by simp; omega, by simp; omega⟩
  rw [show T.drop 28 = (T.drop 20).drop 8 by rw [List.drop_drop], List.take_append_drop]
  rw [show T.drop 20 = (T.drop 16).drop 4 by rw [List.drop_drop], List.take_append_drop]
  exact (List.take_append_drop 16 T).symm
set_option maxRecDepth 1000000 in
theorem dq_4 (ix a0 a1 t : List Int) (h16 : (ix.length : Int) = 16) (h0 : (a0.length : Int) = 4) (h1 : (a1.length : Int) = 8) (hb : ∀ x ∈ 4 :: (ix ++ (a0 ++ (a1 ++ t))), 0 ≤ x ∧ x < 256) :
    (∀ p, rqBad (4 :: (ix ++ (a0 ++ (a1 ++ t)))) p → dqP (4 :: (ix ++ (a0 ++ (a1 ++ t)))) = some p) ∧ ∀ r b, rqGood (4 :: (ix ++ (a0 ++ (a1 ++ t)))) r b → dqP (4 :: (ix ++ (a0 ++ (a1 ++ t)))) = none ∧ r = dqR (4 :: (ix ++ (a0 ++ (a1 ++ t)))) 4 ∧ b = (4 :: (ix ++ (a0 ++ (a1 ++ t)))).drop 29 := by
  obtain ⟨c1, c2⟩ := chain_4 (4 :: (ix ++ (a0 ++ (a1 ++ t)))).length ix a0 a1 t h16 h0 h1
  have c3 := place_4 ix a0 a1 t h16 h0 h1
  have c0 := rd1_cons (4 :: (ix ++ (a0 ++ (a1 ++ t)))).length 4 (by omega) (ix ++ (a0 ++ (a1 ++ t)))
  have hn : (4 :: (ix ++ (a0 ++ (a1 ++ t)))).length = 29 + t.length := by simp; omega
  have hdr : (4 :: (ix ++ (a0 ++ (a1 ++ t)))).drop 29 = t := by
    rw [show 4 :: (ix ++ (a0 ++ (a1 ++ t))) = (4 :: ix ++ a0 ++ a1) ++ t by simp, List.drop_append_of_le_length (by simp; omega), List.drop_eq_nil_of_le (by simp; omega)]; rfl
  have hix : ((4 :: (ix ++ (a0 ++ (a1 ++ t)))).drop 1).take 16 = ix := by
    rw [List.drop_one, List.tail_cons, List.take_append_of_le_length (by omega), List.take_of_length_le (by omega)]
  have h00 : (4 :: (ix ++ (a0 ++ (a1 ++ t)))).getD 0 0 = 4 := rfl
  have hhd : hdN 4 = 29 := rfl
  have ed : ∀ N : Nat, (∀ p, edA N t N = p → True) := fun _ _ _ => trivial
  unfold rqBad rqGood
  rw [hdr, c0, c1]
  simp only [show kdB 4 = true from rfl, Bool.true_eq_false, false_and, true_and, false_or]
  unfold dqP dqR
  rw [h00, hhd, hix]
  obtain ⟨L, hL⟩ : ∃ L, 4 :: (ix ++ (a0 ++ (a1 ++ t))) = L := ⟨_, rfl⟩
  rw [hL] at hb hn c2 c3 ⊢
  have v0 : vA L 17 4 = smallNo 4 a0 := vA_mid L (4 :: ix) a0 (a1 ++ t) 17 4 (by rw [← hL]; simp) (by simp; omega) h0
  have v1 : vA L 21 8 = smallNo 8 a1 := vA_mid L (4 :: ix ++ a0) a1 t 21 8 (by rw [← hL]; simp) (by simp; omega) h1
  have y0 : smallNo 4 a0 < 256 ^ 4 := valL_le 4 a0 (fun x hx => hb x (by rw [← hL]; simp [hx]))
  have y1 : smallNo 8 a1 < 256 ^ 8 := valL_le 8 a1 (fun x hx => hb x (by rw [← hL]; simp [hx]))
  clear hL hdr hix h00 c0 c1
  unfold dqF dqE edA
  rw [hhd]
  simp only [show (4 : Int) = 2 ↔ False from by decide, show (4 : Int) = 3 ↔ False from by decide, show (4 : Int) = 4 ↔ True from by decide, show (4 : Int) = 5 ↔ False from by decide, if_true, if_false, or_self, or_true, true_or, false_or, or_false, v0, v1]
  simp only [taken, okTake]
  rw [c3]
  have c2' : (rd2 L.length (qs0 L)).2 = decide (tkB (IntKind.i64.wrap (smallNo 8 a1 : Nat)) = true) := by
    rw [Bool.eq_iff_iff, c2]; simp
  rw [c2', hn]
  clear c2 c2' c3
  generalize smallNo 4 a0 = x0 at *
  generalize smallNo 8 a1 = x1 at *
  simp only [nbB, tkB, plB, flB, IntKind.wrap_i64, decide_eq_true_eq, decide_eq_false_iff_not, Bool.and_eq_true]
  refine ⟨?_, ?_⟩
  · intro p hh
    refine Or.elim hh (fun h => ?_) (fun h => ?_)
    · have hn1 := h.1
      rw [h.2]
      clear hh h
      rw [if_neg (by omega), if_neg (by omega)]
      by_cases c1 : 1099511627776 < x1
      · rw [if_pos c1, if_pos (show ¬(0 ≤ ((x1 : Int) + 9223372036854775808) % 18446744073709551616 - 9223372036854775808 ∧ ((x1 : Int) + 9223372036854775808) % 18446744073709551616 - 9223372036854775808 ≤ 1099511627776) by omega)]
      rw [if_neg c1, if_neg (show ¬¬(0 ≤ ((x1 : Int) + 9223372036854775808) % 18446744073709551616 - 9223372036854775808 ∧ ((x1 : Int) + 9223372036854775808) % 18446744073709551616 - 9223372036854775808 ≤ 1099511627776) by omega)]
      exfalso; omega
    · have hc := h.1
      have hne := h.2.1
      rw [h.2.2]
      clear hh h
      rw [if_neg (by omega), if_neg (by omega)]
      rw [if_neg (show ¬(1099511627776 < x1) by omega)]
      simp only []
      by_cases q : 29 + t.length < 29 + 0
      · rw [if_pos q]; congr 1; omega
      · rw [if_neg q, if_pos (by omega)]; congr 1; omega
  · intro r b h
    have hc := h.1
    have hne := h.2.1
    rw [h.2.2.1, h.2.2.2]
    clear h
    refine ⟨?_, ?_, ?_⟩
    · rw [if_neg (by omega), if_neg (by omega)]
      rw [if_neg (show ¬(1099511627776 < x1) by omega)]
      simp only []
      rw [if_neg (by omega), if_neg (by omega)]
    · simp only [Rq.mk.injEq, true_and, and_true]; omega
    · have : t = [] := List.length_eq_zero_iff.1 (by omega)
      subst this; rfl
set_option maxRecDepth 10000 in
theorem invf_5 (T : List Int) (h : (st2 (qs0 (5 :: T))).f = false) : ∃ ix a0 t : List Int, T = ix ++ (a0 ++ t) ∧ (ix.length : Int) = 16 ∧ (a0.length : Int) = 4 := by
  rw [st2_cons 5 (by omega)] at h
  have f2 := h
  obtain ⟨s1, hs1⟩ : ∃ x : QS, (⟨false, T, { rq0 with k := 5 }, 0⟩ : QS) = x := ⟨_, rfl⟩
  rw [hs1] at f2
  clear h
  change (sq (flS 5) s1 2).f = false at f2
  obtain ⟨f1, c1⟩ := whoF_f (s := sq (flS 5) s1 1) f2
  obtain ⟨-, ix, T0, e0, h16⟩ := indexF_f (s := s1) f1
  rw [← hs1] at e0
  simp only at e0
  subst e0
  have q1 : sq (flS 5) s1 1 = ⟨false, T0, ⟨5, ix, 0, 0, 0, 0, 0⟩, 0⟩ := by
    show (indexF s1).1 = _
    rw [← hs1, indexF_app _ _ _ _ _ h16]
    rfl
  rw [q1] at c1
  obtain ⟨a0, T1, e1, h0⟩ := c1
  simp only at e1
  subst e1
  exact ⟨ix, a0, T1, rfl, h16, h0⟩
set_option maxRecDepth 10000 in
theorem cut_5 (T : List Int) (h : 20 ≤ T.length) : ∃ ix a0 t : List Int, T = ix ++ (a0 ++ t) ∧ (ix.length : Int) = 16 ∧ (a0.length : Int) = 4 := by
  refine ⟨T.take 16, (T.drop 16).take 4, T.drop 20, ?_, by simp; omega, by simp; omega⟩
  rw [show T.drop 20 = (T.drop 16).drop 4 by rw [List.drop_drop], List.take_append_drop]
  exact (List.take_append_drop 16 T).symm
set_option maxRecDepth 1000000 in
theorem dq_5 (ix a0 t : List Int) (h16 : (ix.length : Int) = 16) (h0 : (a0.length : Int) = 4) (hb : ∀ x ∈ 5 :: (ix ++ (a0 ++ t)), 0 ≤ x ∧ x < 256) :
    (∀ p, rqBad (5 :: (ix ++ (a0 ++ t))) p → dqP (5 :: (ix ++ (a0 ++ t))) = some p) ∧ ∀ r b, rqGood (5 :: (ix ++ (a0 ++ t))) r b → dqP (5 :: (ix ++ (a0 ++ t))) = none ∧ r = dqR (5 :: (ix ++ (a0 ++ t))) 5 ∧ b = (5 :: (ix ++ (a0 ++ t))).drop 21 := by
  obtain ⟨c1, c2⟩ := chain_5 (5 :: (ix ++ (a0 ++ t))).length ix a0 t h16 h0
  have c0 := rd1_cons (5 :: (ix ++ (a0 ++ t))).length 5 (by omega) (ix ++ (a0 ++ t))
  have hn : (5 :: (ix ++ (a0 ++ t))).length = 21 + t.length := by simp; omega
  have hdr : (5 :: (ix ++ (a0 ++ t))).drop 21 = t := by
    rw [show 5 :: (ix ++ (a0 ++ t)) = (5 :: ix ++ a0) ++ t by simp, List.drop_append_of_le_length (by simp; omega), List.drop_eq_nil_of_le (by simp; omega)]; rfl
  have hix : ((5 :: (ix ++ (a0 ++ t))).drop 1).take 16 = ix := by
    rw [List.drop_one, List.tail_cons, List.take_append_of_le_length (by omega), List.take_of_length_le (by omega)]
  have h00 : (5 :: (ix ++ (a0 ++ t))).getD 0 0 = 5 := rfl
  have hhd : hdN 5 = 21 := rfl
  have ed : ∀ N : Nat, (∀ p, edA N t N = p → True) := fun _ _ _ => trivial
  unfold rqBad rqGood
  rw [hdr, c0, c1]
  simp only [show kdB 5 = true from rfl, Bool.true_eq_false, false_and, true_and, false_or]
  unfold dqP dqR
  rw [h00, hhd, hix]
  obtain ⟨L, hL⟩ : ∃ L, 5 :: (ix ++ (a0 ++ t)) = L := ⟨_, rfl⟩
  rw [hL] at hb hn c2 ⊢
  have v0 : vA L 17 4 = smallNo 4 a0 := vA_mid L (5 :: ix) a0 t 17 4 (by rw [← hL]; simp) (by simp; omega) h0
  have y0 : smallNo 4 a0 < 256 ^ 4 := valL_le 4 a0 (fun x hx => hb x (by rw [← hL]; simp [hx]))
  clear hL hdr hix h00 c0 c1
  unfold dqF dqE edA
  rw [hhd]
  simp only [show (5 : Int) = 2 ↔ False from by decide, show (5 : Int) = 3 ↔ False from by decide, show (5 : Int) = 4 ↔ False from by decide, show (5 : Int) = 5 ↔ True from by decide, if_true, if_false, or_self, or_true, true_or, false_or, or_false, v0]
  simp only [taken, okTake]
  have c2' : (rd2 L.length (qs0 L)).2 = decide (True) := by
    rw [Bool.eq_iff_iff, c2]; simp
  rw [c2', hn]
  clear c2 c2'
  generalize smallNo 4 a0 = x0 at *
  simp only [nbB, tkB, plB, flB, IntKind.wrap_i64, decide_eq_true_eq, decide_eq_false_iff_not, Bool.and_eq_true]
  simp only [not_true_eq_false, false_and, false_or, true_and]
  refine ⟨?_, ?_⟩
  · rintro p ⟨hne, rfl⟩
    rw [if_neg (by omega), if_neg (by omega), if_neg (by omega), if_pos (by omega)]; congr 1; omega
  · rintro r b ⟨hne, rfl, rfl⟩
    refine ⟨?_, ?_, ?_⟩
    · rw [if_neg (by omega), if_neg (by omega)]
      rw [if_neg (by omega), if_neg (by omega)]
    · rfl
    · have : t = [] := List.length_eq_zero_iff.1 (by omega)
      subst this; rfl
theorem dq_all (l : List Int) (hb : ∀ x ∈ l, 0 ≤ x ∧ x < 256) :
    (∀ p, rqBad l p → dqP l = some p) ∧ ∀ r b, rqGood l r b → dqP l = none ∧ r = dqR l (l.getD 0 0) ∧ b = l.drop (hdN (l.getD 0 0)) := by
  cases l with
  | nil =>
    have h0 := rd1_nil 0
    refine ⟨fun p h => ?_, fun r b h => ?_⟩
    · rcases h with ⟨_, rfl⟩ | ⟨h1, _⟩ | ⟨h1, _⟩
      · show dqP [] = some (rd1 0 (qs0 [])).1
        rw [rd1_no 0 [] rfl h0]; rfl
      · rw [show ([] : List Int).length = 0 from rfl, h0] at h1; cases h1
      · rw [show ([] : List Int).length = 0 from rfl, h0] at h1; cases h1
    · have h1 := h.1
      rw [show ([] : List Int).length = 0 from rfl, h0] at h1; cases h1
  | cons k T =>
    have hk := hb k (by simp)
    have c0 := rd1_cons (k :: T).length k hk.1 T
    cases hkd : kdB k with
    | false =>
      rw [hkd] at c0
      have hd : dqP (k :: T) = some 0 := by
        unfold dqP
        rw [show (k :: T).getD 0 0 = k from rfl, if_pos ((hd_kd k).2 hkd)]
      refine ⟨fun p h => ?_, fun r b h => ?_⟩
      · rcases h with ⟨_, rfl⟩ | ⟨h1, _⟩ | ⟨h1, _⟩
        · rw [rd1_no _ _ rfl c0, hd]
        · rw [c0] at h1; cases h1
        · rw [c0] at h1; cases h1
      · have h1 := h.1
        rw [c0] at h1; cases h1
    | true =>
      rw [hkd] at c0
      by_cases hs : (k :: T).length < hdN k
      · have hf : (st2 (qs0 (k :: T))).f = true := by
          cases hf : (st2 (qs0 (k :: T))).f with
          | true => rfl
          | false =>
            exfalso
            have : k = 1 ∨ k = 2 ∨ k = 3 ∨ k = 4 ∨ k = 5 := by simp [kdB] at hkd; omega
            rcases this with rfl | rfl | rfl | rfl | rfl
            · obtain ⟨ix, t, rfl, h16⟩ := invf_1 T hf
              simp [hdN] at hs; omega
            · obtain ⟨ix, a0, a1, a2, a3, t, rfl, h16, h0, h1, h2, h3⟩ := invf_2 T hf
              simp [hdN] at hs; omega
            · obtain ⟨ix, a0, a1, a2, t, rfl, h16, h0, h1, h2⟩ := invf_3 T hf
              simp [hdN] at hs; omega
            · obtain ⟨ix, a0, a1, t, rfl, h16, h0, h1⟩ := invf_4 T hf
              simp [hdN] at hs; omega
            · obtain ⟨ix, a0, t, rfl, h16, h0⟩ := invf_5 T hf
              simp [hdN] at hs; omega
        have r2 := rd2_lack (n := (k :: T).length) hf
        have hne : hdN k ≠ 0 := fun e => by rw [(hd_kd k).1 e] at hkd; cases hkd
        have hd : dqP (k :: T) = some ((k :: T).length : Int) := by
          unfold dqP
          rw [show (k :: T).getD 0 0 = k from rfl, if_neg hne, if_pos hs]
        refine ⟨fun p h => ?_, fun r b h => ?_⟩
        · rcases h with ⟨h1, _⟩ | ⟨_, _, rfl⟩ | ⟨_, h1, _⟩
          · rw [c0] at h1; cases h1
          · rw [r2, hd]
          · rw [r2] at h1; cases h1
        · have h1 := h.2.1
          rw [r2] at h1; cases h1
      · have : k = 1 ∨ k = 2 ∨ k = 3 ∨ k = 4 ∨ k = 5 := by simp [kdB] at hkd; omega
        rw [List.length_cons] at hs
        rcases this with rfl | rfl | rfl | rfl | rfl
        · obtain ⟨ix, t, rfl, h16⟩ := cut_1 T (by simp [hdN] at hs; omega)
          exact dq_1 ix t h16 hb
        · obtain ⟨ix, a0, a1, a2, a3, t, rfl, h16, h0, h1, h2, h3⟩ := cut_2 T (by simp [hdN] at hs; omega)
          exact dq_2 ix a0 a1 a2 a3 t h16 h0 h1 h2 h3 hb
        · obtain ⟨ix, a0, a1, a2, t, rfl, h16, h0, h1, h2⟩ := cut_3 T (by simp [hdN] at hs; omega)
          exact dq_3 ix a0 a1 a2 t h16 h0 h1 h2 hb
        · obtain ⟨ix, a0, a1, t, rfl, h16, h0, h1⟩ := cut_4 T (by simp [hdN] at hs; omega)
          exact dq_4 ix a0 a1 t h16 h0 h1 hb
        · obtain ⟨ix, a0, t, rfl, h16, h0⟩ := cut_5 T (by simp [hdN] at hs; omega)
          exact dq_5 ix a0 t h16 h0 hb
end Go.Proofs.Ytgjadpidoaianaa
