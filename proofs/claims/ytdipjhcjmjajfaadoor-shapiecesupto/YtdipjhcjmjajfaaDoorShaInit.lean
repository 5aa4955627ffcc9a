/- sha.Initial and sha.New, walked; '==' on eight words. -/
import Derived.Test.YtdipjhcjmjajfaaDoorShaMix
namespace Go.Proofs.YtdipjhcjmjajfaaDoor
open Go.RowKit

/-- The words from which a digest begins. -/
def iv : List Nat := [1779033703, 3144134277, 1013904242, 2773480762, 1359893119, 2600822924, 528734635, 1541459225]
theorem iv_W8 : W8 iv := ⟨rfl, by decide⟩
theorem built_iv : Tryd.prog.built 25 [(0, .int .u32 1779033703), (1, .int .u32 3144134277), (2, .int .u32 1013904242), (3, .int .u32 2773480762), (4, .int .u32 1359893119), (5, .int .u32 2600822924), (6, .int .u32 528734635), (7, .int .u32 1541459225)] = some (cellsW iv) := by kernel_rfl

set_option maxRecDepth 100000 in
set_option maxHeartbeats 1000000 in
theorem initial_any (w : World) : Calls Tryd.prog 10 #[] w fun e w' => e = .returned (.agg (cellsW iv)) ∧ Below w.heap.size w w' := by
  obtain ⟨z8, HZ8⟩ : ∃ z8, Hid (cellsW (zerosW 8) = z8) := ⟨_, rfl⟩
  have hz8 := zero_w8
  rw [HZ8.out] at hz8
  have HZ1 := hid hz8
  have HIm : Hid ((Tryd.prog.info? 25).map (·.size) = some (cellsW iv).size) := size_w8
  have H1m : Hid ((cellsW iv).all (·.oneCell') = true) := cellsW_one _
  have HZM : Hid (z8.size = (cellsW iv).size) := by rw [← HZ8.out, cellsW_size, zerosW_length]; exact rfl
  have HR : Hid ((w.alloc (.cells z8 25)).heap[w.heap.size]? = some (.cells z8 25 (0, 0))) := heap_alloc_new w _
  have HB := hid (below_setRow ((Below.refl _ w).alloc (Nat.le_refl _) (.cells z8 25)) (g := w.heap.size) (Nat.le_refl _) (cellsW iv))
  clear hz8
  go_enter Tryd.func10, Tryd.ntmps10
  go_wp2_with (first | (refine wpList_alloc_agg HZ1.out rfl rfl ?_) | (refine wpList_store_row rfl 25 _ _ rfl w.heap.size (cellsW iv) rfl rfl 25 _ HR.out HIm.out HZM.out H1m.out ?_))
  refine bodyPost_ret (v := .agg (cellsW iv)) (results_cell_row (p := 0) (ty := 25) rfl _ _ w.heap.size 25 (cellsW iv) (0, 0) _ rfl (setRow_heap _ _ _ _ _ _ HR.out) Tryd.underlying25 rfl HIm.out) rfl ?_
  exact ⟨rfl, HB.out⟩

/-- The cells of a hash: the words of a hash of nothing, its words, the rest, the number of bytes. -/
def hashC (bw ww : List Nat) (rest : List Int) (n : Int) : List Value := bw.map (fun x : Nat => Value.int .u32 (x : Int)) ++ (ww.map (fun x : Nat => Value.int .u32 (x : Int)) ++ (rest.map (Value.int .u8) ++ [.int .i64 n]))
theorem built_hash : Tryd.prog.built 67 [(0, .agg (cellsW iv)), (1, .agg (cellsW iv))] = some (hashC iv iv (List.replicate 64 0) 0).toArray := by kernel_rfl

set_option maxRecDepth 100000 in
set_option maxHeartbeats 1000000 in
theorem new_any (w : World) : Calls Tryd.prog 19 #[] w fun e w' => ∃ g, e = .returned (.pointer (some ⟨g, 0, none⟩)) ∧ w.heap.size ≤ g ∧ w'.heap[g]? = some (.cells (hashC iv iv (List.replicate 64 0) 0).toArray 67 (0, 0)) ∧ Below w.heap.size w w' := by
  obtain ⟨m, HM⟩ : ∃ m, Hid (cellsW iv = m) := ⟨_, rfl⟩
  obtain ⟨hc, HC⟩ : ∃ hc, Hid ((hashC iv iv (List.replicate 64 0) 0).toArray = hc) := ⟨_, rfl⟩
  have hb := built_hash
  rw [HM.out, HC.out] at hb
  have HBT := hid hb
  have CI : Hid (∀ W, Calls Tryd.prog 10 #[] W fun e w' => e = .returned (.agg m) ∧ Below W.heap.size W w') := fun W => by rw [← HM.out]; exact initial_any W
  rw [HC.out]
  clear hb
  go_enter Tryd.func19, Tryd.ntmps19
  go_wp2_with fail
  refine (CI.out w).mono ?_
  rintro e w1 ⟨rfl, hB1⟩
  have B1 := hid hB1
  clear hB1
  go_wp2_with fail
  refine (CI.out w1).mono ?_
  rintro e w2 ⟨rfl, hB2⟩
  have B2 := hid (B1.out.trans (hB2.mono B1.out.size))
  clear hB2
  go_wp2_with (refine wpList_build rfl 67 _ rfl (by simp [Act.eval, HBT.out]) ?_)
  rw [show (Tryd.prog.built 67 [(0, .agg m), (1, .agg m)]).getD #[] = hc by rw [HBT.out]; rfl]
  go_ret
  exact ⟨w2.heap.size, rfl, B2.out.size, heap_alloc_new w2 _, B2.out.alloc B2.out.size _⟩

/-! '==' on eight words -/
def eqRoundW (d : Nat) (xs ys : List Nat) (i : Nat) (_ : Option Bool × Unit) : Sem (ForInStep (Option Bool × Unit)) := do
  let a ← part 24 (cellsW xs) (i * 1)
  let b ← part 24 (cellsW ys) (i * 1)
  let c ← Op.equalIn (d + 1) 24 a b
  if (!c) = true then pure (ForInStep.done (some false, ())) else pure (ForInStep.yield (none, ()))
theorem run_eqRoundW (w : World) (d : Nat) (xs ys : List Nat) (i : Nat) (s : Option Bool × Unit) (hx : i < xs.length) (hy : i < ys.length) :
    (eqRoundW d xs ys i s).run Tryd.prog w = .ok (if xs.getD i 0 = ys.getD i 0 then .yield (none, ()) else .done (some false, ())) w := by
  unfold eqRoundW
  simp only [Sem.run_bind, Nat.mul_one, part_u32 w xs i hx, part_u32 w ys i hy, Result.andThen_ok, run_equalIn_int w d 24 .u32 .u32 _ _ Tryd.underlying24]
  by_cases h : xs.getD i 0 = ys.getD i 0
  · have e : (((xs.getD i 0 : Nat) : Int) == ((ys.getD i 0 : Nat) : Int)) = true := by rw [h]; simp
    rw [e, if_pos h]; rfl
  · have e : (((xs.getD i 0 : Nat) : Int) == ((ys.getD i 0 : Nat) : Int)) = false := by
      rw [beq_eq_false_iff_ne]
      intro h2
      exact h (by omega)
    rw [e, if_neg h]; rfl
theorem run_eqRoundsW (w : World) (d n : Nat) (xs ys : List Nat) (hx : xs.length = n) (hy : ys.length = n) : ∀ (m k : Nat), k + m = n → xs.take k = ys.take k →
    (forIn (List.range' k m 1) ((none : Option Bool), ()) (eqRoundW d xs ys)).run Tryd.prog w = .ok (if xs = ys then (none, ()) else (some false, ())) w
  | 0, k, hk, ht => by
    have e : xs = ys := by rw [← List.take_of_length_le (show xs.length ≤ k by omega), ← List.take_of_length_le (show ys.length ≤ k by omega), ht]
    simp [e]
  | m + 1, k, hk, ht => by
    rw [List.range'_succ, List.forIn_cons, Sem.run_bind, run_eqRoundW w d xs ys k _ (by omega) (by omega), Result.andThen_ok]
    by_cases h : xs.getD k 0 = ys.getD k 0
    · rw [if_pos h]
      have h2 : xs.take (k + 1) = ys.take (k + 1) := by
        rw [List.take_succ_eq_append_getElem (by omega), List.take_succ_eq_append_getElem (by omega), ht]
        simp only [List.getD, List.getElem?_eq_getElem (show k < xs.length by omega), List.getElem?_eq_getElem (show k < ys.length by omega), Option.getD_some] at h
        rw [h]
      exact run_eqRoundsW w d n xs ys hx hy m (k + 1) (by omega) h2
    · rw [if_neg h, if_neg (fun e => h (by rw [e]))]
      rfl
theorem run_eql_words (w : World) (n : Nat) (t : TypeId) (ht : Tryd.prog.underlying t = some (.array n 24)) (xs ys : List Nat) (hx : xs.length = n) (hy : ys.length = n) :
    (binOp .eql t (.agg (cellsW xs)) (.agg (cellsW ys))).run Tryd.prog w = .ok (.bool (decide (xs = ys))) w := by
  have hq : (Op.equalIn (9998 + 2) t (.agg (cellsW xs)) (.agg (cellsW ys))).run Tryd.prog w = .ok (decide (xs = ys)) w := by
    rw [Op.equalIn]
    simp only [Sem.run_bind, run_underlying ht, Result.andThen_ok, size_u32]
    have hr := run_eqRoundsW w 9998 n xs ys hx hy n 0 (by omega) rfl
    have e : (forIn (m := Sem) [:n] ((none : Option Bool), ()) (eqRoundW 9998 xs ys)) = forIn (List.range' 0 n 1) ((none : Option Bool), ()) (eqRoundW 9998 xs ys) := by
      rw [Std.Legacy.Range.forIn_eq_forIn_range']
      simp [Std.Legacy.Range.size]
    rw [← e] at hr
    refine (congrArg (fun r => Result.andThen r _) hr).trans ?_
    by_cases h : xs = ys
    · simp [h]
    · simp [h]
  rw [run_eql_struct, hq]
  rfl
end Go.Proofs.YtdipjhcjmjajfaaDoor
