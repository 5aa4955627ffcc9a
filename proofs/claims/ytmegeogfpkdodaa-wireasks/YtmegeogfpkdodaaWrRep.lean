/- slices.Repeat of one field. -/
import Derived.Test.YtmegeogfpkdodaaWrMul
import Derived.Test.YtmegeogfpkdodaaWrFl
import Derived.Laws.OwnMore
set_option linter.unusedVariables false
set_option linter.unusedSimpArgs false
namespace Go.Proofs.Ytmegeogfpkdodaa
open Go Go.RowKit

theorem elmF : Try.prog.elem 100 = TF := by kernel_rfl
theorem size_fd : ∀ w, Sem.run Try.prog (Go.sizeOf TF) w = .ok 1 w := fun w => by
  obtain ⟨i0, hi, hz0, hz1, hz2⟩ := info_parts info_fd
  simp [Go.sizeOf, typeInfo, hi, hz1]
theorem size_fd' : (Try.prog.info? TF).map (·.size) = some 1 := by kernel_rfl
theorem slice_lF (W : World) (b n c lo : Nat) (h1 : lo ≤ n) (h2 : n < c ∨ lo < c) (h3 : n ≤ c) : (Instr.slice 100 (.slice (some ⟨b, 0, none⟩) n c) (some (.int .i64 (lo : Int))) none none).run Try.prog W = .ok (.slice (some ⟨b, lo, none⟩) (n - lo) (c - lo)) W := by
  have h := run_slice_l (P := Try.prog) W 100 (some ⟨b, 0, none⟩) n c (by rw [elmF]; exact Try.underlying100) .i64 (lo : Int) (by omega) (by omega)
  rw [h, elmF, size_fd, Result.andThen_ok, Int.toNat_natCast]
  unfold sliced
  rw [Nat.mul_one, if_neg (by omega)]
  simp [Go.WideShapes.add_plain]
theorem slice_hF (W : World) (b n c hi : Nat) (h1 : hi ≤ c) (h2 : 0 < c) : (Instr.slice 100 (.slice (some ⟨b, 0, none⟩) n c) none (some (.int .i64 (hi : Int))) none).run Try.prog W = .ok (.slice (some ⟨b, 0, none⟩) hi c) W := by
  have h := run_slice_h (P := Try.prog) W 100 (some ⟨b, 0, none⟩) n c (by rw [elmF]; exact Try.underlying100) .i64 (hi : Int) (by omega) (by omega)
  rw [h, elmF, size_fd, Result.andThen_ok, Int.toNat_natCast]
  unfold sliced
  rw [if_neg (by omega)]
  simp [Go.WideShapes.add_plain]
theorem yieldsIf_slG {P : Program} {ops : Array Oper} {S : World → Prop} {op : Oper} {a : Act} (hw : Region.wanted op (yielded ops a.tmps) = true) (t : TypeId) (x : Operand) (lo hi : Option Operand) (ht : P.underlying t = some (.slice (P.elem t))) (ho : op.op = .slice t x lo hi none) (vx : Value) (vl vh : Option Value) (hx : a.eval x = vx) (hl : lo.map a.eval = vl) (hh : hi.map a.eval = vh) (v : Value)
    (hr : ∀ w, S w → (Instr.slice t vx vl vh none).run P w = .ok v w) : YieldsIf P ops S op v a :=
  .inl ⟨hw, fun w hS => by
    unfold execOp
    simp only [ho, Sem.run_bind, Option.map_none, hx, hl, hh, run_sliceAt_slice w t _ _ _ _ ht, hr w hS, Result.andThen_ok]
    rfl⟩
def repA (m k : Nat) (c : Value) : List Value := List.replicate k c ++ List.replicate (m - k) Value.nilFunc
theorem repA_len {m k : Nat} (h : k ≤ m) (c : Value) : (repA m k c).length = m := by simp [repA]; omega
theorem repA_step {m k j : Nat} (c : Value) (h : k + j ≤ m) (cs : List Value) (hcs : cs = List.replicate j c) : (repA m k c).take k ++ cs ++ (repA m k c).drop (k + cs.length) = repA m (k + j) c := by
  subst hcs
  have e1 : (repA m k c).take k = List.replicate k c := by simp [repA]
  have e2 : (repA m k c).drop (k + (List.replicate j c).length) = List.replicate (m - (k + j)) Value.nilFunc := by
    simp [repA, List.drop_append]
    omega
  rw [e1, e2]
  simp only [repA, List.replicate_append_replicate]
set_option maxRecDepth 100000 in
set_option maxHeartbeats 8000000 in
theorem repeat_any (w : World) (b m : Nat) (hm : m < 256) (c : Value) (hb : w.heap[b]? = some (.cells #[c] TF (0, 0))) (hc : c.oneCell' = true) :
    Calls Try.prog 71 #[.slice (some ⟨b, 0, none⟩) 1 1, .int .i64 (m : Int)] w fun e w' => e = .returned (.slice (some ⟨w.heap.size, 0, none⟩) m m) ∧ w'.heap[w.heap.size]? = some (.cells (List.replicate m c).toArray TF (0, 0)) ∧ Below w.heap.size w w' := by
  have CM := hid (mul_one w m hm)
  obtain ⟨i0, hi, hz0, hz1, hz2⟩ := info_parts info_fd
  have hblt := (Array.getElem?_eq_some_iff.1 hb).1
  obtain ⟨w1, hmk, hown, hgr⟩ := run_make_full (P := Try.prog) w w.heap.size 100 TF i0 _ 1 Try.underlying100 hi hz0 hz1 .i64 .i64 m (by rw [hz2]; omega) (by unfold maxLen; omega) (Nat.le_refl _)
  have H1 : Hid (w1.heap[w.heap.size]? = some (.cells (repA m 0 c).toArray TF (0, 0))) := hid (by
    rcases hown.2 with ⟨e1, _⟩ | ⟨gg, cap, cur, e1, _, e3, _, _, e4, e5⟩
    · cases e1
    · cases e1
      rw [e3]
      congr 2
      have h6 : cur.toList = (madeCells (Value.cells Value.nilFunc) (m * 1)).toList := by
        rw [← e5, List.take_of_length_le (by simp [e4])]
      have h7 : cur.toList = List.replicate m Value.nilFunc := by
        rw [h6, show Value.cells Value.nilFunc = #[Value.nilFunc] from rfl, toList_madeCells_one, Nat.mul_one]
      rw [← Array.toArray_toList (xs := cur), h7]
      simp [repA])
  have B1 : Hid (Below w.heap.size w w1) := hid ((Below.refl _ w).grown hgr (Nat.le_refl _) (fun k e => by cases e))
  have hw1 : IntKind.u64.wrap (m : Int) = (m : Int) := by rw [IntKind.wrap_u64]; omega
  have hw2 : IntKind.i64.wrap (m : Int) = (m : Int) := by rw [IntKind.wrap_i64]; omega
  obtain ⟨w2, k2, hcp, hk2, hk2', H2, B2⟩ : ∃ (w2 : World) (k : Nat), (Builtin.copy_ #[100, 100] 3 #[.slice (some ⟨w.heap.size, 0, none⟩) m m, .slice (some ⟨b, 0, none⟩) 1 1]).run Try.prog w1 = .ok (.int .i64 (k : Int)) w2 ∧ k ≤ m ∧ (0 < m → 0 < k) ∧ Hid (w2.heap[w.heap.size]? = some (.cells (repA m k c).toArray TF (0, 0))) ∧ Hid (Below w.heap.size w w2) := by
    by_cases h0 : m = 0
    · refine ⟨w1, 0, ?_, by omega, by omega, H1, B1⟩
      have := run_copy_none (P := Try.prog) w1 100 100 3 TF (some ⟨w.heap.size, 0, none⟩) (some ⟨b, 0, none⟩) m m 1 1 Try.underlying100 size_fd' (by rw [h0]; rfl)
      rw [this]
      rfl
    · have hr := run_copy_row Try.prog w1 100 100 3 TF w.heap.size 0 m m ⟨b, 0, none⟩ 1 1 _ TF [c] Try.underlying100 size_fd' H1.out (by show 1 = Nat.min 1 m; exact (Nat.min_eq_left (by omega)).symm) (fun j v hv => by
        have hj : j = 0 := by have := (List.getElem?_eq_some_iff.1 hv).1; simpa using this
        subst hj
        rw [Go.WideShapes.add_plain]
        have h5 : w1.heap[b]? = some (.cells #[c] TF (0, 0)) := (B1.out.block b hblt).trans hb
        simpa [World.cell?, h5] using hv) (by simp [repA_len]; omega) (by simpa using hc)
      have e := repA_step (m := m) (k := 0) (j := 1) c (by omega) [c] rfl
      simp only [List.toList_toArray, List.take_zero, List.nil_append] at hr e
      rw [e] at hr
      refine ⟨_, 1, hr, by omega, by omega, hid (setRow_heap w1 _ _ _ TF _ H1.out), hid (B1.out.trans ⟨rfl, rfl, rfl, by simp [World.setRow], fun k hk => by simp [World.setRow, Array.getElem?_modify, show w.heap.size ≠ k by omega]⟩)⟩
  clear hb hown hgr H1 B1
  have hlt256 : (m : Int) < 256 := by omega
  go_enter Try.func71, Try.ntmps71
  go_wp2_with (first | rw [hw1] | fail)
  refine CM.out.mono ?_
  rintro e w' ⟨rfl, hw'⟩
  subst hw'
  go_wp2_with (first | rw [hw2] | rw [hmk] | rw [hcp] | fail)
  go_loopw [8] (fun i wr => ∃ k : Nat, k ≤ m ∧ i = .int .i64 k ∧ (0 < m → 0 < k) ∧ wr.heap[w'.heap.size]? = some (.cells (repA m k c).toArray TF (0, 0)) ∧ Below w'.heap.size w' wr) (fun i _ => m - (intOf i).toNat)
  case atStart => exact ⟨k2, hk2, rfl, hk2', H2.out, B2.out⟩
  case round =>
    obtain ⟨k, hk, rfl, hk0, hH, hB⟩ := hrel
    clear hmk hcp H2 B2 CM
    by_cases hlt : k < m
    · have hkp := hk0 (by omega)
      have HH := hid hH
      have HBl := hid hB
      have hcr : ∃ (w3 : World) (j : Nat), (Builtin.copy_ #[100, 100] 3 #[.slice (some ⟨w'.heap.size, k, none⟩) (m - k) (m - k), .slice (some ⟨w'.heap.size, 0, none⟩) k m]).run Try.prog (wr.drewN 1) = .ok (.int .i64 (j : Int)) w3 ∧ 0 < j ∧ k + j ≤ m ∧ Hid (w3.heap[w'.heap.size]? = some (.cells (repA m (k + j) c).toArray TF (0, 0))) ∧ Hid (Below w'.heap.size w' w3) := by
        obtain ⟨j, hj, hj1, hj2, hj3⟩ : ∃ j, Nat.min k (m - k) = j ∧ j ≤ k ∧ j ≤ m - k ∧ 0 < j := ⟨_, rfl, Nat.min_le_left _ _, Nat.min_le_right _ _, Nat.lt_min.2 ⟨hkp, by omega⟩⟩
        have hr := run_copy_row Try.prog (wr.drewN 1) 100 100 3 TF w'.heap.size k (m - k) (m - k) ⟨w'.heap.size, 0, none⟩ k m _ TF (List.replicate j c) Try.underlying100 size_fd' (show (wr.drewN 1).heap[w'.heap.size]? = _ from hH) (by simp [hj]) (fun i v hv => by
          have hi : i < j := by have := (List.getElem?_eq_some_iff.1 hv).1; simpa using this
          have hi2 : i < k := by omega
          rw [Go.WideShapes.add_plain, Nat.zero_add]
          have h5 : (wr.drewN 1).heap[w'.heap.size]? = some (.cells (repA m k c).toArray TF (0, 0)) := hH
          simp only [World.cell?, h5]
          simp [repA, List.getElem?_append_left, hi2, List.getElem?_replicate]
          have : c = v := by simpa [List.getElem?_replicate, hi] using hv
          exact this) (by simp only [List.length_replicate, List.size_toArray, repA_len hk]; omega) (fun v hv => by rw [(List.mem_replicate.1 hv).2]; exact hc)
        have e := repA_step (m := m) (k := k) (j := j) c (by omega) _ rfl
        simp only [List.toList_toArray] at hr
        rw [e] at hr
        refine ⟨_, j, hr.trans (by simp [goInt]), hj3, by omega, hid (setRow_heap _ _ _ _ TF _ (show (wr.drewN 1).heap[w'.heap.size]? = _ from hH)), hid ((bel_drewN hB 1).trans ⟨rfl, rfl, rfl, by simp [World.setRow], fun k hk => by simp [World.setRow, Array.getElem?_modify, show w'.heap.size ≠ k by omega]⟩)⟩
      obtain ⟨w3, j, hc3', hj, hkj, H3, B3⟩ := hcr
      have hc3 : (Builtin.copy_ #[100, 100] 3 #[.slice (some ⟨w'.heap.size, k, none⟩) (m - k) (m - k), .slice (some ⟨w'.heap.size, 0, none⟩) k m]).run Try.prog wr.drew = .ok (.int .i64 (j : Int)) w3 := hc3'
      clear hc3'
      have hwj : IntKind.i64.wrap ((k : Int) + (j : Int)) = ((k + j : Nat) : Int) := by rw [IntKind.wrap_i64]; omega
      clear hH hB
      go_wp2_with fail
      refine wp_region_held_drew (S := (fun _ => True)) (by kernel_rfl) trivial (fun hHeld => ?_)
      have HS := hid hHeld
      clear hHeld
      change wpAnyH _ _ _ _ _ _ _ _ (World.drew _)
      refine wpAnyH_take (i := 0) (v := ?_) rfl (by kernel_rfl) (by kernel_rfl) (by kernel_rfl) (fun _ _ _ h => h) (Or.inl ⟨by rfl, ?q0⟩) HS.out ?_
      case q0 => intro w hSw; go_simp; rfl
      simp only [Act.put, List.getElem_toArray, List.getElem_cons_zero, List.getElem_cons_succ, List.setIfInBounds_toArray, List.set_cons_zero, List.set_cons_succ]
      refine wpAnyH_take (i := 1) (v := ?_) rfl (by kernel_rfl) (by kernel_rfl) (by kernel_rfl) (fun _ _ _ h => h) (Or.inl ⟨by rfl, ?q1⟩) HS.out ?_
      case q1 => intro w hSw; go_simp; rfl
      simp only [Act.put, List.getElem_toArray, List.getElem_cons_zero, List.getElem_cons_succ, List.setIfInBounds_toArray, List.set_cons_zero, List.set_cons_succ]
      refine wpAnyH_take (i := 2) (v := ?_) rfl (by kernel_rfl) (by kernel_rfl) (by kernel_rfl) (fun _ _ _ h => h) (Or.inl ⟨by rfl, ?q2⟩) HS.out ?_
      case q2 => intro w hSw; go_simp; rfl
      simp only [Act.put, List.getElem_toArray, List.getElem_cons_zero, List.getElem_cons_succ, List.setIfInBounds_toArray, List.set_cons_zero, List.set_cons_succ]
      refine wpAnyH_take (i := 3) rfl (by kernel_rfl) (by kernel_rfl) (by kernel_rfl) (fun _ _ _ h => h) (yieldsIf_slG (by rfl) 100 _ _ _ (by rw [elmF]; exact Try.underlying100) rfl (.slice (some ⟨w'.heap.size, 0, none⟩) m m) (some (.int .i64 (k : Int))) none rfl rfl rfl _ (fun W _ => slice_lF W w'.heap.size m m k (by omega) (by omega) (by omega))) HS.out ?_
      simp only [Act.put, List.getElem_toArray, List.getElem_cons_zero, List.getElem_cons_succ, List.setIfInBounds_toArray, List.set_cons_zero, List.set_cons_succ]
      refine wpAnyH_take (i := 4) (v := ?_) rfl (by kernel_rfl) (by kernel_rfl) (by kernel_rfl) (fun _ _ _ h => h) (Or.inl ⟨by rfl, ?q4⟩) HS.out ?_
      case q4 => intro w hSw; go_simp; rfl
      simp only [Act.put, List.getElem_toArray, List.getElem_cons_zero, List.getElem_cons_succ, List.setIfInBounds_toArray, List.set_cons_zero, List.set_cons_succ]
      refine wpAnyH_take (i := 5) (v := ?_) rfl (by kernel_rfl) (by kernel_rfl) (by kernel_rfl) (fun _ _ _ h => h) (Or.inl ⟨by rfl, ?q5⟩) HS.out ?_
      case q5 => intro w hSw; go_simp; rfl
      simp only [Act.put, List.getElem_toArray, List.getElem_cons_zero, List.getElem_cons_succ, List.setIfInBounds_toArray, List.set_cons_zero, List.set_cons_succ]
      refine wpAnyH_take (i := 6) rfl (by kernel_rfl) (by kernel_rfl) (by kernel_rfl) (fun _ _ _ h => h) (yieldsIf_slG (by rfl) 100 _ _ _ (by rw [elmF]; exact Try.underlying100) rfl (.slice (some ⟨w'.heap.size, 0, none⟩) m m) none (some (.int .i64 (k : Int))) rfl rfl rfl _ (fun W _ => slice_hF W w'.heap.size m m k (by omega) (by omega))) HS.out ?_
      simp only [Act.put, List.getElem_toArray, List.getElem_cons_zero, List.getElem_cons_succ, List.setIfInBounds_toArray, List.set_cons_zero, List.set_cons_succ]
      refine wpAnyH_ready (rs := [7]) (by kernel_rfl) (by simp) ?_
      refine AllReadyH.cons rfl (fun K hK => ?_) AllReadyH.nil
      replace hK := hid hK
      go_simp
      refine hK.out _ _ trivial (fun _ => ?_)
      clear hK K
      try clear HS
      have HS : Hid True := hid trivial
      refine wpAnyH_take (i := 8) (v := ?_) rfl (by kernel_rfl) (by kernel_rfl) (by kernel_rfl) (fun _ _ _ h => h) (Or.inl ⟨by rfl, ?q8⟩) HS.out ?_
      case q8 => intro w hSw; go_simp; rfl
      simp only [Act.put, List.getElem_toArray, List.getElem_cons_zero, List.getElem_cons_succ, List.setIfInBounds_toArray, List.set_cons_zero, List.set_cons_succ]
      refine wpAnyH_take (i := 9) (v := ?_) rfl (by kernel_rfl) (by kernel_rfl) (by kernel_rfl) (fun _ _ _ h => h) (Or.inl ⟨by rfl, ?q9⟩) HS.out ?_
      case q9 => intro w hSw; go_simp; rfl
      simp only [Act.put, List.getElem_toArray, List.getElem_cons_zero, List.getElem_cons_succ, List.setIfInBounds_toArray, List.set_cons_zero, List.set_cons_succ]
      refine wpAnyH_done (by kernel_rfl) ?_ _
      go_wp2_with fail
      exact ⟨⟨k + j, by omega, rfl, fun _ => by omega, H3.out, B3.out⟩, by simp [intOf]; omega⟩
    · obtain rfl : k = m := by omega
      go_wp2_with fail
      go_ret
      exact ⟨rfl, by simpa [repA] using hH, hB⟩
end Go.Proofs.Ytmegeogfpkdodaa
