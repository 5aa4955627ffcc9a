/- Of the road to ringWholeCard_holds: RgWhW, ShaLaid. -/
import Derived.Test.YtjdfclbjmmmcfaaDoorG08
import Derived.Deep.MidRow
import Derived.Test.YtjdfclbjmmmcfaaDoorRows
import Derived.Test.YtjdfclbjmmmcfaaDoorG00
import Derived.ProofKit
import Derived.OpenShut
import Derived.LaidLaws
import Derived.Lay
import Derived.MakeChecks
set_option linter.unusedVariables false
set_option linter.unusedSimpArgs false
namespace Go.Proofs.YtjdfclbjmmmcfaaDoor
open Go Go.RowKit Go.Shelf
attribute [local go_sem] Oper.semAt_some
theorem info_bool22 : (Tryd.prog.info? 4).map (fun i => (i.zero, i.size, i.bytes)) = some (some (Value.bool false), 1, 1) := by kernel_rfl
theorem run_make_seen (w : World) (l : List Nat) : (Instr.makeSlice 41 (.int .i64 40) (.int .i64 40)).run Tryd.prog w = .ok (.slice (some ⟨w.heap.size, 0, none⟩) 40 40) (w.alloc (.cells (sn l 0) 4)) := by
  obtain ⟨i0, hi, hz0, hz1, hz2⟩ := info_parts info_bool22
  have hr := run_make (P := Tryd.prog) w 41 4 i0 _ Tryd.underlying41 hi hz0 .i64 .i64 40 40 (by omega) (Int.le_refl _) (by rw [hz2]; omega) (by omega)
  have e : madeCells (Value.bool false).cells ((40 : Int).toNat * i0.size) = sn l 0 := by
    rw [sn_zero, hz1]
    kernel_rfl
  rw [e] at hr
  exact hr
theorem wp_alloc_dig {o : Oper} {a : Act} {w : World} {K : Act → World → Prop} {Q : Exit → Act → World → Prop} (ho : o.op = .alloc 43)
    (h : K (a.put o.dst (.pointer (some ⟨w.heap.size, 0, none⟩))) (w.alloc (.cells (cellsB zeros32) 43))) : o.wp Tryd.prog a w K Q := by
  have hr := run_alloc_digest w
  unfold Oper.wp
  simp only [execOp, ho, Sem.run_bind, hr, Result.andThen_ok]
  exact h
theorem keyed {P : Nat → World → Prop} {K : Act → World → Prop} {G : Prop} (A : Nat → Act) (hkey : ∀ d W', P d W' → K (A d) W') (main : (∀ d W', P d W' → K (A d) W') → G) : G := main hkey
theorem range_of {W : World} {g : Nat} {x : List Int} {T : TypeId} (h : W.heap[g]? = some (.cells (cellsB x) T (0, 0))) : W.rangeAt g 0 (dc x) := fun j v hv => by
  rw [cell_of_row W g (0 + j) _ _ _ h, Nat.zero_add]
  simpa [cellsB, dc] using hv
set_option maxRecDepth 100000 in
set_option maxHeartbeats 16000000 in
theorem rwhole_ok (w : World) (x : List Int) (n : Nat) (f : Int) (hx : X16 x) (h1 : 1 ≤ n) (h2 : n ≤ 32) (hf : -9223372036854775808 ≤ f ∧ f < 9223372036854775808) (hk : KC w) :
    Calls Tryd.prog 5 #[.agg (cellsB x), .int .i64 (n : Int), .int .i64 f] w fun e w' => e = .returned (.bool true) ∧ Below w.heap.size w w' := by
  have HIx := hid (size_ix hx)
  obtain ⟨cx, HCX⟩ : ∃ c, Hid (cellsB x = c) := ⟨_, rfl⟩
  rw [HCX.out] at HIx
  rw [HCX.out]
  have HX := hid hx
  have HK := hid hk
  obtain ⟨W1, HW1⟩ : ∃ W1, Hid (((w.alloc (.cells cx 23)).alloc (.cells #[.int .i64 (n : Int)] 3)).alloc (.cells #[.bool false] 4) = W1) := ⟨_, rfl⟩
  have e0 : (w.alloc (.cells cx 23)).heap.size = w.heap.size + 1 := by simp
  have e1 : ((w.alloc (.cells cx 23)).alloc (.cells #[.int .i64 (n : Int)] 3)).heap.size = w.heap.size + 2 := by simp
  have HB1 : Hid (Below w.heap.size w W1) := by rw [← HW1.out]; exact (((Below.refl _ w).alloc (Nat.le_refl _) _).alloc (by simp) _).alloc (by simp; omega) _
  have X1 : Hid (W1.heap[w.heap.size]? = some (.cells cx 23 (0, 0))) := by rw [← HW1.out]; refine hid ?_; rw [heap_alloc_old _ _ (by simp; omega), heap_alloc_old _ _ (by simp)]; exact heap_alloc_new w _
  have N1 : Hid (W1.heap[w.heap.size + 1]? = some (.cells #[.int .i64 (n : Int)] 3 (0, 0))) := by
    rw [← HW1.out]
    refine hid ?_
    rw [heap_alloc_old _ _ (by rw [e1]; omega), ← e0]
    exact heap_alloc_new _ _
  have R1 : Hid (W1.heap[w.heap.size + 2]? = some (.cells #[.bool false] 4 (0, 0))) := by
    rw [← HW1.out, ← e1]
    exact heap_alloc_new _ _
  have s1 : w.heap.size + 2 < W1.heap.size := hp_lt R1.out
  have CA := hid (awake_any W1 (HK.out.below HB1.out))
  clear hx hk
  refine (callsIn_wide (n := 3)).1 ?_
  refine callsIn_of_wp_marks Tryd.func5 rfl trivial (wpIn_wide.2 ?_) rfl
  simp only [Tryd.ntmps5, List.size_toArray, List.length_cons, List.length_nil, Nat.reduceAdd, Nat.reduceSub, Array.replicate_succ, Array.replicate_zero, List.push_toArray, List.append_toArray, List.nil_append, List.cons_append]
  go_wp2_with fail
  rw [HW1.out]
  refine CA.out.mono ?_
  rintro e W2 ⟨rfl, hB2⟩
  have HB2 : Hid (Below w.heap.size w W2) := HB1.out.trans (hB2.mono HB1.out.size)
  have X2 : Hid (W2.heap[w.heap.size]? = some (.cells cx 23 (0, 0))) := (hB2.block _ (by omega)).trans X1.out
  have N2 : Hid (W2.heap[w.heap.size + 1]? = some (.cells #[.int .i64 (n : Int)] 3 (0, 0))) := (hB2.block _ (by omega)).trans N1.out
  have R2 : Hid (W2.heap[w.heap.size + 2]? = some (.cells #[.bool false] 4 (0, 0))) := (hB2.block _ (by omega)).trans R1.out
  have s2 : w.heap.size + 2 < W2.heap.size := hp_lt R2.out
  have cn2 : W2.cell? ⟨w.heap.size + 1, 0, none⟩ = some (.int .i64 (n : Int)) := (cell_of_row _ _ _ _ _ _ N2.out).trans rfl
  clear hB2 CA X1 N1 R1
  have C2 := hid (order_ok W2 x n HX.out h1 h2 (HK.out.below HB2.out))
  rw [HCX.out] at C2
  go_wp2_with (refine wpList_load_row rfl 23 _ rfl w.heap.size rfl 23 cx (0, 0) _ X2.out Tryd.underlying23 rfl HIx.out ?_)
  refine C2.out.mono ?_
  rintro e W3 ⟨g, l, rfl, hg, hO, hI, hB3⟩
  have PO := hid hO
  have HI3 := hid hI
  have PL := hid hO.len
  have hs3 := hB3.size
  have BL3 := hid hB3
  have hgl : g < W3.heap.size := hI.lt
  obtain ⟨W4, HW4⟩ : ∃ W4, Hid (W3.alloc (.cells #[.slice (some ⟨g, 0, none⟩) n n] 24) = W4) := ⟨_, rfl⟩
  have hs4 : W4.heap.size = W3.heap.size + 1 := by rw [← HW4.out]; simp
  have HS4 := hid hs4
  have HB4 : Hid (Below W3.heap.size W3 W4) := by rw [← HW4.out]; exact (Below.refl _ W3).alloc (Nat.le_refl _) _
  have L4 : Hid (W4.heap[W3.heap.size]? = some (.cells #[.slice (some ⟨g, 0, none⟩) n n] 24 (0, 0))) := by rw [← HW4.out]; exact heap_alloc_new W3 _
  have hmk := run_make_seen W4 l
  obtain ⟨W5, HW5⟩ : ∃ W5, Hid (W4.alloc (.cells (sn l 0) 4) = W5) := ⟨_, rfl⟩
  have HB5 : Hid (Below W4.heap.size W4 W5) := by rw [← HW5.out]; exact (Below.refl _ W4).alloc (Nat.le_refl _) _
  have S5 : Hid (W5.heap[W4.heap.size]? = some (.cells (sn l 0) 4 (0, 0))) := by rw [← HW5.out]; exact heap_alloc_new W4 _
  have Q5 : Hid (Wq w cx n g W3.heap.size (W3.heap.size + 1) l 0 W5) := by
    have k3 : ∀ b o, W2.heap[b]? = some o → W5.heap[b]? = some o := fun b o h => by
      have hb := hp_lt h
      rw [HB5.out.block _ (by omega), HB4.out.block _ (by omega), BL3.out.block _ hb]
      exact h
    refine hid ⟨k3 _ _ X2.out, k3 _ _ N2.out, k3 _ _ R2.out, ?_, ?_, ?_, ?_⟩
    · rw [HB5.out.block _ (by omega)]; exact L4.out
    · rw [← hs4]; exact S5.out
    · exact (HI3.out.below HB4.out).below HB5.out
    · exact ((HB2.out.trans (BL3.out.mono HB2.out.size)).trans (HB4.out.mono (by have := HB2.out.size; omega))).trans (HB5.out.mono (by have := HB2.out.size; omega))
  rw [HW5.out, hs4] at hmk
  have n1 : W3.heap.size + 1 ≠ w.heap.size := by omega
  have hgS : g ≠ W3.heap.size + 1 := by omega
  have hS1 : w.heap.size + 2 < W3.heap.size := by omega
  clear hO hI hB3 C2 cn2 X2 N2 R2 hs4
  go_wp2
  rw [HW4.out, hmk]
  simp only [Result.andThen]
  rw [Oper.upon_value]
  clear hmk
  go_wp2
  go_loopw [10] (fun i wr => ∃ k : Nat, k ≤ n ∧ i = .int .i64 k ∧ Hid (Wq w cx n g W3.heap.size (W3.heap.size + 1) l k wr)) (fun i _ => n - (intOf i).toNat)
  case atStart => exact ⟨0, Nat.zero_le _, rfl, Q5⟩
  case round =>
    clear Q5 S5 L4
    obtain ⟨k, hk, rfl, Q⟩ := hrel
    have cl := Q.out.cl
    have cn := Q.out.cn
    by_cases hlt : k < n
    · have hlk : l.getD k 0 < n := PO.out.at hlt
      have hce := Q.out.hg.cell (i := k) (by rw [PL.out]; exact hlt)
      have hcs := Q.out.cs (l.getD k 0) (by omega)
      rw [sn_new PO.out.nodup (by rw [PL.out]; exact hlt)] at hcs
      have HST := hid (sn_step l k (by rw [PL.out]; exact hlt) (by omega))
      obtain ⟨y, HYY⟩ : ∃ y, Hid (l.getD k 0 = y) := ⟨_, rfl⟩
      rw [HYY.out] at hlk hce hcs HST
      have hy0 : ¬ ((y : Int) < 0) := by omega
      have hyn : (y : Int) < (n : Int) := by omega
      have hy40 : y < 40 := by omega
      have hy40i : (y : Int) < 40 := by omega
      have hyge : ¬ ((n : Int) ≤ (y : Int)) := by omega
      have ZC : Hid (∀ W' : World, W'.heap = wr.heap → W'.cell? ⟨W3.heap.size, 0, none⟩ = some (.slice (some ⟨g, 0, none⟩) n n) ∧ W'.cell? ⟨w.heap.size + 1, 0, none⟩ = some (.int .i64 (n : Int)) ∧ W'.cell? ⟨g, k, none⟩ = some (.int .i64 (y : Int)) ∧ W'.cell? ⟨W3.heap.size + 1, y, none⟩ = some (.bool false)) := hid fun W' hh => by
        simp only [World.cell?, hh] at *
        exact ⟨cl, cn, hce, hcs⟩
      go_wp2
      refine rg_held_n (S := fun W' => W'.heap = wr.heap) (by kernel_rfl) (by exact rfl) (fun hHeld => ?_)
      have HS := hid hHeld
      clear hHeld
      change wpAnyH _ _ _ _ _ _ _ _ (World.drew _)
      refine wpAnyH_take (i := 0) (v := ?_) rfl (by kernel_rfl) (by kernel_rfl) (by kernel_rfl) (fun _ _ _ h => by cases h.1) (Or.inl ⟨by rfl, ?q0⟩) HS.out ?_
      case q0 => intro w hSw; obtain ⟨z0, z1, z2, z3⟩ := ZC.out _ hSw; go_simp; rfl
      simp only [Act.put, List.getElem_toArray, List.getElem_cons_zero, List.getElem_cons_succ, List.setIfInBounds_toArray, List.set_cons_zero, List.set_cons_succ]
      refine wpAnyH_take (i := 1) (v := ?_) rfl (by kernel_rfl) (by kernel_rfl) (by kernel_rfl) (fun _ _ _ h => by cases h.1) (Or.inl ⟨by rfl, ?q1⟩) HS.out ?_
      case q1 => intro w hSw; obtain ⟨z0, z1, z2, z3⟩ := ZC.out _ hSw; go_simp; rfl
      simp only [Act.put, List.getElem_toArray, List.getElem_cons_zero, List.getElem_cons_succ, List.setIfInBounds_toArray, List.set_cons_zero, List.set_cons_succ]
      refine wpAnyH_take (i := 2) (v := ?_) rfl (by kernel_rfl) (by kernel_rfl) (by kernel_rfl) (fun _ _ _ h => by cases h.1) (Or.inl ⟨by rfl, ?q2⟩) HS.out ?_
      case q2 => intro w hSw; obtain ⟨z0, z1, z2, z3⟩ := ZC.out _ hSw; go_simp; rfl
      simp only [Act.put, List.getElem_toArray, List.getElem_cons_zero, List.getElem_cons_succ, List.setIfInBounds_toArray, List.set_cons_zero, List.set_cons_succ]
      refine wpAnyH_take (i := 3) (v := ?_) rfl (by kernel_rfl) (by kernel_rfl) (by kernel_rfl) (fun _ _ _ h => by cases h.1) (Or.inl ⟨by rfl, ?q3⟩) HS.out ?_
      case q3 => intro w hSw; obtain ⟨z0, z1, z2, z3⟩ := ZC.out _ hSw; go_simp; rfl
      simp only [Act.put, List.getElem_toArray, List.getElem_cons_zero, List.getElem_cons_succ, List.setIfInBounds_toArray, List.set_cons_zero, List.set_cons_succ]
      refine wpAnyH_take (i := 4) (v := .bool false) rfl (by kernel_rfl) (by kernel_rfl) (by kernel_rfl) (fun _ _ _ h => by cases h.1) (Or.inl ⟨by rfl, ?q4⟩) HS.out ?_
      case q4 => intro w hSw; obtain ⟨z0, z1, z2, z3⟩ := ZC.out _ hSw; go_simp <;> first | rfl | (rw [decide_eq_false hy0]) | (rw [decide_eq_false hyge]) | (simp; done) | (simp; omega)
      simp only [Act.put, List.getElem_toArray, List.getElem_cons_zero, List.getElem_cons_succ, List.setIfInBounds_toArray, List.set_cons_zero, List.set_cons_succ]
      refine wpAnyH_take (i := 5) (v := .bool false) rfl (by kernel_rfl) (by kernel_rfl) (by kernel_rfl) (fun _ _ _ h => by cases h.1) (Or.inl ⟨by rfl, ?q5⟩) HS.out ?_
      case q5 => intro w hSw; obtain ⟨z0, z1, z2, z3⟩ := ZC.out _ hSw; go_simp <;> first | rfl | (rw [decide_eq_false hy0]) | (rw [decide_eq_false hyge]) | (simp; done) | (simp; omega)
      simp only [Act.put, List.getElem_toArray, List.getElem_cons_zero, List.getElem_cons_succ, List.setIfInBounds_toArray, List.set_cons_zero, List.set_cons_succ]
      refine wpAnyH_take (i := 6) (v := ?_) rfl (by kernel_rfl) (by kernel_rfl) (by kernel_rfl) (fun _ _ _ h => by cases h.1) (Or.inl ⟨by rfl, ?q6⟩) HS.out ?_
      case q6 => intro w hSw; obtain ⟨z0, z1, z2, z3⟩ := ZC.out _ hSw; go_simp; rfl
      simp only [Act.put, List.getElem_toArray, List.getElem_cons_zero, List.getElem_cons_succ, List.setIfInBounds_toArray, List.set_cons_zero, List.set_cons_succ]
      refine wpAnyH_take (i := 7) (v := ?_) rfl (by kernel_rfl) (by kernel_rfl) (by kernel_rfl) (fun _ _ _ h => by cases h.1) (Or.inl ⟨by rfl, ?q7⟩) HS.out ?_
      case q7 => intro w hSw; obtain ⟨z0, z1, z2, z3⟩ := ZC.out _ hSw; go_simp; rfl
      simp only [Act.put, List.getElem_toArray, List.getElem_cons_zero, List.getElem_cons_succ, List.setIfInBounds_toArray, List.set_cons_zero, List.set_cons_succ]
      refine wpAnyH_take (i := 8) (v := ?_) rfl (by kernel_rfl) (by kernel_rfl) (by kernel_rfl) (fun _ _ _ h => by cases h.1) (Or.inl ⟨by rfl, ?q8⟩) HS.out ?_
      case q8 => intro w hSw; obtain ⟨z0, z1, z2, z3⟩ := ZC.out _ hSw; go_simp; rfl
      simp only [Act.put, List.getElem_toArray, List.getElem_cons_zero, List.getElem_cons_succ, List.setIfInBounds_toArray, List.set_cons_zero, List.set_cons_succ]
      refine wpAnyH_take (i := 9) (v := ?_) rfl (by kernel_rfl) (by kernel_rfl) (by kernel_rfl) (fun _ _ _ h => by cases h.1) (Or.inl ⟨by rfl, ?q9⟩) HS.out ?_
      case q9 => intro w hSw; obtain ⟨z0, z1, z2, z3⟩ := ZC.out _ hSw; go_simp; rfl
      simp only [Act.put, List.getElem_toArray, List.getElem_cons_zero, List.getElem_cons_succ, List.setIfInBounds_toArray, List.set_cons_zero, List.set_cons_succ]
      refine wpAnyH_take (i := 10) (v := ?_) rfl (by kernel_rfl) (by kernel_rfl) (by kernel_rfl) (fun _ _ _ h => by cases h.1) (Or.inl ⟨by rfl, ?q10⟩) HS.out ?_
      case q10 => intro w hSw; obtain ⟨z0, z1, z2, z3⟩ := ZC.out _ hSw; go_simp; rfl
      simp only [Act.put, List.getElem_toArray, List.getElem_cons_zero, List.getElem_cons_succ, List.setIfInBounds_toArray, List.set_cons_zero, List.set_cons_succ]
      refine wpAnyH_take (i := 11) (v := .bool false) rfl (by kernel_rfl) (by kernel_rfl) (by kernel_rfl) (fun _ _ _ h => by cases h.1) (Or.inl ⟨by rfl, ?q11⟩) HS.out ?_
      case q11 => intro w hSw; obtain ⟨z0, z1, z2, z3⟩ := ZC.out _ hSw; go_simp <;> first | rfl | (rw [decide_eq_false hy0]) | (rw [decide_eq_false hyge]) | (simp; done) | (simp; omega)
      simp only [Act.put, List.getElem_toArray, List.getElem_cons_zero, List.getElem_cons_succ, List.setIfInBounds_toArray, List.set_cons_zero, List.set_cons_succ]
      refine wpAnyH_take (i := 12) (v := .bool false) rfl (by kernel_rfl) (by kernel_rfl) (by kernel_rfl) (fun _ _ _ h => by cases h.1) (Or.inl ⟨by rfl, ?q12⟩) HS.out ?_
      case q12 => intro w hSw; obtain ⟨z0, z1, z2, z3⟩ := ZC.out _ hSw; go_simp <;> first | rfl | (rw [decide_eq_false hy0]) | (rw [decide_eq_false hyge]) | (simp; done) | (simp; omega)
      simp only [Act.put, List.getElem_toArray, List.getElem_cons_zero, List.getElem_cons_succ, List.setIfInBounds_toArray, List.set_cons_zero, List.set_cons_succ]
      refine wpAnyH_take (i := 13) (v := .bool false) rfl (by kernel_rfl) (by kernel_rfl) (by kernel_rfl) (fun _ _ _ h => by cases h.1) (Or.inl ⟨by rfl, ?q13⟩) HS.out ?_
      case q13 => intro w hSw; obtain ⟨z0, z1, z2, z3⟩ := ZC.out _ hSw; go_simp <;> first | rfl | (rw [decide_eq_false hy0]) | (rw [decide_eq_false hyge]) | (simp; done) | (simp; omega)
      simp only [Act.put, List.getElem_toArray, List.getElem_cons_zero, List.getElem_cons_succ, List.setIfInBounds_toArray, List.set_cons_zero, List.set_cons_succ]
      refine wpAnyH_take (i := 14) (v := ?_) rfl (by kernel_rfl) (by kernel_rfl) (by kernel_rfl) (fun _ _ _ h => by cases h.1) (Or.inl ⟨by rfl, ?q14⟩) HS.out ?_
      case q14 => intro w hSw; obtain ⟨z0, z1, z2, z3⟩ := ZC.out _ hSw; go_simp; rfl
      simp only [Act.put, List.getElem_toArray, List.getElem_cons_zero, List.getElem_cons_succ, List.setIfInBounds_toArray, List.set_cons_zero, List.set_cons_succ]
      refine wpAnyH_take (i := 15) (v := ?_) rfl (by kernel_rfl) (by kernel_rfl) (by kernel_rfl) (fun _ _ _ h => by cases h.1) (Or.inl ⟨by rfl, ?q15⟩) HS.out ?_
      case q15 => intro w hSw; obtain ⟨z0, z1, z2, z3⟩ := ZC.out _ hSw; go_simp; rfl
      simp only [Act.put, List.getElem_toArray, List.getElem_cons_zero, List.getElem_cons_succ, List.setIfInBounds_toArray, List.set_cons_zero, List.set_cons_succ]
      refine wpAnyH_take (i := 16) (v := ?_) rfl (by kernel_rfl) (by kernel_rfl) (by kernel_rfl) (fun _ _ _ h => by cases h.1) (Or.inl ⟨by rfl, ?q16⟩) HS.out ?_
      case q16 => intro w hSw; obtain ⟨z0, z1, z2, z3⟩ := ZC.out _ hSw; go_simp; rfl
      simp only [Act.put, List.getElem_toArray, List.getElem_cons_zero, List.getElem_cons_succ, List.setIfInBounds_toArray, List.set_cons_zero, List.set_cons_succ]
      refine wpAnyH_take (i := 17) (v := ?_) rfl (by kernel_rfl) (by kernel_rfl) (by kernel_rfl) (fun _ _ _ h => by cases h.1) (Or.inl ⟨by rfl, ?q17⟩) HS.out ?_
      case q17 => intro w hSw; obtain ⟨z0, z1, z2, z3⟩ := ZC.out _ hSw; go_simp; rfl
      simp only [Act.put, List.getElem_toArray, List.getElem_cons_zero, List.getElem_cons_succ, List.setIfInBounds_toArray, List.set_cons_zero, List.set_cons_succ]
      refine wpAnyH_take (i := 18) (v := ?_) rfl (by kernel_rfl) (by kernel_rfl) (by kernel_rfl) (fun _ _ _ h => by cases h.1) (Or.inl ⟨by rfl, ?q18⟩) HS.out ?_
      case q18 => intro w hSw; obtain ⟨z0, z1, z2, z3⟩ := ZC.out _ hSw; go_simp; rfl
      simp only [Act.put, List.getElem_toArray, List.getElem_cons_zero, List.getElem_cons_succ, List.setIfInBounds_toArray, List.set_cons_zero, List.set_cons_succ]
      refine wpAnyH_take (i := 19) (v := .pointer (some ⟨W3.heap.size + 1, y, none⟩)) rfl (by kernel_rfl) (by kernel_rfl) (by kernel_rfl) (fun _ _ _ h => by cases h.1) (Or.inl ⟨by rfl, ?q19⟩) HS.out ?_
      case q19 => intro w hSw; obtain ⟨z0, z1, z2, z3⟩ := ZC.out _ hSw; go_simp <;> first | rfl | (rw [if_pos hy40i])
      simp only [Act.put, List.getElem_toArray, List.getElem_cons_zero, List.getElem_cons_succ, List.setIfInBounds_toArray, List.set_cons_zero, List.set_cons_succ]
      refine wpAnyH_take (i := 20) (v := ?_) rfl (by kernel_rfl) (by kernel_rfl) (by kernel_rfl) (fun _ _ _ h => by cases h.1) (Or.inl ⟨by rfl, ?q20⟩) HS.out ?_
      case q20 => intro w hSw; obtain ⟨z0, z1, z2, z3⟩ := ZC.out _ hSw; go_simp; rfl
      simp only [Act.put, List.getElem_toArray, List.getElem_cons_zero, List.getElem_cons_succ, List.setIfInBounds_toArray, List.set_cons_zero, List.set_cons_succ]
      refine wpAnyH_take (i := 21) (v := .bool false) rfl (by kernel_rfl) (by kernel_rfl) (by kernel_rfl) (fun _ _ _ h => by cases h.1) (Or.inl ⟨by rfl, ?q21⟩) HS.out ?_
      case q21 => intro w hSw; obtain ⟨z0, z1, z2, z3⟩ := ZC.out _ hSw; go_simp <;> first | rfl | (rw [decide_eq_false hy0]) | (rw [decide_eq_false hyge]) | (simp; done) | (simp; omega)
      simp only [Act.put, List.getElem_toArray, List.getElem_cons_zero, List.getElem_cons_succ, List.setIfInBounds_toArray, List.set_cons_zero, List.set_cons_succ]
      refine wpAnyH_done (by kernel_rfl) ⟨rfl, ?_⟩ _
      have hfz : wr.frozen? ⟨W3.heap.size + 1, y, none⟩ = false := frozen_of_row _ _ _ _ _ Q.out.hs
      obtain ⟨W6, HW6⟩ : ∃ W6, Hid ((wr.setCell ⟨W3.heap.size + 1, y, none⟩ (.bool true)).drew = W6) := ⟨_, rfl⟩
      have Q6 : Hid (Wq w cx n g W3.heap.size (W3.heap.size + 1) l (k + 1) W6) := by
        have kp : ∀ b o, wr.heap[b]? = some o → b ≠ W3.heap.size + 1 → W6.heap[b]? = some o := fun b o h hne => by
          rw [← HW6.out]
          exact (heap_setCell_other _ _ _ _ (fun e => hne e)).trans h
        refine hid ⟨kp _ _ Q.out.hx (by omega), kp _ _ Q.out.hn (by omega), kp _ _ Q.out.hr (by omega), kp _ _ Q.out.hl (by omega), ?_, kp _ _ Q.out.hg hgS, ?_⟩
        · have := heap_setCell_same wr (W3.heap.size + 1) y (sn l k) 4 (.bool true) Q.out.hs
          rw [HST.out] at this
          rw [← HW6.out]
          exact this
        · rw [← HW6.out]
          exact (Q.out.bel.setCell (p := ⟨W3.heap.size + 1, y, none⟩) (by show w.heap.size ≤ W3.heap.size + 1; omega) _).drew
      clear ZC HS
      go_wp2
      rw [HW6.out]
      clear hcs hfz cl cn hce
      have SDX : Hid ((Tryd.prog.info? 23).map (·.size) = some (dc x).length) := hid (by rw [dc_length, HX.out.1]; exact (by kernel_rfl : (Tryd.prog.info? 23).map (·.size) = some 16))
      have ZC : Hid (∀ W' : World, Below W6.heap.size W6 W' → W'.cell? ⟨W3.heap.size, 0, none⟩ = some (.slice (some ⟨g, 0, none⟩) n n) ∧ W'.cell? ⟨w.heap.size + 1, 0, none⟩ = some (.int .i64 (n : Int)) ∧ W'.cell? ⟨g, k, none⟩ = some (.int .i64 (y : Int))) := hid fun W' hh => by
        have q := Q6.out.below hh
        have hc := q.hg.cell (i := k) (by rw [PL.out]; exact hlt)
        rw [HYY.out] at hc
        exact ⟨q.cl, q.cn, hc⟩
      have CRk : Hid (∀ W' : World, Below W6.heap.size W6 W' → Calls Tryd.prog 10 #[.agg (dc x).toArray, .int .i64 (n : Int), .int .i64 (y : Int)] W' fun e w' => e = .returned (.tuple #[.int .i64 (k : Int), .int .i64 0]) ∧ Below W'.heap.size W' w') := hid fun W' hh => rank_ok W' x n y k l HX.out h1 h2 hlk PO.out (by rw [← HYY.out, List.getElem?_eq_getElem (by rw [PL.out]; exact hlt)]; simp [List.getD, List.getElem?_eq_getElem (show k < l.length by rw [PL.out]; exact hlt)]) (HK.out.below (Q6.out.below hh).bel)
      refine rg_held_n (S := fun W' => Below W6.heap.size W6 W') (by kernel_rfl) ((Below.refl _ W6).drew) (fun hHeld => ?_)
      have HS := hid hHeld
      clear hHeld
      change wpAnyH _ _ _ _ _ _ _ _ (World.drew _)
      refine wpAnyH_take (i := 0) rfl (by kernel_rfl) (by kernel_rfl) (by kernel_rfl) (fun _ _ _ h => by cases h.1) (yieldsIf_load_mid (by rfl) 23 _ rfl w.heap.size 0 rfl (dc x) _ (fun W hW => range_of (by rw [hW.block _ (hp_lt Q6.out.hx), HCX.out]; exact Q6.out.hx)) Tryd.underlying23 rfl SDX.out) HS.out ?_
      simp only [Act.put, List.getElem_toArray, List.getElem_cons_zero, List.getElem_cons_succ, List.setIfInBounds_toArray, List.set_cons_zero, List.set_cons_succ]
      refine wpAnyH_take (i := 1) (v := ?_) rfl (by kernel_rfl) (by kernel_rfl) (by kernel_rfl) (fun _ _ _ h => by cases h.1) (Or.inl ⟨by rfl, ?q1⟩) HS.out ?_
      case q1 => intro w hSw; obtain ⟨z0, z1, z2⟩ := ZC.out _ hSw; go_simp; rfl
      simp only [Act.put, List.getElem_toArray, List.getElem_cons_zero, List.getElem_cons_succ, List.setIfInBounds_toArray, List.set_cons_zero, List.set_cons_succ]
      refine wpAnyH_take (i := 2) (v := ?_) rfl (by kernel_rfl) (by kernel_rfl) (by kernel_rfl) (fun _ _ _ h => by cases h.1) (Or.inl ⟨by rfl, ?q2⟩) HS.out ?_
      case q2 => intro w hSw; obtain ⟨z0, z1, z2⟩ := ZC.out _ hSw; go_simp; rfl
      simp only [Act.put, List.getElem_toArray, List.getElem_cons_zero, List.getElem_cons_succ, List.setIfInBounds_toArray, List.set_cons_zero, List.set_cons_succ]
      refine wpAnyH_take (i := 3) (v := ?_) rfl (by kernel_rfl) (by kernel_rfl) (by kernel_rfl) (fun _ _ _ h => by cases h.1) (Or.inl ⟨by rfl, ?q3⟩) HS.out ?_
      case q3 => intro w hSw; obtain ⟨z0, z1, z2⟩ := ZC.out _ hSw; go_simp; rfl
      simp only [Act.put, List.getElem_toArray, List.getElem_cons_zero, List.getElem_cons_succ, List.setIfInBounds_toArray, List.set_cons_zero, List.set_cons_succ]
      refine wpAnyH_take (i := 4) (v := ?_) rfl (by kernel_rfl) (by kernel_rfl) (by kernel_rfl) (fun _ _ _ h => by cases h.1) (Or.inl ⟨by rfl, ?q4⟩) HS.out ?_
      case q4 => intro w hSw; obtain ⟨z0, z1, z2⟩ := ZC.out _ hSw; go_simp; rfl
      simp only [Act.put, List.getElem_toArray, List.getElem_cons_zero, List.getElem_cons_succ, List.setIfInBounds_toArray, List.set_cons_zero, List.set_cons_succ]
      refine wpAnyH_take (i := 5) (v := ?_) rfl (by kernel_rfl) (by kernel_rfl) (by kernel_rfl) (fun _ _ _ h => by cases h.1) (Or.inl ⟨by rfl, ?q5⟩) HS.out ?_
      case q5 => intro w hSw; obtain ⟨z0, z1, z2⟩ := ZC.out _ hSw; go_simp; rfl
      simp only [Act.put, List.getElem_toArray, List.getElem_cons_zero, List.getElem_cons_succ, List.setIfInBounds_toArray, List.set_cons_zero, List.set_cons_succ]
      refine wpAnyH_ready (rs := [6]) (by kernel_rfl) (by simp) ?_
      refine AllReadyH.cons rfl (fun K hK => ?_) AllReadyH.nil
      replace hK := hid hK
      go_simp
      refine (CRk.out _ HS.out).mono ?_
      rintro e W7 ⟨rfl, hB7⟩
      have S7 : Hid (Below W6.heap.size W6 W7) := hid (HS.out.trans (hB7.mono (by exact HS.out.size)))
      clear hB7
      refine hK.out _ _ S7.out (fun _ => ?_)
      clear hK K
      replace HS := S7
      refine wpAnyH_take (i := 7) (v := ?_) rfl (by kernel_rfl) (by kernel_rfl) (by kernel_rfl) (fun _ _ _ h => by cases h.1) (Or.inl ⟨by rfl, ?q7⟩) HS.out ?_
      case q7 => intro w hSw; obtain ⟨z0, z1, z2⟩ := ZC.out _ hSw; go_simp; rfl
      simp only [Act.put, List.getElem_toArray, List.getElem_cons_zero, List.getElem_cons_succ, List.setIfInBounds_toArray, List.set_cons_zero, List.set_cons_succ]
      refine wpAnyH_take (i := 8) (v := ?_) rfl (by kernel_rfl) (by kernel_rfl) (by kernel_rfl) (fun _ _ _ h => by cases h.1) (Or.inl ⟨by rfl, ?q8⟩) HS.out ?_
      case q8 => intro w hSw; obtain ⟨z0, z1, z2⟩ := ZC.out _ hSw; go_simp; rfl
      simp only [Act.put, List.getElem_toArray, List.getElem_cons_zero, List.getElem_cons_succ, List.setIfInBounds_toArray, List.set_cons_zero, List.set_cons_succ]
      refine wpAnyH_take (i := 9) (v := ?_) rfl (by kernel_rfl) (by kernel_rfl) (by kernel_rfl) (fun _ _ _ h => by cases h.1) (Or.inl ⟨by rfl, ?q9⟩) HS.out ?_
      case q9 => intro w hSw; obtain ⟨z0, z1, z2⟩ := ZC.out _ hSw; go_simp; rfl
      simp only [Act.put, List.getElem_toArray, List.getElem_cons_zero, List.getElem_cons_succ, List.setIfInBounds_toArray, List.set_cons_zero, List.set_cons_succ]
      refine wpAnyH_take (i := 10) (v := ?_) rfl (by kernel_rfl) (by kernel_rfl) (by kernel_rfl) (fun _ _ _ h => by cases h.1) (Or.inl ⟨by rfl, ?q10⟩) HS.out ?_
      case q10 => intro w hSw; obtain ⟨z0, z1, z2⟩ := ZC.out _ hSw; go_simp; rfl
      simp only [Act.put, List.getElem_toArray, List.getElem_cons_zero, List.getElem_cons_succ, List.setIfInBounds_toArray, List.set_cons_zero, List.set_cons_succ]
      refine wpAnyH_take (i := 11) (v := ?_) rfl (by kernel_rfl) (by kernel_rfl) (by kernel_rfl) (fun _ _ _ h => by cases h.1) (Or.inl ⟨by rfl, ?q11⟩) HS.out ?_
      case q11 => intro w hSw; obtain ⟨z0, z1, z2⟩ := ZC.out _ hSw; go_simp; rfl
      simp only [Act.put, List.getElem_toArray, List.getElem_cons_zero, List.getElem_cons_succ, List.setIfInBounds_toArray, List.set_cons_zero, List.set_cons_succ]
      refine wpAnyH_done (by kernel_rfl) ⟨rfl, ?_⟩ _
      have Q7 : Hid (Wq w cx n g W3.heap.size (W3.heap.size + 1) l (k + 1) W7) := hid (Q6.out.below HS.out)
      clear CRk ZC HS S7 Q6 Q
      by_cases hk0 : k = 0
      · subst hk0
        go_wp2
        exact ⟨⟨1, by omega, by go_num, Q7⟩, by simp [intOf]; omega⟩
      · go_wp2
        rename_i Kx hKx
        obtain ⟨yp, HYP⟩ : ∃ y, Hid (l.getD (k - 1) 0 = y) := ⟨_, rfl⟩
        have hk1n : k - 1 < n := by omega
        have hyp : yp < n := by rw [← HYP.out]; exact PO.out.at (by omega)
        have HK1 : Hid (IntKind.i64.wrap ((k : Int) - 1) = ((k - 1 : Nat) : Int)) := hid (by rw [IntKind.wrap_i64]; omega)
        obtain ⟨zd, HZD⟩ : ∃ zd, Hid (cellsB zeros32 = zd) := ⟨_, rfl⟩
        obtain ⟨ca, HCA⟩ : ∃ c, Hid (cellsB (rgL x yp) = c) := ⟨_, rfl⟩
        have SDca : Hid ((Tryd.prog.info? 43).map (·.size) = some ca.size) := by rw [← HCA.out, cellsB_size, (rgL_D x yp).1]; exact size_digest
        have ODca : Hid (ca.all (·.oneCell') = true) := by rw [← HCA.out]; exact cellsB_one _
        have ZDca : Hid (zd.size = ca.size) := by rw [← HZD.out, ← HCA.out, cellsB_size, cellsB_size, (rgL_D x yp).1]; exact rfl
        have ZC : Hid (∀ W' : World, Below W7.heap.size W7 W' → W'.cell? ⟨W3.heap.size, 0, none⟩ = some (.slice (some ⟨g, 0, none⟩) n n) ∧ W'.cell? ⟨g, k - 1, none⟩ = some (.int .i64 (yp : Int))) := hid fun W' hh => by
          have q := Q7.out.below hh
          have hc := q.hg.cell (i := k - 1) (by rw [PL.out]; omega)
          rw [HYP.out] at hc
          exact ⟨q.cl, hc⟩
        have CT : Hid (∀ W' : World, Below W7.heap.size W7 W' → Calls Tryd.prog 17 #[.agg (dc x).toArray, .int .u32 (yp : Int)] W' fun e w' => e = .returned (.agg ca) ∧ Below W'.heap.size W' w') := hid fun W' hh => by
          rw [← HCA.out]
          exact tring_any W' x yp HX.out (by omega) (HK.out.below (Q7.out.below hh).bel)
        refine keyed (P := fun d W' => Wq w cx n g W3.heap.size (W3.heap.size + 1) l (k + 1) W' ∧ W7.heap.size ≤ d ∧ W'.heap[d]? = some (.cells ca 43 (0, 0)) ∧ Below W7.heap.size W7 W') (K := Kx) ?A ?key (fun key => ?main)
        case main =>
          refine rg_held_n (S := fun W' => Below W7.heap.size W7 W') (by kernel_rfl) ((Below.refl _ W7).drew) (fun hHeld => ?_)
          have HS := hid hHeld
          clear hHeld
          change wpAnyH _ _ _ _ _ _ _ _ (World.drew _)
          refine wpAnyH_take (i := 0) rfl (by kernel_rfl) (by kernel_rfl) (by kernel_rfl) (fun _ _ _ h => by cases h.1) (yieldsIf_load_mid (by rfl) 23 _ rfl w.heap.size 0 rfl (dc x) _ (fun W hW => range_of (by rw [hW.block _ (hp_lt Q7.out.hx), HCX.out]; exact Q7.out.hx)) Tryd.underlying23 rfl SDX.out) HS.out ?_
          simp only [Act.put, List.getElem_toArray, List.getElem_cons_zero, List.getElem_cons_succ, List.setIfInBounds_toArray, List.set_cons_zero, List.set_cons_succ]
          refine wpAnyH_take (i := 1) (v := ?_) rfl (by kernel_rfl) (by kernel_rfl) (by kernel_rfl) (fun _ _ _ h => by cases h.1) (Or.inl ⟨by rfl, ?q1⟩) HS.out ?_
          case q1 => intro w hSw; obtain ⟨z0, z1⟩ := ZC.out _ hSw; go_simp; rfl
          simp only [Act.put, List.getElem_toArray, List.getElem_cons_zero, List.getElem_cons_succ, List.setIfInBounds_toArray, List.set_cons_zero, List.set_cons_succ]
          refine wpAnyH_take (i := 2) (v := ?_) rfl (by kernel_rfl) (by kernel_rfl) (by kernel_rfl) (fun _ _ _ h => by cases h.1) (Or.inl ⟨by rfl, ?q2⟩) HS.out ?_
          case q2 => intro w hSw; obtain ⟨z0, z1⟩ := ZC.out _ hSw; go_simp; rfl
          simp only [Act.put, List.getElem_toArray, List.getElem_cons_zero, List.getElem_cons_succ, List.setIfInBounds_toArray, List.set_cons_zero, List.set_cons_succ]
          refine wpAnyH_take (i := 3) (v := .int .i64 ((k - 1 : Nat) : Int)) rfl (by kernel_rfl) (by kernel_rfl) (by kernel_rfl) (fun _ _ _ h => by cases h.1) (Or.inl ⟨by rfl, ?q3⟩) HS.out ?_
          case q3 => intro w hSw; obtain ⟨z0, z1⟩ := ZC.out _ hSw; go_simp <;> first | rfl | (rw [HK1.out])
          simp only [Act.put, List.getElem_toArray, List.getElem_cons_zero, List.getElem_cons_succ, List.setIfInBounds_toArray, List.set_cons_zero, List.set_cons_succ]
          refine wpAnyH_take (i := 4) (v := ?_) rfl (by kernel_rfl) (by kernel_rfl) (by kernel_rfl) (fun _ _ _ h => by cases h.1) (Or.inl ⟨by rfl, ?q4⟩) HS.out ?_
          case q4 => intro w hSw; obtain ⟨z0, z1⟩ := ZC.out _ hSw; go_simp; rfl
          simp only [Act.put, List.getElem_toArray, List.getElem_cons_zero, List.getElem_cons_succ, List.setIfInBounds_toArray, List.set_cons_zero, List.set_cons_succ]
          refine wpAnyH_take (i := 5) (v := ?_) rfl (by kernel_rfl) (by kernel_rfl) (by kernel_rfl) (fun _ _ _ h => by cases h.1) (Or.inl ⟨by rfl, ?q5⟩) HS.out ?_
          case q5 => intro w hSw; obtain ⟨z0, z1⟩ := ZC.out _ hSw; go_simp; rfl
          simp only [Act.put, List.getElem_toArray, List.getElem_cons_zero, List.getElem_cons_succ, List.setIfInBounds_toArray, List.set_cons_zero, List.set_cons_succ]
          refine wpAnyH_take (i := 6) (v := .int .u32 ((yp : Nat) : Int)) rfl (by kernel_rfl) (by kernel_rfl) (by kernel_rfl) (fun _ _ _ h => by cases h.1) (Or.inl ⟨by rfl, ?q6⟩) HS.out ?_
          case q6 => intro w hSw; obtain ⟨z0, z1⟩ := ZC.out _ hSw; go_simp <;> first | rfl | (rw [IntKind.wrap_u32]; omega)
          simp only [Act.put, List.getElem_toArray, List.getElem_cons_zero, List.getElem_cons_succ, List.setIfInBounds_toArray, List.set_cons_zero, List.set_cons_succ]
          refine wpAnyH_ready (rs := [7, 8]) (by kernel_rfl) (by simp) ?_
          refine AllReadyH.cons rfl (fun K hK => ?_) (AllReadyH.cons rfl (fun K hK => ?_) AllReadyH.nil)
          · replace hK := hid hK
            go_simp
            refine (CT.out _ HS.out).mono ?_
            rintro e Wc ⟨rfl, hB8⟩
            have S8 : Hid (Below W7.heap.size W7 Wc) := hid (HS.out.trans (hB8.mono HS.out.size))
            clear hB8
            refine hK.out _ _ S8.out (fun _ => ?_)
            clear hK K
            refine wpAnyH_ready (rs := [8]) (by kernel_rfl) (by simp) ?_
            refine AllReadyH.cons rfl (fun K hK => ?_) AllReadyH.nil
            replace hK := hid hK
            rw [if_pos (by rfl)]
            refine wp_alloc_dig rfl ?_
            rw [HZD.out]
            have HSa : Hid (Below W7.heap.size W7 (Wc.alloc (.cells zd 43))) := hid (S8.out.alloc S8.out.size _)
            have HR9 : Hid ((Wc.alloc (.cells zd 43)).heap[Wc.heap.size]? = some (.cells zd 43 (0, 0))) := hid (heap_alloc_new Wc _)
            have hdl : W7.heap.size ≤ Wc.heap.size := S8.out.size
            refine hK.out _ _ HSa.out (fun _ => ?_)
            clear hK K
            try simp only [Act.put, List.getElem_toArray, List.getElem_cons_zero, List.getElem_cons_succ, List.setIfInBounds_toArray, List.set_cons_zero, List.set_cons_succ]
            refine wpAnyH_ready (rs := [9]) (by kernel_rfl) (by simp) ?_
            refine AllReadyH.cons rfl (fun K hK => ?_) AllReadyH.nil
            replace hK := hid hK
            rw [if_pos (by rfl)]
            refine wp_store_row 43 _ _ rfl Wc.heap.size ca rfl rfl 43 _ HR9.out SDca.out ZDca.out ODca.out ?_
            have S9 : Hid (Below W7.heap.size W7 ((Wc.alloc (.cells zd 43)).setRow Wc.heap.size ca)) := hid (below_setRow HSa.out hdl _)
            refine hK.out _ _ S9.out (fun _ => ?_)
            clear hK K
            try simp only [Act.put, List.getElem_toArray, List.getElem_cons_zero, List.getElem_cons_succ, List.setIfInBounds_toArray, List.set_cons_zero, List.set_cons_succ]
            refine wpAnyH_done (by kernel_rfl) ⟨rfl, ?_⟩ _
            have hP := And.intro (Q7.out.below S9.out) (And.intro hdl (And.intro (setRow_heap _ _ _ ca _ _ HR9.out) S9.out))
            show Kx _ _
            revert hP
            clear S9 HR9 HSa hdl
            generalize Wc.heap.size = dd
            intro hP
            exact key dd _ hP
          · replace hK := hid hK
            rw [if_pos (by rfl)]
            refine wp_alloc_dig rfl ?_
            rw [HZD.out]
            obtain ⟨Wa, HWa⟩ : ∃ Wa, Hid (W7.drew.alloc (.cells zd 43) = Wa) := ⟨_, rfl⟩
            rw [HWa.out]
            have Sa : Hid (Below W7.heap.size W7 Wa) := hid (by rw [← HWa.out]; exact HS.out.alloc HS.out.size _)
            have Ra : Hid (Wa.heap[W7.drew.heap.size]? = some (.cells zd 43 (0, 0))) := hid (by rw [← HWa.out]; exact heap_alloc_new W7.drew _)
            refine hK.out _ _ Sa.out (fun _ => ?_)
            clear hK K
            try simp only [Act.put, List.getElem_toArray, List.getElem_cons_zero, List.getElem_cons_succ, List.setIfInBounds_toArray, List.set_cons_zero, List.set_cons_succ]
            replace HS := Sa
            refine wpAnyH_ready (rs := [7]) (by kernel_rfl) (by simp) ?_
            refine AllReadyH.cons rfl (fun K hK => ?_) AllReadyH.nil
            replace hK := hid hK
            go_simp
            refine (CT.out _ HS.out).mono ?_
            rintro e Wc ⟨rfl, hB8⟩
            have S8 : Hid (Below W7.heap.size W7 Wc) := hid (HS.out.trans (hB8.mono HS.out.size))
            have HR9 : Hid (Wc.heap[W7.drew.heap.size]? = some (.cells zd 43 (0, 0))) := hid ((hB8.block _ (hp_lt Ra.out)).trans Ra.out)
            have HSa := S8
            have hdl : W7.heap.size ≤ W7.drew.heap.size := Nat.le_refl _
            clear hB8
            refine hK.out _ _ S8.out (fun _ => ?_)
            clear hK K
            try simp only [Act.put, List.getElem_toArray, List.getElem_cons_zero, List.getElem_cons_succ, List.setIfInBounds_toArray, List.set_cons_zero, List.set_cons_succ]
            refine wpAnyH_ready (rs := [9]) (by kernel_rfl) (by simp) ?_
            refine AllReadyH.cons rfl (fun K hK => ?_) AllReadyH.nil
            replace hK := hid hK
            rw [if_pos (by rfl)]
            refine wp_store_row 43 _ _ rfl W7.drew.heap.size ca rfl rfl 43 _ HR9.out SDca.out ZDca.out ODca.out ?_
            have S9 : Hid (Below W7.heap.size W7 (Wc.setRow W7.drew.heap.size ca)) := hid (below_setRow HSa.out hdl _)
            refine hK.out _ _ S9.out (fun _ => ?_)
            clear hK K
            try simp only [Act.put, List.getElem_toArray, List.getElem_cons_zero, List.getElem_cons_succ, List.setIfInBounds_toArray, List.set_cons_zero, List.set_cons_succ]
            refine wpAnyH_done (by kernel_rfl) ⟨rfl, ?_⟩ _
            have hP := And.intro (Q7.out.below S9.out) (And.intro hdl (And.intro (setRow_heap _ _ _ ca _ _ HR9.out) S9.out))
            show Kx _ _
            have hPd : ∀ dd, W7.heap.size = dd → _ := fun dd hdd => key dd (Wc.setRow dd ca) (by rw [← hdd]; exact hP)
            exact hPd _ rfl
        case key =>
          rintro d W8 ⟨q8, hd8, ha8, b8⟩
          have Q8 := hid q8
          have HA8 := hid ha8
          clear q8 ha8 b8 ZC CT
          refine hKx _ _ ?_
          clear hKx
          go_wp2
          rename_i Kx hKx
          obtain ⟨cb, HCB⟩ : ∃ c, Hid (cellsB (rgL x y) = c) := ⟨_, rfl⟩
          have SDcb : Hid ((Tryd.prog.info? 43).map (·.size) = some cb.size) := by rw [← HCB.out, cellsB_size, (rgL_D x y).1]; exact size_digest
          have ODcb : Hid (cb.all (·.oneCell') = true) := by rw [← HCB.out]; exact cellsB_one _
          have ZDcb : Hid (zd.size = cb.size) := by rw [← HZD.out, ← HCB.out, cellsB_size, cellsB_size, (rgL_D x y).1]; exact rfl
          have ZC : Hid (∀ W' : World, Below W8.heap.size W8 W' → W'.cell? ⟨W3.heap.size, 0, none⟩ = some (.slice (some ⟨g, 0, none⟩) n n) ∧ W'.cell? ⟨g, k, none⟩ = some (.int .i64 (y : Int))) := hid fun W' hh => by
            have q := Q8.out.below hh
            have hc := q.hg.cell (i := k) (by rw [PL.out]; omega)
            rw [HYY.out] at hc
            exact ⟨q.cl, hc⟩
          have CT : Hid (∀ W' : World, Below W8.heap.size W8 W' → Calls Tryd.prog 17 #[.agg (dc x).toArray, .int .u32 (y : Int)] W' fun e w' => e = .returned (.agg cb) ∧ Below W'.heap.size W' w') := hid fun W' hh => by
            rw [← HCB.out]
            exact tring_any W' x y HX.out (by omega) (HK.out.below (Q8.out.below hh).bel)
          refine keyed (P := fun d2 W' => Wq w cx n g W3.heap.size (W3.heap.size + 1) l (k + 1) W' ∧ W8.heap.size ≤ d2 ∧ W'.heap[d2]? = some (.cells cb 43 (0, 0)) ∧ Below W8.heap.size W8 W') (K := Kx) ?B ?key2 (fun key => ?main2)
          case main2 =>
            refine rg_held_n (S := fun W' => Below W8.heap.size W8 W') (by kernel_rfl) ((Below.refl _ W8).drew) (fun hHeld => ?_)
            have HS := hid hHeld
            clear hHeld
            change wpAnyH _ _ _ _ _ _ _ _ (World.drew _)
            refine wpAnyH_take (i := 0) rfl (by kernel_rfl) (by kernel_rfl) (by kernel_rfl) (fun _ _ _ h => by cases h.1) (yieldsIf_load_mid (by rfl) 23 _ rfl w.heap.size 0 rfl (dc x) _ (fun W hW => range_of (by rw [hW.block _ (hp_lt Q8.out.hx), HCX.out]; exact Q8.out.hx)) Tryd.underlying23 rfl SDX.out) HS.out ?_
            simp only [Act.put, List.getElem_toArray, List.getElem_cons_zero, List.getElem_cons_succ, List.setIfInBounds_toArray, List.set_cons_zero, List.set_cons_succ]
            refine wpAnyH_take (i := 1) (v := ?_) rfl (by kernel_rfl) (by kernel_rfl) (by kernel_rfl) (fun _ _ _ h => by cases h.1) (Or.inl ⟨by rfl, ?q1⟩) HS.out ?_
            case q1 => intro w hSw; obtain ⟨z0, z1⟩ := ZC.out _ hSw; go_simp; rfl
            simp only [Act.put, List.getElem_toArray, List.getElem_cons_zero, List.getElem_cons_succ, List.setIfInBounds_toArray, List.set_cons_zero, List.set_cons_succ]
            refine wpAnyH_take (i := 2) (v := ?_) rfl (by kernel_rfl) (by kernel_rfl) (by kernel_rfl) (fun _ _ _ h => by cases h.1) (Or.inl ⟨by rfl, ?q2⟩) HS.out ?_
            case q2 => intro w hSw; obtain ⟨z0, z1⟩ := ZC.out _ hSw; go_simp; rfl
            simp only [Act.put, List.getElem_toArray, List.getElem_cons_zero, List.getElem_cons_succ, List.setIfInBounds_toArray, List.set_cons_zero, List.set_cons_succ]
            refine wpAnyH_take (i := 3) (v := ?_) rfl (by kernel_rfl) (by kernel_rfl) (by kernel_rfl) (fun _ _ _ h => by cases h.1) (Or.inl ⟨by rfl, ?q3⟩) HS.out ?_
            case q3 => intro w hSw; obtain ⟨z0, z1⟩ := ZC.out _ hSw; go_simp; rfl
            simp only [Act.put, List.getElem_toArray, List.getElem_cons_zero, List.getElem_cons_succ, List.setIfInBounds_toArray, List.set_cons_zero, List.set_cons_succ]
            refine wpAnyH_take (i := 4) (v := ?_) rfl (by kernel_rfl) (by kernel_rfl) (by kernel_rfl) (fun _ _ _ h => by cases h.1) (Or.inl ⟨by rfl, ?q4⟩) HS.out ?_
            case q4 => intro w hSw; obtain ⟨z0, z1⟩ := ZC.out _ hSw; go_simp; rfl
            simp only [Act.put, List.getElem_toArray, List.getElem_cons_zero, List.getElem_cons_succ, List.setIfInBounds_toArray, List.set_cons_zero, List.set_cons_succ]
            refine wpAnyH_take (i := 5) (v := .int .u32 ((y : Nat) : Int)) rfl (by kernel_rfl) (by kernel_rfl) (by kernel_rfl) (fun _ _ _ h => by cases h.1) (Or.inl ⟨by rfl, ?q5⟩) HS.out ?_
            case q5 => intro w hSw; obtain ⟨z0, z1⟩ := ZC.out _ hSw; go_simp <;> first | rfl | (rw [IntKind.wrap_u32]; omega)
            simp only [Act.put, List.getElem_toArray, List.getElem_cons_zero, List.getElem_cons_succ, List.setIfInBounds_toArray, List.set_cons_zero, List.set_cons_succ]
            refine wpAnyH_ready (rs := [6, 7]) (by kernel_rfl) (by simp) ?_
            refine AllReadyH.cons rfl (fun K hK => ?_) (AllReadyH.cons rfl (fun K hK => ?_) AllReadyH.nil)
            · replace hK := hid hK
              go_simp
              refine (CT.out _ HS.out).mono ?_
              rintro e Wc ⟨rfl, hB8⟩
              have S8 : Hid (Below W8.heap.size W8 Wc) := hid (HS.out.trans (hB8.mono HS.out.size))
              clear hB8
              refine hK.out _ _ S8.out (fun _ => ?_)
              clear hK K
              refine wpAnyH_ready (rs := [7]) (by kernel_rfl) (by simp) ?_
              refine AllReadyH.cons rfl (fun K hK => ?_) AllReadyH.nil
              replace hK := hid hK
              rw [if_pos (by rfl)]
              refine wp_alloc_dig rfl ?_
              rw [HZD.out]
              have HSa : Hid (Below W8.heap.size W8 (Wc.alloc (.cells zd 43))) := hid (S8.out.alloc S8.out.size _)
              have HR9 : Hid ((Wc.alloc (.cells zd 43)).heap[Wc.heap.size]? = some (.cells zd 43 (0, 0))) := hid (heap_alloc_new Wc _)
              have hdl : W8.heap.size ≤ Wc.heap.size := S8.out.size
              refine hK.out _ _ HSa.out (fun _ => ?_)
              clear hK K
              try simp only [Act.put, List.getElem_toArray, List.getElem_cons_zero, List.getElem_cons_succ, List.setIfInBounds_toArray, List.set_cons_zero, List.set_cons_succ]
              refine wpAnyH_ready (rs := [8]) (by kernel_rfl) (by simp) ?_
              refine AllReadyH.cons rfl (fun K hK => ?_) AllReadyH.nil
              replace hK := hid hK
              rw [if_pos (by rfl)]
              refine wp_store_row 43 _ _ rfl Wc.heap.size cb rfl rfl 43 _ HR9.out SDcb.out ZDcb.out ODcb.out ?_
              have S9 : Hid (Below W8.heap.size W8 ((Wc.alloc (.cells zd 43)).setRow Wc.heap.size cb)) := hid (below_setRow HSa.out hdl _)
              refine hK.out _ _ S9.out (fun _ => ?_)
              clear hK K
              try simp only [Act.put, List.getElem_toArray, List.getElem_cons_zero, List.getElem_cons_succ, List.setIfInBounds_toArray, List.set_cons_zero, List.set_cons_succ]
              refine wpAnyH_done (by kernel_rfl) ⟨rfl, ?_⟩ _
              have hP := And.intro (Q8.out.below S9.out) (And.intro hdl (And.intro (setRow_heap _ _ _ cb _ _ HR9.out) S9.out))
              show Kx _ _
              revert hP
              clear S9 HR9 HSa hdl
              generalize Wc.heap.size = dd
              intro hP
              exact key dd _ hP
            · replace hK := hid hK
              rw [if_pos (by rfl)]
              refine wp_alloc_dig rfl ?_
              rw [HZD.out]
              obtain ⟨Wa, HWa⟩ : ∃ Wa, Hid (W8.drew.alloc (.cells zd 43) = Wa) := ⟨_, rfl⟩
              rw [HWa.out]
              have Sa : Hid (Below W8.heap.size W8 Wa) := hid (by rw [← HWa.out]; exact HS.out.alloc HS.out.size _)
              have Ra : Hid (Wa.heap[W8.drew.heap.size]? = some (.cells zd 43 (0, 0))) := hid (by rw [← HWa.out]; exact heap_alloc_new W8.drew _)
              refine hK.out _ _ Sa.out (fun _ => ?_)
              clear hK K
              try simp only [Act.put, List.getElem_toArray, List.getElem_cons_zero, List.getElem_cons_succ, List.setIfInBounds_toArray, List.set_cons_zero, List.set_cons_succ]
              replace HS := Sa
              refine wpAnyH_ready (rs := [6]) (by kernel_rfl) (by simp) ?_
              refine AllReadyH.cons rfl (fun K hK => ?_) AllReadyH.nil
              replace hK := hid hK
              go_simp
              refine (CT.out _ HS.out).mono ?_
              rintro e Wc ⟨rfl, hB8⟩
              have S8 : Hid (Below W8.heap.size W8 Wc) := hid (HS.out.trans (hB8.mono HS.out.size))
              have HR9 : Hid (Wc.heap[W8.drew.heap.size]? = some (.cells zd 43 (0, 0))) := hid ((hB8.block _ (hp_lt Ra.out)).trans Ra.out)
              have HSa := S8
              have hdl : W8.heap.size ≤ W8.drew.heap.size := Nat.le_refl _
              clear hB8
              refine hK.out _ _ S8.out (fun _ => ?_)
              clear hK K
              try simp only [Act.put, List.getElem_toArray, List.getElem_cons_zero, List.getElem_cons_succ, List.setIfInBounds_toArray, List.set_cons_zero, List.set_cons_succ]
              refine wpAnyH_ready (rs := [8]) (by kernel_rfl) (by simp) ?_
              refine AllReadyH.cons rfl (fun K hK => ?_) AllReadyH.nil
              replace hK := hid hK
              rw [if_pos (by rfl)]
              refine wp_store_row 43 _ _ rfl W8.drew.heap.size cb rfl rfl 43 _ HR9.out SDcb.out ZDcb.out ODcb.out ?_
              have S9 : Hid (Below W8.heap.size W8 (Wc.setRow W8.drew.heap.size cb)) := hid (below_setRow HSa.out hdl _)
              refine hK.out _ _ S9.out (fun _ => ?_)
              clear hK K
              try simp only [Act.put, List.getElem_toArray, List.getElem_cons_zero, List.getElem_cons_succ, List.setIfInBounds_toArray, List.set_cons_zero, List.set_cons_succ]
              refine wpAnyH_done (by kernel_rfl) ⟨rfl, ?_⟩ _
              have hP := And.intro (Q8.out.below S9.out) (And.intro hdl (And.intro (setRow_heap _ _ _ cb _ _ HR9.out) S9.out))
              show Kx _ _
              have hPd : ∀ dd, W8.heap.size = dd → _ := fun dd hdd => key dd (Wc.setRow dd cb) (by rw [← hdd]; exact hP)
              exact hPd _ rfl
          case key2 =>
            rintro d2 W9 ⟨q9, hd9, hb9, b9⟩
            have Q9 := hid q9
            have HB9 := hid hb9
            have HA9 : Hid (W9.heap[d]? = some (.cells ca 43 (0, 0))) := hid ((b9.block _ (hp_lt HA8.out)).trans HA8.out)
            clear q9 hb9 b9 ZC CT
            refine hKx _ _ ?_
            clear hKx
            obtain ⟨hM1, hM2⟩ := rising_ok PO.out (k := k) (by omega) hlt
            rw [HYY.out, HYP.out] at hM1 hM2
            obtain ⟨la, HLA⟩ : ∃ a, Hid (rgL x yp = a) := ⟨_, rfl⟩
            obtain ⟨lb, HLB⟩ : ∃ a, Hid (rgL x y = a) := ⟨_, rfl⟩
            have DA : Hid (D32 la) := by rw [← HLA.out]; exact rgL_D x yp
            have DB : Hid (D32 lb) := by rw [← HLB.out]; exact rgL_D x y
            rw [HLA.out, HLB.out] at hM1 hM2
            rw [HLA.out] at HCA
            rw [HLB.out] at HCB
            have HM1 := hid hM1
            have HM2 := hid hM2
            clear hM1 hM2
            have RA : Hid (∀ W' : World, W'.heap = W9.heap → W'.rangeAt d 0 (dc la)) := hid fun W' hh => range_of (T := 43) (by rw [hh, HCA.out]; exact HA9.out)
            have RB : Hid (∀ W' : World, W'.heap = W9.heap → W'.rangeAt d2 0 (dc lb)) := hid fun W' hh => range_of (T := 43) (by rw [hh, HCB.out]; exact HB9.out)
            have SLa : Hid ((Tryd.prog.info? 43).map (·.size) = some (dc la).length) := size_dig DA.out
            have SLb : Hid ((Tryd.prog.info? 43).map (·.size) = some (dc lb).length) := size_dig DB.out
            have CL : Hid (∀ W' : World, W'.heap = W9.heap → Calls Tryd.prog 18 #[.slice (some ⟨d2, 0, none⟩) 32 32, .slice (some ⟨d, 0, none⟩) 32 32] W' fun e w' => e = .returned (.bool false) ∧ w' = W') := hid fun W' hh => by
              have := less_any W' _ _ lb la (HB.dig DB.out (T := 43) (by rw [hh, HCB.out]; exact HB9.out)) (HB.dig DA.out (T := 43) (by rw [hh, HCA.out]; exact HA9.out))
              rw [HM1.out] at this
              exact this
            have ZC : Hid (∀ W' : World, W'.heap = W9.heap → W'.cell? ⟨W3.heap.size, 0, none⟩ = some (.slice (some ⟨g, 0, none⟩) n n) ∧ W'.cell? ⟨g, k, none⟩ = some (.int .i64 (y : Int)) ∧ W'.cell? ⟨g, k - 1, none⟩ = some (.int .i64 (yp : Int))) := hid fun W' hh => by
              have hc := Q9.out.hg.cell (i := k) (by rw [PL.out]; omega)
              have hc2 := Q9.out.hg.cell (i := k - 1) (by rw [PL.out]; omega)
              have hc3 := Q9.out.cl
              rw [HYY.out] at hc
              rw [HYP.out] at hc2
              simp only [World.cell?, hh] at *
              exact ⟨hc3, hc, hc2⟩
            have HEQ : ∀ W : World, (binOp .eql 43 (.agg (dc la).toArray) (.agg (dc lb).toArray)).run Tryd.prog W = .ok (.bool (decide (la = lb))) W := fun W => run_eql_bytes W 32 43 Tryd.underlying43 la lb DA.out.1 DB.out.1
            by_cases hE : la = lb
            · have hE2 : ¬ (y < yp) := fun h => HM2.out ⟨hE, h⟩
              rw [decide_eq_true hE] at HEQ
              clear hE
              go_wp2
              refine rg_held_n (S := fun W' => W'.heap = W9.heap) (by kernel_rfl) (by exact rfl) (fun hHeld => ?_)
              have HS := hid hHeld
              clear hHeld
              change wpAnyH _ _ _ _ _ _ _ _ (World.drew _)
              refine wpAnyH_take (i := 0) (v := ?_) rfl (by kernel_rfl) (by kernel_rfl) (by kernel_rfl) (fun _ _ _ h => by cases h.1) (Or.inl ⟨by rfl, ?q0⟩) HS.out ?_
              case q0 => intro w hSw; obtain ⟨z0, z1, z2⟩ := ZC.out _ hSw; go_simp; rfl
              simp only [Act.put, List.getElem_toArray, List.getElem_cons_zero, List.getElem_cons_succ, List.setIfInBounds_toArray, List.set_cons_zero, List.set_cons_succ]
              refine wpAnyH_take (i := 1) (v := ?_) rfl (by kernel_rfl) (by kernel_rfl) (by kernel_rfl) (fun _ _ _ h => by cases h.1) (Or.inl ⟨by rfl, ?q1⟩) HS.out ?_
              case q1 => intro w hSw; obtain ⟨z0, z1, z2⟩ := ZC.out _ hSw; go_simp; rfl
              simp only [Act.put, List.getElem_toArray, List.getElem_cons_zero, List.getElem_cons_succ, List.setIfInBounds_toArray, List.set_cons_zero, List.set_cons_succ]
              refine wpAnyH_ready (rs := [2]) (by kernel_rfl) (by simp) ?_
              refine AllReadyH.cons rfl (fun K hK => ?_) AllReadyH.nil
              replace hK := hid hK
              go_simp
              refine (CL.out _ HS.out).mono ?_
              rintro e w' ⟨rfl, hw'⟩
              rw [hw']
              clear hw'
              refine hK.out _ _ HS.out (fun _ => ?_)
              clear hK K
              refine wpAnyH_take (i := 3) (v := ?_) rfl (by kernel_rfl) (by kernel_rfl) (by kernel_rfl) (fun _ _ _ h => by cases h.1) (Or.inl ⟨by rfl, ?q3⟩) HS.out ?_
              case q3 => intro w hSw; obtain ⟨z0, z1, z2⟩ := ZC.out _ hSw; go_simp; rfl
              simp only [Act.put, List.getElem_toArray, List.getElem_cons_zero, List.getElem_cons_succ, List.setIfInBounds_toArray, List.set_cons_zero, List.set_cons_succ]
              refine wpAnyH_take (i := 4) rfl (by kernel_rfl) (by kernel_rfl) (by kernel_rfl) (fun _ _ _ h => by cases h.1) (yieldsIf_load_mid (by rfl) 43 _ rfl d 0 rfl (dc la) _ (fun W hW => RA.out W hW) Tryd.underlying43 rfl SLa.out) HS.out ?_
              simp only [Act.put, List.getElem_toArray, List.getElem_cons_zero, List.getElem_cons_succ, List.setIfInBounds_toArray, List.set_cons_zero, List.set_cons_succ]
              refine wpAnyH_take (i := 5) rfl (by kernel_rfl) (by kernel_rfl) (by kernel_rfl) (fun _ _ _ h => by cases h.1) (yieldsIf_load_mid (by rfl) 43 _ rfl d2 0 rfl (dc lb) _ (fun W hW => RB.out W hW) Tryd.underlying43 rfl SLb.out) HS.out ?_
              simp only [Act.put, List.getElem_toArray, List.getElem_cons_zero, List.getElem_cons_succ, List.setIfInBounds_toArray, List.set_cons_zero, List.set_cons_succ]
              refine wpAnyH_take (i := 6) (v := ?_) rfl (by kernel_rfl) (by kernel_rfl) (by kernel_rfl) (fun _ _ _ h => by cases h.1) (Or.inl ⟨by rfl, ?q6⟩) HS.out ?_
              case q6 => intro w hSw; obtain ⟨z0, z1, z2⟩ := ZC.out _ hSw; go_simp; rfl
              simp only [Act.put, List.getElem_toArray, List.getElem_cons_zero, List.getElem_cons_succ, List.setIfInBounds_toArray, List.set_cons_zero, List.set_cons_succ]
              refine wpAnyH_take (i := 7) (v := ?_) rfl (by kernel_rfl) (by kernel_rfl) (by kernel_rfl) (fun _ _ _ h => by cases h.1) (Or.inl ⟨by rfl, ?q7⟩) HS.out ?_
              case q7 => intro w hSw; obtain ⟨z0, z1, z2⟩ := ZC.out _ hSw; go_simp; rfl
              simp only [Act.put, List.getElem_toArray, List.getElem_cons_zero, List.getElem_cons_succ, List.setIfInBounds_toArray, List.set_cons_zero, List.set_cons_succ]
              refine wpAnyH_take (i := 8) (v := ?_) rfl (by kernel_rfl) (by kernel_rfl) (by kernel_rfl) (fun _ _ _ h => by cases h.1) (Or.inl ⟨by rfl, ?q8⟩) HS.out ?_
              case q8 => intro w hSw; obtain ⟨z0, z1, z2⟩ := ZC.out _ hSw; go_simp; rfl
              simp only [Act.put, List.getElem_toArray, List.getElem_cons_zero, List.getElem_cons_succ, List.setIfInBounds_toArray, List.set_cons_zero, List.set_cons_succ]
              refine wpAnyH_take (i := 9) (v := ?_) rfl (by kernel_rfl) (by kernel_rfl) (by kernel_rfl) (fun _ _ _ h => by cases h.1) (Or.inl ⟨by rfl, ?q9⟩) HS.out ?_
              case q9 => intro w hSw; obtain ⟨z0, z1, z2⟩ := ZC.out _ hSw; go_simp; rfl
              simp only [Act.put, List.getElem_toArray, List.getElem_cons_zero, List.getElem_cons_succ, List.setIfInBounds_toArray, List.set_cons_zero, List.set_cons_succ]
              refine wpAnyH_take (i := 10) (v := ?_) rfl (by kernel_rfl) (by kernel_rfl) (by kernel_rfl) (fun _ _ _ h => by cases h.1) (Or.inl ⟨by rfl, ?q10⟩) HS.out ?_
              case q10 => intro w hSw; obtain ⟨z0, z1, z2⟩ := ZC.out _ hSw; go_simp; rfl
              simp only [Act.put, List.getElem_toArray, List.getElem_cons_zero, List.getElem_cons_succ, List.setIfInBounds_toArray, List.set_cons_zero, List.set_cons_succ]
              refine wpAnyH_take (i := 11) (v := ?_) rfl (by kernel_rfl) (by kernel_rfl) (by kernel_rfl) (fun _ _ _ h => by cases h.1) (Or.inl ⟨by rfl, ?q11⟩) HS.out ?_
              case q11 => intro w hSw; obtain ⟨z0, z1, z2⟩ := ZC.out _ hSw; go_simp; rfl
              simp only [Act.put, List.getElem_toArray, List.getElem_cons_zero, List.getElem_cons_succ, List.setIfInBounds_toArray, List.set_cons_zero, List.set_cons_succ]
              refine wpAnyH_take (i := 12) (v := ?_) rfl (by kernel_rfl) (by kernel_rfl) (by kernel_rfl) (fun _ _ _ h => by cases h.1) (Or.inl ⟨by rfl, ?q12⟩) HS.out ?_
              case q12 => intro w hSw; obtain ⟨z0, z1, z2⟩ := ZC.out _ hSw; go_simp; rfl
              simp only [Act.put, List.getElem_toArray, List.getElem_cons_zero, List.getElem_cons_succ, List.setIfInBounds_toArray, List.set_cons_zero, List.set_cons_succ]
              refine wpAnyH_take (i := 13) (v := ?_) rfl (by kernel_rfl) (by kernel_rfl) (by kernel_rfl) (fun _ _ _ h => by cases h.1) (Or.inl ⟨by rfl, ?q13⟩) HS.out ?_
              case q13 => intro w hSw; obtain ⟨z0, z1, z2⟩ := ZC.out _ hSw; go_simp; rfl
              simp only [Act.put, List.getElem_toArray, List.getElem_cons_zero, List.getElem_cons_succ, List.setIfInBounds_toArray, List.set_cons_zero, List.set_cons_succ]
              refine wpAnyH_take (i := 14) (v := .int .i64 ((k - 1 : Nat) : Int)) rfl (by kernel_rfl) (by kernel_rfl) (by kernel_rfl) (fun _ _ _ h => by cases h.1) (Or.inl ⟨by rfl, ?q14⟩) HS.out ?_
              case q14 => intro w hSw; obtain ⟨z0, z1, z2⟩ := ZC.out _ hSw; go_simp <;> first | rfl | (rw [HK1.out])
              simp only [Act.put, List.getElem_toArray, List.getElem_cons_zero, List.getElem_cons_succ, List.setIfInBounds_toArray, List.set_cons_zero, List.set_cons_succ]
              refine wpAnyH_take (i := 15) (v := ?_) rfl (by kernel_rfl) (by kernel_rfl) (by kernel_rfl) (fun _ _ _ h => by cases h.1) (Or.inl ⟨by rfl, ?q15⟩) HS.out ?_
              case q15 => intro w hSw; obtain ⟨z0, z1, z2⟩ := ZC.out _ hSw; go_simp; rfl
              simp only [Act.put, List.getElem_toArray, List.getElem_cons_zero, List.getElem_cons_succ, List.setIfInBounds_toArray, List.set_cons_zero, List.set_cons_succ]
              refine wpAnyH_take (i := 16) (v := ?_) rfl (by kernel_rfl) (by kernel_rfl) (by kernel_rfl) (fun _ _ _ h => by cases h.1) (Or.inl ⟨by rfl, ?q16⟩) HS.out ?_
              case q16 => intro w hSw; obtain ⟨z0, z1, z2⟩ := ZC.out _ hSw; go_simp; rfl
              simp only [Act.put, List.getElem_toArray, List.getElem_cons_zero, List.getElem_cons_succ, List.setIfInBounds_toArray, List.set_cons_zero, List.set_cons_succ]
              refine wpAnyH_take (i := 17) (v := .bool false) rfl (by kernel_rfl) (by kernel_rfl) (by kernel_rfl) (fun _ _ _ h => by cases h.1) (Or.inl ⟨by rfl, ?q17⟩) HS.out ?_
              case q17 => intro w hSw; obtain ⟨z0, z1, z2⟩ := ZC.out _ hSw; go_simp <;> first | rfl | (rw [decide_eq_false hE2]) | (simp; omega)
              simp only [Act.put, List.getElem_toArray, List.getElem_cons_zero, List.getElem_cons_succ, List.setIfInBounds_toArray, List.set_cons_zero, List.set_cons_succ]
              refine wpAnyH_take (i := 18) (v := .bool false) rfl (by kernel_rfl) (by kernel_rfl) (by kernel_rfl) (fun _ _ _ h => by cases h.1) (Or.inl ⟨by rfl, ?q18⟩) HS.out ?_
              case q18 => intro w hSw; obtain ⟨z0, z1, z2⟩ := ZC.out _ hSw; go_simp <;> rfl
              simp only [Act.put, List.getElem_toArray, List.getElem_cons_zero, List.getElem_cons_succ, List.setIfInBounds_toArray, List.set_cons_zero, List.set_cons_succ]
              refine wpAnyH_take (i := 19) (v := .bool false) rfl (by kernel_rfl) (by kernel_rfl) (by kernel_rfl) (fun _ _ _ h => by cases h.1) (Or.inl ⟨by rfl, ?q19⟩) HS.out ?_
              case q19 => intro w hSw; obtain ⟨z0, z1, z2⟩ := ZC.out _ hSw; go_simp <;> rfl
              simp only [Act.put, List.getElem_toArray, List.getElem_cons_zero, List.getElem_cons_succ, List.setIfInBounds_toArray, List.set_cons_zero, List.set_cons_succ]
              refine wpAnyH_done (by kernel_rfl) ⟨rfl, ?_⟩ _
              clear HS
              go_wp2
              exact ⟨⟨k + 1, by omega, by go_num, hid (Q9.out.below (Below.refl _ W9).drew)⟩, by simp [intOf]; omega⟩
            · rw [decide_eq_false hE] at HEQ
              clear hE
              go_wp2
              refine rg_held_n (S := fun W' => W'.heap = W9.heap) (by kernel_rfl) (by exact rfl) (fun hHeld => ?_)
              have HS := hid hHeld
              clear hHeld
              change wpAnyH _ _ _ _ _ _ _ _ (World.drew _)
              refine wpAnyH_take (i := 0) (v := ?_) rfl (by kernel_rfl) (by kernel_rfl) (by kernel_rfl) (fun _ _ _ h => by cases h.1) (Or.inl ⟨by rfl, ?q0⟩) HS.out ?_
              case q0 => intro w hSw; obtain ⟨z0, z1, z2⟩ := ZC.out _ hSw; go_simp; rfl
              simp only [Act.put, List.getElem_toArray, List.getElem_cons_zero, List.getElem_cons_succ, List.setIfInBounds_toArray, List.set_cons_zero, List.set_cons_succ]
              refine wpAnyH_take (i := 1) (v := ?_) rfl (by kernel_rfl) (by kernel_rfl) (by kernel_rfl) (fun _ _ _ h => by cases h.1) (Or.inl ⟨by rfl, ?q1⟩) HS.out ?_
              case q1 => intro w hSw; obtain ⟨z0, z1, z2⟩ := ZC.out _ hSw; go_simp; rfl
              simp only [Act.put, List.getElem_toArray, List.getElem_cons_zero, List.getElem_cons_succ, List.setIfInBounds_toArray, List.set_cons_zero, List.set_cons_succ]
              refine wpAnyH_ready (rs := [2]) (by kernel_rfl) (by simp) ?_
              refine AllReadyH.cons rfl (fun K hK => ?_) AllReadyH.nil
              replace hK := hid hK
              go_simp
              refine (CL.out _ HS.out).mono ?_
              rintro e w' ⟨rfl, hw'⟩
              rw [hw']
              clear hw'
              refine hK.out _ _ HS.out (fun _ => ?_)
              clear hK K
              refine wpAnyH_take (i := 3) (v := ?_) rfl (by kernel_rfl) (by kernel_rfl) (by kernel_rfl) (fun _ _ _ h => by cases h.1) (Or.inl ⟨by rfl, ?q3⟩) HS.out ?_
              case q3 => intro w hSw; obtain ⟨z0, z1, z2⟩ := ZC.out _ hSw; go_simp; rfl
              simp only [Act.put, List.getElem_toArray, List.getElem_cons_zero, List.getElem_cons_succ, List.setIfInBounds_toArray, List.set_cons_zero, List.set_cons_succ]
              refine wpAnyH_take (i := 4) rfl (by kernel_rfl) (by kernel_rfl) (by kernel_rfl) (fun _ _ _ h => by cases h.1) (yieldsIf_load_mid (by rfl) 43 _ rfl d 0 rfl (dc la) _ (fun W hW => RA.out W hW) Tryd.underlying43 rfl SLa.out) HS.out ?_
              simp only [Act.put, List.getElem_toArray, List.getElem_cons_zero, List.getElem_cons_succ, List.setIfInBounds_toArray, List.set_cons_zero, List.set_cons_succ]
              refine wpAnyH_take (i := 5) rfl (by kernel_rfl) (by kernel_rfl) (by kernel_rfl) (fun _ _ _ h => by cases h.1) (yieldsIf_load_mid (by rfl) 43 _ rfl d2 0 rfl (dc lb) _ (fun W hW => RB.out W hW) Tryd.underlying43 rfl SLb.out) HS.out ?_
              simp only [Act.put, List.getElem_toArray, List.getElem_cons_zero, List.getElem_cons_succ, List.setIfInBounds_toArray, List.set_cons_zero, List.set_cons_succ]
              refine wpAnyH_take (i := 6) (v := ?_) rfl (by kernel_rfl) (by kernel_rfl) (by kernel_rfl) (fun _ _ _ h => by cases h.1) (Or.inl ⟨by rfl, ?q6⟩) HS.out ?_
              case q6 => intro w hSw; obtain ⟨z0, z1, z2⟩ := ZC.out _ hSw; go_simp; rfl
              simp only [Act.put, List.getElem_toArray, List.getElem_cons_zero, List.getElem_cons_succ, List.setIfInBounds_toArray, List.set_cons_zero, List.set_cons_succ]
              refine wpAnyH_take (i := 7) (v := ?_) rfl (by kernel_rfl) (by kernel_rfl) (by kernel_rfl) (fun _ _ _ h => by cases h.1) (Or.inl ⟨by rfl, ?q7⟩) HS.out ?_
              case q7 => intro w hSw; obtain ⟨z0, z1, z2⟩ := ZC.out _ hSw; go_simp; rfl
              simp only [Act.put, List.getElem_toArray, List.getElem_cons_zero, List.getElem_cons_succ, List.setIfInBounds_toArray, List.set_cons_zero, List.set_cons_succ]
              refine wpAnyH_take (i := 8) (v := undef) rfl (by kernel_rfl) (by kernel_rfl) (by kernel_rfl) (fun _ _ _ h => by cases h.1) (Or.inr ⟨by rfl, rfl⟩) HS.out ?_
              simp only [Act.put, List.getElem_toArray, List.getElem_cons_zero, List.getElem_cons_succ, List.setIfInBounds_toArray, List.set_cons_zero, List.set_cons_succ]
              refine wpAnyH_take (i := 9) (v := undef) rfl (by kernel_rfl) (by kernel_rfl) (by kernel_rfl) (fun _ _ _ h => by cases h.1) (Or.inr ⟨by rfl, rfl⟩) HS.out ?_
              simp only [Act.put, List.getElem_toArray, List.getElem_cons_zero, List.getElem_cons_succ, List.setIfInBounds_toArray, List.set_cons_zero, List.set_cons_succ]
              refine wpAnyH_take (i := 10) (v := undef) rfl (by kernel_rfl) (by kernel_rfl) (by kernel_rfl) (fun _ _ _ h => by cases h.1) (Or.inr ⟨by rfl, rfl⟩) HS.out ?_
              simp only [Act.put, List.getElem_toArray, List.getElem_cons_zero, List.getElem_cons_succ, List.setIfInBounds_toArray, List.set_cons_zero, List.set_cons_succ]
              refine wpAnyH_take (i := 11) (v := undef) rfl (by kernel_rfl) (by kernel_rfl) (by kernel_rfl) (fun _ _ _ h => by cases h.1) (Or.inr ⟨by rfl, rfl⟩) HS.out ?_
              simp only [Act.put, List.getElem_toArray, List.getElem_cons_zero, List.getElem_cons_succ, List.setIfInBounds_toArray, List.set_cons_zero, List.set_cons_succ]
              refine wpAnyH_take (i := 12) (v := undef) rfl (by kernel_rfl) (by kernel_rfl) (by kernel_rfl) (fun _ _ _ h => by cases h.1) (Or.inr ⟨by rfl, rfl⟩) HS.out ?_
              simp only [Act.put, List.getElem_toArray, List.getElem_cons_zero, List.getElem_cons_succ, List.setIfInBounds_toArray, List.set_cons_zero, List.set_cons_succ]
              refine wpAnyH_take (i := 13) (v := undef) rfl (by kernel_rfl) (by kernel_rfl) (by kernel_rfl) (fun _ _ _ h => by cases h.1) (Or.inr ⟨by rfl, rfl⟩) HS.out ?_
              simp only [Act.put, List.getElem_toArray, List.getElem_cons_zero, List.getElem_cons_succ, List.setIfInBounds_toArray, List.set_cons_zero, List.set_cons_succ]
              refine wpAnyH_take (i := 14) (v := undef) rfl (by kernel_rfl) (by kernel_rfl) (by kernel_rfl) (fun _ _ _ h => by cases h.1) (Or.inr ⟨by rfl, rfl⟩) HS.out ?_
              simp only [Act.put, List.getElem_toArray, List.getElem_cons_zero, List.getElem_cons_succ, List.setIfInBounds_toArray, List.set_cons_zero, List.set_cons_succ]
              refine wpAnyH_take (i := 15) (v := undef) rfl (by kernel_rfl) (by kernel_rfl) (by kernel_rfl) (fun _ _ _ h => by cases h.1) (Or.inr ⟨by rfl, rfl⟩) HS.out ?_
              simp only [Act.put, List.getElem_toArray, List.getElem_cons_zero, List.getElem_cons_succ, List.setIfInBounds_toArray, List.set_cons_zero, List.set_cons_succ]
              refine wpAnyH_take (i := 16) (v := undef) rfl (by kernel_rfl) (by kernel_rfl) (by kernel_rfl) (fun _ _ _ h => by cases h.1) (Or.inr ⟨by rfl, rfl⟩) HS.out ?_
              simp only [Act.put, List.getElem_toArray, List.getElem_cons_zero, List.getElem_cons_succ, List.setIfInBounds_toArray, List.set_cons_zero, List.set_cons_succ]
              refine wpAnyH_take (i := 17) (v := undef) rfl (by kernel_rfl) (by kernel_rfl) (by kernel_rfl) (fun _ _ _ h => by cases h.1) (Or.inr ⟨by rfl, rfl⟩) HS.out ?_
              simp only [Act.put, List.getElem_toArray, List.getElem_cons_zero, List.getElem_cons_succ, List.setIfInBounds_toArray, List.set_cons_zero, List.set_cons_succ]
              refine wpAnyH_take (i := 18) (v := .bool false) rfl (by kernel_rfl) (by kernel_rfl) (by kernel_rfl) (fun _ _ _ h => by cases h.1) (Or.inl ⟨by rfl, ?q18⟩) HS.out ?_
              case q18 => intro w hSw; obtain ⟨z0, z1, z2⟩ := ZC.out _ hSw; go_simp <;> rfl
              simp only [Act.put, List.getElem_toArray, List.getElem_cons_zero, List.getElem_cons_succ, List.setIfInBounds_toArray, List.set_cons_zero, List.set_cons_succ]
              refine wpAnyH_take (i := 19) (v := .bool false) rfl (by kernel_rfl) (by kernel_rfl) (by kernel_rfl) (fun _ _ _ h => by cases h.1) (Or.inl ⟨by rfl, ?q19⟩) HS.out ?_
              case q19 => intro w hSw; obtain ⟨z0, z1, z2⟩ := ZC.out _ hSw; go_simp <;> rfl
              simp only [Act.put, List.getElem_toArray, List.getElem_cons_zero, List.getElem_cons_succ, List.setIfInBounds_toArray, List.set_cons_zero, List.set_cons_succ]
              refine wpAnyH_done (by kernel_rfl) ⟨rfl, ?_⟩ _
              clear HS
              go_wp2
              exact ⟨⟨k + 1, by omega, by go_num, hid (Q9.out.below (Below.refl _ W9).drew)⟩, by simp [intOf]; omega⟩
    · have hkn : k = n := by omega
      have HXr : Hid (wr.heap[w.heap.size]? = some (.cells cx 23 (0, 0))) := hid Q.out.hx
      have CRd := hid (round_ok wr x n f HX.out h1 h2 hf (HK.out.below Q.out.bel))
      rw [HCX.out] at CRd
      clear hkn
      go_wp2_with (refine wpList_load_row rfl 23 _ rfl w.heap.size rfl 23 cx (0, 0) _ HXr.out Tryd.underlying23 rfl HIx.out ?_)
      refine CRd.out.mono ?_
      rintro e W10 ⟨a, b, c, g2, l2, rfl, ⟨hA, hB, hC, hG⟩, hO2, hR2, hB10⟩
      have el : l2 = l := hO2.uniq PO.out
      rw [el] at hR2
      have Q10 := hid (Q.out.below hB10)
      have R10 := hid hR2
      have hs10 := hB10.size
      have cl10 := Q10.out.cl
      have cn10 := Q10.out.cn
      have hwl : W3.heap.size + 1 < wr.heap.size := hp_lt Q.out.hs
      have hgw : g < wr.heap.size := Q.out.hg.lt
      clear hO2 el hR2 hB10 CRd cl cn
      have hnil := eql_seq2_nil
      go_wp2_with fail
      have CP := hid (lpick_any W10 f n h1 h2 hf)
      refine CP.out.mono ?_
      rintro e W11 ⟨rfl, hw11⟩
      rw [hw11]
      clear hw11 CP hnil
      obtain ⟨f0, HF0⟩ : ∃ f0 : Nat, Hid (f % (n : Int) = (f0 : Int)) := ⟨(f % (n : Int)).toNat, hid (by have := Int.emod_nonneg f (show (n : Int) ≠ 0 by omega); omega)⟩
      have hf0 : f0 < n := by have := Int.emod_lt_of_pos f (show (0 : Int) < n by omega); have := HF0.out; omega
      have R11 := R10.out
      rw [HF0.out, Int.toNat_natCast] at R11
      have R10 := hid R11
      clear R11
      rw [HF0.out]
      obtain ⟨W12, HW12⟩ : ∃ W12, Hid ((W10.alloc (.cells #[.int .i64 (f0 : Int)] 3)).alloc (.cells #[.int .i64 0] 3) = W12) := ⟨_, rfl⟩
      have hB12 : Below W10.heap.size W10 W12 := by rw [← HW12.out]; exact ((Below.refl _ W10).alloc (Nat.le_refl _) _).alloc (by simp) _
      have hN12 : W12.heap[W10.heap.size]? = some (.cells #[.int .i64 (f0 : Int)] 3 (0, 0)) := by rw [← HW12.out, heap_alloc_old _ _ (by simp)]; exact heap_alloc_new W10 _
      have hK12 : W12.heap[W10.heap.size + 1]? = some (.cells #[.int .i64 0] 3 (0, 0)) := by
        rw [← HW12.out]
        have := heap_alloc_new (W10.alloc (.cells #[.int .i64 (f0 : Int)] 3)) (.cells #[.int .i64 0] 3)
        rw [show (W10.alloc (.cells #[.int .i64 (f0 : Int)] 3)).heap.size = W10.heap.size + 1 by simp] at this
        exact this
      have Q12 := Q10.out.below hB12
      have h00 : (f0 + 0) % n = f0 := by rw [Nat.add_zero]; exact Nat.mod_eq_of_lt hf0
      have I12 : Hid (Wr w n g W3.heap.size W10.heap.size (W10.heap.size + 1) l ((f0 + 0) % n) 0 W12) := hid (by rw [h00]; exact ⟨Q12.hn, Q12.hr, Q12.hl, Q12.hg, hN12, hK12, Q12.bel⟩)
      have KR12 : Hid (KD (rdD a b c g2) W10 W12) := hid ⟨hB12.size, fun i hi => hB12.block i (by
        rcases hi with rfl | rfl | rfl | rfl
        · exact hp_lt R10.out.ha
        · exact hp_lt R10.out.hb
        · exact hp_lt R10.out.hc
        · exact hp_lt R10.out.hg)⟩
      have R12 := hid (R10.out.kept KR12.out)
      have HDl : Hid (∀ i, rdD a b c g2 i → i < W12.heap.size ∧ i ≠ W10.heap.size ∧ i ≠ W10.heap.size + 1) := hid fun i hi => by
        have : i < W10.heap.size := by
          rcases hi with rfl | rfl | rfl | rfl
          · exact hp_lt R10.out.ha
          · exact hp_lt R10.out.hb
          · exact hp_lt R10.out.hc
          · exact hp_lt R10.out.hg
        have := hB12.size
        omega
      have hw12 : w.heap.size ≤ W12.heap.size := Q12.bel.size
      have HW12s := hid hw12
      have hs12 : W10.heap.size + 1 < W12.heap.size := hp_lt hK12
      have HS12 := hid hs12
      clear hB12 hN12 hK12 Q12 h00 hw12 hs12
      go_wp2
      rw [HW12.out]
      clear cl10 cn10
      refine (wpIn_wide (n := 3)).1 ?_
      apply range_fit rfl (by decide) (gf := 25) (lb := #[.pointer (some ⟨a, 0, none⟩), .pointer (some ⟨b, 0, none⟩), .pointer (some ⟨c, 0, none⟩)]) rfl trivial (enters_of Tryd.func25 (by kernel_rfl) rfl)
        (round_iter (3 - 1) W12 a b c g2 n f0 l R12.out h1 h2 hf0 PL.out) (KD.refl _ _) (fun i hi => (HDl.out i hi).1) (fun _ _ => rfl)
        (fun i W => Wr w n g W3.heap.size W10.heap.size (W10.heap.size + 1) l ((f0 + i) % n) i W ∧ KD (rdD a b c g2) W12 W)
        (fun _ _ => False)
        (fun s A C row hs hg hr => ⟨hs.1.from HW12s.out hg hr, Nat.le_trans hs.2.1 hg.size, fun i hi => (hg.block i (Nat.lt_of_lt_of_le (HDl.out i hi).1 hs.2.1) fun e => by
          have := (hr i e.symm).1
          have := (HDl.out i hi).1
          omega).trans (hs.2.2 i hi)⟩)
        (fun _ _ _ _ hs _ _ => hs)
        (fun k v _ A C row hs hg hr => hs)
        ⟨I12.out, KD.refl _ _⟩
      case hassign =>
        intro l k v W K hK
        gi_wp2
        exact hK
      case hstop =>
        intro d c W _ h _
        exact h.elim
      case hbody =>
        rintro lp i v W hlp - ⟨hq, hkd⟩ hfit hi'
        subst hfit
        obtain ⟨q, HQ⟩ : ∃ q, Hid ((f0 + i) % n = q) := ⟨_, rfl⟩
        have hqn : q < n := by rw [← HQ.out]; exact Nat.mod_lt _ h1
        obtain ⟨q2, HQ2⟩ : ∃ q, Hid ((f0 + (i + 1)) % n = q) := ⟨_, rfl⟩
        have hti : Int.tmod ((q : Int) + 1) (n : Int) = (q2 : Int) := by
          rw [Int.tmod_eq_emod_of_nonneg (by omega), ← HQ2.out, ← HQ.out, ← Nat.add_assoc, Nat.add_mod]
          simp
        rw [HQ.out] at hq ⊢
        have hqi : ((f0 : Int) + (i : Int)) % (n : Int) = (q : Int) := by
          rw [← HQ.out]
          simp
        rw [hqi]
        clear hqi
        have HWr := hid hq
        have HKD := hid hkd
        have c1 : W.cell? ⟨W10.heap.size, 0, none⟩ = some (.int .i64 (q : Int)) := (cell_of_row _ _ _ _ _ _ hq.hN).trans rfl
        have c2 : W.cell? ⟨W3.heap.size, 0, none⟩ = some (.slice (some ⟨g, 0, none⟩) n n) := (cell_of_row _ _ _ _ _ _ hq.hl).trans rfl
        have c3 := hq.hg.cell (i := q) (by rw [PL.out]; exact hqn)
        have c4 : W.cell? ⟨w.heap.size + 1, 0, none⟩ = some (.int .i64 (n : Int)) := (cell_of_row _ _ _ _ _ _ hq.hn).trans rfl
        have c5 : W.cell? ⟨W10.heap.size + 1, 0, none⟩ = some (.int .i64 (i : Int)) := (cell_of_row _ _ _ _ _ _ hq.hK).trans rfl
        have f1 : W.frozen? ⟨W10.heap.size, 0, none⟩ = false := frozen_of_row _ _ _ _ _ hq.hN
        have f2 : W.frozen? ⟨W10.heap.size + 1, 0, none⟩ = false := frozen_of_row _ _ _ _ _ hq.hK
        generalize l.getD q 0 = y at c3 ⊢
        have hn0 : ¬ (n = 0) := by omega
        have hW2 : w.heap.size + 2 < W10.heap.size := by omega
        have hD9 : ¬ (W10.heap.size = W10.heap.size + 1) := by omega
        have FF : Hid (Wr w n g W3.heap.size W10.heap.size (W10.heap.size + 1) l q2 (i + 1) ((W.setCell ⟨W10.heap.size, 0, none⟩ (.int .i64 (q2 : Int))).setCell ⟨W10.heap.size + 1, 0, none⟩ (.int .i64 ((i + 1 : Nat) : Int)))) := hid (HWr.out.next (by omega) (by omega) (by omega) (by omega) (by omega) (by omega) (by omega) (by omega) (by omega) (by omega) (by omega))
        rw [show ((i + 1 : Nat) : Int) = (i : Int) + 1 by omega] at FF
        obtain ⟨W', HW'⟩ : ∃ W', Hid ((W.setCell ⟨W10.heap.size, 0, none⟩ (.int .i64 (q2 : Int))).setCell ⟨W10.heap.size + 1, 0, none⟩ (.int .i64 ((i : Int) + 1)) = W') := ⟨_, rfl⟩
        rw [HW'.out] at FF
        have FK : Hid (KeepsFrom W12.heap.size W W') := hid (by
          rw [← HW'.out]
          have := HS12.out
          exact (KeepsFrom.of_grownBy (grown_sets W _ _ _) (fun j e => by cases e; omega)).trans (KeepsFrom.of_grownBy (grown_sets _ _ _ _) (fun j e => by cases e; omega)))
        have FD : Hid (KD (rdD a b c g2) W W') := hid (by
          rw [← HW'.out]
          refine ⟨by simp, fun j hj => ?_⟩
          have h9 := HDl.out j hj
          rw [heap_setCell_other _ _ _ _ (fun e => h9.2.2 e), heap_setCell_other _ _ _ _ (fun e => h9.2.1 e)])
        clear hq hkd
        gi_wp2
        rw [HW'.out]
        exact ⟨FK.out, FD.out, by rw [HQ2.out]; exact FF.out, HKD.out.trans FD.out⟩
      case hdone =>
        rintro d W hd ⟨hq, hkd⟩ hdf
        have c1 : W.cell? ⟨W10.heap.size + 1, 0, none⟩ = some (.int .i64 (n : Int)) := (cell_of_row _ _ _ _ _ _ hq.hK).trans rfl
        have c2 : W.cell? ⟨w.heap.size + 1, 0, none⟩ = some (.int .i64 (n : Int)) := (cell_of_row _ _ _ _ _ _ hq.hn).trans rfl
        have c3 : W.cell? ⟨w.heap.size + 2, 0, none⟩ = some (.bool false) := (cell_of_row _ _ _ _ _ _ hq.hr).trans rfl
        have f3 : W.frozen? ⟨w.heap.size + 2, 0, none⟩ = false := frozen_of_row _ _ _ _ _ hq.hr
        have hdd : w.heap.size + 2 < d := by have := HS12.out; omega
        have HM8 : Hid ((W.setCell ⟨w.heap.size + 2, 0, none⟩ (.bool true)).heap[d]? = some (.deferred (some []))) := hid ((heap_setCell_other _ _ _ _ (fun e => by simp at e; omega)).trans hdf)
        have CX : Hid ((W.setCell ⟨w.heap.size + 2, 0, none⟩ (.bool true)).cell? ⟨w.heap.size + 2, 0, none⟩ = some (.bool true)) := hid (World.cell?_setCell_same _ _ _ c3)
        have B8 : Hid (Below w.heap.size w (W.setCell ⟨w.heap.size + 2, 0, none⟩ (.bool true))) := hid (hq.bel.setCell (p := ⟨w.heap.size + 2, 0, none⟩) (by show w.heap.size ≤ w.heap.size + 2; omega) _)
        clear hq hkd hdf
        go_wp2
        refine ⟨by simp, .inl ⟨_, _, rfl, run_takeDeferred HM8.out, ?_⟩⟩
        exact ⟨_, rbool_res rfl _ _ (w.heap.size + 2) true rfl ((rcell_put (by show w.heap.size + 2 ≠ d; omega) _).trans CX.out), rfl, rbel_put B8.out (by omega) _⟩
set_option maxRecDepth 100000 in
set_option maxHeartbeats 4000000 in
theorem rwhole_bad (w : World) (x : List Int) (n f : Int) (hx : X16 x) (hn : n < 1 ∨ 32 < n) (hk : KC w) :
    Calls Tryd.prog 5 #[.agg (cellsB x), .int .i64 n, .int .i64 f] w fun e w' => e = .returned (.bool true) ∧ Below w.heap.size w w' := by
  have HIx := hid (size_ix hx)
  obtain ⟨cx, HCX⟩ : ∃ c, Hid (cellsB x = c) := ⟨_, rfl⟩
  rw [HCX.out] at HIx
  rw [HCX.out]
  have HX := hid hx
  have HK := hid hk
  obtain ⟨W1, HW1⟩ : ∃ W1, Hid (((w.alloc (.cells cx 23)).alloc (.cells #[.int .i64 n] 3)).alloc (.cells #[.bool false] 4) = W1) := ⟨_, rfl⟩
  have e0 : (w.alloc (.cells cx 23)).heap.size = w.heap.size + 1 := by simp
  have e1 : ((w.alloc (.cells cx 23)).alloc (.cells #[.int .i64 n] 3)).heap.size = w.heap.size + 2 := by simp
  have HB1 : Hid (Below w.heap.size w W1) := by rw [← HW1.out]; exact (((Below.refl _ w).alloc (Nat.le_refl _) _).alloc (by simp) _).alloc (by simp; omega) _
  have X1 : Hid (W1.heap[w.heap.size]? = some (.cells cx 23 (0, 0))) := by rw [← HW1.out]; refine hid ?_; rw [heap_alloc_old _ _ (by simp; omega), heap_alloc_old _ _ (by simp)]; exact heap_alloc_new w _
  have N1 : Hid (W1.heap[w.heap.size + 1]? = some (.cells #[.int .i64 n] 3 (0, 0))) := by
    rw [← HW1.out]
    refine hid ?_
    rw [heap_alloc_old _ _ (by rw [e1]; omega), ← e0]
    exact heap_alloc_new _ _
  have R1 : Hid (W1.heap[w.heap.size + 2]? = some (.cells #[.bool false] 4 (0, 0))) := by
    rw [← HW1.out, ← e1]
    exact heap_alloc_new _ _
  have s1 : w.heap.size + 2 < W1.heap.size := hp_lt R1.out
  have CA := hid (awake_any W1 (HK.out.below HB1.out))
  have HN := hid hn
  clear hx hk hn
  go_enter Tryd.func5, Tryd.ntmps5
  go_wp2_with fail
  rw [HW1.out]
  refine CA.out.mono ?_
  rintro e W2 ⟨rfl, hB2⟩
  have HB2 : Hid (Below w.heap.size w W2) := HB1.out.trans (hB2.mono HB1.out.size)
  have X2 : Hid (W2.heap[w.heap.size]? = some (.cells cx 23 (0, 0))) := (hB2.block _ (by omega)).trans X1.out
  have N2 : Hid (W2.heap[w.heap.size + 1]? = some (.cells #[.int .i64 n] 3 (0, 0))) := (hB2.block _ (by omega)).trans N1.out
  have R2 : Hid (W2.heap[w.heap.size + 2]? = some (.cells #[.bool false] 4 (0, 0))) := (hB2.block _ (by omega)).trans R1.out
  have s2 : w.heap.size + 2 < W2.heap.size := hp_lt R2.out
  have cn2 : W2.cell? ⟨w.heap.size + 1, 0, none⟩ = some (.int .i64 n) := (cell_of_row _ _ _ _ _ _ N2.out).trans rfl
  clear hB2 CA X1 N1 R1
  have C2 := hid (order_bad W2 x n HX.out HN.out)
  rw [HCX.out] at C2
  go_wp2_with (refine wpList_load_row rfl 23 _ rfl w.heap.size rfl 23 cx (0, 0) _ X2.out Tryd.underlying23 rfl HIx.out ?_)
  refine C2.out.mono ?_
  rintro e W3 ⟨rfl, hB3⟩
  have N3 : Hid (W3.heap[w.heap.size + 1]? = some (.cells #[.int .i64 n] 3 (0, 0))) := (hB3.block _ (by omega)).trans N2.out
  have R3 : Hid (W3.heap[w.heap.size + 2]? = some (.cells #[.bool false] 4 (0, 0))) := (hB3.block _ (by omega)).trans R2.out
  have s3 := hB3.size
  obtain ⟨W4, HW4⟩ : ∃ W4, Hid (W3.alloc (.cells #[.slice none 0 0] 24) = W4) := ⟨_, rfl⟩
  have hB4 : Below W3.heap.size W3 W4 := by rw [← HW4.out]; exact (Below.refl _ W3).alloc (Nat.le_refl _) _
  have HB4 : Hid (Below w.heap.size w W4) := (HB2.out.trans (hB3.mono HB2.out.size)).trans (hB4.mono (by have := HB2.out.size; omega))
  have c1 : W4.cell? ⟨W3.heap.size, 0, none⟩ = some (.slice none 0 0) := by rw [← HW4.out]; exact (cell_of_row _ _ _ _ _ _ (heap_alloc_new W3 _)).trans rfl
  have c2 : W4.cell? ⟨w.heap.size + 1, 0, none⟩ = some (.int .i64 n) := (hB4.cell (show w.heap.size + 1 < W3.heap.size by omega)).trans ((cell_of_row _ _ _ _ _ _ N3.out).trans rfl)
  have R4 : W4.heap[w.heap.size + 2]? = some (.cells #[.bool false] 4 (0, 0)) := (hB4.block _ (by omega)).trans R3.out
  have c3 : W4.cell? ⟨w.heap.size + 2, 0, none⟩ = some (.bool false) := (cell_of_row _ _ _ _ _ _ R4).trans rfl
  have f3 : W4.frozen? ⟨w.heap.size + 2, 0, none⟩ = false := frozen_of_row _ _ _ _ _ R4
  have CX : Hid ((W4.setCell ⟨w.heap.size + 2, 0, none⟩ (.bool true)).cell? ⟨w.heap.size + 2, 0, none⟩ = some (.bool true)) := hid (World.cell?_setCell_same _ _ _ c3)
  have B8 : Hid (Below w.heap.size w (W4.setCell ⟨w.heap.size + 2, 0, none⟩ (.bool true))) := hid (HB4.out.setCell (p := ⟨w.heap.size + 2, 0, none⟩) (by show w.heap.size ≤ w.heap.size + 2; omega) _)
  rw [← HW4.out] at c1 c2 c3 f3 CX B8
  clear hB3 hB4 C2 R4 cn2
  by_cases h1 : n < 1
  · go_wp2
    refine bodyPost_ret (rbool_res rfl _ _ (w.heap.size + 2) true rfl CX.out) rfl ?_
    exact ⟨rfl, B8.out⟩
  · have h2 : 32 < n := by have := HN.out; omega
    go_wp2
    refine bodyPost_ret (rbool_res rfl _ _ (w.heap.size + 2) true rfl CX.out) rfl ?_
    exact ⟨rfl, B8.out⟩
theorem rwhole_walk (w : World) (x : List Int) (n f : Int) (hx : X16 x) (hf : -9223372036854775808 ≤ f ∧ f < 9223372036854775808) (hk : KC w) :
    Calls Tryd.prog 5 #[.agg (cellsB x), .int .i64 n, .int .i64 f] w fun e w' => e = .returned (.bool true) ∧ Below w.heap.size w w' := by
  by_cases hn : 1 ≤ n ∧ n ≤ 32
  · obtain ⟨m, rfl⟩ : ∃ m : Nat, n = (m : Int) := ⟨n.toNat, by omega⟩
    exact rwhole_ok w x m f hx (by omega) (by omega) hf hk
  · exact rwhole_bad w x n f hx (by omega) hk
end Go.Proofs.YtjdfclbjmmmcfaaDoor
namespace Go.Proofs.YtjdfclbjmmmcfaaDoor
open Go Go.RowKit Go.ChangeShapes Go.WideShapes Go.ChangeAt
def shaLaid : List (String × DataW Unit) := [("strongroom/sha.constants", Rows.laid_strongroom_sha_constants)]
theorem gK : Tryd.prog.globalNamed "strongroom/sha.constants" = some 1 := by kernel_rfl
theorem tK : (Tryd.prog.globals[1]?).map (·.type) = some 115 := by kernel_rfl
theorem cK : Tryd.prog.cellsOf 45 = 1 := by kernel_rfl
theorem dK : (Rows.laid_strongroom_sha_constants : DataW Unit) = .agg (kW.map fun x : Nat => .lit (.int .u32 (x : Int))) := by kernel_rfl
theorem kc_of_laid {W : World} (h : laidMetH Tryd.prog shaLaid W) : KC W := by
  rw [MakeChecks.laidMetH_plain _ _ _ (by kernel_rfl)] at h
  obtain ⟨ps, ⟨g0, t0, cs0, f0, p0, q0, hg0, ht0, hv0, hd0, _, _⟩, _, _⟩ := h
  obtain rfl := Option.some.inj (gK.symm.trans hg0)
  obtain rfl := Option.some.inj (tK.symm.trans ht0)
  obtain ⟨xs, m, rfl, hx, hlen, hn, hel⟩ := DataW.trod_array Tryd.underlying115 hd0
  intro t ht
  have h1 := hel t ht
  have hxt : xs[t]? = some xs[t] := List.getElem?_eq_getElem (by omega)
  rw [cK, hxt] at h1
  obtain ⟨k, e1, e2, _⟩ := DataW.trod_int Tryd.underlying45 h1
  simp only [Prod.mk.injEq] at hx
  have hd := hx.1
  rw [dK] at hd
  simp only [DataW.agg.injEq] at hd
  have hd2 : (kW.map fun x : Nat => (DataW.lit (.int .u32 (x : Int)) : DataW Unit))[t]? = (xs.map (·.1))[t]? := by rw [hd]
  have hkt : t < kW.length := by rw [kW_length]; exact ht
  rw [List.getElem?_map, List.getElem?_map, hxt, List.getElem?_eq_getElem hkt] at hd2
  simp only [Option.map_some, Option.some.injEq, e2, DataW.lit.injEq, Lit.int.injEq, true_and] at hd2
  have hv := World.var?_cell hg0 hv0 t
  have hcs : cs0[t]? = some (.int .u32 k) := by
    have : ((cs0.toList.drop (t * 1)).take 1)[0]? = some (.int .u32 k) := by rw [e1]; rfl
    simpa using this
  rw [hv, hcs, ← hd2]
  simp [List.getD, List.getElem?_eq_getElem hkt]
end Go.Proofs.YtjdfclbjmmmcfaaDoor
