/- lives of wire's law. -/
import Derived.Test.YtmegeogfpkdodaaWrPM
import Derived.Test.YtmegeogfpkdodaaSameBytes
set_option linter.unusedVariables false
set_option linter.unusedSimpArgs false
namespace Go.Proofs.Ytmegeogfpkdodaa
open Go Go.RowKit

theorem lay_lives : layP 5 [] [170] = [5, 0, 0, 0, 1, 170] := by decide
theorem lay_lives1 : layP 1 [0, 3] [] = [1, 2, 0, 3] := by decide
theorem good_lives : rpGood [5, 0, 0, 0, 1, 170] 5 [] [170] := by
  rw [← lay_lives]
  exact good_layP 5 [] [170] (by decide) (by decide) (by decide)
theorem HB.lit {w : World} {b : Nat} {l : List Int} (h : w.heap[b]? = some (.cells (l.map (Value.int .u8)).toArray 5 (0, 0))) (hl : l.length ≤ 1000) (hb : ∀ x ∈ l, 0 ≤ x ∧ x < 256) : HB w (.slice (some ⟨b, 0, none⟩) l.length l.length) l := by
  refine ⟨⟨_, _, rfl, Nat.le_refl _, by unfold maxLen; omega, (fun e => by cases e), fun _ => ⟨b, 0, rfl, fun j hj => ?_⟩⟩, hb⟩
  rw [cell_of_row _ _ _ _ _ _ h, Nat.zero_add, List.getElem?_toArray, List.getElem?_map, List.getElem?_eq_getElem hj, getD_of_lt hj]
  rfl
theorem I.HB.lit {w : World} {b : Nat} {l : List Int} (h : w.heap[b]? = some (.cells (l.map (Value.int .i64)).toArray 3 (0, 0))) (hl : l.length ≤ 1000) (hb : ∀ x ∈ l, -9223372036854775808 ≤ x ∧ x < 9223372036854775808) : I.HB w (.slice (some ⟨b, 0, none⟩) l.length l.length) l := by
  refine ⟨⟨_, _, rfl, Nat.le_refl _, by unfold maxLen; omega, (fun e => by cases e), fun _ => ⟨b, 0, rfl, fun j hj => ?_⟩⟩, hb⟩
  rw [cell_of_row _ _ _ _ _ _ h, Nat.zero_add, List.getElem?_toArray, List.getElem?_map, List.getElem?_eq_getElem hj, getD_of_lt hj]
  rfl
set_option maxRecDepth 100000 in
theorem run_build_p1 (w : World) (p : Option Addr) (n c : Nat) : (Instr.build 42 #[(0, .int .u8 1), (1, .slice p n c)]).run Try.prog w = .ok (.agg (rpA 1 (.slice p n c) (.slice none 0 0))) w := by
  kernel_rfl
set_option maxRecDepth 100000 in
set_option maxHeartbeats 8000000 in
theorem lives_any (w : World) : Calls Try.prog 8 #[] w fun e w' => e = .returned (.bool true) ∧ Below w.heap.size w w' := by
  obtain ⟨W1, HW1⟩ : ∃ W : World, Hid (w.alloc (.cells #[.int .i64 0, .int .i64 3] 3) = W) := ⟨_, hid rfl⟩
  have B1 : Hid (Below w.heap.size w W1) := by rw [← HW1.out]; exact hid ((Below.refl _ w).alloc (Nat.le_refl _) _)
  have hn1 : I.HB W1 (.slice (some ⟨w.heap.size, 0, none⟩) 2 2) [0, 3] := I.HB.lit (l := [0, 3]) (by rw [← HW1.out]; exact heap_alloc_new w _) (by decide) (by decide)
  have C1 := hid (putRep_any W1 1 (by decide) _ (.slice none 0 0) [0, 3] [] hn1 (HB.nil W1))
  obtain ⟨m, HM⟩ : ∃ m, Hid (rpA 1 (.slice (some ⟨w.heap.size, 0, none⟩) 2 2) (.slice none 0 0) = m) := ⟨_, hid rfl⟩
  have hbd := hid fun W => run_build_p1 W (some ⟨w.heap.size, 0, none⟩) 2 2
  rw [HM.out] at C1 hbd
  go_enter Try.func8, Try.ntmps8
  go_wp2_with (first | rw [HW1.out] | (refine wpList_buildQ rfl 42 _ rfl #[(0, .int .u8 1), (1, .slice (some ⟨w.heap.size, 0, none⟩) 2 2)] (by go_simp) _ (hbd.out _) ?_) | fail)
  refine C1.out.mono ?_
  rintro e w2 ⟨q2, hb2⟩
  rcases q2 with ⟨q2, -⟩ | ⟨-, v2, rfl, ho2⟩
  · exact absurd q2 (by decide)
  rw [lay_lives1] at ho2
  have H2 : Hid (HB w2 v2 [1, 2, 0, 3]) := hid (HB.of_own ho2 (by decide))
  have B2 : Hid (Below w.heap.size w w2) := hid (B1.out.trans (hb2.mono B1.out.size))
  obtain ⟨p2, c2, e2, -, -⟩ := H2.out.open
  have e2' : v2 = .slice p2 4 c2 := e2
  clear ho2 hb2 C1 hbd e2
  subst e2'
  obtain ⟨W3, HW3⟩ : ∃ W : World, Hid (w2.alloc (.cells #[.int .u8 5, .int .u8 0, .int .u8 0, .int .u8 0, .int .u8 1, .int .u8 170] 5) = W) := ⟨_, hid rfl⟩
  have B3 : Hid (Below w2.heap.size w2 W3) := by rw [← HW3.out]; exact hid ((Below.refl _ w2).alloc (Nat.le_refl _) _)
  have C3 := hid (reply_any W3 (.slice (some ⟨w2.heap.size, 0, none⟩) 6 6) [5, 0, 0, 0, 1, 170] (HB.lit (l := [5, 0, 0, 0, 1, 170]) (by rw [← HW3.out]; exact heap_alloc_new w2 _) (by decide) (by decide)) (by decide))
  go_wp2_with (first | rw [HW3.out] | fail)
  refine C3.out.mono ?_
  rintro e w4 ⟨q4, hb4⟩
  rcases q4 with ⟨p, q4, -⟩ | ⟨k, ns, b, vn, v, Bb, Bn, q4, rfl, n1, n2, n3, q5, q6, q7⟩
  · exact absurd good_lives (fun g => bad_goodP q4 g)
  obtain ⟨rfl, rfl, rfl⟩ := good_oneP q4 good_lives
  have H4 : HB w4 v [170] := HB.of_own q5 (by decide)
  have B24 : Hid (Below w2.heap.size w2 w4) := hid (B3.out.trans (hb4.mono B3.out.size))
  obtain ⟨pv, cv, ev, -, -⟩ := H4.open
  have ev' : v = .slice pv 1 cv := ev
  obtain ⟨pn, cn, en⟩ := own_slice n1
  have en' : vn = .slice pn 0 cn := en
  clear ev en q4 n1 n2 n3 q5 q6 q7 hb4 C3
  subst ev' en'
  obtain ⟨W5, HW5⟩ : ∃ W : World, Hid (w4.alloc (.cells zrep 42) = W) := ⟨_, hid rfl⟩
  obtain ⟨r, HR⟩ : ∃ m, Hid (rpA 5 (.slice pn 0 cn) (.slice pv 1 cv) = m) := ⟨_, hid rfl⟩
  have hr1 : Hid (r.all (·.oneCell') = true) := hid (by rw [← HR.out]; exact rpA_one _ _ _ rfl rfl)
  have hrs : Hid (r.size = 3) := hid (by rw [← HR.out]; rfl)
  have hz5 : Hid (W5.heap[w4.heap.size]? = some (.cells zrep 42 (0, 0))) := hid (by rw [← HW5.out]; exact heap_alloc_new w4 _)
  have B5 : Hid (Below w4.heap.size w4 W5) := by rw [← HW5.out]; exact hid ((Below.refl _ w4).alloc (Nat.le_refl _) _)
  obtain ⟨W6, HW6⟩ : ∃ W : World, Hid (W5.setRow w4.heap.size r = W) := ⟨_, hid rfl⟩
  have hz6 : W6.heap[w4.heap.size]? = some (.cells r 42 (0, 0)) := by rw [← HW6.out]; exact setRow_heap _ _ _ _ _ _ hz5.out
  have B46 : Hid (Below w4.heap.size w4 W6) := hid (B5.out.trans (by rw [← HW6.out]; exact (ex_setRow (Ex.refl (fun k => k = w4.heap.size) W5) rfl r).below B5.out.size (fun k e => by omega)))
  have SR : Hid ((Try.prog.info? 42).map (·.size) = some 3) := hid (by kernel_rfl)
  have k0 : W6.cell? ⟨w4.heap.size, 0, none⟩ = some (.int .u8 5) := by rw [cell_of_row _ _ _ _ _ _ hz6, ← HR.out]; rfl
  have k2 : W6.cell? ⟨w4.heap.size, 2, none⟩ = some (.slice pv 1 cv) := by rw [cell_of_row _ _ _ _ _ _ hz6, ← HR.out]; rfl
  have H6 := H4.below B46.out
  obtain ⟨bv, ov, cv', ev, _, _, hcv⟩ := H6.ne (by decide)
  have hc0 : W6.cell? ⟨bv, ov, none⟩ = some (.int .u8 170) := hcv 0 (by decide)
  cases ev
  have H26 : Hid (HB W6 (.slice p2 4 c2) [1, 2, 0, 3]) := hid ((H2.out.below B24.out).below B46.out)
  have BF : Hid (Below w.heap.size w W6) := hid (B2.out.trans ((B24.out.mono B2.out.size).trans (B46.out.mono (Nat.le_trans B2.out.size B24.out.size))))
  rw [HR.out]
  clear H4 H6 hcv hz6
  go_wp2_with (first | rw [HW5.out] | (refine wpList_store_row rfl 42 _ _ rfl w4.heap.size r rfl rfl 42 zrep hz5.out (by rw [hrs.out]; exact SR.out) (by rw [hrs.out]; rfl) hr1.out ?_; rw [HW6.out]) | fail)
  obtain ⟨W7, HW7⟩ : ∃ W : World, Hid (W6.alloc (.cells #[.int .u8 1, .int .u8 2, .int .u8 0, .int .u8 3] 5) = W) := ⟨_, hid rfl⟩
  rw [HW7.out]
  have B7 : Hid (Below W6.heap.size W6 W7) := by rw [← HW7.out]; exact hid ((Below.refl _ W6).alloc (Nat.le_refl _) _)
  have C7 := hid (sameBytes_any W7 (.slice p2 4 c2) (.slice (some ⟨W6.heap.size, 0, none⟩) 4 4) [1, 2, 0, 3] [1, 2, 0, 3] (H26.out.below B7.out) (HB.lit (l := [1, 2, 0, 3]) (by rw [← HW7.out]; exact heap_alloc_new W6 _) (by decide) (by decide)))
  have j0 := (B7.out.cell (p := ⟨w4.heap.size, 0, none⟩) (World.block_lt_of_cell? W6 _ k0)).trans k0
  have j2 := (B7.out.cell (p := ⟨w4.heap.size, 2, none⟩) (World.block_lt_of_cell? W6 _ k2)).trans k2
  have jc := (B7.out.cell (p := ⟨bv, ov, none⟩) (World.block_lt_of_cell? W6 _ hc0)).trans hc0
  have BF7 : Hid (Below w.heap.size w W7) := hid (BF.out.trans (B7.out.mono BF.out.size))
  clear k0 k2 hc0
  refine C7.out.mono ?_
  rintro e w8 ⟨rfl, d8⟩
  have j0' := (d8.cell ⟨w4.heap.size, 0, none⟩).trans j0
  have j2' := (d8.cell ⟨w4.heap.size, 2, none⟩).trans j2
  have jc' := (d8.cell ⟨bv, ov, none⟩).trans jc
  have BF8 : Hid (Below w.heap.size w w8) := hid (BF7.out.trans ((d8.below _).mono (Nat.le_refl _)))
  clear j0 j2 jc C7
  simp only [decide_true]
  go_wp2_with fail
  go_ret
  exact ⟨rfl, BF8.out⟩
set_option maxRecDepth 100000 in
theorem wnames_walk (w : World) : Calls Try.prog 7 #[] w fun e w' => e = .returned (.bool true) ∧ Below w.heap.size w w' := by
  have C := hid (lives_any w)
  go_enter Try.func7, Try.ntmps7
  go_wp2_with fail
  refine C.out.mono ?_
  rintro e w1 ⟨rfl, hb⟩
  have HB := hid hb
  clear hb C
  go_wp2_with fail
  go_ret
  exact ⟨rfl, HB.out⟩
end Go.Proofs.Ytmegeogfpkdodaa
