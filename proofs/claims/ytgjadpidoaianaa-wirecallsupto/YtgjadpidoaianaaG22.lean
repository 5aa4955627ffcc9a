/- Of the road to wireCallsUpto_holds: WrRRp5. -/
import Derived.Test.YtgjadpidoaianaaG14
set_option linter.unusedVariables false
set_option linter.unusedSimpArgs false
namespace Go.Proofs.Ytgjadpidoaianaa
open Go Go.RowKit
set_option maxRecDepth 100000 in
set_option maxHeartbeats 32000000 in
theorem rrep_5s (w : World) (v : Value) (l : List Int) (h : HB w v l) (hl : 0 < l.length) (hk : l.getD 0 0 = 5) (hs : l.length < 5) :
    Calls Try.prog 27 #[v] w fun e w' => DocP w l e w' ∧ Below w.heap.size w w' := by
  obtain ⟨q, c, e, hlc, hm⟩ := h.open
  have hby := h.byte
  have A : Hid (∀ W, Below w.heap.size w W → ∀ j, j < l.length → ∃ b off, q = some ⟨b, off, none⟩ ∧ W.cell? ⟨b, off + j, none⟩ = some (.int .u8 (l.getD j 0))) := hid (fun W hW j hj => by
    obtain ⟨b, off, c', e', _, _, hh⟩ := (h.below hW).ne (by omega)
    rw [e] at e'
    simp only [Value.slice.injEq, true_and] at e'
    exact ⟨b, off, e'.1, hh j hj⟩)
  subst e
  obtain ⟨b, off, rfl, -⟩ := A.out w (Below.refl _ _) 0 (by omega)
  have A' : Hid (∀ W, Below w.heap.size w W → ∀ j, j < l.length → W.cell? ⟨b, off + j, none⟩ = some (.int .u8 (l.getD j 0))) := hid (fun W hW j hj => by
    obtain ⟨b', off', e', hh⟩ := A.out W hW j hj
    cases e'
    exact hh)
  have VB : Hid (∀ W, Below w.heap.size w W → HB W (.slice (some ⟨b, off, none⟩) l.length c) l) := hid (fun W hW => h.below hW)
  have HBY := hid hby
  have HBY2 := hid h.2
  obtain ⟨W1, HW1⟩ : ∃ W : World, Hid (w.alloc (.cells zrep 42) = W) := ⟨_, hid rfl⟩
  have Z1 : W1.heap.size = w.heap.size + 1 := by rw [← HW1.out]; simp
  obtain ⟨W2, HW2⟩ : ∃ W : World, Hid (W1.alloc (.cells zrep 42) = W) := ⟨_, hid rfl⟩
  have Z2 : W2.heap.size = w.heap.size + 2 := by rw [← HW2.out]; simp [Z1]
  have B1 : Below w.heap.size w W1 := by rw [← HW1.out]; exact (Below.refl _ w).alloc (Nat.le_refl _) _
  have B2' : Below W1.heap.size W1 W2 := by rw [← HW2.out]; exact (Below.refl _ W1).alloc (Nat.le_refl _) _
  have B2 : Hid (Below w.heap.size w W2) := hid (B1.trans (B2'.mono B1.size))
  have x0 : W1.heap[w.heap.size]? = some (.cells zrp 42 (0, 0)) := by rw [← HW1.out]; exact heap_alloc_new w _
  have x0b : W2.heap[w.heap.size]? = some (.cells zrp 42 (0, 0)) := (B2'.block _ (by omega)).trans x0
  have X0 := hid x0b
  have x1 : W2.heap[w.heap.size + 1]? = some (.cells zrp 42 (0, 0)) := by rw [← Z1, ← HW2.out]; exact heap_alloc_new W1 _
  have RG1 : Hid (W2.rangeAt (w.heap.size + 1) 0 zrp.toList) := hid (fun j v hj => by rw [cell_of_row _ _ _ _ _ _ x1, Nat.zero_add, ← Array.getElem?_toList]; exact hj)
  have ANS : Hid ((W2.setRow w.heap.size zrp).heap[w.heap.size]? = some (.cells zrp 42 (0, 0)) ∧ Below w.heap.size w (W2.setRow w.heap.size zrp)) := hid ⟨setRow_heap _ _ _ _ _ _ X0.out, B2.out.trans ((ex_setRow (Ex.refl (fun k => k = w.heap.size) W2) rfl zrp).below B2.out.size (fun k e => by omega))⟩
  have SR : Hid ((Try.prog.info? 42).map (·.size) = some 3) := hid (by kernel_rfl)
  have HZ1 := hid Z1
  have HZ2 := hid Z2
  obtain ⟨WA, HWA⟩ : ∃ W : World, Hid (W2.alloc (.cells zrep 42) = W) := ⟨_, hid rfl⟩
  obtain ⟨m0, HM0⟩ : ∃ m, Hid (rpA 5 nlS nlS = m) := ⟨_, hid rfl⟩
  obtain ⟨W3, HW3⟩ : ∃ W : World, Hid (WA.setRow (w.heap.size + 2) m0 = W) := ⟨_, hid rfl⟩
  have B3' : Below W2.heap.size W2 WA := by rw [← HWA.out]; exact (Below.refl _ W2).alloc (Nat.le_refl _) _
  have xA : WA.heap[w.heap.size + 2]? = some (.cells zrp 42 (0, 0)) := by rw [← Z2, ← HWA.out]; exact heap_alloc_new W2 _
  have HXA := hid xA
  have xk : ∀ i, i ≠ w.heap.size + 2 → W3.heap[i]? = WA.heap[i]? := fun i hi => by rw [← HW3.out]; simp [World.setRow, Array.getElem?_modify, show w.heap.size + 2 ≠ i from fun e => hi e.symm]
  have x3 : W3.heap[w.heap.size + 2]? = some (.cells m0 42 (0, 0)) := by rw [← HW3.out]; exact setRow_heap _ _ _ _ _ _ xA
  have HS : Hid (RP w W3 5 nlS nlS) := hid ⟨(xk _ (by omega)).trans ((B3'.block _ (by omega)).trans x0b), (xk _ (by omega)).trans ((B3'.block _ (by omega)).trans x1), by rw [HM0.out]; exact x3, by
    have q1 := B2.out.trans (B3'.mono B2.out.size)
    refine q1.trans ?_
    rw [← HW3.out]
    exact (ex_setRow (Ex.refl (fun k => k = w.heap.size + 2) WA) rfl m0).below q1.size (fun k e => by omega)⟩
  have hb0 : Hid (∀ W, (Instr.build 42 #[(0, .int .u8 5)]).run Try.prog W = .ok (.agg m0) W) := hid (fun W => by
    rw [← HM0.out]
    kernel_rfl)
  have hm0 : Hid (m0.size = 3) := hid (by rw [← HM0.out]; rfl)
  have hm1 : Hid (m0.all (·.oneCell') = true) := hid (by rw [← HM0.out]; exact rpA_one _ _ _ rfl rfl)
  have a0 := A'.out W2 B2.out 0 (by omega)
  have a0' : W2.cell? ⟨b, off, none⟩ = some (.int .u8 5) := by rw [← hk]; exact a0
  have hk0 : W3.cell? ⟨w.heap.size + 2, 0, none⟩ = some (.int .u8 5) := HS.out.cell rfl
  have hwl : IntKind.u64.wrap (l.length : Int) = (l.length : Int) := by rw [IntKind.wrap_u64]; omega
  have hl1 : (0 : Int) < (l.length : Int) := by omega
  have hl0 : ¬ ((l.length : Int) = 0) := by omega
  have hl0' : ¬ (l.length = 0) := by omega
  have hl0'' : ¬ (l = []) := fun e => by rw [e] at hl; simp at hl
  have DP : Hid (dpP l = some (l.length : Int)) := hid (by
    unfold dpP dpN
    rw [hk, if_neg (by omega)]
    simp only [show ((5 : Int) = 1) = False by simp, if_false, if_true]
    rw [if_pos hs])
  have hs' : (l.length : Int) < 5 := by omega
  clear A x0 x0b x1 B2' B3' B1 Z1 Z2 h xA xk x3 a0 hby
  go_enter Try.func27, Try.ntmps27
  refine wp_seq_k fun K0 h0 => ?_
  have H0 := hid h0
  clear h0
  go_wp2
  rw [HW1.out]
  refine H0.out _ _ ?_
  refine wp_seq_k fun K0 h0 => ?_
  have H0 := hid h0
  clear h0
  go_wp2
  rw [HW2.out, HZ1.out]
  refine H0.out _ _ ?_
  go_wp2_with (first | (refine wpList_buildQ rfl 42 _ rfl #[(0, .int .u8 5)] (by go_simp) _ (hb0.out _) ?_) | rw [HWA.out, HZ2.out] | (refine wpList_store_row rfl 42 _ _ rfl (w.heap.size + 2) m0 rfl rfl 42 zrp HXA.out (by rw [hm0.out]; exact SR.out) (by rw [zrp_size, hm0.out]) hm1.out ?_) | rw [HW3.out] | (refine wpList_load_mid rfl 42 _ rfl (w.heap.size + 1) 0 rfl zrp.toList _ HS.out.rng1 Try.underlying42 rfl SR.out ?_; rw [Array.toArray_toList]) | (refine wpList_store_row rfl 42 _ _ rfl w.heap.size zrp rfl rfl 42 zrp HS.out.x0 SR.out rfl zrp_one ?_) | fail)
  refine bodyPost_ret (v := .tuple #[.agg zrp, .int .i64 (l.length : Int), .int .i64 201]) (results_cellTT (p := 2) (q := 3) (q' := 4) (ty := 42) rfl _ _ w.heap.size 42 _ (0, 0) _ _ _ rfl rfl rfl (HS.out.ans _).1 Try.underlying42 rfl SR.out) rfl ?_
  exact ⟨.inl ⟨(l.length : Int), DP.out, rfl⟩, (HS.out.ans _).2⟩
set_option maxRecDepth 100000 in
set_option maxHeartbeats 32000000 in
theorem rrep_5 (w : World) (v : Value) (l : List Int) (h : HB w v l) (hbig : l.length ≤ 140737488355328) (hk : l.getD 0 0 = 5) (hl : 5 ≤ l.length) :
    Calls Try.prog 27 #[v] w fun e w' => DocP w l e w' ∧ Below w.heap.size w w' := by
  obtain ⟨q, c, e, hlc, hm⟩ := h.open
  have hby := h.byte
  have A : Hid (∀ W, Below w.heap.size w W → ∀ j, j < l.length → ∃ b off, q = some ⟨b, off, none⟩ ∧ W.cell? ⟨b, off + j, none⟩ = some (.int .u8 (l.getD j 0))) := hid (fun W hW j hj => by
    obtain ⟨b, off, c', e', _, _, hh⟩ := (h.below hW).ne (by omega)
    rw [e] at e'
    simp only [Value.slice.injEq, true_and] at e'
    exact ⟨b, off, e'.1, hh j hj⟩)
  subst e
  obtain ⟨b, off, rfl, -⟩ := A.out w (Below.refl _ _) 0 (by omega)
  have A' : Hid (∀ W, Below w.heap.size w W → ∀ j, j < l.length → W.cell? ⟨b, off + j, none⟩ = some (.int .u8 (l.getD j 0))) := hid (fun W hW j hj => by
    obtain ⟨b', off', e', hh⟩ := A.out W hW j hj
    cases e'
    exact hh)
  have VB : Hid (∀ W, Below w.heap.size w W → HB W (.slice (some ⟨b, off, none⟩) l.length c) l) := hid (fun W hW => h.below hW)
  have HBY := hid hby
  have HBY2 := hid h.2
  obtain ⟨W1, HW1⟩ : ∃ W : World, Hid (w.alloc (.cells zrep 42) = W) := ⟨_, hid rfl⟩
  have Z1 : W1.heap.size = w.heap.size + 1 := by rw [← HW1.out]; simp
  obtain ⟨W2, HW2⟩ : ∃ W : World, Hid (W1.alloc (.cells zrep 42) = W) := ⟨_, hid rfl⟩
  have Z2 : W2.heap.size = w.heap.size + 2 := by rw [← HW2.out]; simp [Z1]
  have B1 : Below w.heap.size w W1 := by rw [← HW1.out]; exact (Below.refl _ w).alloc (Nat.le_refl _) _
  have B2' : Below W1.heap.size W1 W2 := by rw [← HW2.out]; exact (Below.refl _ W1).alloc (Nat.le_refl _) _
  have B2 : Hid (Below w.heap.size w W2) := hid (B1.trans (B2'.mono B1.size))
  have x0 : W1.heap[w.heap.size]? = some (.cells zrp 42 (0, 0)) := by rw [← HW1.out]; exact heap_alloc_new w _
  have x0b : W2.heap[w.heap.size]? = some (.cells zrp 42 (0, 0)) := (B2'.block _ (by omega)).trans x0
  have X0 := hid x0b
  have x1 : W2.heap[w.heap.size + 1]? = some (.cells zrp 42 (0, 0)) := by rw [← Z1, ← HW2.out]; exact heap_alloc_new W1 _
  have RG1 : Hid (W2.rangeAt (w.heap.size + 1) 0 zrp.toList) := hid (fun j v hj => by rw [cell_of_row _ _ _ _ _ _ x1, Nat.zero_add, ← Array.getElem?_toList]; exact hj)
  have ANS : Hid ((W2.setRow w.heap.size zrp).heap[w.heap.size]? = some (.cells zrp 42 (0, 0)) ∧ Below w.heap.size w (W2.setRow w.heap.size zrp)) := hid ⟨setRow_heap _ _ _ _ _ _ X0.out, B2.out.trans ((ex_setRow (Ex.refl (fun k => k = w.heap.size) W2) rfl zrp).below B2.out.size (fun k e => by omega))⟩
  have SR : Hid ((Try.prog.info? 42).map (·.size) = some 3) := hid (by kernel_rfl)
  have HZ1 := hid Z1
  have HZ2 := hid Z2
  obtain ⟨WA, HWA⟩ : ∃ W : World, Hid (W2.alloc (.cells zrep 42) = W) := ⟨_, hid rfl⟩
  obtain ⟨m0, HM0⟩ : ∃ m, Hid (rpA 5 nlS nlS = m) := ⟨_, hid rfl⟩
  obtain ⟨W3, HW3⟩ : ∃ W : World, Hid (WA.setRow (w.heap.size + 2) m0 = W) := ⟨_, hid rfl⟩
  have B3' : Below W2.heap.size W2 WA := by rw [← HWA.out]; exact (Below.refl _ W2).alloc (Nat.le_refl _) _
  have xA : WA.heap[w.heap.size + 2]? = some (.cells zrp 42 (0, 0)) := by rw [← Z2, ← HWA.out]; exact heap_alloc_new W2 _
  have HXA := hid xA
  have xk : ∀ i, i ≠ w.heap.size + 2 → W3.heap[i]? = WA.heap[i]? := fun i hi => by rw [← HW3.out]; simp [World.setRow, Array.getElem?_modify, show w.heap.size + 2 ≠ i from fun e => hi e.symm]
  have x3 : W3.heap[w.heap.size + 2]? = some (.cells m0 42 (0, 0)) := by rw [← HW3.out]; exact setRow_heap _ _ _ _ _ _ xA
  have HS : Hid (RP w W3 5 nlS nlS) := hid ⟨(xk _ (by omega)).trans ((B3'.block _ (by omega)).trans x0b), (xk _ (by omega)).trans ((B3'.block _ (by omega)).trans x1), by rw [HM0.out]; exact x3, by
    have q1 := B2.out.trans (B3'.mono B2.out.size)
    refine q1.trans ?_
    rw [← HW3.out]
    exact (ex_setRow (Ex.refl (fun k => k = w.heap.size + 2) WA) rfl m0).below q1.size (fun k e => by omega)⟩
  have hb0 : Hid (∀ W, (Instr.build 42 #[(0, .int .u8 5)]).run Try.prog W = .ok (.agg m0) W) := hid (fun W => by
    rw [← HM0.out]
    kernel_rfl)
  have hm0 : Hid (m0.size = 3) := hid (by rw [← HM0.out]; rfl)
  have hm1 : Hid (m0.all (·.oneCell') = true) := hid (by rw [← HM0.out]; exact rpA_one _ _ _ rfl rfl)
  have a0 := A'.out W2 B2.out 0 (by omega)
  have a0' : W2.cell? ⟨b, off, none⟩ = some (.int .u8 5) := by rw [← hk]; exact a0
  have hk0 : W3.cell? ⟨w.heap.size + 2, 0, none⟩ = some (.int .u8 5) := HS.out.cell rfl
  have hwl : IntKind.u64.wrap (l.length : Int) = (l.length : Int) := by rw [IntKind.wrap_u64]; omega
  have hl1 : (0 : Int) < (l.length : Int) := by omega
  have hl0 : ¬ ((l.length : Int) = 0) := by omega
  have hl0' : ¬ (l.length = 0) := by omega
  have hl0'' : ¬ (l = []) := fun e => by rw [e] at hl; simp at hl
  have DP : Hid (dpP l = match (if vA l 1 4 < 1 ∨ 131072 < vA l 1 4 then some 1 else none : Option Int) with | some p => some p | none => if l.length < 5 + vA l 1 4 then some (l.length : Int) else if 5 + vA l 1 4 < l.length then some ((5 + vA l 1 4 : Nat) : Int) else none) := hid (by
    unfold dpP dpF dpE dpN
    rw [hk, if_neg (by omega)]
    simp only [show ((5 : Int) = 1) = False by simp, if_false, if_true]
    rw [if_neg (by omega)]
    rfl)
  have hs' : ¬ ((l.length : Int) < 5) := by omega
  have D1 : Hid (∀ W, Below w.heap.size w W → Calls Try.prog 49 #[.slice (some ⟨b, off, none⟩) l.length c, .int .i64 1, .int .i64 4] W fun e w' => e = .returned (.int .u64 (vA l 1 4 : Nat)) ∧ w' = W) := hid (fun W hW => rat_any W _ l (VB.out W hW) 1 4 (by omega) (by omega) (by omega))
  have z1 : vA l 1 4 < 4294967296 := by
    have q := valL_lt ((l.drop 1).take 4) (fun x hx => HBY2.out x (List.mem_of_mem_drop (List.mem_of_mem_take hx)))
    rw [show ((l.drop 1).take 4).length = 4 by simp; omega] at q
    exact q
  obtain ⟨x1', HX1⟩ : ∃ x, Hid (vA l 1 4 = x) := ⟨_, hid rfl⟩
  rw [HX1.out] at D1 z1 DP
  have we : IntKind.u64.wrap (5 + (x1' : Int)) = 5 + (x1' : Int) := by rw [IntKind.wrap_u64]; omega
  have HLL := hid hl
  clear A x0 x0b x1 B2' B3' B1 Z1 Z2 h xA xk x3 a0 hby
  go_enter Try.func27, Try.ntmps27
  refine wp_seq_k fun K0 h0 => ?_
  have H0 := hid h0
  clear h0
  go_wp2
  rw [HW1.out]
  refine H0.out _ _ ?_
  refine wp_seq_k fun K0 h0 => ?_
  have H0 := hid h0
  clear h0
  go_wp2
  rw [HW2.out, HZ1.out]
  refine H0.out _ _ ?_
  go_wp2_with (first | (refine wpList_buildQ rfl 42 _ rfl #[(0, .int .u8 5)] (by go_simp) _ (hb0.out _) ?_) | rw [HWA.out, HZ2.out] | (refine wpList_store_row rfl 42 _ _ rfl (w.heap.size + 2) m0 rfl rfl 42 zrp HXA.out (by rw [hm0.out]; exact SR.out) (by rw [zrp_size, hm0.out]) hm1.out ?_) | rw [HW3.out] | fail)
  refine (D1.out _ HS.out.bel).mono ?_
  rintro e w' ⟨rfl, hw'⟩
  rw [hw']
  clear hw' w'
  by_cases r1 : (x1' : Int) < 1
  · go_wp2_with (first | (refine wpList_load_mid rfl 42 _ rfl (w.heap.size + 1) 0 rfl zrp.toList _ HS.out.rng1 Try.underlying42 rfl SR.out ?_; rw [Array.toArray_toList]) | (refine wpList_store_row rfl 42 _ _ rfl w.heap.size zrp rfl rfl 42 zrp HS.out.x0 SR.out rfl zrp_one ?_) | fail)
    refine bodyPost_ret (v := .tuple #[.agg zrp, .int .i64 1, .int .i64 201]) (results_cellTT (p := 2) (q := 3) (q' := 4) (ty := 42) rfl _ _ w.heap.size 42 _ (0, 0) _ _ _ rfl rfl rfl (HS.out.ans _).1 Try.underlying42 rfl SR.out) rfl ?_
    exact ⟨.inl ⟨1, by rw [DP.out, if_pos (by omega)], rfl⟩, (HS.out.ans _).2⟩
  go_wp2_with fail
  refine (D1.out _ HS.out.bel).mono ?_
  rintro e w' ⟨rfl, hw'⟩
  rw [hw']
  clear hw' w'
  by_cases r2 : (131072 : Int) < (x1' : Int)
  · go_wp2_with (first | (refine wpList_load_mid rfl 42 _ rfl (w.heap.size + 1) 0 rfl zrp.toList _ HS.out.rng1 Try.underlying42 rfl SR.out ?_; rw [Array.toArray_toList]) | (refine wpList_store_row rfl 42 _ _ rfl w.heap.size zrp rfl rfl 42 zrp HS.out.x0 SR.out rfl zrp_one ?_) | fail)
    refine bodyPost_ret (v := .tuple #[.agg zrp, .int .i64 1, .int .i64 201]) (results_cellTT (p := 2) (q := 3) (q' := 4) (ty := 42) rfl _ _ w.heap.size 42 _ (0, 0) _ _ _ rfl rfl rfl (HS.out.ans _).1 Try.underlying42 rfl SR.out) rfl ?_
    exact ⟨.inl ⟨1, by rw [DP.out, if_pos (by omega)], rfl⟩, (HS.out.ans _).2⟩
  go_wp2_with fail
  refine (D1.out _ HS.out.bel).mono ?_
  rintro e w' ⟨rfl, hw'⟩
  rw [hw']
  clear hw' w'
  go_wp2_with fail
  have HVD := hid (HS.out.below ((Below.refl _ W3).drew))
  refine wp_region_last (S := (fun W : World => W.cell? ⟨w.heap.size + 2, 2, none⟩ = some nlS)) 7 (by kernel_rfl) (HVD.out.cell rfl) (fun hHeld => ?_)
  have HSS := hid hHeld
  clear hHeld
  change wpAnyL _ _ _ _ _ _ _ _ _ (World.drew _)
  refine wpAnyL_take (i := 0) (v := ?_) rfl (by kernel_rfl) (by kernel_rfl) (by kernel_rfl) (by kernel_rfl) (by kernel_rfl) (fun _ _ _ h => h) (Or.inl ⟨by rfl, ?q0⟩) HSS.out ?_
  case q0 => intro w hSw; go_simp; rfl
  simp only [Act.put, List.getElem_toArray, List.getElem_cons_zero, List.getElem_cons_succ, List.setIfInBounds_toArray, List.set_cons_zero, List.set_cons_succ]
  refine wpAnyL_take (i := 1) (v := ?_) rfl (by kernel_rfl) (by kernel_rfl) (by kernel_rfl) (by kernel_rfl) (by kernel_rfl) (fun _ _ _ h => h) (Or.inl ⟨by rfl, ?q1⟩) HSS.out ?_
  case q1 => intro w hSw; go_simp; rfl
  simp only [Act.put, List.getElem_toArray, List.getElem_cons_zero, List.getElem_cons_succ, List.setIfInBounds_toArray, List.set_cons_zero, List.set_cons_succ]
  refine wpAnyL_take (i := 2) (v := ?_) rfl (by kernel_rfl) (by kernel_rfl) (by kernel_rfl) (by kernel_rfl) (by kernel_rfl) (fun _ _ _ h => h) (Or.inl ⟨by rfl, ?q2⟩) HSS.out ?_
  case q2 => intro w hSw; go_simp; rfl
  simp only [Act.put, List.getElem_toArray, List.getElem_cons_zero, List.getElem_cons_succ, List.setIfInBounds_toArray, List.set_cons_zero, List.set_cons_succ]
  refine wpAnyL_take (i := 3) (v := ?_) rfl (by kernel_rfl) (by kernel_rfl) (by kernel_rfl) (by kernel_rfl) (by kernel_rfl) (fun _ _ _ h => h) (Or.inl ⟨by rfl, ?q3⟩) HSS.out ?_
  case q3 => intro w hSw; go_simp; rfl
  simp only [Act.put, List.getElem_toArray, List.getElem_cons_zero, List.getElem_cons_succ, List.setIfInBounds_toArray, List.set_cons_zero, List.set_cons_succ]
  refine wpAnyL_take (i := 4) rfl (by kernel_rfl) (by kernel_rfl) (by kernel_rfl) (by kernel_rfl) (by kernel_rfl) (fun _ _ _ h => h) (yieldsIf_slG (by rfl) 36 _ _ _ (by rw [elmB]; exact Try.underlying36) rfl (.slice (some ⟨b, off, none⟩) l.length c) (some (.int .i64 5)) none rfl rfl rfl _ (fun W _ => slice_lB W (some ⟨b, off, none⟩) l.length c 5 HLL.out)) HSS.out ?_
  simp only [Act.put, List.getElem_toArray, List.getElem_cons_zero, List.getElem_cons_succ, List.setIfInBounds_toArray, List.set_cons_zero, List.set_cons_succ]
  clear HSS
  refine wpAnyL_one (i := 5) (by kernel_rfl) rfl (fun K hK => ?_)
  rw [if_pos (by rfl)]
  refine wp_append_HB _ _ rfl w.heap.size nlS 0 [] rfl (World.ownsRow_nil _ _ _ _) _ (l.drop 5) rfl ((VB.out _ HVD.out.bel).suf 5 HLL.out) (by rw [List.length_drop]; omega) (HVD.out.bel.size) (fun v1 U hu hg => ?_)
  have BU : Below (W3.drew).heap.size W3.drew U := (Below.refl _ W3.drew).grown hg (Nat.le_refl _) (fun k e => by cases e)
  have SU := hid (HVD.out.below BU)
  have OU : Hid (U.ownsRow w.heap.size 5 1 v1 (l.drop 5).length ((l.drop 5).map (Value.int .u8))) := hid (by simpa using hu)
  clear hu hg BU
  try simp only [Act.put, List.getElem_toArray, List.getElem_cons_zero, List.getElem_cons_succ, List.setIfInBounds_toArray, List.set_cons_zero, List.set_cons_succ]
  have HSS : Hid (U.cell? ⟨w.heap.size + 2, 2, none⟩ = some nlS) := hid (SU.out.cell rfl)
  have UF := SU.out.fr 2
  refine hK.out _ _ (fun _ => HSS.out) ?_
  clear hK K
  refine wpAnyL_take (i := 6) (v := ?_) rfl (by kernel_rfl) (by kernel_rfl) (by kernel_rfl) (by kernel_rfl) (by kernel_rfl) (fun _ _ _ h => h) (Or.inl ⟨by rfl, ?q6⟩) HSS.out ?_
  case q6 => intro w hSw; go_simp; rfl
  simp only [Act.put, List.getElem_toArray, List.getElem_cons_zero, List.getElem_cons_succ, List.setIfInBounds_toArray, List.set_cons_zero, List.set_cons_succ]
  refine wpAnyL_one (i := 7) (by kernel_rfl) rfl (fun K hK => ?_)
  have cu := HSS.out
  obtain ⟨pv, cv, ev⟩ := own_slice OU.out
  rw [ev] at OU ⊢
  obtain ⟨M, HMl⟩ : ∃ x, Hid ((l.drop 5).length = x) := ⟨_, hid rfl⟩
  rw [HMl.out] at OU ⊢
  obtain ⟨U2, HU2⟩ : ∃ W : World, Hid (U.setCell ⟨w.heap.size + 2, 2, none⟩ (.slice pv M cv) = W) := ⟨_, hid rfl⟩
  have S2 : Hid (RP w U2 5 nlS (.slice pv M cv)) := by rw [← HU2.out]; exact hid (SU.out.set 2 _ rfl)
  have OU2 : Hid (U2.ownsRow w.heap.size 5 1 (.slice pv M cv) (l.drop 5).length ((l.drop 5).map (Value.int .u8))) := by
    rw [← HU2.out, HMl.out]
    refine hid (own_of OU.out fun b' hb' => ?_)
    obtain ⟨_, _, cs', q⟩ := own_at OU.out hb'
    have : w.heap.size + 2 ≠ b' := fun e => by
      rw [← e, SU.out.x2] at q
      simp only [Option.some.injEq, Obj.cells.injEq] at q
      exact absurd q.2.1 (by decide)
    simp [World.setCell, Array.getElem?_modify, this]
  clear SU OU HSS
  go_simp
  rw [HU2.out]
  refine hK.out _ _ (fun e => absurd rfl e) ?_
  clear hK K
  try simp only [Act.put, List.getElem_toArray, List.getElem_cons_zero, List.getElem_cons_succ, List.setIfInBounds_toArray, List.set_cons_zero, List.set_cons_succ]
  refine wpAnyL_done (by kernel_rfl) ?_ _
  by_cases g0 : l.length < 5 + x1'
  · have g0' : (l.length : Int) < 5 + (x1' : Int) := by omega
    go_wp2_with (first | (refine wpList_load_mid rfl 42 _ rfl (w.heap.size + 1) 0 rfl zrp.toList _ S2.out.rng1 Try.underlying42 rfl SR.out ?_; rw [Array.toArray_toList]) | (refine wpList_store_row rfl 42 _ _ rfl w.heap.size zrp rfl rfl 42 zrp S2.out.x0 SR.out rfl zrp_one ?_) | fail)
    all_goals
      refine bodyPost_ret (v := .tuple #[.agg zrp, .int .i64 (l.length : Int), .int .i64 201]) (results_cellTT (p := 2) (q := 3) (q' := 4) (ty := 42) rfl _ _ w.heap.size 42 _ (0, 0) _ _ _ rfl rfl rfl (S2.out.ans _).1 Try.underlying42 rfl SR.out) rfl ?_
      exact ⟨.inl ⟨(l.length : Int), by rw [DP.out, if_neg (show ¬ (x1' < 1 ∨ 131072 < x1') by omega)]; exact if_pos g0, rfl⟩, (S2.out.ans _).2⟩
  have g0' : ¬ ((l.length : Int) < 5 + (x1' : Int)) := by omega
  by_cases g1 : 5 + x1' < l.length
  · have g1' : 5 + (x1' : Int) < (l.length : Int) := by omega
    have we2 : IntKind.i64.wrap (5 + (x1' : Int)) = 5 + (x1' : Int) := by rw [IntKind.wrap_i64]; omega
    go_wp2_with (first | (refine wpList_load_mid rfl 42 _ rfl (w.heap.size + 1) 0 rfl zrp.toList _ S2.out.rng1 Try.underlying42 rfl SR.out ?_; rw [Array.toArray_toList]) | (refine wpList_store_row rfl 42 _ _ rfl w.heap.size zrp rfl rfl 42 zrp S2.out.x0 SR.out rfl zrp_one ?_) | fail)
    all_goals
      refine bodyPost_ret (v := .tuple #[.agg zrp, .int .i64 (5 + (x1' : Int)), .int .i64 201]) (results_cellTT (p := 2) (q := 3) (q' := 4) (ty := 42) rfl _ _ w.heap.size 42 _ (0, 0) _ _ _ rfl rfl rfl (S2.out.ans _).1 Try.underlying42 rfl SR.out) rfl ?_
      exact ⟨.inl ⟨(5 + (x1' : Int)), by rw [DP.out, if_neg (show ¬ (x1' < 1 ∨ 131072 < x1') by omega)]; exact (if_neg g0).trans (if_pos g1), rfl⟩, (S2.out.ans _).2⟩
  have g1' : ¬ (5 + (x1' : Int) < (l.length : Int)) := by omega
  have RGE : Hid (_) := hid S2.out.rng
  have hon : Hid ((rpA 5 nlS (.slice pv M cv)).all (·.oneCell') = true) := hid (rpA_one _ _ _ rfl rfl)
  have hs3 : Hid ((rpA 5 nlS (.slice pv M cv)).size = 3) := hid rfl
  obtain ⟨mm, HMM⟩ : ∃ x, Hid (rpA 5 nlS (.slice pv M cv) = x) := ⟨_, hid rfl⟩
  rw [HMM.out] at RGE hon hs3
  have hsl : Hid ((Try.prog.info? 42).map (·.size) = some mm.toList.length) := hid (by rw [Array.length_toList, hs3.out]; exact SR.out)
  go_wp2_with (first | (refine wpList_load_mid rfl 42 _ rfl (w.heap.size + 2) 0 rfl mm.toList _ RGE.out Try.underlying42 rfl hsl.out ?_; rw [Array.toArray_toList]) | (refine wpList_store_row rfl 42 _ _ rfl w.heap.size mm rfl rfl 42 zrp S2.out.x0 (by rw [hs3.out]; exact SR.out) (by rw [hs3.out]; rfl) hon.out ?_) | fail)
  all_goals
    refine bodyPost_ret (v := .tuple #[.agg mm, .int .i64 0, .int .i64 0]) (results_cellTT (p := 2) (q := 3) (q' := 4) (ty := 42) rfl _ _ w.heap.size 42 _ (0, 0) _ _ _ rfl rfl rfl (S2.out.ans _).1 Try.underlying42 rfl (by rw [hs3.out]; exact SR.out)) rfl ?_
    refine ⟨.inr ⟨by rw [DP.out, if_neg (show ¬ (x1' < 1 ∨ 131072 < x1') by omega)]; exact (if_neg g0).trans (if_neg g1), nlS, (.slice pv M cv), by rw [hk, HMM.out], ?_, ?_⟩, (S2.out.ans _).2⟩
    · rw [hk]; exact World.ownsRow_nil _ _ _ _
    · rw [hk]; exact own_setRowG OU2.out S2.out.x0 (by decide)
end Go.Proofs.Ytgjadpidoaianaa
