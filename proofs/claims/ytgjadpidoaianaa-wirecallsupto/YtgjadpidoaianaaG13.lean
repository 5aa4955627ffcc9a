/- Of the road to wireCallsUpto_holds: WrRRq2, WrRRq3. -/
import Derived.Test.YtgjadpidoaianaaG11
set_option linter.unusedVariables false
set_option linter.unusedSimpArgs false
namespace Go.Proofs.Ytgjadpidoaianaa
open Go Go.RowKit
set_option maxRecDepth 100000 in
set_option maxHeartbeats 32000000 in
theorem rreq_2 (w : World) (v : Value) (l : List Int) (h : HB w v l) (hbig : l.length ≤ 140737488355328) (hk : l.getD 0 0 = 2) (hl : 34 ≤ l.length) :
    Calls Try.prog 25 #[v] w fun e w' => DocQ w l e w' ∧ Below w.heap.size w w' := by
  obtain ⟨q, c, e, hlc, hm⟩ := h.open
  have hby := h.byte
  have A : Hid (∀ W, Below w.heap.size w W → ∀ j, j < l.length → ∃ b off, q = some ⟨b, off, none⟩ ∧ W.cell? ⟨b, off + j, none⟩ = some (.int .u8 (l.getD j 0))) := hid (fun W hW j hj => by
    obtain ⟨b, off, c', e', _, _, hh⟩ := (h.below hW).ne (by omega)
    rw [e] at e'
    simp only [Value.slice.injEq, true_and] at e'
    exact ⟨b, off, e'.1, hh j hj⟩)
  subst e
  obtain ⟨b, off, rfl, -⟩ := A.out w (Below.refl _ _) 0 (by omega)
  have A' : Hid (∀ W, Below w.heap.size w W → ∀ j, j < l.length → W.cell? ⟨b, off + j, none⟩ = some (.int .u8 (l.getD j 0))) := hid (fun W hW j hj => by
    obtain ⟨b', off', e', hh⟩ := A.out W hW j hj
    cases e'
    exact hh)
  have VB : Hid (∀ W, Below w.heap.size w W → HB W (.slice (some ⟨b, off, none⟩) l.length c) l) := hid (fun W hW => h.below hW)
  have HL := hid hl
  have HBY := hid hby
  have HBY2 := hid h.2
  obtain ⟨W1, HW1⟩ : ∃ W : World, Hid (w.alloc (.cells zreq 38) = W) := ⟨_, hid rfl⟩
  have Z1 : W1.heap.size = w.heap.size + 1 := by rw [← HW1.out]; simp
  obtain ⟨W2, HW2⟩ : ∃ W : World, Hid (W1.alloc (.cells zreq 38) = W) := ⟨_, hid rfl⟩
  have Z2 : W2.heap.size = w.heap.size + 2 := by rw [← HW2.out]; simp [Z1]
  obtain ⟨WA, HWA⟩ : ∃ W : World, Hid (W2.alloc (.cells zreq 38) = W) := ⟨_, hid rfl⟩
  obtain ⟨m0, HM0⟩ : ∃ m, Hid (rqA ⟨2, ixI l 0, 0, 0, 0, 0, 0⟩ nlS = m) := ⟨_, hid rfl⟩
  obtain ⟨W3, HW3⟩ : ∃ W : World, Hid (WA.setRow (w.heap.size + 2) m0 = W) := ⟨_, hid rfl⟩
  have B1 : Below w.heap.size w W1 := by rw [← HW1.out]; exact (Below.refl _ w).alloc (Nat.le_refl _) _
  have B2' : Below W1.heap.size W1 W2 := by rw [← HW2.out]; exact (Below.refl _ W1).alloc (Nat.le_refl _) _
  have B3' : Below W2.heap.size W2 WA := by rw [← HWA.out]; exact (Below.refl _ W2).alloc (Nat.le_refl _) _
  have B2 : Hid (Below w.heap.size w W2) := hid (B1.trans (B2'.mono B1.size))
  have x0 : W1.heap[w.heap.size]? = some (.cells zreq 38 (0, 0)) := by rw [← HW1.out]; exact heap_alloc_new w _
  have x0b : W2.heap[w.heap.size]? = some (.cells zreq 38 (0, 0)) := (B2'.block _ (by omega)).trans x0
  have x1 : W2.heap[w.heap.size + 1]? = some (.cells zreq 38 (0, 0)) := by rw [← Z1, ← HW2.out]; exact heap_alloc_new W1 _
  have xA : WA.heap[w.heap.size + 2]? = some (.cells zreq 38 (0, 0)) := by rw [← Z2, ← HWA.out]; exact heap_alloc_new W2 _
  have HXA := hid xA
  have xk : ∀ i, i ≠ w.heap.size + 2 → W3.heap[i]? = WA.heap[i]? := fun i hi => by rw [← HW3.out]; simp [World.setRow, Array.getElem?_modify, show w.heap.size + 2 ≠ i from fun e => hi e.symm]
  have x3 : W3.heap[w.heap.size + 2]? = some (.cells m0 38 (0, 0)) := by rw [← HW3.out]; exact setRow_heap _ _ _ _ _ _ xA
  have S3 : Hid (RS w W3 ⟨2, ixI l 0, 0, 0, 0, 0, 0⟩ nlS) := hid ⟨(xk _ (by omega)).trans ((B3'.block _ (by omega)).trans x0b), (xk _ (by omega)).trans ((B3'.block _ (by omega)).trans x1), by rw [HM0.out]; exact x3, by
    have q1 := B2.out.trans (B3'.mono B2.out.size)
    refine q1.trans ?_
    rw [← HW3.out]
    exact (ex_setRow (Ex.refl (fun k => k = w.heap.size + 2) WA) rfl m0).below q1.size (fun k e => by omega)⟩
  have HZ1 := hid Z1
  have HZ2 := hid Z2
  have a0 := A'.out W2 B2.out 0 (by omega)
  rw [hk] at a0
  have CH : Hid (∀ W, Calls Try.prog 48 #[.int .u8 2] W fun e w' => e = .returned (.int .i64 34) ∧ w' = W) := hid (fun W => rhead_any W 2)
  have hb0 : Hid (∀ W, (Instr.build 38 #[(0, .int .u8 2)]).run Try.prog W = .ok (.agg m0) W) := hid (fun W => by
    rw [← HM0.out, show ixI l 0 = List.replicate 16 0 by simp [ixI]]
    kernel_rfl)
  have SR : Hid ((Try.prog.info? 38).map (·.size) = some 23) := hid (by kernel_rfl)
  have hm0 : Hid (m0.size = 23) := hid (by rw [← HM0.out]; exact rqA_size ⟨ixI_len l 0 (by omega) (by omega), fun x hx => by simp [ixI] at hx; omega⟩ _)
  have hm1 : Hid (m0.all (·.oneCell') = true) := hid (by rw [← HM0.out]; exact rqA_one _ _ rfl)
  have hl1 : (0 : Int) < (l.length : Int) := by omega
  have hln : ¬ ((l.length : Int) < 34) := by omega
  have hl0 : ¬ ((l.length : Int) = 0) := by omega
  have hl0' : ¬ (l.length = 0) := by omega
  have hl0'' : ¬ (l = []) := fun e => by rw [e] at hl; simp at hl
  have a0' : W2.cell? ⟨b, off, none⟩ = some (.int .u8 2) := a0
  clear A x0 x0b x1 B2' B3' B1 Z1 Z2 h xA xk x3 a0
  go_enter Try.func25, Try.ntmps25
  refine wp_seq_k fun K0 h0 => ?_
  have H0 := hid h0
  clear h0
  go_wp2
  rw [HW1.out]
  refine H0.out _ _ ?_
  refine wp_seq_k fun K0 h0 => ?_
  have H0 := hid h0
  clear h0
  go_wp2
  rw [HW2.out, HZ1.out]
  refine H0.out _ _ ?_
  go_wp2_with fail
  refine (CH.out _).mono ?_
  rintro e w' ⟨rfl, rfl⟩
  go_wp2_with fail
  refine (CH.out _).mono ?_
  rintro e w' ⟨rfl, rfl⟩
  go_wp2_with (first | (refine wpList_buildQ rfl 38 _ rfl #[(0, .int .u8 2)] (by go_simp) _ (hb0.out _) ?_) | rw [HWA.out, HZ2.out] | (refine wpList_store_row rfl 38 _ _ rfl (w.heap.size + 2) m0 rfl rfl 38 zrq HXA.out (by rw [hm0.out]; exact SR.out) (by rw [zrq_size, hm0.out]) hm1.out ?_) | rw [HW3.out] | fail)
  go_loopw [8] (fun i wr => ∃ j : Nat, j ≤ 16 ∧ i = .int .i64 (j : Int) ∧ Hid (RS w wr ⟨2, ixI l j, 0, 0, 0, 0, 0⟩ nlS)) (fun i _ => 16 - (intOf i).toNat)
  case atStart => exact ⟨0, by omega, rfl, S3⟩
  case round =>
    obtain ⟨j, hj, rfl, HS⟩ := hrel
    by_cases hlt : j < 16
    · have ca := A'.out wr HS.out.bel (1 + j) (by omega)
      have h16 := ixI_len l j hj (by omega)
      have cs : wr.cell? ⟨w.heap.size + 2, 1 + j, none⟩ = some (.int .u8 ((ixI l j)[j]'(by omega))) := HS.out.cell (by
        unfold rqA rqL
        rw [List.getElem?_toArray, Nat.add_comm 1 j, List.getElem?_cons_succ, List.getElem?_append_left (by rw [List.length_map]; show j < (ixI l j).length; omega), List.getElem?_map, List.getElem?_eq_getElem (show j < (ixI l j).length by omega)]
        rfl)
      have fr := HS.out.fr (1 + j)
      have SN := hid (HS.out.set (1 + j) (.int .u8 (l.getD (1 + j) 0)) (rqA_ix _ _ _ _ _ _ _ _ j hlt _ h16))
      rw [ixI_set l j hlt (by omega)] at SN
      have w3 : IntKind.i64.wrap (1 + (j : Int)) = ((1 + j : Nat) : Int) := by rw [IntKind.wrap_i64]; omega
      have hjl : 1 + j < l.length := by omega
      have hjl2 : ((1 + j : Nat) : Int) < (l.length : Int) := by omega
      generalize l.getD (1 + j) 0 = y at ca SN
      generalize (ixI l j)[j]'(by omega) = y0 at cs
      clear hl h16
      go_wp2
      exact ⟨⟨j + 1, by omega, by go_num, SN⟩, by simp [intOf]; omega⟩
    · obtain rfl : j = 16 := by omega
      have hk0 : wr.cell? ⟨w.heap.size + 2, 0, none⟩ = some (.int .u8 2) := HS.out.cell rfl
      have hx16 : ixI l 16 = (l.drop 1).take 16 := by simp [ixI]
      rw [hx16] at HS
      have h16 : Hid (((l.drop 1).take 16).length = 16) := hid (by simp; omega)
      obtain ⟨ix, HIX⟩ : ∃ x, Hid ((l.drop 1).take 16 = x) := ⟨_, hid rfl⟩
      rw [HIX.out] at HS h16
      have hwl : IntKind.u64.wrap (l.length : Int) = (l.length : Int) := by rw [IntKind.wrap_u64]; omega
      have hok : Hid (∀ nb pl ln who til, Rq.ok ⟨2, ix, nb, pl, ln, who, til⟩) := hid (fun nb pl ln who til => ⟨h16.out, fun x hx => by
        rw [← HIX.out] at hx
        exact HBY2.out x (List.mem_of_mem_drop (List.mem_of_mem_take hx))⟩)
      clear hj hlt hx16
      have DQ : Hid (dqP l = match (if l.getD 17 0 = 255 then some 17 else if 1099511627776 < vA l 22 8 then some 22 else if 33554432 < vA l 30 4 then some 30 else none : Option Int) with | some p => some p | none => if l.length < 34 + vA l 30 4 then some (l.length : Int) else if 34 + vA l 30 4 < l.length then some ((34 + vA l 30 4 : Nat) : Int) else none) := hid (by
        unfold dqP dqF dqE
        rw [hk]
        simp only [show ((2 : Int) = 3) = False by simp, show ((2 : Int) = 4) = False by simp, show ((2 : Int) = 5) = False by simp, show hdN 2 = 34 from rfl, if_true, if_false, or_self, Nat.add_zero]
        rw [if_neg (by omega), if_neg (by omega)]
        rfl)
      have c17 := A'.out wr HS.out.bel 17 (by omega)
      have y17 := HBY.out 17
      obtain ⟨x17, HX17⟩ : ∃ x, Hid (l.getD 17 0 = x) := ⟨_, hid rfl⟩
      rw [HX17.out] at c17 y17 DQ
      have h17 : (17 : Int) < (l.length : Int) := by omega
      have C22 : Hid (Calls Try.prog 49 #[.slice (some ⟨b, off, none⟩) l.length c, .int .i64 22, .int .i64 8] wr fun e w' => e = .returned (.int .u64 (vA l 22 8 : Nat)) ∧ w' = wr) := hid (rat_any wr _ l (VB.out wr HS.out.bel) 22 8 (by omega) (by omega) (by omega))
      have z22 : vA l 22 8 < 18446744073709551616 := by
        have q := valL_lt ((l.drop 22).take 8) (fun x hx => HBY2.out x (List.mem_of_mem_drop (List.mem_of_mem_take hx)))
        rw [show ((l.drop 22).take 8).length = 8 by simp; omega] at q
        exact q
      have C30 : Hid (Calls Try.prog 49 #[.slice (some ⟨b, off, none⟩) l.length c, .int .i64 30, .int .i64 4] wr fun e w' => e = .returned (.int .u64 (vA l 30 4 : Nat)) ∧ w' = wr) := hid (rat_any wr _ l (VB.out wr HS.out.bel) 30 4 (by omega) (by omega) (by omega))
      have z30 : vA l 30 4 < 4294967296 := by
        have q := valL_lt ((l.drop 30).take 4) (fun x hx => HBY2.out x (List.mem_of_mem_drop (List.mem_of_mem_take hx)))
        rw [show ((l.drop 30).take 4).length = 4 by simp; omega] at q
        exact q
      have C18 : Hid (Calls Try.prog 49 #[.slice (some ⟨b, off, none⟩) l.length c, .int .i64 18, .int .i64 4] wr fun e w' => e = .returned (.int .u64 (vA l 18 4 : Nat)) ∧ w' = wr) := hid (rat_any wr _ l (VB.out wr HS.out.bel) 18 4 (by omega) (by omega) (by omega))
      have z18 : vA l 18 4 < 4294967296 := by
        have q := valL_lt ((l.drop 18).take 4) (fun x hx => HBY2.out x (List.mem_of_mem_drop (List.mem_of_mem_take hx)))
        rw [show ((l.drop 18).take 4).length = 4 by simp; omega] at q
        exact q
      obtain ⟨x22, HX22⟩ : ∃ x, Hid (vA l 22 8 = x) := ⟨_, hid rfl⟩
      rw [HX22.out] at C22 z22
      rw [HX22.out] at DQ
      obtain ⟨x30, HX30⟩ : ∃ x, Hid (vA l 30 4 = x) := ⟨_, hid rfl⟩
      rw [HX30.out] at C30 z30
      rw [HX30.out] at DQ
      obtain ⟨x18, HX18⟩ : ∃ x, Hid (vA l 18 4 = x) := ⟨_, hid rfl⟩
      rw [HX18.out] at C18 z18
      have D22 : Hid (∀ W, Below w.heap.size w W → Calls Try.prog 49 #[.slice (some ⟨b, off, none⟩) l.length c, .int .i64 22, .int .i64 8] W fun e w' => e = .returned (.int .u64 (x22 : Nat)) ∧ w' = W) := hid (fun W hW => by rw [← HX22.out]; exact rat_any W _ l (VB.out W hW) 22 8 (by omega) (by omega) (by omega))
      have D30 : Hid (∀ W, Below w.heap.size w W → Calls Try.prog 49 #[.slice (some ⟨b, off, none⟩) l.length c, .int .i64 30, .int .i64 4] W fun e w' => e = .returned (.int .u64 (x30 : Nat)) ∧ w' = W) := hid (fun W hW => by rw [← HX30.out]; exact rat_any W _ l (VB.out W hW) 30 4 (by omega) (by omega) (by omega))
      have D18 : Hid (∀ W, Below w.heap.size w W → Calls Try.prog 49 #[.slice (some ⟨b, off, none⟩) l.length c, .int .i64 18, .int .i64 4] W fun e w' => e = .returned (.int .u64 (x18 : Nat)) ∧ w' = W) := hid (fun W hW => by rw [← HX18.out]; exact rat_any W _ l (VB.out W hW) 18 4 (by omega) (by omega) (by omega))
      have HWR := hid HS.out.bel
      by_cases q17 : x17 = 255
      · subst q17
        go_wp2_with (first | (refine wpList_load_mid rfl 38 _ rfl (w.heap.size + 1) 0 rfl zrq.toList _ HS.out.rng1 Try.underlying38 rfl SR.out ?_; rw [Array.toArray_toList]) | (refine wpList_store_row rfl 38 _ _ rfl w.heap.size zrq rfl rfl 38 zrq HS.out.x0 SR.out rfl zrq_one ?_) | fail)
        refine bodyPost_ret (v := .tuple #[.agg zrq, .int .i64 17, .int .i64 200]) (results_cellTT (p := 2) (q := 3) (q' := 4) (ty := 38) rfl _ _ w.heap.size 38 _ (0, 0) _ _ _ rfl rfl rfl (HS.out.ans _).1 Try.underlying38 rfl SR.out) rfl ?_
        exact ⟨.inl ⟨17, by rw [DQ.out]; rfl, rfl⟩, (HS.out.ans _).2⟩
      by_cases q22 : 1099511627776 < x22
      · have r22 : (1099511627776 : Int) < (x22 : Int) := by omega
        go_wp2_with fail
        refine C22.out.mono ?_
        rintro e w' ⟨rfl, rfl⟩
        go_wp2_with (first | (refine wpList_load_mid rfl 38 _ rfl (w.heap.size + 1) 0 rfl zrq.toList _ HS.out.rng1 Try.underlying38 rfl SR.out ?_; rw [Array.toArray_toList]) | (refine wpList_store_row rfl 38 _ _ rfl w.heap.size zrq rfl rfl 38 zrq HS.out.x0 SR.out rfl zrq_one ?_) | fail)
        refine bodyPost_ret (v := .tuple #[.agg zrq, .int .i64 22, .int .i64 200]) (results_cellTT (p := 2) (q := 3) (q' := 4) (ty := 38) rfl _ _ w.heap.size 38 _ (0, 0) _ _ _ rfl rfl rfl (HS.out.ans _).1 Try.underlying38 rfl SR.out) rfl ?_
        exact ⟨.inl ⟨22, by rw [DQ.out, if_neg q17, if_pos q22], rfl⟩, (HS.out.ans _).2⟩
      have r22 : ¬ ((1099511627776 : Int) < (x22 : Int)) := by omega
      by_cases q30 : 33554432 < x30
      · have r30 : (33554432 : Int) < (x30 : Int) := by omega
        go_wp2_with fail
        refine C22.out.mono ?_
        rintro e w' ⟨rfl, rfl⟩
        go_wp2_with fail
        refine C30.out.mono ?_
        rintro e w' ⟨rfl, rfl⟩
        go_wp2_with (first | (refine wpList_load_mid rfl 38 _ rfl (w.heap.size + 1) 0 rfl zrq.toList _ HS.out.rng1 Try.underlying38 rfl SR.out ?_; rw [Array.toArray_toList]) | (refine wpList_store_row rfl 38 _ _ rfl w.heap.size zrq rfl rfl 38 zrq HS.out.x0 SR.out rfl zrq_one ?_) | fail)
        refine bodyPost_ret (v := .tuple #[.agg zrq, .int .i64 30, .int .i64 200]) (results_cellTT (p := 2) (q := 3) (q' := 4) (ty := 38) rfl _ _ w.heap.size 38 _ (0, 0) _ _ _ rfl rfl rfl (HS.out.ans _).1 Try.underlying38 rfl SR.out) rfl ?_
        exact ⟨.inl ⟨30, by rw [DQ.out, if_neg q17, if_neg q22, if_pos q30], rfl⟩, (HS.out.ans _).2⟩
      have r30 : ¬ ((33554432 : Int) < (x30 : Int)) := by omega
      have wi6417 : IntKind.i64.wrap (x17 : Int) = (x17 : Int) := by rw [IntKind.wrap_i64]; omega
      have wu3218 : IntKind.u32.wrap (x18 : Int) = (x18 : Int) := by rw [IntKind.wrap_u32]; omega
      have wi6422 : IntKind.i64.wrap (x22 : Int) = (x22 : Int) := by rw [IntKind.wrap_i64]; omega
      obtain ⟨V1, HV1⟩ : ∃ W : World, Hid (wr.setCell ⟨w.heap.size + 2, 17, none⟩ (.int .i64 x17) = W) := ⟨_, hid rfl⟩
      have e0 : wr.cell? ⟨w.heap.size + 2, 17, none⟩ = some (.int .i64 0) := HS.out.cell (rqA_17 (hok.out _ _ _ _ _) _)
      have f0 := HS.out.fr 17
      have S1 : Hid (RS w V1 ⟨2, ix, x17, 0, 0, 0, 0⟩ nlS) := by rw [← HV1.out]; exact hid (HS.out.nb h16.out x17)
      obtain ⟨V2, HV2⟩ : ∃ W : World, Hid (V1.setCells (w.heap.size + 2) 20 [.int .u32 x18, .int .i64 x22] = W) := ⟨_, hid rfl⟩
      have TH : Hid (V1.there (w.heap.size + 2) 20 2) := hid (S1.out.there (hok.out _ _ _ _ _) 20 2 (by omega))
      have S2 : Hid (RS w V2 ⟨2, ix, x17, 0, 0, x18, x22⟩ nlS) := by rw [← HV2.out]; exact hid (S1.out.lease h16.out x18 x22)
      have we : IntKind.u64.wrap (34 + (x30 : Int)) = 34 + (x30 : Int) := by rw [IntKind.wrap_u64]; omega
      go_wp2_with fail
      refine (D22.out _ HS.out.bel).mono ?_
      rintro e w' ⟨rfl, hw'⟩
      rw [hw']
      clear hw' w'
      go_wp2_with fail
      refine (D30.out _ HS.out.bel).mono ?_
      rintro e w' ⟨rfl, hw'⟩
      rw [hw']
      clear hw' w'
      go_wp2_with (first | rw [HV1.out] | fail)
      refine (D18.out _ S1.out.bel).mono ?_
      rintro e w' ⟨rfl, hw'⟩
      rw [hw']
      clear hw' w'
      go_wp2_with fail
      refine (D22.out _ S1.out.bel).mono ?_
      rintro e w' ⟨rfl, hw'⟩
      rw [hw']
      clear hw' w'
      go_wp2_with (first | (refine wpList_buildQ rfl 35 _ rfl #[(0, .int .u32 x18), (1, .int .i64 x22)] (by go_simp) _ (run_build_le _ _ _) ?_) | (refine wpList_store_mid rfl 35 _ _ rfl (w.heap.size + 2) 20 #[.int .u32 x18, .int .i64 x22] rfl rfl TH.out size_le (one_le _ _) ?_) | rw [HV2.out] | fail)
      refine (D30.out _ S2.out.bel).mono ?_
      rintro e w' ⟨rfl, hw'⟩
      rw [hw']
      clear hw' w'
      by_cases g0 : l.length < 34 + x30
      · have g0' : (l.length : Int) < 34 + (x30 : Int) := by omega
        go_wp2_with (first | (refine wpList_load_mid rfl 38 _ rfl (w.heap.size + 1) 0 rfl zrq.toList _ S2.out.rng1 Try.underlying38 rfl SR.out ?_; rw [Array.toArray_toList]) | (refine wpList_store_row rfl 38 _ _ rfl w.heap.size zrq rfl rfl 38 zrq S2.out.x0 SR.out rfl zrq_one ?_) | fail)
        refine bodyPost_ret (v := .tuple #[.agg zrq, .int .i64 (l.length : Int), .int .i64 200]) (results_cellTT (p := 2) (q := 3) (q' := 4) (ty := 38) rfl _ _ w.heap.size 38 _ (0, 0) _ _ _ rfl rfl rfl (S2.out.ans _).1 Try.underlying38 rfl SR.out) rfl ?_
        exact ⟨.inl ⟨(l.length : Int), by rw [DQ.out, if_neg q17, if_neg q22, if_neg q30]; exact if_pos g0, rfl⟩, (S2.out.ans _).2⟩
      have g0' : ¬ ((l.length : Int) < 34 + (x30 : Int)) := by omega
      by_cases g1 : 34 + x30 < l.length
      · have g1' : 34 + (x30 : Int) < (l.length : Int) := by omega
        have we2 : IntKind.i64.wrap (34 + (x30 : Int)) = 34 + (x30 : Int) := by rw [IntKind.wrap_i64]; omega
        go_wp2_with (first | (refine wpList_load_mid rfl 38 _ rfl (w.heap.size + 1) 0 rfl zrq.toList _ S2.out.rng1 Try.underlying38 rfl SR.out ?_; rw [Array.toArray_toList]) | (refine wpList_store_row rfl 38 _ _ rfl w.heap.size zrq rfl rfl 38 zrq S2.out.x0 SR.out rfl zrq_one ?_) | fail)
        refine bodyPost_ret (v := .tuple #[.agg zrq, .int .i64 (34 + (x30 : Int) : Int), .int .i64 200]) (results_cellTT (p := 2) (q := 3) (q' := 4) (ty := 38) rfl _ _ w.heap.size 38 _ (0, 0) _ _ _ rfl rfl rfl (S2.out.ans _).1 Try.underlying38 rfl SR.out) rfl ?_
        exact ⟨.inl ⟨(34 + (x30 : Int) : Int), by rw [DQ.out, if_neg q17, if_neg q22, if_neg q30]; exact (if_neg (by omega)).trans (if_pos g1), rfl⟩, (S2.out.ans _).2⟩
      have g1' : ¬ (34 + (x30 : Int) < (l.length : Int)) := by omega
      go_wp2_with (first | fail)
      have HVD := hid (S2.out.below ((Below.refl _ V2).drew))
      refine wp_region_last (S := (fun W : World => W.cell? ⟨w.heap.size + 2, 22, none⟩ = some nlS)) 7 (by kernel_rfl) (HVD.out.cell (rqA_22 (hok.out _ _ _ _ _) _)) (fun hHeld => ?_)
      have HS := hid hHeld
      clear hHeld
      change wpAnyL _ _ _ _ _ _ _ _ _ (World.drew _)
      refine wpAnyL_take (i := 0) (v := ?_) rfl (by kernel_rfl) (by kernel_rfl) (by kernel_rfl) (by kernel_rfl) (by kernel_rfl) (fun _ _ _ h => h) (Or.inl ⟨by rfl, ?q0⟩) HS.out ?_
      case q0 => intro w hSw; go_simp; rfl
      simp only [Act.put, List.getElem_toArray, List.getElem_cons_zero, List.getElem_cons_succ, List.setIfInBounds_toArray, List.set_cons_zero, List.set_cons_succ]
      refine wpAnyL_take (i := 1) (v := ?_) rfl (by kernel_rfl) (by kernel_rfl) (by kernel_rfl) (by kernel_rfl) (by kernel_rfl) (fun _ _ _ h => h) (Or.inl ⟨by rfl, ?q1⟩) HS.out ?_
      case q1 => intro w hSw; go_simp; rfl
      simp only [Act.put, List.getElem_toArray, List.getElem_cons_zero, List.getElem_cons_succ, List.setIfInBounds_toArray, List.set_cons_zero, List.set_cons_succ]
      refine wpAnyL_take (i := 2) (v := ?_) rfl (by kernel_rfl) (by kernel_rfl) (by kernel_rfl) (by kernel_rfl) (by kernel_rfl) (fun _ _ _ h => h) (Or.inl ⟨by rfl, ?q2⟩) HS.out ?_
      case q2 => intro w hSw; go_simp; rfl
      simp only [Act.put, List.getElem_toArray, List.getElem_cons_zero, List.getElem_cons_succ, List.setIfInBounds_toArray, List.set_cons_zero, List.set_cons_succ]
      refine wpAnyL_take (i := 3) (v := ?_) rfl (by kernel_rfl) (by kernel_rfl) (by kernel_rfl) (by kernel_rfl) (by kernel_rfl) (fun _ _ _ h => h) (Or.inl ⟨by rfl, ?q3⟩) HS.out ?_
      case q3 => intro w hSw; go_simp; rfl
      simp only [Act.put, List.getElem_toArray, List.getElem_cons_zero, List.getElem_cons_succ, List.setIfInBounds_toArray, List.set_cons_zero, List.set_cons_succ]
      refine wpAnyL_take (i := 4) rfl (by kernel_rfl) (by kernel_rfl) (by kernel_rfl) (by kernel_rfl) (by kernel_rfl) (fun _ _ _ h => h) (yieldsIf_slG (by rfl) 36 _ _ _ (by rw [elmB]; exact Try.underlying36) rfl (.slice (some ⟨b, off, none⟩) l.length c) (some (.int .i64 34)) none rfl rfl rfl _ (fun W _ => slice_lB W (some ⟨b, off, none⟩) l.length c 34 HL.out)) HS.out ?_
      simp only [Act.put, List.getElem_toArray, List.getElem_cons_zero, List.getElem_cons_succ, List.setIfInBounds_toArray, List.set_cons_zero, List.set_cons_succ]
      clear HS
      refine wpAnyL_one (i := 5) (by kernel_rfl) rfl (fun K hK => ?_)
      rw [if_pos (by rfl)]
      refine wp_append_HB _ _ rfl w.heap.size nlS 0 [] rfl (World.ownsRow_nil _ _ _ _) _ (l.drop 34) rfl ((VB.out _ HVD.out.bel).suf 34 HL.out) (by rw [List.length_drop]; omega) (HVD.out.bel.size) (fun v1 U hu hg => ?_)
      have BU : Below (V2.drew).heap.size V2.drew U := (Below.refl _ V2.drew).grown hg (Nat.le_refl _) (fun k e => by cases e)
      have SU := hid (HVD.out.below BU)
      have OU : Hid (U.ownsRow w.heap.size 5 1 v1 (l.drop 34).length ((l.drop 34).map (Value.int .u8))) := hid (by simpa using hu)
      clear hu hg BU
      try simp only [Act.put, List.getElem_toArray, List.getElem_cons_zero, List.getElem_cons_succ, List.setIfInBounds_toArray, List.set_cons_zero, List.set_cons_succ]
      have HS := hid (SU.out.cell (rqA_22 (hok.out _ _ _ _ _) _))
      have UF := SU.out.fr 22
      refine hK.out _ _ (fun _ => HS.out) ?_
      clear hK K
      refine wpAnyL_take (i := 6) (v := ?_) rfl (by kernel_rfl) (by kernel_rfl) (by kernel_rfl) (by kernel_rfl) (by kernel_rfl) (fun _ _ _ h => h) (Or.inl ⟨by rfl, ?q6⟩) HS.out ?_
      case q6 => intro w hSw; go_simp; rfl
      simp only [Act.put, List.getElem_toArray, List.getElem_cons_zero, List.getElem_cons_succ, List.setIfInBounds_toArray, List.set_cons_zero, List.set_cons_succ]
      refine wpAnyL_one (i := 7) (by kernel_rfl) rfl (fun K hK => ?_)
      have cu := HS.out
      obtain ⟨pv, cv, ev⟩ := own_slice OU.out
      rw [ev] at OU ⊢
      obtain ⟨M, HMl⟩ : ∃ x, Hid ((l.drop 34).length = x) := ⟨_, hid rfl⟩
      rw [HMl.out] at OU ⊢
      obtain ⟨U2, HU2⟩ : ∃ W : World, Hid (U.setCell ⟨w.heap.size + 2, 22, none⟩ (.slice pv M cv) = W) := ⟨_, hid rfl⟩
      have SU2 : Hid (RS w U2 ⟨2, ix, x17, 0, 0, x18, x22⟩ (.slice pv M cv)) := by rw [← HU2.out]; exact hid (SU.out.byt h16.out _)
      have OU2 : Hid (U2.ownsRow w.heap.size 5 1 (.slice pv M cv) (l.drop 34).length ((l.drop 34).map (Value.int .u8))) := by
        rw [← HU2.out, HMl.out]
        refine hid (own_of OU.out fun b' hb' => ?_)
        obtain ⟨_, _, cs', q⟩ := own_at OU.out hb'
        have : w.heap.size + 2 ≠ b' := fun e => by
          rw [← e, SU.out.x2] at q
          simp only [Option.some.injEq, Obj.cells.injEq] at q
          exact absurd q.2.1 (by decide)
        simp [World.setCell, Array.getElem?_modify, this]
      clear SU OU HS
      go_simp
      rw [HU2.out]
      refine hK.out _ _ (fun e => absurd rfl e) ?_
      clear hK K
      try simp only [Act.put, List.getElem_toArray, List.getElem_cons_zero, List.getElem_cons_succ, List.setIfInBounds_toArray, List.set_cons_zero, List.set_cons_succ]
      refine wpAnyL_done (by kernel_rfl) ?_ _
      have hsz : Hid ((Try.prog.info? 38).map (·.size) = some (rqA ⟨2, ix, x17, 0, 0, x18, x22⟩ (.slice pv M cv)).toList.length) := hid (by rw [Array.length_toList, rqA_size (hok.out _ _ _ _ _)]; exact SR.out)
      have hsz2 : Hid ((rqA ⟨2, ix, x17, 0, 0, x18, x22⟩ (.slice pv M cv)).size = 23) := hid (rqA_size (hok.out _ _ _ _ _) _)
      have hon : Hid ((rqA ⟨2, ix, x17, 0, 0, x18, x22⟩ (.slice pv M cv)).all (·.oneCell') = true) := hid (rqA_one _ _ rfl)
      have hrr : Hid (dqR l (l.getD 0 0) = ⟨2, ix, x17, 0, 0, x18, x22⟩) := hid (by
        unfold dqR
        rw [hk]
        simp only [show ((2 : Int) = 3) = False by simp, show ((2 : Int) = 4) = False by simp, show ((2 : Int) = 5) = False by simp, if_true, if_false, or_self, or_true, true_or, HIX.out, HX17.out, HX22.out, HX30.out, HX18.out])
      obtain ⟨mm, HMM⟩ : ∃ x, Hid (rqA ⟨2, ix, x17, 0, 0, x18, x22⟩ (.slice pv M cv) = x) := ⟨_, hid rfl⟩
      have RGE := hid SU2.out.rng
      rw [HMM.out] at hsz hsz2 hon RGE
      go_wp2_with (first | (refine wpList_load_mid rfl 38 _ rfl (w.heap.size + 2) 0 rfl mm.toList _ RGE.out Try.underlying38 rfl hsz.out ?_; rw [Array.toArray_toList]) | (refine wpList_store_row rfl 38 _ _ rfl w.heap.size mm rfl rfl 38 zrq SU2.out.x0 (by rw [hsz2.out]; exact SR.out) (by rw [hsz2.out]; rfl) hon.out ?_) | fail)
      all_goals
        refine bodyPost_ret (v := .tuple #[.agg mm, .int .i64 0, .int .i64 0]) (results_cellTT (p := 2) (q := 3) (q' := 4) (ty := 38) rfl _ _ w.heap.size 38 _ (0, 0) _ _ _ rfl rfl rfl (SU2.out.ans _).1 Try.underlying38 rfl (by rw [hsz2.out]; exact SR.out)) rfl ?_
        refine ⟨.inr ⟨by rw [DQ.out, if_neg q17, if_neg q22, if_neg q30]; exact (if_neg (by omega)).trans (if_neg (by omega)), .slice pv M cv, ?_, ?_⟩, (SU2.out.ans _).2⟩
        · rw [hrr.out, HMM.out]
        · rw [hk]
          exact own_setRow OU2.out SU2.out.x0 (by decide)
set_option maxRecDepth 100000 in
set_option maxHeartbeats 32000000 in
theorem rreq_3 (w : World) (v : Value) (l : List Int) (h : HB w v l) (hbig : l.length ≤ 140737488355328) (hk : l.getD 0 0 = 3) (hl : 26 ≤ l.length) :
    Calls Try.prog 25 #[v] w fun e w' => DocQ w l e w' ∧ Below w.heap.size w w' := by
  obtain ⟨q, c, e, hlc, hm⟩ := h.open
  have hby := h.byte
  have A : Hid (∀ W, Below w.heap.size w W → ∀ j, j < l.length → ∃ b off, q = some ⟨b, off, none⟩ ∧ W.cell? ⟨b, off + j, none⟩ = some (.int .u8 (l.getD j 0))) := hid (fun W hW j hj => by
    obtain ⟨b, off, c', e', _, _, hh⟩ := (h.below hW).ne (by omega)
    rw [e] at e'
    simp only [Value.slice.injEq, true_and] at e'
    exact ⟨b, off, e'.1, hh j hj⟩)
  subst e
  obtain ⟨b, off, rfl, -⟩ := A.out w (Below.refl _ _) 0 (by omega)
  have A' : Hid (∀ W, Below w.heap.size w W → ∀ j, j < l.length → W.cell? ⟨b, off + j, none⟩ = some (.int .u8 (l.getD j 0))) := hid (fun W hW j hj => by
    obtain ⟨b', off', e', hh⟩ := A.out W hW j hj
    cases e'
    exact hh)
  have VB : Hid (∀ W, Below w.heap.size w W → HB W (.slice (some ⟨b, off, none⟩) l.length c) l) := hid (fun W hW => h.below hW)
  have HL := hid hl
  have HBY := hid hby
  have HBY2 := hid h.2
  obtain ⟨W1, HW1⟩ : ∃ W : World, Hid (w.alloc (.cells zreq 38) = W) := ⟨_, hid rfl⟩
  have Z1 : W1.heap.size = w.heap.size + 1 := by rw [← HW1.out]; simp
  obtain ⟨W2, HW2⟩ : ∃ W : World, Hid (W1.alloc (.cells zreq 38) = W) := ⟨_, hid rfl⟩
  have Z2 : W2.heap.size = w.heap.size + 2 := by rw [← HW2.out]; simp [Z1]
  obtain ⟨WA, HWA⟩ : ∃ W : World, Hid (W2.alloc (.cells zreq 38) = W) := ⟨_, hid rfl⟩
  obtain ⟨m0, HM0⟩ : ∃ m, Hid (rqA ⟨3, ixI l 0, 0, 0, 0, 0, 0⟩ nlS = m) := ⟨_, hid rfl⟩
  obtain ⟨W3, HW3⟩ : ∃ W : World, Hid (WA.setRow (w.heap.size + 2) m0 = W) := ⟨_, hid rfl⟩
  have B1 : Below w.heap.size w W1 := by rw [← HW1.out]; exact (Below.refl _ w).alloc (Nat.le_refl _) _
  have B2' : Below W1.heap.size W1 W2 := by rw [← HW2.out]; exact (Below.refl _ W1).alloc (Nat.le_refl _) _
  have B3' : Below W2.heap.size W2 WA := by rw [← HWA.out]; exact (Below.refl _ W2).alloc (Nat.le_refl _) _
  have B2 : Hid (Below w.heap.size w W2) := hid (B1.trans (B2'.mono B1.size))
  have x0 : W1.heap[w.heap.size]? = some (.cells zreq 38 (0, 0)) := by rw [← HW1.out]; exact heap_alloc_new w _
  have x0b : W2.heap[w.heap.size]? = some (.cells zreq 38 (0, 0)) := (B2'.block _ (by omega)).trans x0
  have x1 : W2.heap[w.heap.size + 1]? = some (.cells zreq 38 (0, 0)) := by rw [← Z1, ← HW2.out]; exact heap_alloc_new W1 _
  have xA : WA.heap[w.heap.size + 2]? = some (.cells zreq 38 (0, 0)) := by rw [← Z2, ← HWA.out]; exact heap_alloc_new W2 _
  have HXA := hid xA
  have xk : ∀ i, i ≠ w.heap.size + 2 → W3.heap[i]? = WA.heap[i]? := fun i hi => by rw [← HW3.out]; simp [World.setRow, Array.getElem?_modify, show w.heap.size + 2 ≠ i from fun e => hi e.symm]
  have x3 : W3.heap[w.heap.size + 2]? = some (.cells m0 38 (0, 0)) := by rw [← HW3.out]; exact setRow_heap _ _ _ _ _ _ xA
  have S3 : Hid (RS w W3 ⟨3, ixI l 0, 0, 0, 0, 0, 0⟩ nlS) := hid ⟨(xk _ (by omega)).trans ((B3'.block _ (by omega)).trans x0b), (xk _ (by omega)).trans ((B3'.block _ (by omega)).trans x1), by rw [HM0.out]; exact x3, by
    have q1 := B2.out.trans (B3'.mono B2.out.size)
    refine q1.trans ?_
    rw [← HW3.out]
    exact (ex_setRow (Ex.refl (fun k => k = w.heap.size + 2) WA) rfl m0).below q1.size (fun k e => by omega)⟩
  have HZ1 := hid Z1
  have HZ2 := hid Z2
  have a0 := A'.out W2 B2.out 0 (by omega)
  rw [hk] at a0
  have CH : Hid (∀ W, Calls Try.prog 48 #[.int .u8 3] W fun e w' => e = .returned (.int .i64 26) ∧ w' = W) := hid (fun W => rhead_any W 3)
  have hb0 : Hid (∀ W, (Instr.build 38 #[(0, .int .u8 3)]).run Try.prog W = .ok (.agg m0) W) := hid (fun W => by
    rw [← HM0.out, show ixI l 0 = List.replicate 16 0 by simp [ixI]]
    kernel_rfl)
  have SR : Hid ((Try.prog.info? 38).map (·.size) = some 23) := hid (by kernel_rfl)
  have hm0 : Hid (m0.size = 23) := hid (by rw [← HM0.out]; exact rqA_size ⟨ixI_len l 0 (by omega) (by omega), fun x hx => by simp [ixI] at hx; omega⟩ _)
  have hm1 : Hid (m0.all (·.oneCell') = true) := hid (by rw [← HM0.out]; exact rqA_one _ _ rfl)
  have hl1 : (0 : Int) < (l.length : Int) := by omega
  have hln : ¬ ((l.length : Int) < 26) := by omega
  have hl0 : ¬ ((l.length : Int) = 0) := by omega
  have hl0' : ¬ (l.length = 0) := by omega
  have hl0'' : ¬ (l = []) := fun e => by rw [e] at hl; simp at hl
  have a0' : W2.cell? ⟨b, off, none⟩ = some (.int .u8 3) := a0
  clear A x0 x0b x1 B2' B3' B1 Z1 Z2 h xA xk x3 a0
  go_enter Try.func25, Try.ntmps25
  refine wp_seq_k fun K0 h0 => ?_
  have H0 := hid h0
  clear h0
  go_wp2
  rw [HW1.out]
  refine H0.out _ _ ?_
  refine wp_seq_k fun K0 h0 => ?_
  have H0 := hid h0
  clear h0
  go_wp2
  rw [HW2.out, HZ1.out]
  refine H0.out _ _ ?_
  go_wp2_with fail
  refine (CH.out _).mono ?_
  rintro e w' ⟨rfl, rfl⟩
  go_wp2_with fail
  refine (CH.out _).mono ?_
  rintro e w' ⟨rfl, rfl⟩
  go_wp2_with (first | (refine wpList_buildQ rfl 38 _ rfl #[(0, .int .u8 3)] (by go_simp) _ (hb0.out _) ?_) | rw [HWA.out, HZ2.out] | (refine wpList_store_row rfl 38 _ _ rfl (w.heap.size + 2) m0 rfl rfl 38 zrq HXA.out (by rw [hm0.out]; exact SR.out) (by rw [zrq_size, hm0.out]) hm1.out ?_) | rw [HW3.out] | fail)
  go_loopw [8] (fun i wr => ∃ j : Nat, j ≤ 16 ∧ i = .int .i64 (j : Int) ∧ Hid (RS w wr ⟨3, ixI l j, 0, 0, 0, 0, 0⟩ nlS)) (fun i _ => 16 - (intOf i).toNat)
  case atStart => exact ⟨0, by omega, rfl, S3⟩
  case round =>
    obtain ⟨j, hj, rfl, HS⟩ := hrel
    by_cases hlt : j < 16
    · have ca := A'.out wr HS.out.bel (1 + j) (by omega)
      have h16 := ixI_len l j hj (by omega)
      have cs : wr.cell? ⟨w.heap.size + 2, 1 + j, none⟩ = some (.int .u8 ((ixI l j)[j]'(by omega))) := HS.out.cell (by
        unfold rqA rqL
        rw [List.getElem?_toArray, Nat.add_comm 1 j, List.getElem?_cons_succ, List.getElem?_append_left (by rw [List.length_map]; show j < (ixI l j).length; omega), List.getElem?_map, List.getElem?_eq_getElem (show j < (ixI l j).length by omega)]
        rfl)
      have fr := HS.out.fr (1 + j)
      have SN := hid (HS.out.set (1 + j) (.int .u8 (l.getD (1 + j) 0)) (rqA_ix _ _ _ _ _ _ _ _ j hlt _ h16))
      rw [ixI_set l j hlt (by omega)] at SN
      have w3 : IntKind.i64.wrap (1 + (j : Int)) = ((1 + j : Nat) : Int) := by rw [IntKind.wrap_i64]; omega
      have hjl : 1 + j < l.length := by omega
      have hjl2 : ((1 + j : Nat) : Int) < (l.length : Int) := by omega
      generalize l.getD (1 + j) 0 = y at ca SN
      generalize (ixI l j)[j]'(by omega) = y0 at cs
      clear hl h16
      go_wp2
      exact ⟨⟨j + 1, by omega, by go_num, SN⟩, by simp [intOf]; omega⟩
    · obtain rfl : j = 16 := by omega
      have hk0 : wr.cell? ⟨w.heap.size + 2, 0, none⟩ = some (.int .u8 3) := HS.out.cell rfl
      have hx16 : ixI l 16 = (l.drop 1).take 16 := by simp [ixI]
      rw [hx16] at HS
      have h16 : Hid (((l.drop 1).take 16).length = 16) := hid (by simp; omega)
      obtain ⟨ix, HIX⟩ : ∃ x, Hid ((l.drop 1).take 16 = x) := ⟨_, hid rfl⟩
      rw [HIX.out] at HS h16
      have hwl : IntKind.u64.wrap (l.length : Int) = (l.length : Int) := by rw [IntKind.wrap_u64]; omega
      have hok : Hid (∀ nb pl ln who til, Rq.ok ⟨3, ix, nb, pl, ln, who, til⟩) := hid (fun nb pl ln who til => ⟨h16.out, fun x hx => by
        rw [← HIX.out] at hx
        exact HBY2.out x (List.mem_of_mem_drop (List.mem_of_mem_take hx))⟩)
      clear hj hlt hx16
      have DQ : Hid (dqP l = match (if l.getD 17 0 = 255 then some 17 else if 33554432 < vA l 18 4 then some 18 else if vA l 22 4 < 1 ∨ 131072 < vA l 22 4 then some 22 else none : Option Int) with | some p => some p | none => if l.length < 26 then some (l.length : Int) else if 26 < l.length then some ((26 : Nat) : Int) else none) := hid (by
        unfold dqP dqF dqE
        rw [hk]
        simp only [show ((3 : Int) = 2) = False by simp, show ((3 : Int) = 4) = False by simp, show ((3 : Int) = 5) = False by simp, show hdN 3 = 26 from rfl, if_true, if_false, or_self, Nat.add_zero]
        rw [if_neg (by omega), if_neg (by omega)]
        rfl)
      have c17 := A'.out wr HS.out.bel 17 (by omega)
      have y17 := HBY.out 17
      obtain ⟨x17, HX17⟩ : ∃ x, Hid (l.getD 17 0 = x) := ⟨_, hid rfl⟩
      rw [HX17.out] at c17 y17 DQ
      have h17 : (17 : Int) < (l.length : Int) := by omega
      have C18 : Hid (Calls Try.prog 49 #[.slice (some ⟨b, off, none⟩) l.length c, .int .i64 18, .int .i64 4] wr fun e w' => e = .returned (.int .u64 (vA l 18 4 : Nat)) ∧ w' = wr) := hid (rat_any wr _ l (VB.out wr HS.out.bel) 18 4 (by omega) (by omega) (by omega))
      have z18 : vA l 18 4 < 4294967296 := by
        have q := valL_lt ((l.drop 18).take 4) (fun x hx => HBY2.out x (List.mem_of_mem_drop (List.mem_of_mem_take hx)))
        rw [show ((l.drop 18).take 4).length = 4 by simp; omega] at q
        exact q
      have C22 : Hid (Calls Try.prog 49 #[.slice (some ⟨b, off, none⟩) l.length c, .int .i64 22, .int .i64 4] wr fun e w' => e = .returned (.int .u64 (vA l 22 4 : Nat)) ∧ w' = wr) := hid (rat_any wr _ l (VB.out wr HS.out.bel) 22 4 (by omega) (by omega) (by omega))
      have z22 : vA l 22 4 < 4294967296 := by
        have q := valL_lt ((l.drop 22).take 4) (fun x hx => HBY2.out x (List.mem_of_mem_drop (List.mem_of_mem_take hx)))
        rw [show ((l.drop 22).take 4).length = 4 by simp; omega] at q
        exact q
      obtain ⟨x18, HX18⟩ : ∃ x, Hid (vA l 18 4 = x) := ⟨_, hid rfl⟩
      rw [HX18.out] at C18 z18
      rw [HX18.out] at DQ
      obtain ⟨x22, HX22⟩ : ∃ x, Hid (vA l 22 4 = x) := ⟨_, hid rfl⟩
      rw [HX22.out] at C22 z22
      rw [HX22.out] at DQ
      have D18 : Hid (∀ W, Below w.heap.size w W → Calls Try.prog 49 #[.slice (some ⟨b, off, none⟩) l.length c, .int .i64 18, .int .i64 4] W fun e w' => e = .returned (.int .u64 (x18 : Nat)) ∧ w' = W) := hid (fun W hW => by rw [← HX18.out]; exact rat_any W _ l (VB.out W hW) 18 4 (by omega) (by omega) (by omega))
      have D22 : Hid (∀ W, Below w.heap.size w W → Calls Try.prog 49 #[.slice (some ⟨b, off, none⟩) l.length c, .int .i64 22, .int .i64 4] W fun e w' => e = .returned (.int .u64 (x22 : Nat)) ∧ w' = W) := hid (fun W hW => by rw [← HX22.out]; exact rat_any W _ l (VB.out W hW) 22 4 (by omega) (by omega) (by omega))
      have HWR := hid HS.out.bel
      by_cases q17 : x17 = 255
      · subst q17
        go_wp2_with (first | (refine wpList_load_mid rfl 38 _ rfl (w.heap.size + 1) 0 rfl zrq.toList _ HS.out.rng1 Try.underlying38 rfl SR.out ?_; rw [Array.toArray_toList]) | (refine wpList_store_row rfl 38 _ _ rfl w.heap.size zrq rfl rfl 38 zrq HS.out.x0 SR.out rfl zrq_one ?_) | fail)
        refine bodyPost_ret (v := .tuple #[.agg zrq, .int .i64 17, .int .i64 200]) (results_cellTT (p := 2) (q := 3) (q' := 4) (ty := 38) rfl _ _ w.heap.size 38 _ (0, 0) _ _ _ rfl rfl rfl (HS.out.ans _).1 Try.underlying38 rfl SR.out) rfl ?_
        exact ⟨.inl ⟨17, by rw [DQ.out]; rfl, rfl⟩, (HS.out.ans _).2⟩
      by_cases q18 : 33554432 < x18
      · have r18 : (33554432 : Int) < (x18 : Int) := by omega
        go_wp2_with fail
        refine C18.out.mono ?_
        rintro e w' ⟨rfl, rfl⟩
        go_wp2_with (first | (refine wpList_load_mid rfl 38 _ rfl (w.heap.size + 1) 0 rfl zrq.toList _ HS.out.rng1 Try.underlying38 rfl SR.out ?_; rw [Array.toArray_toList]) | (refine wpList_store_row rfl 38 _ _ rfl w.heap.size zrq rfl rfl 38 zrq HS.out.x0 SR.out rfl zrq_one ?_) | fail)
        refine bodyPost_ret (v := .tuple #[.agg zrq, .int .i64 18, .int .i64 200]) (results_cellTT (p := 2) (q := 3) (q' := 4) (ty := 38) rfl _ _ w.heap.size 38 _ (0, 0) _ _ _ rfl rfl rfl (HS.out.ans _).1 Try.underlying38 rfl SR.out) rfl ?_
        exact ⟨.inl ⟨18, by rw [DQ.out, if_neg q17, if_pos q18], rfl⟩, (HS.out.ans _).2⟩
      have r18 : ¬ ((33554432 : Int) < (x18 : Int)) := by omega
      by_cases q22 : x22 < 1 ∨ 131072 < x22
      · by_cases r22 : (x22 : Int) < 1
        · have r22c := q22
          go_wp2_with fail
          refine C18.out.mono ?_
          rintro e w' ⟨rfl, rfl⟩
          go_wp2_with fail
          refine C22.out.mono ?_
          rintro e w' ⟨rfl, rfl⟩
          go_wp2_with (first | (refine wpList_load_mid rfl 38 _ rfl (w.heap.size + 1) 0 rfl zrq.toList _ HS.out.rng1 Try.underlying38 rfl SR.out ?_; rw [Array.toArray_toList]) | (refine wpList_store_row rfl 38 _ _ rfl w.heap.size zrq rfl rfl 38 zrq HS.out.x0 SR.out rfl zrq_one ?_) | fail)
          refine bodyPost_ret (v := .tuple #[.agg zrq, .int .i64 22, .int .i64 200]) (results_cellTT (p := 2) (q := 3) (q' := 4) (ty := 38) rfl _ _ w.heap.size 38 _ (0, 0) _ _ _ rfl rfl rfl (HS.out.ans _).1 Try.underlying38 rfl SR.out) rfl ?_
          exact ⟨.inl ⟨22, by rw [DQ.out, if_neg q17, if_neg q18, if_pos q22], rfl⟩, (HS.out.ans _).2⟩
        · have r22b : (131072 : Int) < (x22 : Int) := by omega
          go_wp2_with fail
          refine C18.out.mono ?_
          rintro e w' ⟨rfl, rfl⟩
          go_wp2_with fail
          refine C22.out.mono ?_
          rintro e w' ⟨rfl, rfl⟩
          go_wp2_with fail
          refine C22.out.mono ?_
          rintro e w' ⟨rfl, rfl⟩
          go_wp2_with (first | (refine wpList_load_mid rfl 38 _ rfl (w.heap.size + 1) 0 rfl zrq.toList _ HS.out.rng1 Try.underlying38 rfl SR.out ?_; rw [Array.toArray_toList]) | (refine wpList_store_row rfl 38 _ _ rfl w.heap.size zrq rfl rfl 38 zrq HS.out.x0 SR.out rfl zrq_one ?_) | fail)
          refine bodyPost_ret (v := .tuple #[.agg zrq, .int .i64 22, .int .i64 200]) (results_cellTT (p := 2) (q := 3) (q' := 4) (ty := 38) rfl _ _ w.heap.size 38 _ (0, 0) _ _ _ rfl rfl rfl (HS.out.ans _).1 Try.underlying38 rfl SR.out) rfl ?_
          exact ⟨.inl ⟨22, by rw [DQ.out, if_neg q17, if_neg q18, if_pos q22], rfl⟩, (HS.out.ans _).2⟩
      have r22 : ¬ ((x22 : Int) < 1) := by omega
      have r22b : ¬ ((131072 : Int) < (x22 : Int)) := by omega
      have wi6417 : IntKind.i64.wrap (x17 : Int) = (x17 : Int) := by rw [IntKind.wrap_i64]; omega
      have wi6418 : IntKind.i64.wrap (x18 : Int) = (x18 : Int) := by rw [IntKind.wrap_i64]; omega
      have wi6422 : IntKind.i64.wrap (x22 : Int) = (x22 : Int) := by rw [IntKind.wrap_i64]; omega
      obtain ⟨V1, HV1⟩ : ∃ W : World, Hid (wr.setCell ⟨w.heap.size + 2, 17, none⟩ (.int .i64 x17) = W) := ⟨_, hid rfl⟩
      have e0 : wr.cell? ⟨w.heap.size + 2, 17, none⟩ = some (.int .i64 0) := HS.out.cell (rqA_17 (hok.out _ _ _ _ _) _)
      have f0 := HS.out.fr 17
      have S1 : Hid (RS w V1 ⟨3, ix, x17, 0, 0, 0, 0⟩ nlS) := by rw [← HV1.out]; exact hid (HS.out.nb h16.out x17)
      obtain ⟨V2, HV2⟩ : ∃ W : World, Hid (V1.setCell ⟨w.heap.size + 2, 18, none⟩ (.int .i64 x18) = W) := ⟨_, hid rfl⟩
      have e1 : V1.cell? ⟨w.heap.size + 2, 18, none⟩ = some (.int .i64 0) := S1.out.cell (rqA_18 (hok.out _ _ _ _ _) _)
      have f1 := S1.out.fr 18
      have S2 : Hid (RS w V2 ⟨3, ix, x17, x18, 0, 0, 0⟩ nlS) := by rw [← HV2.out]; exact hid (S1.out.pl h16.out x18)
      obtain ⟨V3, HV3⟩ : ∃ W : World, Hid (V2.setCell ⟨w.heap.size + 2, 19, none⟩ (.int .i64 x22) = W) := ⟨_, hid rfl⟩
      have e2 : V2.cell? ⟨w.heap.size + 2, 19, none⟩ = some (.int .i64 0) := S2.out.cell (rqA_19 (hok.out _ _ _ _ _) _)
      have f2 := S2.out.fr 19
      have S3 : Hid (RS w V3 ⟨3, ix, x17, x18, x22, 0, 0⟩ nlS) := by rw [← HV3.out]; exact hid (S2.out.ln h16.out x22)
      go_wp2_with fail
      refine (D18.out _ HS.out.bel).mono ?_
      rintro e w' ⟨rfl, hw'⟩
      rw [hw']
      clear hw' w'
      go_wp2_with fail
      refine (D22.out _ HS.out.bel).mono ?_
      rintro e w' ⟨rfl, hw'⟩
      rw [hw']
      clear hw' w'
      go_wp2_with fail
      refine (D22.out _ HS.out.bel).mono ?_
      rintro e w' ⟨rfl, hw'⟩
      rw [hw']
      clear hw' w'
      go_wp2_with (first | rw [HV1.out] | fail)
      refine (D18.out _ S1.out.bel).mono ?_
      rintro e w' ⟨rfl, hw'⟩
      rw [hw']
      clear hw' w'
      go_wp2_with (first | rw [HV2.out] | fail)
      refine (D22.out _ S2.out.bel).mono ?_
      rintro e w' ⟨rfl, hw'⟩
      rw [hw']
      clear hw' w'
      have g0' : ¬ ((l.length : Int) < 26) := by omega
      by_cases g1 : 26 < l.length
      · have g1' : 26 < (l.length : Int) := by omega
        go_wp2_with (first | rw [HV3.out] | (refine wpList_load_mid rfl 38 _ rfl (w.heap.size + 1) 0 rfl zrq.toList _ S3.out.rng1 Try.underlying38 rfl SR.out ?_; rw [Array.toArray_toList]) | (refine wpList_store_row rfl 38 _ _ rfl w.heap.size zrq rfl rfl 38 zrq S3.out.x0 SR.out rfl zrq_one ?_) | fail)
        refine bodyPost_ret (v := .tuple #[.agg zrq, .int .i64 (26 : Int), .int .i64 200]) (results_cellTT (p := 2) (q := 3) (q' := 4) (ty := 38) rfl _ _ w.heap.size 38 _ (0, 0) _ _ _ rfl rfl rfl (S3.out.ans _).1 Try.underlying38 rfl SR.out) rfl ?_
        exact ⟨.inl ⟨(26 : Int), by rw [DQ.out, if_neg q17, if_neg q18, if_neg q22]; exact (if_neg (by omega)).trans (if_pos g1), rfl⟩, (S3.out.ans _).2⟩
      have g1' : ¬ (26 < (l.length : Int)) := by omega
      go_wp2_with (first | rw [HV3.out] | fail)
      have HVD := hid (S3.out.below ((Below.refl _ V3).drew))
      refine wp_region_last (S := (fun W : World => W.cell? ⟨w.heap.size + 2, 22, none⟩ = some nlS)) 7 (by kernel_rfl) (HVD.out.cell (rqA_22 (hok.out _ _ _ _ _) _)) (fun hHeld => ?_)
      have HS := hid hHeld
      clear hHeld
      change wpAnyL _ _ _ _ _ _ _ _ _ (World.drew _)
      refine wpAnyL_take (i := 0) (v := ?_) rfl (by kernel_rfl) (by kernel_rfl) (by kernel_rfl) (by kernel_rfl) (by kernel_rfl) (fun _ _ _ h => h) (Or.inl ⟨by rfl, ?q0⟩) HS.out ?_
      case q0 => intro w hSw; go_simp; rfl
      simp only [Act.put, List.getElem_toArray, List.getElem_cons_zero, List.getElem_cons_succ, List.setIfInBounds_toArray, List.set_cons_zero, List.set_cons_succ]
      refine wpAnyL_take (i := 1) (v := ?_) rfl (by kernel_rfl) (by kernel_rfl) (by kernel_rfl) (by kernel_rfl) (by kernel_rfl) (fun _ _ _ h => h) (Or.inl ⟨by rfl, ?q1⟩) HS.out ?_
      case q1 => intro w hSw; go_simp; rfl
      simp only [Act.put, List.getElem_toArray, List.getElem_cons_zero, List.getElem_cons_succ, List.setIfInBounds_toArray, List.set_cons_zero, List.set_cons_succ]
      refine wpAnyL_take (i := 2) (v := ?_) rfl (by kernel_rfl) (by kernel_rfl) (by kernel_rfl) (by kernel_rfl) (by kernel_rfl) (fun _ _ _ h => h) (Or.inl ⟨by rfl, ?q2⟩) HS.out ?_
      case q2 => intro w hSw; go_simp; rfl
      simp only [Act.put, List.getElem_toArray, List.getElem_cons_zero, List.getElem_cons_succ, List.setIfInBounds_toArray, List.set_cons_zero, List.set_cons_succ]
      refine wpAnyL_take (i := 3) (v := ?_) rfl (by kernel_rfl) (by kernel_rfl) (by kernel_rfl) (by kernel_rfl) (by kernel_rfl) (fun _ _ _ h => h) (Or.inl ⟨by rfl, ?q3⟩) HS.out ?_
      case q3 => intro w hSw; go_simp; rfl
      simp only [Act.put, List.getElem_toArray, List.getElem_cons_zero, List.getElem_cons_succ, List.setIfInBounds_toArray, List.set_cons_zero, List.set_cons_succ]
      refine wpAnyL_take (i := 4) rfl (by kernel_rfl) (by kernel_rfl) (by kernel_rfl) (by kernel_rfl) (by kernel_rfl) (fun _ _ _ h => h) (yieldsIf_slG (by rfl) 36 _ _ _ (by rw [elmB]; exact Try.underlying36) rfl (.slice (some ⟨b, off, none⟩) l.length c) (some (.int .i64 26)) none rfl rfl rfl _ (fun W _ => slice_lB W (some ⟨b, off, none⟩) l.length c 26 HL.out)) HS.out ?_
      simp only [Act.put, List.getElem_toArray, List.getElem_cons_zero, List.getElem_cons_succ, List.setIfInBounds_toArray, List.set_cons_zero, List.set_cons_succ]
      clear HS
      refine wpAnyL_one (i := 5) (by kernel_rfl) rfl (fun K hK => ?_)
      rw [if_pos (by rfl)]
      refine wp_append_HB _ _ rfl w.heap.size nlS 0 [] rfl (World.ownsRow_nil _ _ _ _) _ (l.drop 26) rfl ((VB.out _ HVD.out.bel).suf 26 HL.out) (by rw [List.length_drop]; omega) (HVD.out.bel.size) (fun v1 U hu hg => ?_)
      have BU : Below (V3.drew).heap.size V3.drew U := (Below.refl _ V3.drew).grown hg (Nat.le_refl _) (fun k e => by cases e)
      have SU := hid (HVD.out.below BU)
      have OU : Hid (U.ownsRow w.heap.size 5 1 v1 (l.drop 26).length ((l.drop 26).map (Value.int .u8))) := hid (by simpa using hu)
      clear hu hg BU
      try simp only [Act.put, List.getElem_toArray, List.getElem_cons_zero, List.getElem_cons_succ, List.setIfInBounds_toArray, List.set_cons_zero, List.set_cons_succ]
      have HS := hid (SU.out.cell (rqA_22 (hok.out _ _ _ _ _) _))
      have UF := SU.out.fr 22
      refine hK.out _ _ (fun _ => HS.out) ?_
      clear hK K
      refine wpAnyL_take (i := 6) (v := ?_) rfl (by kernel_rfl) (by kernel_rfl) (by kernel_rfl) (by kernel_rfl) (by kernel_rfl) (fun _ _ _ h => h) (Or.inl ⟨by rfl, ?q6⟩) HS.out ?_
      case q6 => intro w hSw; go_simp; rfl
      simp only [Act.put, List.getElem_toArray, List.getElem_cons_zero, List.getElem_cons_succ, List.setIfInBounds_toArray, List.set_cons_zero, List.set_cons_succ]
      refine wpAnyL_one (i := 7) (by kernel_rfl) rfl (fun K hK => ?_)
      have cu := HS.out
      obtain ⟨pv, cv, ev⟩ := own_slice OU.out
      rw [ev] at OU ⊢
      obtain ⟨M, HMl⟩ : ∃ x, Hid ((l.drop 26).length = x) := ⟨_, hid rfl⟩
      rw [HMl.out] at OU ⊢
      obtain ⟨U2, HU2⟩ : ∃ W : World, Hid (U.setCell ⟨w.heap.size + 2, 22, none⟩ (.slice pv M cv) = W) := ⟨_, hid rfl⟩
      have SU2 : Hid (RS w U2 ⟨3, ix, x17, x18, x22, 0, 0⟩ (.slice pv M cv)) := by rw [← HU2.out]; exact hid (SU.out.byt h16.out _)
      have OU2 : Hid (U2.ownsRow w.heap.size 5 1 (.slice pv M cv) (l.drop 26).length ((l.drop 26).map (Value.int .u8))) := by
        rw [← HU2.out, HMl.out]
        refine hid (own_of OU.out fun b' hb' => ?_)
        obtain ⟨_, _, cs', q⟩ := own_at OU.out hb'
        have : w.heap.size + 2 ≠ b' := fun e => by
          rw [← e, SU.out.x2] at q
          simp only [Option.some.injEq, Obj.cells.injEq] at q
          exact absurd q.2.1 (by decide)
        simp [World.setCell, Array.getElem?_modify, this]
      clear SU OU HS
      go_simp
      rw [HU2.out]
      refine hK.out _ _ (fun e => absurd rfl e) ?_
      clear hK K
      try simp only [Act.put, List.getElem_toArray, List.getElem_cons_zero, List.getElem_cons_succ, List.setIfInBounds_toArray, List.set_cons_zero, List.set_cons_succ]
      refine wpAnyL_done (by kernel_rfl) ?_ _
      have hsz : Hid ((Try.prog.info? 38).map (·.size) = some (rqA ⟨3, ix, x17, x18, x22, 0, 0⟩ (.slice pv M cv)).toList.length) := hid (by rw [Array.length_toList, rqA_size (hok.out _ _ _ _ _)]; exact SR.out)
      have hsz2 : Hid ((rqA ⟨3, ix, x17, x18, x22, 0, 0⟩ (.slice pv M cv)).size = 23) := hid (rqA_size (hok.out _ _ _ _ _) _)
      have hon : Hid ((rqA ⟨3, ix, x17, x18, x22, 0, 0⟩ (.slice pv M cv)).all (·.oneCell') = true) := hid (rqA_one _ _ rfl)
      have hrr : Hid (dqR l (l.getD 0 0) = ⟨3, ix, x17, x18, x22, 0, 0⟩) := hid (by
        unfold dqR
        rw [hk]
        simp only [show ((3 : Int) = 2) = False by simp, show ((3 : Int) = 4) = False by simp, show ((3 : Int) = 5) = False by simp, if_true, if_false, or_self, or_true, true_or, HIX.out, HX17.out, HX18.out, HX22.out])
      obtain ⟨mm, HMM⟩ : ∃ x, Hid (rqA ⟨3, ix, x17, x18, x22, 0, 0⟩ (.slice pv M cv) = x) := ⟨_, hid rfl⟩
      have RGE := hid SU2.out.rng
      rw [HMM.out] at hsz hsz2 hon RGE
      go_wp2_with (first | (refine wpList_load_mid rfl 38 _ rfl (w.heap.size + 2) 0 rfl mm.toList _ RGE.out Try.underlying38 rfl hsz.out ?_; rw [Array.toArray_toList]) | (refine wpList_store_row rfl 38 _ _ rfl w.heap.size mm rfl rfl 38 zrq SU2.out.x0 (by rw [hsz2.out]; exact SR.out) (by rw [hsz2.out]; rfl) hon.out ?_) | fail)
      all_goals
        refine bodyPost_ret (v := .tuple #[.agg mm, .int .i64 0, .int .i64 0]) (results_cellTT (p := 2) (q := 3) (q' := 4) (ty := 38) rfl _ _ w.heap.size 38 _ (0, 0) _ _ _ rfl rfl rfl (SU2.out.ans _).1 Try.underlying38 rfl (by rw [hsz2.out]; exact SR.out)) rfl ?_
        refine ⟨.inr ⟨by rw [DQ.out, if_neg q17, if_neg q18, if_neg q22]; exact (if_neg (by omega)).trans (if_neg (by omega)), .slice pv M cv, ?_, ?_⟩, (SU2.out.ans _).2⟩
        · rw [hrr.out, HMM.out]
        · rw [hk]
          exact own_setRow OU2.out SU2.out.x0 (by decide)
end Go.Proofs.Ytgjadpidoaianaa
