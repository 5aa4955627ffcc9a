/- Of the road to wireCallsUpto_holds: WrRRq4, WrRRq5, WrRReq, WrDp, WrRRp0. -/
import Derived.Test.YtgjadpidoaianaaG11
import Derived.Test.YtgjadpidoaianaaG12
import Derived.Test.YtgjadpidoaianaaG13
import Derived.Test.YtgjadpidoaianaaG08
import Derived.Test.YtgjadpidoaianaaG09
set_option linter.unusedVariables false
set_option linter.unusedSimpArgs false
namespace Go.Proofs.Ytgjadpidoaianaa
open Go Go.RowKit
set_option maxRecDepth 100000 in
set_option maxHeartbeats 32000000 in
theorem rreq_4 (w : World) (v : Value) (l : List Int) (h : HB w v l) (hbig : l.length ≤ 140737488355328) (hk : l.getD 0 0 = 4) (hl : 29 ≤ l.length) :
    Calls Try.prog 25 #[v] w fun e w' => DocQ w l e w' ∧ Below w.heap.size w w' := by
  obtain ⟨q, c, e, hlc, hm⟩ := h.open
  have hby := h.byte
  have A : Hid (∀ W, Below w.heap.size w W → ∀ j, j < l.length → ∃ b off, q = some ⟨b, off, none⟩ ∧ W.cell? ⟨b, off + j, none⟩ = some (.int .u8 (l.getD j 0))) := hid (fun W hW j hj => by
    obtain ⟨b, off, c', e', _, _, hh⟩ := (h.below hW).ne (by omega)
    rw [e] at e'
    simp only [Value.slice.injEq, true_and] at e'
    exact ⟨b, off, e'.1, hh j hj⟩)
  subst e
  obtain ⟨b, off, rfl, -⟩ := A.out w (Below.refl _ _) 0 (by omega)
  have A' : Hid (∀ W, Below w.heap.size w W → ∀ j, j < l.length → W.cell? ⟨b, off + j, none⟩ = some (.int .u8 (l.getD j 0))) := hid (fun W hW j hj => by
    obtain ⟨b', off', e', hh⟩ := A.out W hW j hj
    cases e'
    exact hh)
  have VB : Hid (∀ W, Below w.heap.size w W → HB W (.slice (some ⟨b, off, none⟩) l.length c) l) := hid (fun W hW => h.below hW)
  have HL := hid hl
  have HBY := hid hby
  have HBY2 := hid h.2
  obtain ⟨W1, HW1⟩ : ∃ W : World, Hid (w.alloc (.cells zreq 38) = W) := ⟨_, hid rfl⟩
  have Z1 : W1.heap.size = w.heap.size + 1 := by rw [← HW1.out]; simp
  obtain ⟨W2, HW2⟩ : ∃ W : World, Hid (W1.alloc (.cells zreq 38) = W) := ⟨_, hid rfl⟩
  have Z2 : W2.heap.size = w.heap.size + 2 := by rw [← HW2.out]; simp [Z1]
  obtain ⟨WA, HWA⟩ : ∃ W : World, Hid (W2.alloc (.cells zreq 38) = W) := ⟨_, hid rfl⟩
  obtain ⟨m0, HM0⟩ : ∃ m, Hid (rqA ⟨4, ixI l 0, 0, 0, 0, 0, 0⟩ nlS = m) := ⟨_, hid rfl⟩
  obtain ⟨W3, HW3⟩ : ∃ W : World, Hid (WA.setRow (w.heap.size + 2) m0 = W) := ⟨_, hid rfl⟩
  have B1 : Below w.heap.size w W1 := by rw [← HW1.out]; exact (Below.refl _ w).alloc (Nat.le_refl _) _
  have B2' : Below W1.heap.size W1 W2 := by rw [← HW2.out]; exact (Below.refl _ W1).alloc (Nat.le_refl _) _
  have B3' : Below W2.heap.size W2 WA := by rw [← HWA.out]; exact (Below.refl _ W2).alloc (Nat.le_refl _) _
  have B2 : Hid (Below w.heap.size w W2) := hid (B1.trans (B2'.mono B1.size))
  have x0 : W1.heap[w.heap.size]? = some (.cells zreq 38 (0, 0)) := by rw [← HW1.out]; exact heap_alloc_new w _
  have x0b : W2.heap[w.heap.size]? = some (.cells zreq 38 (0, 0)) := (B2'.block _ (by omega)).trans x0
  have x1 : W2.heap[w.heap.size + 1]? = some (.cells zreq 38 (0, 0)) := by rw [← Z1, ← HW2.out]; exact heap_alloc_new W1 _
  have xA : WA.heap[w.heap.size + 2]? = some (.cells zreq 38 (0, 0)) := by rw [← Z2, ← HWA.out]; exact heap_alloc_new W2 _
  have HXA := hid xA
  have xk : ∀ i, i ≠ w.heap.size + 2 → W3.heap[i]? = WA.heap[i]? := fun i hi => by rw [← HW3.out]; simp [World.setRow, Array.getElem?_modify, show w.heap.size + 2 ≠ i from fun e => hi e.symm]
  have x3 : W3.heap[w.heap.size + 2]? = some (.cells m0 38 (0, 0)) := by rw [← HW3.out]; exact setRow_heap _ _ _ _ _ _ xA
  have S3 : Hid (RS w W3 ⟨4, ixI l 0, 0, 0, 0, 0, 0⟩ nlS) := hid ⟨(xk _ (by omega)).trans ((B3'.block _ (by omega)).trans x0b), (xk _ (by omega)).trans ((B3'.block _ (by omega)).trans x1), by rw [HM0.out]; exact x3, by
    have q1 := B2.out.trans (B3'.mono B2.out.size)
    refine q1.trans ?_
    rw [← HW3.out]
    exact (ex_setRow (Ex.refl (fun k => k = w.heap.size + 2) WA) rfl m0).below q1.size (fun k e => by omega)⟩
  have HZ1 := hid Z1
  have HZ2 := hid Z2
  have a0 := A'.out W2 B2.out 0 (by omega)
  rw [hk] at a0
  have CH : Hid (∀ W, Calls Try.prog 48 #[.int .u8 4] W fun e w' => e = .returned (.int .i64 29) ∧ w' = W) := hid (fun W => rhead_any W 4)
  have hb0 : Hid (∀ W, (Instr.build 38 #[(0, .int .u8 4)]).run Try.prog W = .ok (.agg m0) W) := hid (fun W => by
    rw [← HM0.out, show ixI l 0 = List.replicate 16 0 by simp [ixI]]
    kernel_rfl)
  have SR : Hid ((Try.prog.info? 38).map (·.size) = some 23) := hid (by kernel_rfl)
  have hm0 : Hid (m0.size = 23) := hid (by rw [← HM0.out]; exact rqA_size ⟨ixI_len l 0 (by omega) (by omega), fun x hx => by simp [ixI] at hx; omega⟩ _)
  have hm1 : Hid (m0.all (·.oneCell') = true) := hid (by rw [← HM0.out]; exact rqA_one _ _ rfl)
  have hl1 : (0 : Int) < (l.length : Int) := by omega
  have hln : ¬ ((l.length : Int) < 29) := by omega
  have hl0 : ¬ ((l.length : Int) = 0) := by omega
  have hl0' : ¬ (l.length = 0) := by omega
  have hl0'' : ¬ (l = []) := fun e => by rw [e] at hl; simp at hl
  have a0' : W2.cell? ⟨b, off, none⟩ = some (.int .u8 4) := a0
  clear A x0 x0b x1 B2' B3' B1 Z1 Z2 h xA xk x3 a0
  go_enter Try.func25, Try.ntmps25
  refine wp_seq_k fun K0 h0 => ?_
  have H0 := hid h0
  clear h0
  go_wp2
  rw [HW1.out]
  refine H0.out _ _ ?_
  refine wp_seq_k fun K0 h0 => ?_
  have H0 := hid h0
  clear h0
  go_wp2
  rw [HW2.out, HZ1.out]
  refine H0.out _ _ ?_
  go_wp2_with fail
  refine (CH.out _).mono ?_
  rintro e w' ⟨rfl, rfl⟩
  go_wp2_with fail
  refine (CH.out _).mono ?_
  rintro e w' ⟨rfl, rfl⟩
  go_wp2_with (first | (refine wpList_buildQ rfl 38 _ rfl #[(0, .int .u8 4)] (by go_simp) _ (hb0.out _) ?_) | rw [HWA.out, HZ2.out] | (refine wpList_store_row rfl 38 _ _ rfl (w.heap.size + 2) m0 rfl rfl 38 zrq HXA.out (by rw [hm0.out]; exact SR.out) (by rw [zrq_size, hm0.out]) hm1.out ?_) | rw [HW3.out] | fail)
  go_loopw [8] (fun i wr => ∃ j : Nat, j ≤ 16 ∧ i = .int .i64 (j : Int) ∧ Hid (RS w wr ⟨4, ixI l j, 0, 0, 0, 0, 0⟩ nlS)) (fun i _ => 16 - (intOf i).toNat)
  case atStart => exact ⟨0, by omega, rfl, S3⟩
  case round =>
    obtain ⟨j, hj, rfl, HS⟩ := hrel
    by_cases hlt : j < 16
    · have ca := A'.out wr HS.out.bel (1 + j) (by omega)
      have h16 := ixI_len l j hj (by omega)
      have cs : wr.cell? ⟨w.heap.size + 2, 1 + j, none⟩ = some (.int .u8 ((ixI l j)[j]'(by omega))) := HS.out.cell (by
        unfold rqA rqL
        rw [List.getElem?_toArray, Nat.add_comm 1 j, List.getElem?_cons_succ, List.getElem?_append_left (by rw [List.length_map]; show j < (ixI l j).length; omega), List.getElem?_map, List.getElem?_eq_getElem (show j < (ixI l j).length by omega)]
        rfl)
      have fr := HS.out.fr (1 + j)
      have SN := hid (HS.out.set (1 + j) (.int .u8 (l.getD (1 + j) 0)) (rqA_ix _ _ _ _ _ _ _ _ j hlt _ h16))
      rw [ixI_set l j hlt (by omega)] at SN
      have w3 : IntKind.i64.wrap (1 + (j : Int)) = ((1 + j : Nat) : Int) := by rw [IntKind.wrap_i64]; omega
      have hjl : 1 + j < l.length := by omega
      have hjl2 : ((1 + j : Nat) : Int) < (l.length : Int) := by omega
      generalize l.getD (1 + j) 0 = y at ca SN
      generalize (ixI l j)[j]'(by omega) = y0 at cs
      clear hl h16
      go_wp2
      exact ⟨⟨j + 1, by omega, by go_num, SN⟩, by simp [intOf]; omega⟩
    · obtain rfl : j = 16 := by omega
      have hk0 : wr.cell? ⟨w.heap.size + 2, 0, none⟩ = some (.int .u8 4) := HS.out.cell rfl
      have hx16 : ixI l 16 = (l.drop 1).take 16 := by simp [ixI]
      rw [hx16] at HS
      have h16 : Hid (((l.drop 1).take 16).length = 16) := hid (by simp; omega)
      obtain ⟨ix, HIX⟩ : ∃ x, Hid ((l.drop 1).take 16 = x) := ⟨_, hid rfl⟩
      rw [HIX.out] at HS h16
      have hwl : IntKind.u64.wrap (l.length : Int) = (l.length : Int) := by rw [IntKind.wrap_u64]; omega
      have hok : Hid (∀ nb pl ln who til, Rq.ok ⟨4, ix, nb, pl, ln, who, til⟩) := hid (fun nb pl ln who til => ⟨h16.out, fun x hx => by
        rw [← HIX.out] at hx
        exact HBY2.out x (List.mem_of_mem_drop (List.mem_of_mem_take hx))⟩)
      clear hj hlt hx16
      have DQ : Hid (dqP l = match (if 1099511627776 < vA l 21 8 then some 21 else none : Option Int) with | some p => some p | none => if l.length < 29 then some (l.length : Int) else if 29 < l.length then some ((29 : Nat) : Int) else none) := hid (by
        unfold dqP dqF dqE
        rw [hk]
        simp only [show ((4 : Int) = 2) = False by simp, show ((4 : Int) = 3) = False by simp, show ((4 : Int) = 5) = False by simp, show hdN 4 = 29 from rfl, if_true, if_false, or_self, Nat.add_zero]
        rw [if_neg (by omega), if_neg (by omega)]
        rfl)
      have C21 : Hid (Calls Try.prog 49 #[.slice (some ⟨b, off, none⟩) l.length c, .int .i64 21, .int .i64 8] wr fun e w' => e = .returned (.int .u64 (vA l 21 8 : Nat)) ∧ w' = wr) := hid (rat_any wr _ l (VB.out wr HS.out.bel) 21 8 (by omega) (by omega) (by omega))
      have z21 : vA l 21 8 < 18446744073709551616 := by
        have q := valL_lt ((l.drop 21).take 8) (fun x hx => HBY2.out x (List.mem_of_mem_drop (List.mem_of_mem_take hx)))
        rw [show ((l.drop 21).take 8).length = 8 by simp; omega] at q
        exact q
      have C17 : Hid (Calls Try.prog 49 #[.slice (some ⟨b, off, none⟩) l.length c, .int .i64 17, .int .i64 4] wr fun e w' => e = .returned (.int .u64 (vA l 17 4 : Nat)) ∧ w' = wr) := hid (rat_any wr _ l (VB.out wr HS.out.bel) 17 4 (by omega) (by omega) (by omega))
      have z17 : vA l 17 4 < 4294967296 := by
        have q := valL_lt ((l.drop 17).take 4) (fun x hx => HBY2.out x (List.mem_of_mem_drop (List.mem_of_mem_take hx)))
        rw [show ((l.drop 17).take 4).length = 4 by simp; omega] at q
        exact q
      obtain ⟨x21, HX21⟩ : ∃ x, Hid (vA l 21 8 = x) := ⟨_, hid rfl⟩
      rw [HX21.out] at C21 z21
      rw [HX21.out] at DQ
      obtain ⟨x17, HX17⟩ : ∃ x, Hid (vA l 17 4 = x) := ⟨_, hid rfl⟩
      rw [HX17.out] at C17 z17
      have D21 : Hid (∀ W, Below w.heap.size w W → Calls Try.prog 49 #[.slice (some ⟨b, off, none⟩) l.length c, .int .i64 21, .int .i64 8] W fun e w' => e = .returned (.int .u64 (x21 : Nat)) ∧ w' = W) := hid (fun W hW => by rw [← HX21.out]; exact rat_any W _ l (VB.out W hW) 21 8 (by omega) (by omega) (by omega))
      have D17 : Hid (∀ W, Below w.heap.size w W → Calls Try.prog 49 #[.slice (some ⟨b, off, none⟩) l.length c, .int .i64 17, .int .i64 4] W fun e w' => e = .returned (.int .u64 (x17 : Nat)) ∧ w' = W) := hid (fun W hW => by rw [← HX17.out]; exact rat_any W _ l (VB.out W hW) 17 4 (by omega) (by omega) (by omega))
      have HWR := hid HS.out.bel
      by_cases q21 : 1099511627776 < x21
      · have r21 : (1099511627776 : Int) < (x21 : Int) := by omega
        go_wp2_with fail
        refine C21.out.mono ?_
        rintro e w' ⟨rfl, rfl⟩
        go_wp2_with (first | (refine wpList_load_mid rfl 38 _ rfl (w.heap.size + 1) 0 rfl zrq.toList _ HS.out.rng1 Try.underlying38 rfl SR.out ?_; rw [Array.toArray_toList]) | (refine wpList_store_row rfl 38 _ _ rfl w.heap.size zrq rfl rfl 38 zrq HS.out.x0 SR.out rfl zrq_one ?_) | fail)
        refine bodyPost_ret (v := .tuple #[.agg zrq, .int .i64 21, .int .i64 200]) (results_cellTT (p := 2) (q := 3) (q' := 4) (ty := 38) rfl _ _ w.heap.size 38 _ (0, 0) _ _ _ rfl rfl rfl (HS.out.ans _).1 Try.underlying38 rfl SR.out) rfl ?_
        exact ⟨.inl ⟨21, by rw [DQ.out, if_pos q21], rfl⟩, (HS.out.ans _).2⟩
      have r21 : ¬ ((1099511627776 : Int) < (x21 : Int)) := by omega
      have wu3217 : IntKind.u32.wrap (x17 : Int) = (x17 : Int) := by rw [IntKind.wrap_u32]; omega
      have wi6421 : IntKind.i64.wrap (x21 : Int) = (x21 : Int) := by rw [IntKind.wrap_i64]; omega
      obtain ⟨V1, HV1⟩ : ∃ W : World, Hid (wr.setCells (w.heap.size + 2) 20 [.int .u32 x17, .int .i64 x21] = W) := ⟨_, hid rfl⟩
      have TH : Hid (wr.there (w.heap.size + 2) 20 2) := hid (HS.out.there (hok.out _ _ _ _ _) 20 2 (by omega))
      have S1 : Hid (RS w V1 ⟨4, ix, 0, 0, 0, x17, x21⟩ nlS) := by rw [← HV1.out]; exact hid (HS.out.lease h16.out x17 x21)
      go_wp2_with fail
      refine (D21.out _ HS.out.bel).mono ?_
      rintro e w' ⟨rfl, hw'⟩
      rw [hw']
      clear hw' w'
      go_wp2_with fail
      refine (D17.out _ HS.out.bel).mono ?_
      rintro e w' ⟨rfl, hw'⟩
      rw [hw']
      clear hw' w'
      go_wp2_with fail
      refine (D21.out _ HS.out.bel).mono ?_
      rintro e w' ⟨rfl, hw'⟩
      rw [hw']
      clear hw' w'
      have g0' : ¬ ((l.length : Int) < 29) := by omega
      by_cases g1 : 29 < l.length
      · have g1' : 29 < (l.length : Int) := by omega
        go_wp2_with (first | (refine wpList_buildQ rfl 35 _ rfl #[(0, .int .u32 x17), (1, .int .i64 x21)] (by go_simp) _ (run_build_le _ _ _) ?_) | (refine wpList_store_mid rfl 35 _ _ rfl (w.heap.size + 2) 20 #[.int .u32 x17, .int .i64 x21] rfl rfl TH.out size_le (one_le _ _) ?_) | rw [HV1.out] | (refine wpList_load_mid rfl 38 _ rfl (w.heap.size + 1) 0 rfl zrq.toList _ S1.out.rng1 Try.underlying38 rfl SR.out ?_; rw [Array.toArray_toList]) | (refine wpList_store_row rfl 38 _ _ rfl w.heap.size zrq rfl rfl 38 zrq S1.out.x0 SR.out rfl zrq_one ?_) | fail)
        refine bodyPost_ret (v := .tuple #[.agg zrq, .int .i64 (29 : Int), .int .i64 200]) (results_cellTT (p := 2) (q := 3) (q' := 4) (ty := 38) rfl _ _ w.heap.size 38 _ (0, 0) _ _ _ rfl rfl rfl (S1.out.ans _).1 Try.underlying38 rfl SR.out) rfl ?_
        exact ⟨.inl ⟨(29 : Int), by rw [DQ.out, if_neg q21]; exact (if_neg (by omega)).trans (if_pos g1), rfl⟩, (S1.out.ans _).2⟩
      have g1' : ¬ (29 < (l.length : Int)) := by omega
      go_wp2_with (first | (refine wpList_buildQ rfl 35 _ rfl #[(0, .int .u32 x17), (1, .int .i64 x21)] (by go_simp) _ (run_build_le _ _ _) ?_) | (refine wpList_store_mid rfl 35 _ _ rfl (w.heap.size + 2) 20 #[.int .u32 x17, .int .i64 x21] rfl rfl TH.out size_le (one_le _ _) ?_) | rw [HV1.out] | fail)
      have HVD := hid (S1.out.below ((Below.refl _ V1).drew))
      refine wp_region_last (S := (fun W : World => W.cell? ⟨w.heap.size + 2, 22, none⟩ = some nlS)) 7 (by kernel_rfl) (HVD.out.cell (rqA_22 (hok.out _ _ _ _ _) _)) (fun hHeld => ?_)
      have HS := hid hHeld
      clear hHeld
      change wpAnyL _ _ _ _ _ _ _ _ _ (World.drew _)
      refine wpAnyL_take (i := 0) (v := ?_) rfl (by kernel_rfl) (by kernel_rfl) (by kernel_rfl) (by kernel_rfl) (by kernel_rfl) (fun _ _ _ h => h) (Or.inl ⟨by rfl, ?q0⟩) HS.out ?_
      case q0 => intro w hSw; go_simp; rfl
      simp only [Act.put, List.getElem_toArray, List.getElem_cons_zero, List.getElem_cons_succ, List.setIfInBounds_toArray, List.set_cons_zero, List.set_cons_succ]
      refine wpAnyL_take (i := 1) (v := ?_) rfl (by kernel_rfl) (by kernel_rfl) (by kernel_rfl) (by kernel_rfl) (by kernel_rfl) (fun _ _ _ h => h) (Or.inl ⟨by rfl, ?q1⟩) HS.out ?_
      case q1 => intro w hSw; go_simp; rfl
      simp only [Act.put, List.getElem_toArray, List.getElem_cons_zero, List.getElem_cons_succ, List.setIfInBounds_toArray, List.set_cons_zero, List.set_cons_succ]
      refine wpAnyL_take (i := 2) (v := ?_) rfl (by kernel_rfl) (by kernel_rfl) (by kernel_rfl) (by kernel_rfl) (by kernel_rfl) (fun _ _ _ h => h) (Or.inl ⟨by rfl, ?q2⟩) HS.out ?_
      case q2 => intro w hSw; go_simp; rfl
      simp only [Act.put, List.getElem_toArray, List.getElem_cons_zero, List.getElem_cons_succ, List.setIfInBounds_toArray, List.set_cons_zero, List.set_cons_succ]
      refine wpAnyL_take (i := 3) (v := ?_) rfl (by kernel_rfl) (by kernel_rfl) (by kernel_rfl) (by kernel_rfl) (by kernel_rfl) (fun _ _ _ h => h) (Or.inl ⟨by rfl, ?q3⟩) HS.out ?_
      case q3 => intro w hSw; go_simp; rfl
      simp only [Act.put, List.getElem_toArray, List.getElem_cons_zero, List.getElem_cons_succ, List.setIfInBounds_toArray, List.set_cons_zero, List.set_cons_succ]
      refine wpAnyL_take (i := 4) rfl (by kernel_rfl) (by kernel_rfl) (by kernel_rfl) (by kernel_rfl) (by kernel_rfl) (fun _ _ _ h => h) (yieldsIf_slG (by rfl) 36 _ _ _ (by rw [elmB]; exact Try.underlying36) rfl (.slice (some ⟨b, off, none⟩) l.length c) (some (.int .i64 29)) none rfl rfl rfl _ (fun W _ => slice_lB W (some ⟨b, off, none⟩) l.length c 29 HL.out)) HS.out ?_
      simp only [Act.put, List.getElem_toArray, List.getElem_cons_zero, List.getElem_cons_succ, List.setIfInBounds_toArray, List.set_cons_zero, List.set_cons_succ]
      clear HS
      refine wpAnyL_one (i := 5) (by kernel_rfl) rfl (fun K hK => ?_)
      rw [if_pos (by rfl)]
      refine wp_append_HB _ _ rfl w.heap.size nlS 0 [] rfl (World.ownsRow_nil _ _ _ _) _ (l.drop 29) rfl ((VB.out _ HVD.out.bel).suf 29 HL.out) (by rw [List.length_drop]; omega) (HVD.out.bel.size) (fun v1 U hu hg => ?_)
      have BU : Below (V1.drew).heap.size V1.drew U := (Below.refl _ V1.drew).grown hg (Nat.le_refl _) (fun k e => by cases e)
      have SU := hid (HVD.out.below BU)
      have OU : Hid (U.ownsRow w.heap.size 5 1 v1 (l.drop 29).length ((l.drop 29).map (Value.int .u8))) := hid (by simpa using hu)
      clear hu hg BU
      try simp only [Act.put, List.getElem_toArray, List.getElem_cons_zero, List.getElem_cons_succ, List.setIfInBounds_toArray, List.set_cons_zero, List.set_cons_succ]
      have HS := hid (SU.out.cell (rqA_22 (hok.out _ _ _ _ _) _))
      have UF := SU.out.fr 22
      refine hK.out _ _ (fun _ => HS.out) ?_
      clear hK K
      refine wpAnyL_take (i := 6) (v := ?_) rfl (by kernel_rfl) (by kernel_rfl) (by kernel_rfl) (by kernel_rfl) (by kernel_rfl) (fun _ _ _ h => h) (Or.inl ⟨by rfl, ?q6⟩) HS.out ?_
      case q6 => intro w hSw; go_simp; rfl
      simp only [Act.put, List.getElem_toArray, List.getElem_cons_zero, List.getElem_cons_succ, List.setIfInBounds_toArray, List.set_cons_zero, List.set_cons_succ]
      refine wpAnyL_one (i := 7) (by kernel_rfl) rfl (fun K hK => ?_)
      have cu := HS.out
      obtain ⟨pv, cv, ev⟩ := own_slice OU.out
      rw [ev] at OU ⊢
      obtain ⟨M, HMl⟩ : ∃ x, Hid ((l.drop 29).length = x) := ⟨_, hid rfl⟩
      rw [HMl.out] at OU ⊢
      obtain ⟨U2, HU2⟩ : ∃ W : World, Hid (U.setCell ⟨w.heap.size + 2, 22, none⟩ (.slice pv M cv) = W) := ⟨_, hid rfl⟩
      have SU2 : Hid (RS w U2 ⟨4, ix, 0, 0, 0, x17, x21⟩ (.slice pv M cv)) := by rw [← HU2.out]; exact hid (SU.out.byt h16.out _)
      have OU2 : Hid (U2.ownsRow w.heap.size 5 1 (.slice pv M cv) (l.drop 29).length ((l.drop 29).map (Value.int .u8))) := by
        rw [← HU2.out, HMl.out]
        refine hid (own_of OU.out fun b' hb' => ?_)
        obtain ⟨_, _, cs', q⟩ := own_at OU.out hb'
        have : w.heap.size + 2 ≠ b' := fun e => by
          rw [← e, SU.out.x2] at q
          simp only [Option.some.injEq, Obj.cells.injEq] at q
          exact absurd q.2.1 (by decide)
        simp [World.setCell, Array.getElem?_modify, this]
      clear SU OU HS
      go_simp
      rw [HU2.out]
      refine hK.out _ _ (fun e => absurd rfl e) ?_
      clear hK K
      try simp only [Act.put, List.getElem_toArray, List.getElem_cons_zero, List.getElem_cons_succ, List.setIfInBounds_toArray, List.set_cons_zero, List.set_cons_succ]
      refine wpAnyL_done (by kernel_rfl) ?_ _
      have hsz : Hid ((Try.prog.info? 38).map (·.size) = some (rqA ⟨4, ix, 0, 0, 0, x17, x21⟩ (.slice pv M cv)).toList.length) := hid (by rw [Array.length_toList, rqA_size (hok.out _ _ _ _ _)]; exact SR.out)
      have hsz2 : Hid ((rqA ⟨4, ix, 0, 0, 0, x17, x21⟩ (.slice pv M cv)).size = 23) := hid (rqA_size (hok.out _ _ _ _ _) _)
      have hon : Hid ((rqA ⟨4, ix, 0, 0, 0, x17, x21⟩ (.slice pv M cv)).all (·.oneCell') = true) := hid (rqA_one _ _ rfl)
      have hrr : Hid (dqR l (l.getD 0 0) = ⟨4, ix, 0, 0, 0, x17, x21⟩) := hid (by
        unfold dqR
        rw [hk]
        simp only [show ((4 : Int) = 2) = False by simp, show ((4 : Int) = 3) = False by simp, show ((4 : Int) = 5) = False by simp, if_true, if_false, or_self, or_true, true_or, HIX.out, HX21.out, HX17.out])
      obtain ⟨mm, HMM⟩ : ∃ x, Hid (rqA ⟨4, ix, 0, 0, 0, x17, x21⟩ (.slice pv M cv) = x) := ⟨_, hid rfl⟩
      have RGE := hid SU2.out.rng
      rw [HMM.out] at hsz hsz2 hon RGE
      go_wp2_with (first | (refine wpList_load_mid rfl 38 _ rfl (w.heap.size + 2) 0 rfl mm.toList _ RGE.out Try.underlying38 rfl hsz.out ?_; rw [Array.toArray_toList]) | (refine wpList_store_row rfl 38 _ _ rfl w.heap.size mm rfl rfl 38 zrq SU2.out.x0 (by rw [hsz2.out]; exact SR.out) (by rw [hsz2.out]; rfl) hon.out ?_) | fail)
      all_goals
        refine bodyPost_ret (v := .tuple #[.agg mm, .int .i64 0, .int .i64 0]) (results_cellTT (p := 2) (q := 3) (q' := 4) (ty := 38) rfl _ _ w.heap.size 38 _ (0, 0) _ _ _ rfl rfl rfl (SU2.out.ans _).1 Try.underlying38 rfl (by rw [hsz2.out]; exact SR.out)) rfl ?_
        refine ⟨.inr ⟨by rw [DQ.out, if_neg q21]; exact (if_neg (by omega)).trans (if_neg (by omega)), .slice pv M cv, ?_, ?_⟩, (SU2.out.ans _).2⟩
        · rw [hrr.out, HMM.out]
        · rw [hk]
          exact own_setRow OU2.out SU2.out.x0 (by decide)
set_option maxRecDepth 100000 in
set_option maxHeartbeats 32000000 in
theorem rreq_5 (w : World) (v : Value) (l : List Int) (h : HB w v l) (hbig : l.length ≤ 140737488355328) (hk : l.getD 0 0 = 5) (hl : 21 ≤ l.length) :
    Calls Try.prog 25 #[v] w fun e w' => DocQ w l e w' ∧ Below w.heap.size w w' := by
  obtain ⟨q, c, e, hlc, hm⟩ := h.open
  have hby := h.byte
  have A : Hid (∀ W, Below w.heap.size w W → ∀ j, j < l.length → ∃ b off, q = some ⟨b, off, none⟩ ∧ W.cell? ⟨b, off + j, none⟩ = some (.int .u8 (l.getD j 0))) := hid (fun W hW j hj => by
    obtain ⟨b, off, c', e', _, _, hh⟩ := (h.below hW).ne (by omega)
    rw [e] at e'
    simp only [Value.slice.injEq, true_and] at e'
    exact ⟨b, off, e'.1, hh j hj⟩)
  subst e
  obtain ⟨b, off, rfl, -⟩ := A.out w (Below.refl _ _) 0 (by omega)
  have A' : Hid (∀ W, Below w.heap.size w W → ∀ j, j < l.length → W.cell? ⟨b, off + j, none⟩ = some (.int .u8 (l.getD j 0))) := hid (fun W hW j hj => by
    obtain ⟨b', off', e', hh⟩ := A.out W hW j hj
    cases e'
    exact hh)
  have VB : Hid (∀ W, Below w.heap.size w W → HB W (.slice (some ⟨b, off, none⟩) l.length c) l) := hid (fun W hW => h.below hW)
  have HL := hid hl
  have HBY := hid hby
  have HBY2 := hid h.2
  obtain ⟨W1, HW1⟩ : ∃ W : World, Hid (w.alloc (.cells zreq 38) = W) := ⟨_, hid rfl⟩
  have Z1 : W1.heap.size = w.heap.size + 1 := by rw [← HW1.out]; simp
  obtain ⟨W2, HW2⟩ : ∃ W : World, Hid (W1.alloc (.cells zreq 38) = W) := ⟨_, hid rfl⟩
  have Z2 : W2.heap.size = w.heap.size + 2 := by rw [← HW2.out]; simp [Z1]
  obtain ⟨WA, HWA⟩ : ∃ W : World, Hid (W2.alloc (.cells zreq 38) = W) := ⟨_, hid rfl⟩
  obtain ⟨m0, HM0⟩ : ∃ m, Hid (rqA ⟨5, ixI l 0, 0, 0, 0, 0, 0⟩ nlS = m) := ⟨_, hid rfl⟩
  obtain ⟨W3, HW3⟩ : ∃ W : World, Hid (WA.setRow (w.heap.size + 2) m0 = W) := ⟨_, hid rfl⟩
  have B1 : Below w.heap.size w W1 := by rw [← HW1.out]; exact (Below.refl _ w).alloc (Nat.le_refl _) _
  have B2' : Below W1.heap.size W1 W2 := by rw [← HW2.out]; exact (Below.refl _ W1).alloc (Nat.le_refl _) _
  have B3' : Below W2.heap.size W2 WA := by rw [← HWA.out]; exact (Below.refl _ W2).alloc (Nat.le_refl _) _
  have B2 : Hid (Below w.heap.size w W2) := hid (B1.trans (B2'.mono B1.size))
  have x0 : W1.heap[w.heap.size]? = some (.cells zreq 38 (0, 0)) := by rw [← HW1.out]; exact heap_alloc_new w _
  have x0b : W2.heap[w.heap.size]? = some (.cells zreq 38 (0, 0)) := (B2'.block _ (by omega)).trans x0
  have x1 : W2.heap[w.heap.size + 1]? = some (.cells zreq 38 (0, 0)) := by rw [← Z1, ← HW2.out]; exact heap_alloc_new W1 _
  have xA : WA.heap[w.heap.size + 2]? = some (.cells zreq 38 (0, 0)) := by rw [← Z2, ← HWA.out]; exact heap_alloc_new W2 _
  have HXA := hid xA
  have xk : ∀ i, i ≠ w.heap.size + 2 → W3.heap[i]? = WA.heap[i]? := fun i hi => by rw [← HW3.out]; simp [World.setRow, Array.getElem?_modify, show w.heap.size + 2 ≠ i from fun e => hi e.symm]
  have x3 : W3.heap[w.heap.size + 2]? = some (.cells m0 38 (0, 0)) := by rw [← HW3.out]; exact setRow_heap _ _ _ _ _ _ xA
  have S3 : Hid (RS w W3 ⟨5, ixI l 0, 0, 0, 0, 0, 0⟩ nlS) := hid ⟨(xk _ (by omega)).trans ((B3'.block _ (by omega)).trans x0b), (xk _ (by omega)).trans ((B3'.block _ (by omega)).trans x1), by rw [HM0.out]; exact x3, by
    have q1 := B2.out.trans (B3'.mono B2.out.size)
    refine q1.trans ?_
    rw [← HW3.out]
    exact (ex_setRow (Ex.refl (fun k => k = w.heap.size + 2) WA) rfl m0).below q1.size (fun k e => by omega)⟩
  have HZ1 := hid Z1
  have HZ2 := hid Z2
  have a0 := A'.out W2 B2.out 0 (by omega)
  rw [hk] at a0
  have CH : Hid (∀ W, Calls Try.prog 48 #[.int .u8 5] W fun e w' => e = .returned (.int .i64 21) ∧ w' = W) := hid (fun W => rhead_any W 5)
  have hb0 : Hid (∀ W, (Instr.build 38 #[(0, .int .u8 5)]).run Try.prog W = .ok (.agg m0) W) := hid (fun W => by
    rw [← HM0.out, show ixI l 0 = List.replicate 16 0 by simp [ixI]]
    kernel_rfl)
  have SR : Hid ((Try.prog.info? 38).map (·.size) = some 23) := hid (by kernel_rfl)
  have hm0 : Hid (m0.size = 23) := hid (by rw [← HM0.out]; exact rqA_size ⟨ixI_len l 0 (by omega) (by omega), fun x hx => by simp [ixI] at hx; omega⟩ _)
  have hm1 : Hid (m0.all (·.oneCell') = true) := hid (by rw [← HM0.out]; exact rqA_one _ _ rfl)
  have hl1 : (0 : Int) < (l.length : Int) := by omega
  have hln : ¬ ((l.length : Int) < 21) := by omega
  have hl0 : ¬ ((l.length : Int) = 0) := by omega
  have hl0' : ¬ (l.length = 0) := by omega
  have hl0'' : ¬ (l = []) := fun e => by rw [e] at hl; simp at hl
  have a0' : W2.cell? ⟨b, off, none⟩ = some (.int .u8 5) := a0
  clear A x0 x0b x1 B2' B3' B1 Z1 Z2 h xA xk x3 a0
  go_enter Try.func25, Try.ntmps25
  refine wp_seq_k fun K0 h0 => ?_
  have H0 := hid h0
  clear h0
  go_wp2
  rw [HW1.out]
  refine H0.out _ _ ?_
  refine wp_seq_k fun K0 h0 => ?_
  have H0 := hid h0
  clear h0
  go_wp2
  rw [HW2.out, HZ1.out]
  refine H0.out _ _ ?_
  go_wp2_with fail
  refine (CH.out _).mono ?_
  rintro e w' ⟨rfl, rfl⟩
  go_wp2_with fail
  refine (CH.out _).mono ?_
  rintro e w' ⟨rfl, rfl⟩
  go_wp2_with (first | (refine wpList_buildQ rfl 38 _ rfl #[(0, .int .u8 5)] (by go_simp) _ (hb0.out _) ?_) | rw [HWA.out, HZ2.out] | (refine wpList_store_row rfl 38 _ _ rfl (w.heap.size + 2) m0 rfl rfl 38 zrq HXA.out (by rw [hm0.out]; exact SR.out) (by rw [zrq_size, hm0.out]) hm1.out ?_) | rw [HW3.out] | fail)
  go_loopw [8] (fun i wr => ∃ j : Nat, j ≤ 16 ∧ i = .int .i64 (j : Int) ∧ Hid (RS w wr ⟨5, ixI l j, 0, 0, 0, 0, 0⟩ nlS)) (fun i _ => 16 - (intOf i).toNat)
  case atStart => exact ⟨0, by omega, rfl, S3⟩
  case round =>
    obtain ⟨j, hj, rfl, HS⟩ := hrel
    by_cases hlt : j < 16
    · have ca := A'.out wr HS.out.bel (1 + j) (by omega)
      have h16 := ixI_len l j hj (by omega)
      have cs : wr.cell? ⟨w.heap.size + 2, 1 + j, none⟩ = some (.int .u8 ((ixI l j)[j]'(by omega))) := HS.out.cell (by
        unfold rqA rqL
        rw [List.getElem?_toArray, Nat.add_comm 1 j, List.getElem?_cons_succ, List.getElem?_append_left (by rw [List.length_map]; show j < (ixI l j).length; omega), List.getElem?_map, List.getElem?_eq_getElem (show j < (ixI l j).length by omega)]
        rfl)
      have fr := HS.out.fr (1 + j)
      have SN := hid (HS.out.set (1 + j) (.int .u8 (l.getD (1 + j) 0)) (rqA_ix _ _ _ _ _ _ _ _ j hlt _ h16))
      rw [ixI_set l j hlt (by omega)] at SN
      have w3 : IntKind.i64.wrap (1 + (j : Int)) = ((1 + j : Nat) : Int) := by rw [IntKind.wrap_i64]; omega
      have hjl : 1 + j < l.length := by omega
      have hjl2 : ((1 + j : Nat) : Int) < (l.length : Int) := by omega
      generalize l.getD (1 + j) 0 = y at ca SN
      generalize (ixI l j)[j]'(by omega) = y0 at cs
      clear hl h16
      go_wp2
      exact ⟨⟨j + 1, by omega, by go_num, SN⟩, by simp [intOf]; omega⟩
    · obtain rfl : j = 16 := by omega
      have hk0 : wr.cell? ⟨w.heap.size + 2, 0, none⟩ = some (.int .u8 5) := HS.out.cell rfl
      have hx16 : ixI l 16 = (l.drop 1).take 16 := by simp [ixI]
      rw [hx16] at HS
      have h16 : Hid (((l.drop 1).take 16).length = 16) := hid (by simp; omega)
      obtain ⟨ix, HIX⟩ : ∃ x, Hid ((l.drop 1).take 16 = x) := ⟨_, hid rfl⟩
      rw [HIX.out] at HS h16
      have hwl : IntKind.u64.wrap (l.length : Int) = (l.length : Int) := by rw [IntKind.wrap_u64]; omega
      have hok : Hid (∀ nb pl ln who til, Rq.ok ⟨5, ix, nb, pl, ln, who, til⟩) := hid (fun nb pl ln who til => ⟨h16.out, fun x hx => by
        rw [← HIX.out] at hx
        exact HBY2.out x (List.mem_of_mem_drop (List.mem_of_mem_take hx))⟩)
      clear hj hlt hx16
      have DQ : Hid (dqP l = if l.length < 21 then some (l.length : Int) else if 21 < l.length then some ((21 : Nat) : Int) else none) := hid (by
        unfold dqP dqF dqE
        rw [hk]
        simp only [show ((5 : Int) = 2) = False by simp, show ((5 : Int) = 3) = False by simp, show ((5 : Int) = 4) = False by simp, show hdN 5 = 21 from rfl, if_true, if_false, or_self, Nat.add_zero]
        rw [if_neg (by omega), if_neg (by omega)])
      have C17 : Hid (Calls Try.prog 49 #[.slice (some ⟨b, off, none⟩) l.length c, .int .i64 17, .int .i64 4] wr fun e w' => e = .returned (.int .u64 (vA l 17 4 : Nat)) ∧ w' = wr) := hid (rat_any wr _ l (VB.out wr HS.out.bel) 17 4 (by omega) (by omega) (by omega))
      have z17 : vA l 17 4 < 4294967296 := by
        have q := valL_lt ((l.drop 17).take 4) (fun x hx => HBY2.out x (List.mem_of_mem_drop (List.mem_of_mem_take hx)))
        rw [show ((l.drop 17).take 4).length = 4 by simp; omega] at q
        exact q
      obtain ⟨x17, HX17⟩ : ∃ x, Hid (vA l 17 4 = x) := ⟨_, hid rfl⟩
      rw [HX17.out] at C17 z17
      have D17 : Hid (∀ W, Below w.heap.size w W → Calls Try.prog 49 #[.slice (some ⟨b, off, none⟩) l.length c, .int .i64 17, .int .i64 4] W fun e w' => e = .returned (.int .u64 (x17 : Nat)) ∧ w' = W) := hid (fun W hW => by rw [← HX17.out]; exact rat_any W _ l (VB.out W hW) 17 4 (by omega) (by omega) (by omega))
      have HWR := hid HS.out.bel
      have wu3217 : IntKind.u32.wrap (x17 : Int) = (x17 : Int) := by rw [IntKind.wrap_u32]; omega
      obtain ⟨V1, HV1⟩ : ∃ W : World, Hid (wr.setCell ⟨w.heap.size + 2, 20, none⟩ (.int .u32 x17) = W) := ⟨_, hid rfl⟩
      have e0 : wr.cell? ⟨w.heap.size + 2, 20, none⟩ = some (.int .u32 0) := HS.out.cell (rqA_20 (hok.out _ _ _ _ _) _)
      have f0 := HS.out.fr 20
      have S1 : Hid (RS w V1 ⟨5, ix, 0, 0, 0, x17, 0⟩ nlS) := by rw [← HV1.out]; exact hid (HS.out.who h16.out x17)
      go_wp2_with fail
      refine (D17.out _ HS.out.bel).mono ?_
      rintro e w' ⟨rfl, hw'⟩
      rw [hw']
      clear hw' w'
      have g0' : ¬ ((l.length : Int) < 21) := by omega
      by_cases g1 : 21 < l.length
      · have g1' : 21 < (l.length : Int) := by omega
        go_wp2_with (first | rw [HV1.out] | (refine wpList_load_mid rfl 38 _ rfl (w.heap.size + 1) 0 rfl zrq.toList _ S1.out.rng1 Try.underlying38 rfl SR.out ?_; rw [Array.toArray_toList]) | (refine wpList_store_row rfl 38 _ _ rfl w.heap.size zrq rfl rfl 38 zrq S1.out.x0 SR.out rfl zrq_one ?_) | fail)
        refine bodyPost_ret (v := .tuple #[.agg zrq, .int .i64 (21 : Int), .int .i64 200]) (results_cellTT (p := 2) (q := 3) (q' := 4) (ty := 38) rfl _ _ w.heap.size 38 _ (0, 0) _ _ _ rfl rfl rfl (S1.out.ans _).1 Try.underlying38 rfl SR.out) rfl ?_
        exact ⟨.inl ⟨(21 : Int), by rw [DQ.out]; exact (if_neg (by omega)).trans (if_pos g1), rfl⟩, (S1.out.ans _).2⟩
      have g1' : ¬ (21 < (l.length : Int)) := by omega
      go_wp2_with (first | rw [HV1.out] | fail)
      have HVD := hid (S1.out.below ((Below.refl _ V1).drew))
      refine wp_region_last (S := (fun W : World => W.cell? ⟨w.heap.size + 2, 22, none⟩ = some nlS)) 7 (by kernel_rfl) (HVD.out.cell (rqA_22 (hok.out _ _ _ _ _) _)) (fun hHeld => ?_)
      have HS := hid hHeld
      clear hHeld
      change wpAnyL _ _ _ _ _ _ _ _ _ (World.drew _)
      refine wpAnyL_take (i := 0) (v := ?_) rfl (by kernel_rfl) (by kernel_rfl) (by kernel_rfl) (by kernel_rfl) (by kernel_rfl) (fun _ _ _ h => h) (Or.inl ⟨by rfl, ?q0⟩) HS.out ?_
      case q0 => intro w hSw; go_simp; rfl
      simp only [Act.put, List.getElem_toArray, List.getElem_cons_zero, List.getElem_cons_succ, List.setIfInBounds_toArray, List.set_cons_zero, List.set_cons_succ]
      refine wpAnyL_take (i := 1) (v := ?_) rfl (by kernel_rfl) (by kernel_rfl) (by kernel_rfl) (by kernel_rfl) (by kernel_rfl) (fun _ _ _ h => h) (Or.inl ⟨by rfl, ?q1⟩) HS.out ?_
      case q1 => intro w hSw; go_simp; rfl
      simp only [Act.put, List.getElem_toArray, List.getElem_cons_zero, List.getElem_cons_succ, List.setIfInBounds_toArray, List.set_cons_zero, List.set_cons_succ]
      refine wpAnyL_take (i := 2) (v := ?_) rfl (by kernel_rfl) (by kernel_rfl) (by kernel_rfl) (by kernel_rfl) (by kernel_rfl) (fun _ _ _ h => h) (Or.inl ⟨by rfl, ?q2⟩) HS.out ?_
      case q2 => intro w hSw; go_simp; rfl
      simp only [Act.put, List.getElem_toArray, List.getElem_cons_zero, List.getElem_cons_succ, List.setIfInBounds_toArray, List.set_cons_zero, List.set_cons_succ]
      refine wpAnyL_take (i := 3) (v := ?_) rfl (by kernel_rfl) (by kernel_rfl) (by kernel_rfl) (by kernel_rfl) (by kernel_rfl) (fun _ _ _ h => h) (Or.inl ⟨by rfl, ?q3⟩) HS.out ?_
      case q3 => intro w hSw; go_simp; rfl
      simp only [Act.put, List.getElem_toArray, List.getElem_cons_zero, List.getElem_cons_succ, List.setIfInBounds_toArray, List.set_cons_zero, List.set_cons_succ]
      refine wpAnyL_take (i := 4) rfl (by kernel_rfl) (by kernel_rfl) (by kernel_rfl) (by kernel_rfl) (by kernel_rfl) (fun _ _ _ h => h) (yieldsIf_slG (by rfl) 36 _ _ _ (by rw [elmB]; exact Try.underlying36) rfl (.slice (some ⟨b, off, none⟩) l.length c) (some (.int .i64 21)) none rfl rfl rfl _ (fun W _ => slice_lB W (some ⟨b, off, none⟩) l.length c 21 HL.out)) HS.out ?_
      simp only [Act.put, List.getElem_toArray, List.getElem_cons_zero, List.getElem_cons_succ, List.setIfInBounds_toArray, List.set_cons_zero, List.set_cons_succ]
      clear HS
      refine wpAnyL_one (i := 5) (by kernel_rfl) rfl (fun K hK => ?_)
      rw [if_pos (by rfl)]
      refine wp_append_HB _ _ rfl w.heap.size nlS 0 [] rfl (World.ownsRow_nil _ _ _ _) _ (l.drop 21) rfl ((VB.out _ HVD.out.bel).suf 21 HL.out) (by rw [List.length_drop]; omega) (HVD.out.bel.size) (fun v1 U hu hg => ?_)
      have BU : Below (V1.drew).heap.size V1.drew U := (Below.refl _ V1.drew).grown hg (Nat.le_refl _) (fun k e => by cases e)
      have SU := hid (HVD.out.below BU)
      have OU : Hid (U.ownsRow w.heap.size 5 1 v1 (l.drop 21).length ((l.drop 21).map (Value.int .u8))) := hid (by simpa using hu)
      clear hu hg BU
      try simp only [Act.put, List.getElem_toArray, List.getElem_cons_zero, List.getElem_cons_succ, List.setIfInBounds_toArray, List.set_cons_zero, List.set_cons_succ]
      have HS := hid (SU.out.cell (rqA_22 (hok.out _ _ _ _ _) _))
      have UF := SU.out.fr 22
      refine hK.out _ _ (fun _ => HS.out) ?_
      clear hK K
      refine wpAnyL_take (i := 6) (v := ?_) rfl (by kernel_rfl) (by kernel_rfl) (by kernel_rfl) (by kernel_rfl) (by kernel_rfl) (fun _ _ _ h => h) (Or.inl ⟨by rfl, ?q6⟩) HS.out ?_
      case q6 => intro w hSw; go_simp; rfl
      simp only [Act.put, List.getElem_toArray, List.getElem_cons_zero, List.getElem_cons_succ, List.setIfInBounds_toArray, List.set_cons_zero, List.set_cons_succ]
      refine wpAnyL_one (i := 7) (by kernel_rfl) rfl (fun K hK => ?_)
      have cu := HS.out
      obtain ⟨pv, cv, ev⟩ := own_slice OU.out
      rw [ev] at OU ⊢
      obtain ⟨M, HMl⟩ : ∃ x, Hid ((l.drop 21).length = x) := ⟨_, hid rfl⟩
      rw [HMl.out] at OU ⊢
      obtain ⟨U2, HU2⟩ : ∃ W : World, Hid (U.setCell ⟨w.heap.size + 2, 22, none⟩ (.slice pv M cv) = W) := ⟨_, hid rfl⟩
      have SU2 : Hid (RS w U2 ⟨5, ix, 0, 0, 0, x17, 0⟩ (.slice pv M cv)) := by rw [← HU2.out]; exact hid (SU.out.byt h16.out _)
      have OU2 : Hid (U2.ownsRow w.heap.size 5 1 (.slice pv M cv) (l.drop 21).length ((l.drop 21).map (Value.int .u8))) := by
        rw [← HU2.out, HMl.out]
        refine hid (own_of OU.out fun b' hb' => ?_)
        obtain ⟨_, _, cs', q⟩ := own_at OU.out hb'
        have : w.heap.size + 2 ≠ b' := fun e => by
          rw [← e, SU.out.x2] at q
          simp only [Option.some.injEq, Obj.cells.injEq] at q
          exact absurd q.2.1 (by decide)
        simp [World.setCell, Array.getElem?_modify, this]
      clear SU OU HS
      go_simp
      rw [HU2.out]
      refine hK.out _ _ (fun e => absurd rfl e) ?_
      clear hK K
      try simp only [Act.put, List.getElem_toArray, List.getElem_cons_zero, List.getElem_cons_succ, List.setIfInBounds_toArray, List.set_cons_zero, List.set_cons_succ]
      refine wpAnyL_done (by kernel_rfl) ?_ _
      have hsz : Hid ((Try.prog.info? 38).map (·.size) = some (rqA ⟨5, ix, 0, 0, 0, x17, 0⟩ (.slice pv M cv)).toList.length) := hid (by rw [Array.length_toList, rqA_size (hok.out _ _ _ _ _)]; exact SR.out)
      have hsz2 : Hid ((rqA ⟨5, ix, 0, 0, 0, x17, 0⟩ (.slice pv M cv)).size = 23) := hid (rqA_size (hok.out _ _ _ _ _) _)
      have hon : Hid ((rqA ⟨5, ix, 0, 0, 0, x17, 0⟩ (.slice pv M cv)).all (·.oneCell') = true) := hid (rqA_one _ _ rfl)
      have hrr : Hid (dqR l (l.getD 0 0) = ⟨5, ix, 0, 0, 0, x17, 0⟩) := hid (by
        unfold dqR
        rw [hk]
        simp only [show ((5 : Int) = 2) = False by simp, show ((5 : Int) = 3) = False by simp, show ((5 : Int) = 4) = False by simp, if_true, if_false, or_self, or_true, true_or, HIX.out, HX17.out])
      obtain ⟨mm, HMM⟩ : ∃ x, Hid (rqA ⟨5, ix, 0, 0, 0, x17, 0⟩ (.slice pv M cv) = x) := ⟨_, hid rfl⟩
      have RGE := hid SU2.out.rng
      rw [HMM.out] at hsz hsz2 hon RGE
      go_wp2_with (first | (refine wpList_load_mid rfl 38 _ rfl (w.heap.size + 2) 0 rfl mm.toList _ RGE.out Try.underlying38 rfl hsz.out ?_; rw [Array.toArray_toList]) | (refine wpList_store_row rfl 38 _ _ rfl w.heap.size mm rfl rfl 38 zrq SU2.out.x0 (by rw [hsz2.out]; exact SR.out) (by rw [hsz2.out]; rfl) hon.out ?_) | fail)
      all_goals
        refine bodyPost_ret (v := .tuple #[.agg mm, .int .i64 0, .int .i64 0]) (results_cellTT (p := 2) (q := 3) (q' := 4) (ty := 38) rfl _ _ w.heap.size 38 _ (0, 0) _ _ _ rfl rfl rfl (SU2.out.ans _).1 Try.underlying38 rfl (by rw [hsz2.out]; exact SR.out)) rfl ?_
        refine ⟨.inr ⟨by rw [DQ.out]; exact (if_neg (by omega)).trans (if_neg (by omega)), .slice pv M cv, ?_, ?_⟩, (SU2.out.ans _).2⟩
        · rw [hrr.out, HMM.out]
        · rw [hk]
          exact own_setRow OU2.out SU2.out.x0 (by decide)
theorem rreq_any (w : World) (v : Value) (l : List Int) (h : HB w v l) (hbig : l.length ≤ 140737488355328) :
    Calls Try.prog 25 #[v] w fun e w' => DocQ w l e w' ∧ Below w.heap.size w w' := by
  by_cases h0 : l.length = 0
  · exact rreq_e w v l h h0
  by_cases hk : hdN (l.getD 0 0) = 0
  · exact rreq_n w v l h (by omega) hk
  have : l.getD 0 0 = 1 ∨ l.getD 0 0 = 2 ∨ l.getD 0 0 = 3 ∨ l.getD 0 0 = 4 ∨ l.getD 0 0 = 5 := by
    unfold hdN at hk
    split at hk <;> try omega
    split at hk <;> try omega
    split at hk <;> try omega
    split at hk <;> try omega
    split at hk <;> omega
  rcases this with e | e | e | e | e
  · by_cases hs : l.length < 17
    · exact rreq_s1 w v l h (by omega) e hs
    · exact rreq_1 w v l h hbig e (by omega)
  · by_cases hs : l.length < 34
    · exact rreq_s2 w v l h (by omega) e hs
    · exact rreq_2 w v l h hbig e (by omega)
  · by_cases hs : l.length < 26
    · exact rreq_s3 w v l h (by omega) e hs
    · exact rreq_3 w v l h hbig e (by omega)
  · by_cases hs : l.length < 29
    · exact rreq_s4 w v l h (by omega) e hs
    · exact rreq_4 w v l h hbig e (by omega)
  · by_cases hs : l.length < 21
    · exact rreq_s5 w v l h (by omega) e hs
    · exact rreq_5 w v l h hbig e (by omega)
def fstB (f : Nat → Bool) : Nat → Option Nat
  | 0 => none
  | n + 1 => match fstB f n with
    | some j => some j
    | none => if f n = true then none else some n
theorem fstB_none {f : Nat → Bool} : ∀ {n : Nat}, fstB f n = none → ∀ j, j < n → f j = true
  | 0, _, j, hj => by omega
  | n + 1, h, j, hj => by
    unfold fstB at h
    split at h
    · cases h
    · rename_i h0
      split at h
      · rename_i h1
        rcases (by omega : j < n ∨ j = n) with q | rfl
        · exact fstB_none h0 j q
        · exact h1
      · cases h
theorem fstB_all {f : Nat → Bool} : ∀ {n : Nat}, (∀ j, j < n → f j = true) → fstB f n = none
  | 0, _ => rfl
  | n + 1, h => by
    unfold fstB
    rw [fstB_all fun j hj => h j (by omega)]
    simp only [h n (by omega), if_true]
theorem fstB_some {f : Nat → Bool} {i : Nat} (h0 : fstB f i = none) (h1 : f i = false) : ∀ m, i < m → fstB f m = some i
  | 0, h => by omega
  | m + 1, h => by
    unfold fstB
    rcases (by omega : i < m ∨ i = m) with q | rfl
    · rw [fstB_some h0 h1 m q]
    · rw [h0]
      simp [h1]
theorem fstB_lt {f : Nat → Bool} : ∀ {n j : Nat}, fstB f n = some j → j < n ∧ f j = false
  | 0, j, h => by cases h
  | n + 1, j, h => by
    unfold fstB at h
    split at h
    · rename_i h0
      cases h
      have := fstB_lt h0
      exact ⟨by omega, this.2⟩
    · split at h
      · cases h
      · rename_i h1
        cases h
        exact ⟨by omega, by simpa using h1⟩
theorem tkA_fst (n : Nat) (l : Nat → List Int) (bk : Nat → Bool) : ∀ m, tkA n l bk m = match fstB bk m with
    | none => (0, true)
    | some j => ((n : Int) - (l j).length, false)
  | 0 => rfl
  | m + 1 => by
    unfold tkA fstB
    rw [tkA_fst n l bk m]
    cases h : fstB bk m with
    | none => cases hb : bk m <;> simp
    | some j => simp
def folAt (t : List Int) (j : Nat) : Bool := folB (t.take j) (t.getD j 0)
def dpN (k : Int) : Nat := if k = 1 then 2 else if k = 5 then 5 else 1
def dpM (l : List Int) : Nat := min (l.getD 1 0).toNat (l.length - 2)
def dpF (l : List Int) (k : Int) : Option Int :=
  if k = 1 then (fstB (folAt (l.drop 2)) (dpM l)).map (fun j => ((2 + j : Nat) : Int))
  else if k = 5 then (if vA l 1 4 < 1 ∨ 131072 < vA l 1 4 then some 1 else none) else none
def dpE (l : List Int) (k : Int) : Nat := dpN k + if k = 1 then (l.getD 1 0).toNat else if k = 5 then vA l 1 4 else 0
def dpP (l : List Int) : Option Int :=
  if l.getD 0 0 < 1 ∨ 7 < l.getD 0 0 then some 0 else if l.length < dpN (l.getD 0 0) then some l.length
  else match dpF l (l.getD 0 0) with
    | some p => some p
    | none => if l.length < dpE l (l.getD 0 0) then some l.length else if dpE l (l.getD 0 0) < l.length then some (dpE l (l.getD 0 0) : Nat) else none
def dpS (l : List Int) (k : Int) : List Int := if k = 1 then l.drop 2 else []
def dpB (l : List Int) (k : Int) : List Int := if k = 5 then l.drop 5 else []
theorem pd3_fst {n : Nat} {s : PS} {l : List Int} {k many sz : Int} (h : pt2 s = ⟨false, l, k, [], many, sz⟩) (hl : ∀ x ∈ l, 0 ≤ x) : pd3 n s = match fstB (folAt l) (herP s) with
    | none => (0, true)
    | some j => ((n : Int) - (l.drop j).length, false) := by
  have hm : herP s ≤ l.length := by unfold herP; rw [h]; exact Nat.min_le_right _ _
  unfold pd3 tkP tkE
  rw [h, List.length_replicate]
  have Q := num_seq (herP s) false l hl k many sz hm
  rw [if_neg (by show ¬ (sqP (List.replicate (herP s) numberP) ⟨false, l, k, [], many, sz⟩ (herP s)).f = true; rw [Q _ (Nat.le_refl _)]; simp)]
  have key : ∀ m, m ≤ herP s → tkA n (fun k_1 => (sqP (List.replicate (herP s) numberP) ⟨false, l, k, [], many, sz⟩ k_1).l) (fun k_1 => ((List.replicate (herP s) numberP).getD k_1 (fun s => (s, true)) (sqP (List.replicate (herP s) numberP) ⟨false, l, k, [], many, sz⟩ k_1)).2) m = tkA n (fun j => l.drop j) (folAt l) m := by
    intro m
    induction m with
    | zero => intro _; rfl
    | succ m ih =>
      intro hm2
      unfold tkA
      rw [ih (by omega), Q m (by omega)]
      have e : (List.replicate (herP s) numberP).getD m (fun s => (s, true)) = numberP := by simp [List.getD, show m < herP s by omega]
      rw [e]
      have hml : m < l.length := by omega
      have e2 : l.drop m = l[m] :: l.drop (m + 1) := List.drop_eq_getElem_cons hml
      have e3 : (numberP ⟨false, l.drop m, k, l.take m, many, sz⟩).2 = folAt l m := by
        rw [e2, numberP_app _ _ (hl _ (List.getElem_mem hml))]
        show folB _ _ = folB _ _
        rw [getD_of_lt hml]
      rw [e3]
  rw [key _ (Nat.le_refl _), tkA_fst]
theorem tk1_lack {n : Nat} {φ : Pst} {s : PS} (h : (φ s).1.f = true) : tkP n [φ] s = ((n : Int), false) := by
  unfold tkP tkE
  exact if_pos h
theorem pd1_no (n : Nat) (l : List Int) (hn : l.length = n) (h : (pd1 n (ps0 l)).2 = false) : (pd1 n (ps0 l)).1 = 0 := by
  cases l with
  | nil =>
    subst hn
    rfl
  | cons k T =>
    unfold pd1 tkP tkE at h ⊢
    have e : (sqP [kindP] (ps0 (k :: T)) 1).f = false := by simp [sqP, kindP, ps0, okT_cons]
    simp only [List.length_singleton, e, Bool.false_eq_true, if_false, tkA] at h ⊢
    generalize ([kindP].getD 0 (fun s => (s, true)) (sqP [kindP] (ps0 (k :: T)) 0)).snd = q at h ⊢
    cases q with
    | true => simp at h
    | false => simp [sqP, ps0, ← hn]
theorem herP_of {s : PS} {l : List Int} {k many sz : Int} (h : pt2 s = ⟨false, l, k, [], many, sz⟩) : herP s = min many.toNat l.length := by unfold herP; rw [h]
theorem dp_other (k : Int) (T : List Int) (h0 : 1 ≤ k ∧ k ≤ 7) (h1 : k ≠ 1) (h5 : k ≠ 5) (hb : ∀ x ∈ k :: T, 0 ≤ x ∧ x < 256) :
    (∀ p, rpBad (k :: T) p → dpP (k :: T) = some p) ∧ ∀ k' ns b, rpGood (k :: T) k' ns b → dpP (k :: T) = none ∧ k' = k ∧ ns = [] ∧ b = [] := by
  have c0 := pd1_cons (k :: T).length k (by omega) T
  obtain ⟨c1, c2⟩ := pt2_other (by omega : 0 ≤ k) h1 h5 T (k :: T).length
  have hT : ∀ x ∈ T, 0 ≤ x := fun x hx => (hb x (by simp [hx])).1
  have c3 := (pd3_of (n := (k :: T).length) c1 hT)
  have hh : herP (ps0 (k :: T)) = 0 := by rw [herP_of c1]; simp
  rw [hh] at c3
  have c4 : (pd3 (k :: T).length (ps0 (k :: T))).2 = true := c3.1.2 (fun j hj => by omega)
  have c5 := c3.2
  have hr : rkB k = true := by simp [rkB]; omega
  have hlk : lackP (ps0 (k :: T)) = 0 := by unfold lackP; rw [c5, hh]; rfl
  have hd : dpP (k :: T) = if 0 < T.length then some 1 else none := by
    unfold dpP dpF dpE dpN
    rw [show (k :: T).getD 0 0 = k from rfl, if_neg (by omega), if_neg h1, if_neg h5, if_neg h1, if_neg h5, if_neg (by simp), if_neg h1, if_neg h5]
    simp only [List.length_cons]
    rw [if_neg (by omega)]
    by_cases q : 0 < T.length
    · rw [if_pos (by omega), if_pos q]; rfl
    · rw [if_neg (by omega), if_neg q]
  unfold rpBad rpGood
  rw [hd, hlk, c0, c2, c4, c5, hr]
  refine ⟨fun p h => ?_, fun k' ns b h => ?_⟩
  · rcases h with ⟨h, _⟩ | ⟨_, h, _⟩ | ⟨_, _, h, _⟩ | ⟨_, _, _, h, rfl⟩
    · cases h
    · cases h
    · cases h
    · simp only [List.drop_zero] at h ⊢
      rw [if_pos (by omega)]
      refine congrArg some ?_
      unfold edA
      simp only [List.length_cons]
      omega
  · obtain ⟨_, _, _, h, rfl, rfl, rfl⟩ := h
    simp only [List.drop_zero] at h ⊢
    have : T = [] := List.length_eq_zero_iff.1 (by omega)
    subst this
    refine ⟨?_, ?_, ?_, ?_⟩ <;> first | trivial | rfl
theorem dp_1 (c : Int) (t : List Int) (hb : ∀ x ∈ 1 :: c :: t, 0 ≤ x ∧ x < 256) :
    (∀ p, rpBad (1 :: c :: t) p → dpP (1 :: c :: t) = some p) ∧ ∀ k' ns b, rpGood (1 :: c :: t) k' ns b → dpP (1 :: c :: t) = none ∧ k' = 1 ∧ ns = t ∧ b = [] := by
  have hc := hb c (by simp)
  have c0 := pd1_cons (1 :: c :: t).length 1 (by omega) (c :: t)
  obtain ⟨c1, c2⟩ := pt2_1 c hc.1 t (1 :: c :: t).length
  have hT : ∀ x ∈ t, 0 ≤ x := fun x hx => (hb x (by simp [hx])).1
  have c3 := pd3_of (n := (1 :: c :: t).length) c1 hT
  have c4 := pd3_fst (n := (1 :: c :: t).length) c1 hT
  have hh : herP (ps0 (1 :: c :: t)) = min c.toNat t.length := herP_of c1
  have c5 := c3.2
  have hlk : lackP (ps0 (1 :: c :: t)) = c - (min c.toNat t.length : Nat) := by unfold lackP; rw [c5, hh]; simp
  have hd : dpP (1 :: c :: t) = match (fstB (folAt t) (min c.toNat t.length)).map (fun j => ((2 + j : Nat) : Int)) with
    | some p => some p
    | none => if 2 + t.length < 2 + c.toNat then some ((2 + t.length : Nat) : Int) else if 2 + c.toNat < 2 + t.length then some ((2 + c.toNat : Nat) : Int) else none := by
    unfold dpP dpF dpE dpN dpM
    rw [show (1 :: c :: t).getD 0 0 = 1 from rfl, if_neg (by omega), if_pos rfl, if_pos rfl, if_pos rfl, if_neg (by simp), show (1 :: c :: t).getD 1 0 = c from rfl, show (1 :: c :: t).drop 2 = t from rfl, show (1 :: c :: t).length = 2 + t.length by simp; omega, show 2 + t.length - 2 = t.length by omega]
  unfold rpBad rpGood
  rw [hd, hlk, c0, c2, c4, c5, hh, show rkB 1 = true from rfl, show (1 :: c :: t).length = 2 + t.length by simp; omega]
  cases hf : fstB (folAt t) (min c.toNat t.length) with
  | some j =>
    have hj := (fstB_lt hf).1
    simp only [Option.map_some]
    refine ⟨fun p h => ?_, fun k' ns b h => ?_⟩
    · rcases h with ⟨h, _⟩ | ⟨_, h, _⟩ | ⟨_, _, _, rfl⟩ | ⟨_, _, h, _⟩
      · cases h
      · cases h
      · refine congrArg some ?_
        simp only [List.length_drop]
        omega
      · cases h
    · obtain ⟨_, _, h, _⟩ := h
      cases h
  | none =>
    simp only [Option.map_none]
    refine ⟨fun p h => ?_, fun k' ns b h => ?_⟩
    · rcases h with ⟨h, _⟩ | ⟨_, h, _⟩ | ⟨_, _, h, _⟩ | ⟨_, _, _, h, rfl⟩
      · cases h
      · cases h
      · cases h
      · simp only [List.length_drop] at h
        unfold edA
        simp only [List.length_drop]
        by_cases q : 2 + t.length < 2 + c.toNat
        · rw [if_pos q]; refine congrArg some ?_; omega
        · rw [if_neg q, if_pos (by omega)]; refine congrArg some ?_; omega
    · obtain ⟨_, _, _, h, rfl, rfl, rfl⟩ := h
      simp only [List.length_drop] at h ⊢
      refine ⟨?_, ?_, List.take_of_length_le (by omega), ?_⟩
      · rw [if_neg (by omega), if_neg (by omega)]
      · first | trivial | rfl
      · simp [taken]
set_option maxRecDepth 10000 in
theorem dp_5 (a t : List Int) (h4 : (a.length : Int) = 4) (hb : ∀ x ∈ 5 :: (a ++ t), 0 ≤ x ∧ x < 256) :
    (∀ p, rpBad (5 :: (a ++ t)) p → dpP (5 :: (a ++ t)) = some p) ∧ ∀ k' ns b, rpGood (5 :: (a ++ t)) k' ns b → dpP (5 :: (a ++ t)) = none ∧ k' = 5 ∧ ns = [] ∧ b = t := by
  have c0 := pd1_cons (5 :: (a ++ t)).length 5 (by omega) (a ++ t)
  obtain ⟨c1, c2⟩ := pt2_5 a t h4 (5 :: (a ++ t)).length
  have hT : ∀ x ∈ t, 0 ≤ x := fun x hx => (hb x (by simp [hx])).1
  have c3 := pd3_of (n := (5 :: (a ++ t)).length) c1 hT
  have hh : herP (ps0 (5 :: (a ++ t))) = 0 := by rw [herP_of c1]; simp
  rw [hh] at c3
  have c4 : (pd3 (5 :: (a ++ t)).length (ps0 (5 :: (a ++ t)))).2 = true := c3.1.2 (fun j hj => by omega)
  have c5 := c3.2
  have hlk : lackP (ps0 (5 :: (a ++ t))) = (smallNo 4 a : Nat) := by unfold lackP; rw [c5, hh]; simp
  have hn : (5 :: (a ++ t)).length = 5 + t.length := by simp; omega
  have hv : vA (5 :: (a ++ t)) 1 4 = smallNo 4 a := vA_mid (5 :: (a ++ t)) [5] a t 1 4 rfl rfl h4
  have hd : dpP (5 :: (a ++ t)) = match (if smallNo 4 a < 1 ∨ 131072 < smallNo 4 a then some (1 : Int) else none) with
    | some p => some p
    | none => if 5 + t.length < 5 + smallNo 4 a then some ((5 + t.length : Nat) : Int) else if 5 + smallNo 4 a < 5 + t.length then some ((5 + smallNo 4 a : Nat) : Int) else none := by
    unfold dpP dpF dpE dpN
    rw [show (5 :: (a ++ t)).getD 0 0 = 5 from rfl, if_neg (by omega)]
    simp only [show ((5 : Int) = 1) = False by simp, if_true, if_false, hn, hv]
    rw [if_neg (by omega)]
  have hp : (pd2 (5 :: (a ++ t)).length (ps0 (5 :: (a ++ t)))).2 = false → (pd2 (5 :: (a ++ t)).length (ps0 (5 :: (a ++ t)))).1 = 1 := by
    intro q
    unfold pd2 at q ⊢
    rw [show (pt1 (ps0 (5 :: (a ++ t)))) = ⟨false, a ++ t, 5, [], 0, 0⟩ from pt1_cons 5 (by omega) (a ++ t)] at q ⊢
    simp only at q ⊢
    rw [show flPS 5 = [bytesP] from rfl] at q ⊢
    unfold tkP tkE at q ⊢
    have e : (sqP [bytesP] ⟨false, a ++ t, 5, [], 0, 0⟩ 1).f = false := by
      show (bytesP ⟨false, a ++ t, 5, [], 0, 0⟩).1.f = false
      rw [bytesP_app _ _ _ h4]
    simp only [List.length_singleton, e, Bool.false_eq_true, if_false, tkA] at q ⊢
    generalize ([bytesP].getD 0 (fun s => (s, true)) (sqP [bytesP] ⟨false, a ++ t, 5, [], 0, 0⟩ 0)).snd = z at q ⊢
    cases z with
    | true => simp at q
    | false =>
      simp [sqP]
      omega
  have hr : (pd2 (5 :: (a ++ t)).length (ps0 (5 :: (a ++ t)))).2 = flB (smallNo 4 a : Nat) := by rw [Bool.eq_iff_iff, c2]
  unfold rpBad rpGood
  rw [hd, hlk, c0, c4, c5, hr, show rkB 5 = true from rfl, hn]
  rw [hn] at hp hr
  rw [hr] at hp
  generalize smallNo 4 a = x at *
  have hfl : flB (x : Nat) = decide (1 ≤ x ∧ x ≤ 131072) := by unfold flB; rw [decide_eq_decide]; omega
  rw [hfl] at hp ⊢
  by_cases q : 1 ≤ x ∧ x ≤ 131072
  · simp only [q, decide_true, and_self]
    rw [if_neg (by omega)]
    simp only []
    refine ⟨fun p h => ?_, fun k' ns b h => ?_⟩
    · rcases h with ⟨h, _⟩ | ⟨_, h, _⟩ | ⟨_, _, h, _⟩ | ⟨_, _, _, h, rfl⟩
      · cases h
      · cases h
      · cases h
      · simp only [List.drop_zero] at h ⊢
        unfold edA
        by_cases q2 : 5 + t.length < 5 + x
        · rw [if_pos q2]; refine congrArg some ?_; omega
        · rw [if_neg q2, if_pos (by omega)]; refine congrArg some ?_; omega
    · obtain ⟨_, _, _, h, rfl, rfl, rfl⟩ := h
      simp only [List.drop_zero] at h ⊢
      refine ⟨?_, ?_, ?_, ?_⟩
      · rw [if_neg (by omega), if_neg (by omega)]
      · first | trivial | rfl
      · first | trivial | rfl
      · exact taken_all t x h
  · have q' : decide (1 ≤ x ∧ x ≤ 131072) = false := by simpa using q
    rw [q'] at hp ⊢
    rw [if_pos (by omega)]
    simp only []
    refine ⟨fun p h => ?_, fun k' ns b h => ?_⟩
    · rcases h with ⟨h, _⟩ | ⟨_, _, rfl⟩ | ⟨_, h, _⟩ | ⟨_, h, _⟩
      · cases h
      · rw [hp rfl]
      · cases h
      · cases h
    · obtain ⟨_, h, _⟩ := h
      cases h
theorem dp_all (l : List Int) (hb : ∀ x ∈ l, 0 ≤ x ∧ x < 256) :
    (∀ p, rpBad l p → dpP l = some p) ∧ ∀ k ns b, rpGood l k ns b → dpP l = none ∧ k = l.getD 0 0 ∧ ns = dpS l (l.getD 0 0) ∧ b = dpB l (l.getD 0 0) := by
  have none1 : (pd1 l.length (ps0 l)).2 = false → dpP l = some 0 → (∀ p, rpBad l p → dpP l = some p) ∧ ∀ k ns b, rpGood l k ns b → dpP l = none ∧ k = l.getD 0 0 ∧ ns = dpS l (l.getD 0 0) ∧ b = dpB l (l.getD 0 0) := fun c0 hd => by
    refine ⟨fun p h => ?_, fun k' ns b h => ?_⟩
    · rcases h with ⟨_, rfl⟩ | ⟨h, _⟩ | ⟨h, _⟩ | ⟨h, _⟩
      · rw [pd1_no _ _ rfl c0, hd]
      · rw [c0] at h; cases h
      · rw [c0] at h; cases h
      · rw [c0] at h; cases h
    · have h := h.1
      rw [c0] at h; cases h
  have short : (pd1 l.length (ps0 l)).2 = true → pd2 l.length (ps0 l) = ((l.length : Int), false) → dpP l = some (l.length : Int) → (∀ p, rpBad l p → dpP l = some p) ∧ ∀ k ns b, rpGood l k ns b → dpP l = none ∧ k = l.getD 0 0 ∧ ns = dpS l (l.getD 0 0) ∧ b = dpB l (l.getD 0 0) := fun c0 c1 hd => by
    refine ⟨fun p h => ?_, fun k' ns b h => ?_⟩
    · rcases h with ⟨h, _⟩ | ⟨_, _, rfl⟩ | ⟨_, h, _⟩ | ⟨_, h, _⟩
      · rw [c0] at h; cases h
      · rw [c1, hd]
      · rw [c1] at h; cases h
      · rw [c1] at h; cases h
    · have h := h.2.1
      rw [c1] at h; cases h
  cases l with
  | nil => exact none1 (pd1_nil 0) rfl
  | cons k T =>
    have hk := hb k (by simp)
    have c0 := pd1_cons (k :: T).length k hk.1 T
    by_cases hr : 1 ≤ k ∧ k ≤ 7
    · rw [show rkB k = true by simp [rkB]; omega] at c0
      by_cases h1 : k = 1
      · subst h1
        cases T with
        | nil => exact short c0 (show pd2 1 (ps0 [1]) = ((1 : Int), false) from tk1_lack (φ := numbersP) rfl) rfl
        | cons c t =>
          obtain ⟨q1, q2⟩ := dp_1 c t hb
          exact ⟨q1, fun k' ns b h => by obtain ⟨z1, z2, z3, z4⟩ := q2 k' ns b h; exact ⟨z1, z2, z3, z4⟩⟩
      · by_cases h5 : k = 5
        · subst h5
          by_cases hl : T.length < 4
          · refine short c0 ?_ ?_
            · unfold pd2
              rw [show (pt1 (ps0 (5 :: T))) = ⟨false, T, 5, [], 0, 0⟩ from pt1_cons 5 (by omega) T]
              refine tk1_lack (φ := bytesP) ?_
              show (false || !okTake T 4) = true
              have : okTake T 4 = false := by simp [okTake]; omega
              rw [this]; rfl
            · unfold dpP dpN
              rw [show (5 :: T).getD 0 0 = 5 from rfl, if_neg (by omega)]
              simp only [show ((5 : Int) = 1) = False by simp, if_true, if_false]
              rw [if_pos (by simp; omega)]
          · obtain ⟨q1, q2⟩ := dp_5 (T.take 4) (T.drop 4) (by simp; omega) (by rw [List.take_append_drop]; exact hb)
            rw [List.take_append_drop] at q1 q2
            exact ⟨q1, fun k' ns b h => by obtain ⟨z1, z2, z3, z4⟩ := q2 k' ns b h; exact ⟨z1, z2, z3, z4⟩⟩
        · obtain ⟨q1, q2⟩ := dp_other k T hr h1 h5 hb
          refine ⟨q1, fun k' ns b h => ?_⟩
          obtain ⟨z1, z2, z3, z4⟩ := q2 k' ns b h
          refine ⟨z1, z2, ?_, ?_⟩
          · rw [z3]; unfold dpS; rw [if_neg (by exact h1)]
          · rw [z4]; unfold dpB; rw [if_neg (by exact h5)]
    · rw [show rkB k = false by simp [rkB]; omega] at c0
      refine none1 c0 ?_
      unfold dpP
      rw [show (k :: T).getD 0 0 = k from rfl, if_pos (by omega)]
def zrp : Array Value := zrep
theorem zrp_is : zrp = rpA 0 nlS nlS := rfl
theorem zrp_size : zrp.size = 3 := rfl
theorem zrp_one : zrp.all (·.oneCell') = true := rpA_one 0 _ _ rfl rfl
def DocP (w : World) (l : List Int) (e : Ending) (w' : World) : Prop :=
  (∃ p, dpP l = some p ∧ e = .returned (.tuple #[.agg zrp, .int .i64 p, .int .i64 201])) ∨
  (dpP l = none ∧ ∃ vn v, e = .returned (.tuple #[.agg (rpA (l.getD 0 0) vn v), .int .i64 0, .int .i64 0]) ∧ w'.ownsRow w.heap.size 3 1 vn (dpS l (l.getD 0 0)).length ((dpS l (l.getD 0 0)).map (Value.int .i64)) ∧ w'.ownsRow w.heap.size 5 1 v (dpB l (l.getD 0 0)).length ((dpB l (l.getD 0 0)).map (Value.int .u8)))
structure RP (w W : World) (k : Int) (vn vb : Value) : Prop where
  x0 : W.heap[w.heap.size]? = some (.cells zrp 42 (0, 0))
  x1 : W.heap[w.heap.size + 1]? = some (.cells zrp 42 (0, 0))
  x2 : W.heap[w.heap.size + 2]? = some (.cells (rpA k vn vb) 42 (0, 0))
  bel : Below w.heap.size w W
theorem RP.set {w W : World} {k : Int} {vn vb vn' vb' : Value} (h : RP w W k vn vb) (i : Nat) (v : Value) (e : (rpA k vn vb).setIfInBounds i v = rpA k vn' vb') : RP w (W.setCell ⟨w.heap.size + 2, i, none⟩ v) k vn' vb' :=
  ⟨by rw [← h.x0]; simp [World.setCell, Array.getElem?_modify], by rw [← h.x1]; simp [World.setCell, Array.getElem?_modify], by rw [← e]; exact heap_setA h.x2 i v, h.bel.setCell (by simp) v⟩
theorem RP.cell {w W : World} {k : Int} {vn vb : Value} (h : RP w W k vn vb) {i : Nat} {v : Value} (e : (rpA k vn vb)[i]? = some v) : W.cell? ⟨w.heap.size + 2, i, none⟩ = some v := by rw [cell_of_row _ _ _ _ _ _ h.x2]; exact e
theorem RP.fr {w W : World} {k : Int} {vn vb : Value} (h : RP w W k vn vb) (i : Nat) : W.frozen? ⟨w.heap.size + 2, i, none⟩ = false := free_of h.x2 i
theorem RP.rng {w W : World} {k : Int} {vn vb : Value} (h : RP w W k vn vb) : W.rangeAt (w.heap.size + 2) 0 (rpA k vn vb).toList := fun j v hj => by rw [cell_of_row _ _ _ _ _ _ h.x2, Nat.zero_add, ← Array.getElem?_toList]; exact hj
theorem RP.rng1 {w W : World} {k : Int} {vn vb : Value} (h : RP w W k vn vb) : W.rangeAt (w.heap.size + 1) 0 zrp.toList := fun j v hj => by rw [cell_of_row _ _ _ _ _ _ h.x1, Nat.zero_add, ← Array.getElem?_toList]; exact hj
theorem RP.below {w W W' : World} {k : Int} {vn vb : Value} (h : RP w W k vn vb) (hb : Below W.heap.size W W') : RP w W' k vn vb :=
  ⟨(hb.block _ (Array.getElem?_eq_some_iff.1 h.x0).1).trans h.x0, (hb.block _ (Array.getElem?_eq_some_iff.1 h.x1).1).trans h.x1, (hb.block _ (Array.getElem?_eq_some_iff.1 h.x2).1).trans h.x2, h.bel.trans (hb.mono h.bel.size)⟩
theorem RP.grown {w W W' : World} {k : Int} {vn vb : Value} (h : RP w W k vn vb) {r : Option Nat} (hg : W.grownBy W' r) (hr : ∀ b, r = some b → w.heap.size ≤ b ∧ ∃ cs T, W.heap[b]? = some (.cells cs T (0, 0)) ∧ T ≠ 42) : RP w W' k vn vb := by
  have ne : ∀ b cs, W.heap[b]? = some (.cells cs 42 (0, 0)) → some b ≠ r := fun b cs q e => by
    obtain ⟨_, cs', T, q1, q2⟩ := hr b e.symm
    rw [q] at q1
    simp only [Option.some.injEq, Obj.cells.injEq] at q1
    exact q2 q1.2.1.symm
  exact ⟨(hg.block _ (Array.getElem?_eq_some_iff.1 h.x0).1 (ne _ _ h.x0)).trans h.x0, (hg.block _ (Array.getElem?_eq_some_iff.1 h.x1).1 (ne _ _ h.x1)).trans h.x1, (hg.block _ (Array.getElem?_eq_some_iff.1 h.x2).1 (ne _ _ h.x2)).trans h.x2, h.bel.grown hg h.bel.size (fun b e => (hr b e).1)⟩
theorem RP.ans {w W : World} {k : Int} {vn vb : Value} (h : RP w W k vn vb) (m : Array Value) : (W.setRow w.heap.size m).heap[w.heap.size]? = some (.cells m 42 (0, 0)) ∧ Below w.heap.size w (W.setRow w.heap.size m) :=
  ⟨setRow_heap _ _ _ _ _ _ h.x0, h.bel.trans ((ex_setRow (Ex.refl (fun k => k = w.heap.size) W) rfl m).below h.bel.size (fun k e => by omega))⟩
theorem info_I : (Try.prog.info? 3).map (fun i => (i.zero, i.size, i.bytes)) = some (some (.int .i64 0), 1, 8) := by kernel_rfl
theorem run_litI (w : World) (x : Int) : (Instr.buildSlice 40 1 #[(0, .int .i64 x)]).run Try.prog w = .ok (.slice (some ⟨w.heap.size, 0, none⟩) 1 1) (w.alloc (.cells #[.int .i64 x] 3)) := by kernel_rfl
theorem wp_append_I {w : World} {o : Oper} {a : Act} {K : Act → World → Prop} {Q : Exit → Act → World → Prop} (s x : Operand)
    (ho : o.op = .call { callee := .builtin .append, args := #[s, x], argTypes := #[40, 40] })
    (base : Nat) (v : Value) (n : Nat) (xs : List Value) (hs : a.eval s = v) (hown : w.ownsRow base 3 1 v n xs)
    (ad : Addr) (c : Nat) (y : Int) (hx : a.eval x = .slice (some ad) 1 c) (hy : w.cell? ad = some (.int .i64 y)) (hn : n ≤ 1000000) (hbase : base ≤ w.heap.size)
    (h : ∀ v' w', w'.ownsRow base 3 1 v' (n + 1) (xs ++ [.int .i64 y]) → w.grownBy w' v.ownBlock → K (a.put o.dst v') w') : o.wp Try.prog a w K Q := by
  obtain ⟨i0, hi, hz0, hz1, hz2⟩ := info_parts info_I
  refine wp_append_own w s x 40 ho base 3 i0 (.int .i64 0) 1 8 Try.underlying40 hi hz0 hz1 hz2 rfl (by decide) v n xs hs hown ad 1 c [.int .i64 y] hx rfl ?_ ?_ (by unfold maxLen; omega) (by omega) hbase (fun v' w' h1 h2 _ => h v' w' h1 h2)
  · intro j u hj
    match j, hj with
    | 0, hj => simp at hj; subst hj; simpa [Addr.add] using hy
  · intro u hu; simp at hu; subst hu; rfl
set_option maxRecDepth 100000 in
set_option maxHeartbeats 32000000 in
theorem rrep_e (w : World) (v : Value) (l : List Int) (h : HB w v l) (hl : l.length = 0) :
    Calls Try.prog 27 #[v] w fun e w' => DocP w l e w' ∧ Below w.heap.size w w' := by
  obtain ⟨q, c, e, hlc, hm⟩ := h.open
  subst e
  rw [hl]
  have hl' : l = [] := List.length_eq_zero_iff.1 hl
  have HD : Hid (dpP l = some 0) := hid (by rw [hl']; rfl)
  clear h hlc
  obtain ⟨W1, HW1⟩ : ∃ W : World, Hid (w.alloc (.cells zrep 42) = W) := ⟨_, hid rfl⟩
  have Z1 : W1.heap.size = w.heap.size + 1 := by rw [← HW1.out]; simp
  obtain ⟨W2, HW2⟩ : ∃ W : World, Hid (W1.alloc (.cells zrep 42) = W) := ⟨_, hid rfl⟩
  have Z2 : W2.heap.size = w.heap.size + 2 := by rw [← HW2.out]; simp [Z1]
  have B1 : Below w.heap.size w W1 := by rw [← HW1.out]; exact (Below.refl _ w).alloc (Nat.le_refl _) _
  have B2' : Below W1.heap.size W1 W2 := by rw [← HW2.out]; exact (Below.refl _ W1).alloc (Nat.le_refl _) _
  have B2 : Hid (Below w.heap.size w W2) := hid (B1.trans (B2'.mono B1.size))
  have x0 : W1.heap[w.heap.size]? = some (.cells zrp 42 (0, 0)) := by rw [← HW1.out]; exact heap_alloc_new w _
  have x0b : W2.heap[w.heap.size]? = some (.cells zrp 42 (0, 0)) := (B2'.block _ (by omega)).trans x0
  have X0 := hid x0b
  have x1 : W2.heap[w.heap.size + 1]? = some (.cells zrp 42 (0, 0)) := by rw [← Z1, ← HW2.out]; exact heap_alloc_new W1 _
  have RG1 : Hid (W2.rangeAt (w.heap.size + 1) 0 zrp.toList) := hid (fun j v hj => by rw [cell_of_row _ _ _ _ _ _ x1, Nat.zero_add, ← Array.getElem?_toList]; exact hj)
  have ANS : Hid ((W2.setRow w.heap.size zrp).heap[w.heap.size]? = some (.cells zrp 42 (0, 0)) ∧ Below w.heap.size w (W2.setRow w.heap.size zrp)) := hid ⟨setRow_heap _ _ _ _ _ _ X0.out, B2.out.trans ((ex_setRow (Ex.refl (fun k => k = w.heap.size) W2) rfl zrp).below B2.out.size (fun k e => by omega))⟩
  have SR : Hid ((Try.prog.info? 42).map (·.size) = some 3) := hid (by kernel_rfl)
  have HZ1 := hid Z1
  have HZ2 := hid Z2
  clear x0 x0b x1 B2' B1 Z1 Z2
  go_enter Try.func27, Try.ntmps27
  refine wp_seq_k fun K0 h0 => ?_
  have H0 := hid h0
  clear h0
  go_wp2
  rw [HW1.out]
  refine H0.out _ _ ?_
  refine wp_seq_k fun K0 h0 => ?_
  have H0 := hid h0
  clear h0
  go_wp2
  rw [HW2.out, HZ1.out]
  refine H0.out _ _ ?_
  go_wp2_with (first | (refine wpList_load_mid rfl 42 _ rfl (w.heap.size + 1) 0 rfl zrp.toList _ RG1.out Try.underlying42 rfl SR.out ?_; rw [Array.toArray_toList]) | (refine wpList_store_row rfl 42 _ _ rfl w.heap.size zrp rfl rfl 42 zrp X0.out SR.out rfl zrp_one ?_) | fail)
  refine bodyPost_ret (v := .tuple #[.agg zrp, .int .i64 0, .int .i64 201]) (results_cellTT (p := 2) (q := 3) (q' := 4) (ty := 42) rfl _ _ w.heap.size 42 _ (0, 0) _ _ _ rfl rfl rfl ANS.out.1 Try.underlying42 rfl SR.out) rfl ?_
  exact ⟨.inl ⟨0, HD.out, rfl⟩, ANS.out.2⟩
set_option maxRecDepth 100000 in
set_option maxHeartbeats 32000000 in
theorem rrep_n0 (w : World) (v : Value) (l : List Int) (h : HB w v l) (hl : 0 < l.length) (hk : l.getD 0 0 < 1) :
    Calls Try.prog 27 #[v] w fun e w' => DocP w l e w' ∧ Below w.heap.size w w' := by
  obtain ⟨q, c, e, hlc, hm⟩ := h.open
  have hby := h.byte
  have A : Hid (∀ W, Below w.heap.size w W → ∀ j, j < l.length → ∃ b off, q = some ⟨b, off, none⟩ ∧ W.cell? ⟨b, off + j, none⟩ = some (.int .u8 (l.getD j 0))) := hid (fun W hW j hj => by
    obtain ⟨b, off, c', e', _, _, hh⟩ := (h.below hW).ne (by omega)
    rw [e] at e'
    simp only [Value.slice.injEq, true_and] at e'
    exact ⟨b, off, e'.1, hh j hj⟩)
  subst e
  obtain ⟨b, off, rfl, -⟩ := A.out w (Below.refl _ _) 0 (by omega)
  have A' : Hid (∀ W, Below w.heap.size w W → ∀ j, j < l.length → W.cell? ⟨b, off + j, none⟩ = some (.int .u8 (l.getD j 0))) := hid (fun W hW j hj => by
    obtain ⟨b', off', e', hh⟩ := A.out W hW j hj
    cases e'
    exact hh)
  have VB : Hid (∀ W, Below w.heap.size w W → HB W (.slice (some ⟨b, off, none⟩) l.length c) l) := hid (fun W hW => h.below hW)
  have HBY := hid hby
  have HBY2 := hid h.2
  have HD : Hid (dpP l = some 0) := hid (by unfold dpP; rw [if_pos (by omega)])
  obtain ⟨W1, HW1⟩ : ∃ W : World, Hid (w.alloc (.cells zrep 42) = W) := ⟨_, hid rfl⟩
  have Z1 : W1.heap.size = w.heap.size + 1 := by rw [← HW1.out]; simp
  obtain ⟨W2, HW2⟩ : ∃ W : World, Hid (W1.alloc (.cells zrep 42) = W) := ⟨_, hid rfl⟩
  have Z2 : W2.heap.size = w.heap.size + 2 := by rw [← HW2.out]; simp [Z1]
  have B1 : Below w.heap.size w W1 := by rw [← HW1.out]; exact (Below.refl _ w).alloc (Nat.le_refl _) _
  have B2' : Below W1.heap.size W1 W2 := by rw [← HW2.out]; exact (Below.refl _ W1).alloc (Nat.le_refl _) _
  have B2 : Hid (Below w.heap.size w W2) := hid (B1.trans (B2'.mono B1.size))
  have x0 : W1.heap[w.heap.size]? = some (.cells zrp 42 (0, 0)) := by rw [← HW1.out]; exact heap_alloc_new w _
  have x0b : W2.heap[w.heap.size]? = some (.cells zrp 42 (0, 0)) := (B2'.block _ (by omega)).trans x0
  have X0 := hid x0b
  have x1 : W2.heap[w.heap.size + 1]? = some (.cells zrp 42 (0, 0)) := by rw [← Z1, ← HW2.out]; exact heap_alloc_new W1 _
  have RG1 : Hid (W2.rangeAt (w.heap.size + 1) 0 zrp.toList) := hid (fun j v hj => by rw [cell_of_row _ _ _ _ _ _ x1, Nat.zero_add, ← Array.getElem?_toList]; exact hj)
  have ANS : Hid ((W2.setRow w.heap.size zrp).heap[w.heap.size]? = some (.cells zrp 42 (0, 0)) ∧ Below w.heap.size w (W2.setRow w.heap.size zrp)) := hid ⟨setRow_heap _ _ _ _ _ _ X0.out, B2.out.trans ((ex_setRow (Ex.refl (fun k => k = w.heap.size) W2) rfl zrp).below B2.out.size (fun k e => by omega))⟩
  have SR : Hid ((Try.prog.info? 42).map (·.size) = some 3) := hid (by kernel_rfl)
  have HZ1 := hid Z1
  have HZ2 := hid Z2
  have a0 := A'.out W2 B2.out 0 (by omega)
  have a0' : W2.cell? ⟨b, off, none⟩ = some (.int .u8 (l.getD 0 0)) := a0
  have y0 := HBY.out 0
  have e0 : l.getD 0 0 = 0 := by omega
  rw [e0] at a0'
  have hl1 : (0 : Int) < (l.length : Int) := by omega
  have hl0 : ¬ ((l.length : Int) = 0) := by omega
  have hl0' : ¬ (l.length = 0) := by omega
  have hl0'' : ¬ (l = []) := fun e => by rw [e] at hl; simp at hl
  clear A x0 x0b x1 B2' B1 Z1 Z2 a0 h hby
  go_enter Try.func27, Try.ntmps27
  refine wp_seq_k fun K0 h0 => ?_
  have H0 := hid h0
  clear h0
  go_wp2
  rw [HW1.out]
  refine H0.out _ _ ?_
  refine wp_seq_k fun K0 h0 => ?_
  have H0 := hid h0
  clear h0
  go_wp2
  rw [HW2.out, HZ1.out]
  refine H0.out _ _ ?_
  go_wp2_with (first | (refine wpList_load_mid rfl 42 _ rfl (w.heap.size + 1) 0 rfl zrp.toList _ RG1.out Try.underlying42 rfl SR.out ?_; rw [Array.toArray_toList]) | (refine wpList_store_row rfl 42 _ _ rfl w.heap.size zrp rfl rfl 42 zrp X0.out SR.out rfl zrp_one ?_) | fail)
  refine bodyPost_ret (v := .tuple #[.agg zrp, .int .i64 0, .int .i64 201]) (results_cellTT (p := 2) (q := 3) (q' := 4) (ty := 42) rfl _ _ w.heap.size 42 _ (0, 0) _ _ _ rfl rfl rfl ANS.out.1 Try.underlying42 rfl SR.out) rfl ?_
  exact ⟨.inl ⟨0, HD.out, rfl⟩, ANS.out.2⟩
set_option maxRecDepth 100000 in
set_option maxHeartbeats 32000000 in
theorem rrep_n8 (w : World) (v : Value) (l : List Int) (h : HB w v l) (hl : 0 < l.length) (hk : 7 < l.getD 0 0) :
    Calls Try.prog 27 #[v] w fun e w' => DocP w l e w' ∧ Below w.heap.size w w' := by
  obtain ⟨q, c, e, hlc, hm⟩ := h.open
  have hby := h.byte
  have A : Hid (∀ W, Below w.heap.size w W → ∀ j, j < l.length → ∃ b off, q = some ⟨b, off, none⟩ ∧ W.cell? ⟨b, off + j, none⟩ = some (.int .u8 (l.getD j 0))) := hid (fun W hW j hj => by
    obtain ⟨b, off, c', e', _, _, hh⟩ := (h.below hW).ne (by omega)
    rw [e] at e'
    simp only [Value.slice.injEq, true_and] at e'
    exact ⟨b, off, e'.1, hh j hj⟩)
  subst e
  obtain ⟨b, off, rfl, -⟩ := A.out w (Below.refl _ _) 0 (by omega)
  have A' : Hid (∀ W, Below w.heap.size w W → ∀ j, j < l.length → W.cell? ⟨b, off + j, none⟩ = some (.int .u8 (l.getD j 0))) := hid (fun W hW j hj => by
    obtain ⟨b', off', e', hh⟩ := A.out W hW j hj
    cases e'
    exact hh)
  have VB : Hid (∀ W, Below w.heap.size w W → HB W (.slice (some ⟨b, off, none⟩) l.length c) l) := hid (fun W hW => h.below hW)
  have HBY := hid hby
  have HBY2 := hid h.2
  have HD : Hid (dpP l = some 0) := hid (by unfold dpP; rw [if_pos (by omega)])
  obtain ⟨W1, HW1⟩ : ∃ W : World, Hid (w.alloc (.cells zrep 42) = W) := ⟨_, hid rfl⟩
  have Z1 : W1.heap.size = w.heap.size + 1 := by rw [← HW1.out]; simp
  obtain ⟨W2, HW2⟩ : ∃ W : World, Hid (W1.alloc (.cells zrep 42) = W) := ⟨_, hid rfl⟩
  have Z2 : W2.heap.size = w.heap.size + 2 := by rw [← HW2.out]; simp [Z1]
  have B1 : Below w.heap.size w W1 := by rw [← HW1.out]; exact (Below.refl _ w).alloc (Nat.le_refl _) _
  have B2' : Below W1.heap.size W1 W2 := by rw [← HW2.out]; exact (Below.refl _ W1).alloc (Nat.le_refl _) _
  have B2 : Hid (Below w.heap.size w W2) := hid (B1.trans (B2'.mono B1.size))
  have x0 : W1.heap[w.heap.size]? = some (.cells zrp 42 (0, 0)) := by rw [← HW1.out]; exact heap_alloc_new w _
  have x0b : W2.heap[w.heap.size]? = some (.cells zrp 42 (0, 0)) := (B2'.block _ (by omega)).trans x0
  have X0 := hid x0b
  have x1 : W2.heap[w.heap.size + 1]? = some (.cells zrp 42 (0, 0)) := by rw [← Z1, ← HW2.out]; exact heap_alloc_new W1 _
  have RG1 : Hid (W2.rangeAt (w.heap.size + 1) 0 zrp.toList) := hid (fun j v hj => by rw [cell_of_row _ _ _ _ _ _ x1, Nat.zero_add, ← Array.getElem?_toList]; exact hj)
  have ANS : Hid ((W2.setRow w.heap.size zrp).heap[w.heap.size]? = some (.cells zrp 42 (0, 0)) ∧ Below w.heap.size w (W2.setRow w.heap.size zrp)) := hid ⟨setRow_heap _ _ _ _ _ _ X0.out, B2.out.trans ((ex_setRow (Ex.refl (fun k => k = w.heap.size) W2) rfl zrp).below B2.out.size (fun k e => by omega))⟩
  have SR : Hid ((Try.prog.info? 42).map (·.size) = some 3) := hid (by kernel_rfl)
  have HZ1 := hid Z1
  have HZ2 := hid Z2
  have a0 := A'.out W2 B2.out 0 (by omega)
  have a0' : W2.cell? ⟨b, off, none⟩ = some (.int .u8 (l.getD 0 0)) := a0
  generalize l.getD 0 0 = k at a0' hk
  have hk1 : ¬ (k < 1) := by omega
  have hl1 : (0 : Int) < (l.length : Int) := by omega
  have hl0 : ¬ ((l.length : Int) = 0) := by omega
  have hl0' : ¬ (l.length = 0) := by omega
  have hl0'' : ¬ (l = []) := fun e => by rw [e] at hl; simp at hl
  clear A x0 x0b x1 B2' B1 Z1 Z2 a0 h hby
  go_enter Try.func27, Try.ntmps27
  refine wp_seq_k fun K0 h0 => ?_
  have H0 := hid h0
  clear h0
  go_wp2
  rw [HW1.out]
  refine H0.out _ _ ?_
  refine wp_seq_k fun K0 h0 => ?_
  have H0 := hid h0
  clear h0
  go_wp2
  rw [HW2.out, HZ1.out]
  refine H0.out _ _ ?_
  go_wp2_with (first | (refine wpList_load_mid rfl 42 _ rfl (w.heap.size + 1) 0 rfl zrp.toList _ RG1.out Try.underlying42 rfl SR.out ?_; rw [Array.toArray_toList]) | (refine wpList_store_row rfl 42 _ _ rfl w.heap.size zrp rfl rfl 42 zrp X0.out SR.out rfl zrp_one ?_) | fail)
  refine bodyPost_ret (v := .tuple #[.agg zrp, .int .i64 0, .int .i64 201]) (results_cellTT (p := 2) (q := 3) (q' := 4) (ty := 42) rfl _ _ w.heap.size 42 _ (0, 0) _ _ _ rfl rfl rfl ANS.out.1 Try.underlying42 rfl SR.out) rfl ?_
  exact ⟨.inl ⟨0, HD.out, rfl⟩, ANS.out.2⟩
end Go.Proofs.Ytgjadpidoaianaa
