/- Of the road to wireCallsUpto_holds: WrRRp1. -/
import Derived.Test.YtgjadpidoaianaaG14
import Derived.Test.YtgjadpidoaianaaG17
set_option linter.unusedVariables false
set_option linter.unusedSimpArgs false
namespace Go.Proofs.Ytgjadpidoaianaa
open Go Go.RowKit
set_option maxRecDepth 100000 in
set_option maxHeartbeats 32000000 in
theorem rrep_1s (w : World) (v : Value) (l : List Int) (h : HB w v l) (hl : 0 < l.length) (hk : l.getD 0 0 = 1) (hs : l.length < 2) :
    Calls Try.prog 27 #[v] w fun e w' => DocP w l e w' ∧ Below w.heap.size w w' := by
  obtain ⟨q, c, e, hlc, hm⟩ := h.open
  have hby := h.byte
  have A : Hid (∀ W, Below w.heap.size w W → ∀ j, j < l.length → ∃ b off, q = some ⟨b, off, none⟩ ∧ W.cell? ⟨b, off + j, none⟩ = some (.int .u8 (l.getD j 0))) := hid (fun W hW j hj => by
    obtain ⟨b, off, c', e', _, _, hh⟩ := (h.below hW).ne (by omega)
    rw [e] at e'
    simp only [Value.slice.injEq, true_and] at e'
    exact ⟨b, off, e'.1, hh j hj⟩)
  subst e
  obtain ⟨b, off, rfl, -⟩ := A.out w (Below.refl _ _) 0 (by omega)
  have A' : Hid (∀ W, Below w.heap.size w W → ∀ j, j < l.length → W.cell? ⟨b, off + j, none⟩ = some (.int .u8 (l.getD j 0))) := hid (fun W hW j hj => by
    obtain ⟨b', off', e', hh⟩ := A.out W hW j hj
    cases e'
    exact hh)
  have VB : Hid (∀ W, Below w.heap.size w W → HB W (.slice (some ⟨b, off, none⟩) l.length c) l) := hid (fun W hW => h.below hW)
  have HBY := hid hby
  have HBY2 := hid h.2
  obtain ⟨W1, HW1⟩ : ∃ W : World, Hid (w.alloc (.cells zrep 42) = W) := ⟨_, hid rfl⟩
  have Z1 : W1.heap.size = w.heap.size + 1 := by rw [← HW1.out]; simp
  obtain ⟨W2, HW2⟩ : ∃ W : World, Hid (W1.alloc (.cells zrep 42) = W) := ⟨_, hid rfl⟩
  have Z2 : W2.heap.size = w.heap.size + 2 := by rw [← HW2.out]; simp [Z1]
  have B1 : Below w.heap.size w W1 := by rw [← HW1.out]; exact (Below.refl _ w).alloc (Nat.le_refl _) _
  have B2' : Below W1.heap.size W1 W2 := by rw [← HW2.out]; exact (Below.refl _ W1).alloc (Nat.le_refl _) _
  have B2 : Hid (Below w.heap.size w W2) := hid (B1.trans (B2'.mono B1.size))
  have x0 : W1.heap[w.heap.size]? = some (.cells zrp 42 (0, 0)) := by rw [← HW1.out]; exact heap_alloc_new w _
  have x0b : W2.heap[w.heap.size]? = some (.cells zrp 42 (0, 0)) := (B2'.block _ (by omega)).trans x0
  have X0 := hid x0b
  have x1 : W2.heap[w.heap.size + 1]? = some (.cells zrp 42 (0, 0)) := by rw [← Z1, ← HW2.out]; exact heap_alloc_new W1 _
  have RG1 : Hid (W2.rangeAt (w.heap.size + 1) 0 zrp.toList) := hid (fun j v hj => by rw [cell_of_row _ _ _ _ _ _ x1, Nat.zero_add, ← Array.getElem?_toList]; exact hj)
  have ANS : Hid ((W2.setRow w.heap.size zrp).heap[w.heap.size]? = some (.cells zrp 42 (0, 0)) ∧ Below w.heap.size w (W2.setRow w.heap.size zrp)) := hid ⟨setRow_heap _ _ _ _ _ _ X0.out, B2.out.trans ((ex_setRow (Ex.refl (fun k => k = w.heap.size) W2) rfl zrp).below B2.out.size (fun k e => by omega))⟩
  have SR : Hid ((Try.prog.info? 42).map (·.size) = some 3) := hid (by kernel_rfl)
  have HZ1 := hid Z1
  have HZ2 := hid Z2
  obtain ⟨WA, HWA⟩ : ∃ W : World, Hid (W2.alloc (.cells zrep 42) = W) := ⟨_, hid rfl⟩
  obtain ⟨m0, HM0⟩ : ∃ m, Hid (rpA 1 nlS nlS = m) := ⟨_, hid rfl⟩
  obtain ⟨W3, HW3⟩ : ∃ W : World, Hid (WA.setRow (w.heap.size + 2) m0 = W) := ⟨_, hid rfl⟩
  have B3' : Below W2.heap.size W2 WA := by rw [← HWA.out]; exact (Below.refl _ W2).alloc (Nat.le_refl _) _
  have xA : WA.heap[w.heap.size + 2]? = some (.cells zrp 42 (0, 0)) := by rw [← Z2, ← HWA.out]; exact heap_alloc_new W2 _
  have HXA := hid xA
  have xk : ∀ i, i ≠ w.heap.size + 2 → W3.heap[i]? = WA.heap[i]? := fun i hi => by rw [← HW3.out]; simp [World.setRow, Array.getElem?_modify, show w.heap.size + 2 ≠ i from fun e => hi e.symm]
  have x3 : W3.heap[w.heap.size + 2]? = some (.cells m0 42 (0, 0)) := by rw [← HW3.out]; exact setRow_heap _ _ _ _ _ _ xA
  have HS : Hid (RP w W3 1 nlS nlS) := hid ⟨(xk _ (by omega)).trans ((B3'.block _ (by omega)).trans x0b), (xk _ (by omega)).trans ((B3'.block _ (by omega)).trans x1), by rw [HM0.out]; exact x3, by
    have q1 := B2.out.trans (B3'.mono B2.out.size)
    refine q1.trans ?_
    rw [← HW3.out]
    exact (ex_setRow (Ex.refl (fun k => k = w.heap.size + 2) WA) rfl m0).below q1.size (fun k e => by omega)⟩
  have hb0 : Hid (∀ W, (Instr.build 42 #[(0, .int .u8 1)]).run Try.prog W = .ok (.agg m0) W) := hid (fun W => by
    rw [← HM0.out]
    kernel_rfl)
  have hm0 : Hid (m0.size = 3) := hid (by rw [← HM0.out]; rfl)
  have hm1 : Hid (m0.all (·.oneCell') = true) := hid (by rw [← HM0.out]; exact rpA_one _ _ _ rfl rfl)
  have a0 := A'.out W2 B2.out 0 (by omega)
  have a0' : W2.cell? ⟨b, off, none⟩ = some (.int .u8 1) := by rw [← hk]; exact a0
  have hk0 : W3.cell? ⟨w.heap.size + 2, 0, none⟩ = some (.int .u8 1) := HS.out.cell rfl
  have hwl : IntKind.u64.wrap (l.length : Int) = (l.length : Int) := by rw [IntKind.wrap_u64]; omega
  have hl1 : (0 : Int) < (l.length : Int) := by omega
  have hl0 : ¬ ((l.length : Int) = 0) := by omega
  have hl0' : ¬ (l.length = 0) := by omega
  have hl0'' : ¬ (l = []) := fun e => by rw [e] at hl; simp at hl
  have DP : Hid (dpP l = some (l.length : Int)) := hid (by
    unfold dpP dpN
    rw [hk, if_neg (by omega), if_pos rfl, if_pos hs])
  have hs' : (l.length : Int) < 2 := by omega
  clear A x0 x0b x1 B2' B3' B1 Z1 Z2 h xA xk x3 a0 hby
  go_enter Try.func27, Try.ntmps27
  refine wp_seq_k fun K0 h0 => ?_
  have H0 := hid h0
  clear h0
  go_wp2
  rw [HW1.out]
  refine H0.out _ _ ?_
  refine wp_seq_k fun K0 h0 => ?_
  have H0 := hid h0
  clear h0
  go_wp2
  rw [HW2.out, HZ1.out]
  refine H0.out _ _ ?_
  go_wp2_with (first | (refine wpList_buildQ rfl 42 _ rfl #[(0, .int .u8 1)] (by go_simp) _ (hb0.out _) ?_) | rw [HWA.out, HZ2.out] | (refine wpList_store_row rfl 42 _ _ rfl (w.heap.size + 2) m0 rfl rfl 42 zrp HXA.out (by rw [hm0.out]; exact SR.out) (by rw [zrp_size, hm0.out]) hm1.out ?_) | rw [HW3.out] | (refine wpList_load_mid rfl 42 _ rfl (w.heap.size + 1) 0 rfl zrp.toList _ HS.out.rng1 Try.underlying42 rfl SR.out ?_; rw [Array.toArray_toList]) | (refine wpList_store_row rfl 42 _ _ rfl w.heap.size zrp rfl rfl 42 zrp HS.out.x0 SR.out rfl zrp_one ?_) | fail)
  refine bodyPost_ret (v := .tuple #[.agg zrp, .int .i64 (l.length : Int), .int .i64 201]) (results_cellTT (p := 2) (q := 3) (q' := 4) (ty := 42) rfl _ _ w.heap.size 42 _ (0, 0) _ _ _ rfl rfl rfl (HS.out.ans _).1 Try.underlying42 rfl SR.out) rfl ?_
  exact ⟨.inl ⟨(l.length : Int), DP.out, rfl⟩, (HS.out.ans _).2⟩
set_option maxRecDepth 100000 in
set_option maxHeartbeats 32000000 in
theorem rrep_1 (w : World) (v : Value) (l : List Int) (h : HB w v l) (hbig : l.length ≤ 140737488355328) (hk : l.getD 0 0 = 1) (hl : 2 ≤ l.length) :
    Calls Try.prog 27 #[v] w fun e w' => DocP w l e w' ∧ Below w.heap.size w w' := by
  obtain ⟨q, c, e, hlc, hm⟩ := h.open
  have hby := h.byte
  have A : Hid (∀ W, Below w.heap.size w W → ∀ j, j < l.length → ∃ b off, q = some ⟨b, off, none⟩ ∧ W.cell? ⟨b, off + j, none⟩ = some (.int .u8 (l.getD j 0))) := hid (fun W hW j hj => by
    obtain ⟨b, off, c', e', _, _, hh⟩ := (h.below hW).ne (by omega)
    rw [e] at e'
    simp only [Value.slice.injEq, true_and] at e'
    exact ⟨b, off, e'.1, hh j hj⟩)
  subst e
  obtain ⟨b, off, rfl, -⟩ := A.out w (Below.refl _ _) 0 (by omega)
  have A' : Hid (∀ W, Below w.heap.size w W → ∀ j, j < l.length → W.cell? ⟨b, off + j, none⟩ = some (.int .u8 (l.getD j 0))) := hid (fun W hW j hj => by
    obtain ⟨b', off', e', hh⟩ := A.out W hW j hj
    cases e'
    exact hh)
  have VB : Hid (∀ W, Below w.heap.size w W → HB W (.slice (some ⟨b, off, none⟩) l.length c) l) := hid (fun W hW => h.below hW)
  have HBY := hid hby
  have HBY2 := hid h.2
  obtain ⟨W1, HW1⟩ : ∃ W : World, Hid (w.alloc (.cells zrep 42) = W) := ⟨_, hid rfl⟩
  have Z1 : W1.heap.size = w.heap.size + 1 := by rw [← HW1.out]; simp
  obtain ⟨W2, HW2⟩ : ∃ W : World, Hid (W1.alloc (.cells zrep 42) = W) := ⟨_, hid rfl⟩
  have Z2 : W2.heap.size = w.heap.size + 2 := by rw [← HW2.out]; simp [Z1]
  have B1 : Below w.heap.size w W1 := by rw [← HW1.out]; exact (Below.refl _ w).alloc (Nat.le_refl _) _
  have B2' : Below W1.heap.size W1 W2 := by rw [← HW2.out]; exact (Below.refl _ W1).alloc (Nat.le_refl _) _
  have B2 : Hid (Below w.heap.size w W2) := hid (B1.trans (B2'.mono B1.size))
  have x0 : W1.heap[w.heap.size]? = some (.cells zrp 42 (0, 0)) := by rw [← HW1.out]; exact heap_alloc_new w _
  have x0b : W2.heap[w.heap.size]? = some (.cells zrp 42 (0, 0)) := (B2'.block _ (by omega)).trans x0
  have X0 := hid x0b
  have x1 : W2.heap[w.heap.size + 1]? = some (.cells zrp 42 (0, 0)) := by rw [← Z1, ← HW2.out]; exact heap_alloc_new W1 _
  have RG1 : Hid (W2.rangeAt (w.heap.size + 1) 0 zrp.toList) := hid (fun j v hj => by rw [cell_of_row _ _ _ _ _ _ x1, Nat.zero_add, ← Array.getElem?_toList]; exact hj)
  have ANS : Hid ((W2.setRow w.heap.size zrp).heap[w.heap.size]? = some (.cells zrp 42 (0, 0)) ∧ Below w.heap.size w (W2.setRow w.heap.size zrp)) := hid ⟨setRow_heap _ _ _ _ _ _ X0.out, B2.out.trans ((ex_setRow (Ex.refl (fun k => k = w.heap.size) W2) rfl zrp).below B2.out.size (fun k e => by omega))⟩
  have SR : Hid ((Try.prog.info? 42).map (·.size) = some 3) := hid (by kernel_rfl)
  have HZ1 := hid Z1
  have HZ2 := hid Z2
  obtain ⟨WA, HWA⟩ : ∃ W : World, Hid (W2.alloc (.cells zrep 42) = W) := ⟨_, hid rfl⟩
  obtain ⟨m0, HM0⟩ : ∃ m, Hid (rpA 1 nlS nlS = m) := ⟨_, hid rfl⟩
  obtain ⟨W3, HW3⟩ : ∃ W : World, Hid (WA.setRow (w.heap.size + 2) m0 = W) := ⟨_, hid rfl⟩
  have B3' : Below W2.heap.size W2 WA := by rw [← HWA.out]; exact (Below.refl _ W2).alloc (Nat.le_refl _) _
  have xA : WA.heap[w.heap.size + 2]? = some (.cells zrp 42 (0, 0)) := by rw [← Z2, ← HWA.out]; exact heap_alloc_new W2 _
  have HXA := hid xA
  have xk : ∀ i, i ≠ w.heap.size + 2 → W3.heap[i]? = WA.heap[i]? := fun i hi => by rw [← HW3.out]; simp [World.setRow, Array.getElem?_modify, show w.heap.size + 2 ≠ i from fun e => hi e.symm]
  have x3 : W3.heap[w.heap.size + 2]? = some (.cells m0 42 (0, 0)) := by rw [← HW3.out]; exact setRow_heap _ _ _ _ _ _ xA
  have HS : Hid (RP w W3 1 nlS nlS) := hid ⟨(xk _ (by omega)).trans ((B3'.block _ (by omega)).trans x0b), (xk _ (by omega)).trans ((B3'.block _ (by omega)).trans x1), by rw [HM0.out]; exact x3, by
    have q1 := B2.out.trans (B3'.mono B2.out.size)
    refine q1.trans ?_
    rw [← HW3.out]
    exact (ex_setRow (Ex.refl (fun k => k = w.heap.size + 2) WA) rfl m0).below q1.size (fun k e => by omega)⟩
  have hb0 : Hid (∀ W, (Instr.build 42 #[(0, .int .u8 1)]).run Try.prog W = .ok (.agg m0) W) := hid (fun W => by
    rw [← HM0.out]
    kernel_rfl)
  have hm0 : Hid (m0.size = 3) := hid (by rw [← HM0.out]; rfl)
  have hm1 : Hid (m0.all (·.oneCell') = true) := hid (by rw [← HM0.out]; exact rpA_one _ _ _ rfl rfl)
  have a0 := A'.out W2 B2.out 0 (by omega)
  have a0' : W2.cell? ⟨b, off, none⟩ = some (.int .u8 1) := by rw [← hk]; exact a0
  have hk0 : W3.cell? ⟨w.heap.size + 2, 0, none⟩ = some (.int .u8 1) := HS.out.cell rfl
  have hwl : IntKind.u64.wrap (l.length : Int) = (l.length : Int) := by rw [IntKind.wrap_u64]; omega
  have hl1 : (0 : Int) < (l.length : Int) := by omega
  have hl0 : ¬ ((l.length : Int) = 0) := by omega
  have hl0' : ¬ (l.length = 0) := by omega
  have hl0'' : ¬ (l = []) := fun e => by rw [e] at hl; simp at hl
  have DP : Hid (dpP l = match (fstB (folAt (l.drop 2)) (dpM l)).map (fun j => ((2 + j : Nat) : Int)) with | some p => some p | none => if l.length < 2 + (l.getD 1 0).toNat then some (l.length : Int) else if 2 + (l.getD 1 0).toNat < l.length then some ((2 + (l.getD 1 0).toNat : Nat) : Int) else none) := hid (by
    unfold dpP dpF dpE dpN
    rw [hk, if_neg (by omega)]
    simp only [if_true]
    rw [if_neg (by omega)]
    rfl)
  have hs' : ¬ ((l.length : Int) < 2) := by omega
  have h1l : (1 : Int) < (l.length : Int) := by omega
  have yc := HBY.out 1
  obtain ⟨cn, hcn⟩ := Int.eq_ofNat_of_zero_le yc.1
  have DM : Hid (dpM l = min cn (l.length - 2)) := hid (by unfold dpM; rw [hcn]; rfl)
  have AC : Hid (∀ W, Below w.heap.size w W → W.cell? ⟨b, off + 1, none⟩ = some (.int .u8 (cn : Int))) := hid (fun W hW => by rw [← hcn]; exact A'.out W hW 1 (by omega))
  rw [hcn, Int.toNat_natCast] at DP
  have hc256 : cn < 256 := by omega
  have wu : IntKind.u64.wrap (cn : Int) = (cn : Int) := by rw [IntKind.wrap_u64]; omega
  have wi : IntKind.i64.wrap (cn : Int) = (cn : Int) := by rw [IntKind.wrap_i64]; omega
  have wa : IntKind.u64.wrap (2 + (cn : Int)) = 2 + (cn : Int) := by rw [IntKind.wrap_u64]; omega
  have ac3 := AC.out W3 HS.out.bel
  have HLL := hid hl
  clear hcn yc
  clear A x0 x0b x1 B2' B3' B1 Z1 Z2 h xA xk x3 a0 hby
  go_enter Try.func27, Try.ntmps27
  refine wp_seq_k fun K0 h0 => ?_
  have H0 := hid h0
  clear h0
  go_wp2
  rw [HW1.out]
  refine H0.out _ _ ?_
  refine wp_seq_k fun K0 h0 => ?_
  have H0 := hid h0
  clear h0
  go_wp2
  rw [HW2.out, HZ1.out]
  refine H0.out _ _ ?_
  go_wp2_with (first | (refine wpList_buildQ rfl 42 _ rfl #[(0, .int .u8 1)] (by go_simp) _ (hb0.out _) ?_) | rw [HWA.out, HZ2.out] | (refine wpList_store_row rfl 42 _ _ rfl (w.heap.size + 2) m0 rfl rfl 42 zrp HXA.out (by rw [hm0.out]; exact SR.out) (by rw [zrp_size, hm0.out]) hm1.out ?_) | rw [HW3.out] | fail)
  go_loopw [9] (fun i wr => ∃ (j : Nat) (vn : Value), j ≤ dpM l ∧ i = .int .i64 (j : Int) ∧ Hid (RP w wr 1 vn nlS) ∧ Hid (wr.ownsRow w.heap.size 3 1 vn ((l.drop 2).take j).length (((l.drop 2).take j).map (Value.int .i64))) ∧ Hid (fstB (folAt (l.drop 2)) j = none)) (fun i _ => dpM l - (intOf i).toNat)
  case atStart => exact ⟨0, nlS, Nat.zero_le _, rfl, HS, hid (by rw [List.take_zero]; exact World.ownsRow_nil _ _ _ _), hid rfl⟩
  case round =>
    clear HS hk0 ac3
    obtain ⟨j, vn, hj, rfl, HS, HO, HF⟩ := hrel
    have ac := AC.out wr HS.out.bel
    have hk0 : wr.cell? ⟨w.heap.size + 2, 0, none⟩ = some (.int .u8 1) := HS.out.cell rfl
    have hjm : j ≤ cn ∧ j ≤ l.length - 2 := by rw [DM.out] at hj; omega
    have hlj : ((l.drop 2).take j).length = j := by simp; omega
    have HJL := hid hlj
    rw [hlj] at HO
    clear hlj
    by_cases hlt : j < dpM l
    · have hlt2 : j < cn ∧ 2 + j < l.length := by rw [DM.out] at hlt; have := HLL.out; omega
      have t1 : (j : Int) < (cn : Int) := by omega
      have t2 : 2 + (j : Int) < (l.length : Int) := by omega
      have w1 : IntKind.i64.wrap (2 + (j : Int)) = 2 + (j : Int) := by rw [IntKind.wrap_i64]; omega
      have w2 : IntKind.i64.wrap (2 + (j : Int) - 1) = 2 + (j : Int) - 1 := by rw [IntKind.wrap_i64]; omega
      have n1 : (2 + (j : Int)).toNat = 2 + j := by omega
      have n2 : (2 + (j : Int) - 1).toNat = 1 + j := by omega
      have t6 : 1 ≤ 2 + (j : Int) := by omega
      have t3 : 2 + (j : Int) - 1 < (l.length : Int) := by omega
      have t4 : 0 ≤ 2 + (j : Int) - 1 := by omega
      have t5 : 0 ≤ 2 + (j : Int) := by omega
      have yx := HBY.out (2 + j)
      obtain ⟨x, HX⟩ : ∃ x, Hid (l.getD (2 + j) 0 = x) := ⟨_, hid rfl⟩
      have AX : Hid (∀ W, Below w.heap.size w W → W.cell? ⟨b, off + (2 + j), none⟩ = some (.int .u8 x)) := hid (fun W hW => by rw [← HX.out]; exact A'.out W hW (2 + j) hlt2.2)
      rw [HX.out] at yx
      have AP : Hid (∀ W, Below w.heap.size w W → W.cell? ⟨b, off + (1 + j), none⟩ = some (.int .u8 (l.getD (1 + j) 0))) := hid (fun W hW => A'.out W hW (1 + j) (by omega))
      have hfol : Hid (folAt (l.drop 2) j = (nbB x && (decide (j = 0) || decide (l.getD (1 + j) 0 < x)))) := hid (by
        unfold folAt
        rw [folB_at (by simp; omega)]
        have e1 : (l.drop 2).getD j 0 = x := by rw [← HX.out]; simp [List.getD, List.getElem?_drop]
        rw [e1]
        by_cases h0 : j = 0
        · simp [h0]
        · have e2 : (l.drop 2).getD (j - 1) 0 = l.getD (1 + j) 0 := by
            simp only [List.getD, List.getElem?_drop]
            rw [show 2 + (j - 1) = 1 + j by omega]
          rw [e2])
      generalize l.getD (1 + j) 0 = y at AP hfol
      have FB : Hid (folAt (l.drop 2) j = false → dpP l = some (2 + (j : Int))) := hid (fun hf => by
        rw [DP.out, fstB_some HF.out hf _ hlt, Option.map_some]
        simp only []
        refine congrArg some ?_
        omega)
      by_cases h255 : x = 255
      · subst h255
        go_wp2_with fail
        have HD := hid (HS.out.below ((Below.refl _ wr).drew))
        refine wp_region_held_drew (S := (Below w.heap.size w)) (by kernel_rfl) (HS.out.bel.trans ((Below.refl _ wr).drew.mono HS.out.bel.size)) (fun hHeld => ?_)
        have HSS := hid hHeld
        clear hHeld
        change wpAnyH _ _ _ _ _ _ _ _ (World.drew _)
        refine wpAnyH_take (i := 0) (v := ?_) rfl (by kernel_rfl) (by kernel_rfl) (by kernel_rfl) (fun _ _ _ h => h) (Or.inl ⟨by rfl, ?q0⟩) HSS.out ?_
        case q0 => intro w hSw; have q1 := AX.out _ hSw; have q2 := AP.out _ hSw; go_simp; rfl
        simp only [Act.put, List.getElem_toArray, List.getElem_cons_zero, List.getElem_cons_succ, List.setIfInBounds_toArray, List.set_cons_zero, List.set_cons_succ]
        refine wpAnyH_take (i := 1) (v := ?_) rfl (by kernel_rfl) (by kernel_rfl) (by kernel_rfl) (fun _ _ _ h => h) (Or.inl ⟨by rfl, ?q1⟩) HSS.out ?_
        case q1 => intro w hSw; have q1 := AX.out _ hSw; have q2 := AP.out _ hSw; go_simp; rfl
        simp only [Act.put, List.getElem_toArray, List.getElem_cons_zero, List.getElem_cons_succ, List.setIfInBounds_toArray, List.set_cons_zero, List.set_cons_succ]
        refine wpAnyH_take (i := 2) (v := ?_) rfl (by kernel_rfl) (by kernel_rfl) (by kernel_rfl) (fun _ _ _ h => h) (Or.inl ⟨by rfl, ?q2⟩) HSS.out ?_
        case q2 => intro w hSw; have q1 := AX.out _ hSw; have q2 := AP.out _ hSw; go_simp; rfl
        simp only [Act.put, List.getElem_toArray, List.getElem_cons_zero, List.getElem_cons_succ, List.setIfInBounds_toArray, List.set_cons_zero, List.set_cons_succ]
        refine wpAnyH_take (i := 3) (v := ?_) rfl (by kernel_rfl) (by kernel_rfl) (by kernel_rfl) (fun _ _ _ h => h) (Or.inl ⟨by rfl, ?q3⟩) HSS.out ?_
        case q3 => intro w hSw; have q1 := AX.out _ hSw; have q2 := AP.out _ hSw; go_simp; rfl
        simp only [Act.put, List.getElem_toArray, List.getElem_cons_zero, List.getElem_cons_succ, List.setIfInBounds_toArray, List.set_cons_zero, List.set_cons_succ]
        refine wpAnyH_take (i := 4) (v := ?_) rfl (by kernel_rfl) (by kernel_rfl) (by kernel_rfl) (fun _ _ _ h => h) (Or.inl ⟨by rfl, ?q4⟩) HSS.out ?_
        case q4 => intro w hSw; have q1 := AX.out _ hSw; have q2 := AP.out _ hSw; go_simp; rfl
        simp only [Act.put, List.getElem_toArray, List.getElem_cons_zero, List.getElem_cons_succ, List.setIfInBounds_toArray, List.set_cons_zero, List.set_cons_succ]
        refine wpAnyH_take (i := 5) (v := ?_) rfl (by kernel_rfl) (by kernel_rfl) (by kernel_rfl) (fun _ _ _ h => h) (Or.inl ⟨by rfl, ?q5⟩) HSS.out ?_
        case q5 => intro w hSw; have q1 := AX.out _ hSw; have q2 := AP.out _ hSw; go_simp; rfl
        simp only [Act.put, List.getElem_toArray, List.getElem_cons_zero, List.getElem_cons_succ, List.setIfInBounds_toArray, List.set_cons_zero, List.set_cons_succ]
        refine wpAnyH_take (i := 6) (v := ?_) rfl (by kernel_rfl) (by kernel_rfl) (by kernel_rfl) (fun _ _ _ h => h) (Or.inl ⟨by rfl, ?q6⟩) HSS.out ?_
        case q6 => intro w hSw; have q1 := AX.out _ hSw; have q2 := AP.out _ hSw; go_simp; rfl
        simp only [Act.put, List.getElem_toArray, List.getElem_cons_zero, List.getElem_cons_succ, List.setIfInBounds_toArray, List.set_cons_zero, List.set_cons_succ]
        refine wpAnyH_take (i := 7) (v := ?_) rfl (by kernel_rfl) (by kernel_rfl) (by kernel_rfl) (fun _ _ _ h => h) (Or.inl ⟨by rfl, ?q7⟩) HSS.out ?_
        case q7 => intro w hSw; have q1 := AX.out _ hSw; have q2 := AP.out _ hSw; go_simp; rfl
        simp only [Act.put, List.getElem_toArray, List.getElem_cons_zero, List.getElem_cons_succ, List.setIfInBounds_toArray, List.set_cons_zero, List.set_cons_succ]
        refine wpAnyH_take (i := 8) (v := undef) rfl (by kernel_rfl) (by kernel_rfl) (by kernel_rfl) (fun _ _ _ h => h) (Or.inr ⟨by rfl, rfl⟩) HSS.out ?_
        simp only [Act.put, List.getElem_toArray, List.getElem_cons_zero, List.getElem_cons_succ, List.setIfInBounds_toArray, List.set_cons_zero, List.set_cons_succ]
        refine wpAnyH_take (i := 9) (v := undef) rfl (by kernel_rfl) (by kernel_rfl) (by kernel_rfl) (fun _ _ _ h => h) (Or.inr ⟨by rfl, rfl⟩) HSS.out ?_
        simp only [Act.put, List.getElem_toArray, List.getElem_cons_zero, List.getElem_cons_succ, List.setIfInBounds_toArray, List.set_cons_zero, List.set_cons_succ]
        refine wpAnyH_take (i := 10) (v := undef) rfl (by kernel_rfl) (by kernel_rfl) (by kernel_rfl) (fun _ _ _ h => h) (Or.inr ⟨by rfl, rfl⟩) HSS.out ?_
        simp only [Act.put, List.getElem_toArray, List.getElem_cons_zero, List.getElem_cons_succ, List.setIfInBounds_toArray, List.set_cons_zero, List.set_cons_succ]
        refine wpAnyH_take (i := 11) (v := undef) rfl (by kernel_rfl) (by kernel_rfl) (by kernel_rfl) (fun _ _ _ h => h) (Or.inr ⟨by rfl, rfl⟩) HSS.out ?_
        simp only [Act.put, List.getElem_toArray, List.getElem_cons_zero, List.getElem_cons_succ, List.setIfInBounds_toArray, List.set_cons_zero, List.set_cons_succ]
        refine wpAnyH_take (i := 12) (v := undef) rfl (by kernel_rfl) (by kernel_rfl) (by kernel_rfl) (fun _ _ _ h => h) (Or.inr ⟨by rfl, rfl⟩) HSS.out ?_
        simp only [Act.put, List.getElem_toArray, List.getElem_cons_zero, List.getElem_cons_succ, List.setIfInBounds_toArray, List.set_cons_zero, List.set_cons_succ]
        refine wpAnyH_take (i := 13) (v := undef) rfl (by kernel_rfl) (by kernel_rfl) (by kernel_rfl) (fun _ _ _ h => h) (Or.inr ⟨by rfl, rfl⟩) HSS.out ?_
        simp only [Act.put, List.getElem_toArray, List.getElem_cons_zero, List.getElem_cons_succ, List.setIfInBounds_toArray, List.set_cons_zero, List.set_cons_succ]
        refine wpAnyH_take (i := 14) (v := undef) rfl (by kernel_rfl) (by kernel_rfl) (by kernel_rfl) (fun _ _ _ h => h) (Or.inr ⟨by rfl, rfl⟩) HSS.out ?_
        simp only [Act.put, List.getElem_toArray, List.getElem_cons_zero, List.getElem_cons_succ, List.setIfInBounds_toArray, List.set_cons_zero, List.set_cons_succ]
        refine wpAnyH_take (i := 15) (v := undef) rfl (by kernel_rfl) (by kernel_rfl) (by kernel_rfl) (fun _ _ _ h => h) (Or.inr ⟨by rfl, rfl⟩) HSS.out ?_
        simp only [Act.put, List.getElem_toArray, List.getElem_cons_zero, List.getElem_cons_succ, List.setIfInBounds_toArray, List.set_cons_zero, List.set_cons_succ]
        refine wpAnyH_take (i := 16) (v := undef) rfl (by kernel_rfl) (by kernel_rfl) (by kernel_rfl) (fun _ _ _ h => h) (Or.inr ⟨by rfl, rfl⟩) HSS.out ?_
        simp only [Act.put, List.getElem_toArray, List.getElem_cons_zero, List.getElem_cons_succ, List.setIfInBounds_toArray, List.set_cons_zero, List.set_cons_succ]
        refine wpAnyH_take (i := 17) (v := undef) rfl (by kernel_rfl) (by kernel_rfl) (by kernel_rfl) (fun _ _ _ h => h) (Or.inr ⟨by rfl, rfl⟩) HSS.out ?_
        simp only [Act.put, List.getElem_toArray, List.getElem_cons_zero, List.getElem_cons_succ, List.setIfInBounds_toArray, List.set_cons_zero, List.set_cons_succ]
        refine wpAnyH_take (i := 18) (v := undef) rfl (by kernel_rfl) (by kernel_rfl) (by kernel_rfl) (fun _ _ _ h => h) (Or.inr ⟨by rfl, rfl⟩) HSS.out ?_
        simp only [Act.put, List.getElem_toArray, List.getElem_cons_zero, List.getElem_cons_succ, List.setIfInBounds_toArray, List.set_cons_zero, List.set_cons_succ]
        refine wpAnyH_take (i := 19) (v := undef) rfl (by kernel_rfl) (by kernel_rfl) (by kernel_rfl) (fun _ _ _ h => h) (Or.inr ⟨by rfl, rfl⟩) HSS.out ?_
        simp only [Act.put, List.getElem_toArray, List.getElem_cons_zero, List.getElem_cons_succ, List.setIfInBounds_toArray, List.set_cons_zero, List.set_cons_succ]
        refine wpAnyH_take (i := 20) (v := undef) rfl (by kernel_rfl) (by kernel_rfl) (by kernel_rfl) (fun _ _ _ h => h) (Or.inr ⟨by rfl, rfl⟩) HSS.out ?_
        simp only [Act.put, List.getElem_toArray, List.getElem_cons_zero, List.getElem_cons_succ, List.setIfInBounds_toArray, List.set_cons_zero, List.set_cons_succ]
        refine wpAnyH_take (i := 21) (v := undef) rfl (by kernel_rfl) (by kernel_rfl) (by kernel_rfl) (fun _ _ _ h => h) (Or.inr ⟨by rfl, rfl⟩) HSS.out ?_
        simp only [Act.put, List.getElem_toArray, List.getElem_cons_zero, List.getElem_cons_succ, List.setIfInBounds_toArray, List.set_cons_zero, List.set_cons_succ]
        refine wpAnyH_take (i := 22) (v := undef) rfl (by kernel_rfl) (by kernel_rfl) (by kernel_rfl) (fun _ _ _ h => h) (Or.inr ⟨by rfl, rfl⟩) HSS.out ?_
        simp only [Act.put, List.getElem_toArray, List.getElem_cons_zero, List.getElem_cons_succ, List.setIfInBounds_toArray, List.set_cons_zero, List.set_cons_succ]
        refine wpAnyH_take (i := 23) (v := undef) rfl (by kernel_rfl) (by kernel_rfl) (by kernel_rfl) (fun _ _ _ h => h) (Or.inr ⟨by rfl, rfl⟩) HSS.out ?_
        simp only [Act.put, List.getElem_toArray, List.getElem_cons_zero, List.getElem_cons_succ, List.setIfInBounds_toArray, List.set_cons_zero, List.set_cons_succ]
        refine wpAnyH_take (i := 24) (v := undef) rfl (by kernel_rfl) (by kernel_rfl) (by kernel_rfl) (fun _ _ _ h => h) (Or.inr ⟨by rfl, rfl⟩) HSS.out ?_
        simp only [Act.put, List.getElem_toArray, List.getElem_cons_zero, List.getElem_cons_succ, List.setIfInBounds_toArray, List.set_cons_zero, List.set_cons_succ]
        refine wpAnyH_take (i := 25) (v := undef) rfl (by kernel_rfl) (by kernel_rfl) (by kernel_rfl) (fun _ _ _ h => h) (Or.inr ⟨by rfl, rfl⟩) HSS.out ?_
        simp only [Act.put, List.getElem_toArray, List.getElem_cons_zero, List.getElem_cons_succ, List.setIfInBounds_toArray, List.set_cons_zero, List.set_cons_succ]
        refine wpAnyH_take (i := 26) (v := ?_) rfl (by kernel_rfl) (by kernel_rfl) (by kernel_rfl) (fun _ _ _ h => h) (Or.inl ⟨by rfl, ?q26⟩) HSS.out ?_
        case q26 => intro w hSw; have q1 := AX.out _ hSw; have q2 := AP.out _ hSw; go_simp; rfl
        simp only [Act.put, List.getElem_toArray, List.getElem_cons_zero, List.getElem_cons_succ, List.setIfInBounds_toArray, List.set_cons_zero, List.set_cons_succ]
        refine wpAnyH_done (by kernel_rfl) ?_ _
        go_wp2_with (first | (refine wpList_load_mid rfl 42 _ rfl (w.heap.size + 1) 0 rfl zrp.toList _ HD.out.rng1 Try.underlying42 rfl SR.out ?_; rw [Array.toArray_toList]) | (refine wpList_store_row rfl 42 _ _ rfl w.heap.size zrp rfl rfl 42 zrp HD.out.x0 SR.out rfl zrp_one ?_) | fail)
        all_goals
          refine bodyPost_ret (v := .tuple #[.agg zrp, .int .i64 (2 + (j : Int)), .int .i64 201]) (results_cellTT (p := 2) (q := 3) (q' := 4) (ty := 42) rfl _ _ w.heap.size 42 _ (0, 0) _ _ _ rfl rfl rfl (HD.out.ans _).1 Try.underlying42 rfl SR.out) rfl ?_
          exact ⟨.inl ⟨(2 + (j : Int)), FB.out (by rw [hfol.out]; rfl), rfl⟩, (HD.out.ans _).2⟩
      by_cases h0 : j = 0
      · have h0' : ¬ ((0 : Int) < (j : Int)) := by omega
        have h0n : ¬ (0 < j) := by omega
        have H00 := hid h0
        clear h0
        go_wp2_with fail
        have HD := hid (HS.out.below ((Below.refl _ wr).drew))
        refine wp_region_held_drew (S := (Below w.heap.size w)) (by kernel_rfl) (HS.out.bel.trans ((Below.refl _ wr).drew.mono HS.out.bel.size)) (fun hHeld => ?_)
        have HSS := hid hHeld
        clear hHeld
        change wpAnyH _ _ _ _ _ _ _ _ (World.drew _)
        refine wpAnyH_take (i := 0) (v := ?_) rfl (by kernel_rfl) (by kernel_rfl) (by kernel_rfl) (fun _ _ _ h => h) (Or.inl ⟨by rfl, ?q0⟩) HSS.out ?_
        case q0 => intro w hSw; have q1 := AX.out _ hSw; have q2 := AP.out _ hSw; go_simp; rfl
        simp only [Act.put, List.getElem_toArray, List.getElem_cons_zero, List.getElem_cons_succ, List.setIfInBounds_toArray, List.set_cons_zero, List.set_cons_succ]
        refine wpAnyH_take (i := 1) (v := ?_) rfl (by kernel_rfl) (by kernel_rfl) (by kernel_rfl) (fun _ _ _ h => h) (Or.inl ⟨by rfl, ?q1⟩) HSS.out ?_
        case q1 => intro w hSw; have q1 := AX.out _ hSw; have q2 := AP.out _ hSw; go_simp; rfl
        simp only [Act.put, List.getElem_toArray, List.getElem_cons_zero, List.getElem_cons_succ, List.setIfInBounds_toArray, List.set_cons_zero, List.set_cons_succ]
        refine wpAnyH_take (i := 2) (v := ?_) rfl (by kernel_rfl) (by kernel_rfl) (by kernel_rfl) (fun _ _ _ h => h) (Or.inl ⟨by rfl, ?q2⟩) HSS.out ?_
        case q2 => intro w hSw; have q1 := AX.out _ hSw; have q2 := AP.out _ hSw; go_simp; rfl
        simp only [Act.put, List.getElem_toArray, List.getElem_cons_zero, List.getElem_cons_succ, List.setIfInBounds_toArray, List.set_cons_zero, List.set_cons_succ]
        refine wpAnyH_take (i := 3) (v := ?_) rfl (by kernel_rfl) (by kernel_rfl) (by kernel_rfl) (fun _ _ _ h => h) (Or.inl ⟨by rfl, ?q3⟩) HSS.out ?_
        case q3 => intro w hSw; have q1 := AX.out _ hSw; have q2 := AP.out _ hSw; go_simp; rfl
        simp only [Act.put, List.getElem_toArray, List.getElem_cons_zero, List.getElem_cons_succ, List.setIfInBounds_toArray, List.set_cons_zero, List.set_cons_succ]
        refine wpAnyH_take (i := 4) (v := ?_) rfl (by kernel_rfl) (by kernel_rfl) (by kernel_rfl) (fun _ _ _ h => h) (Or.inl ⟨by rfl, ?q4⟩) HSS.out ?_
        case q4 => intro w hSw; have q1 := AX.out _ hSw; have q2 := AP.out _ hSw; go_simp; rfl
        simp only [Act.put, List.getElem_toArray, List.getElem_cons_zero, List.getElem_cons_succ, List.setIfInBounds_toArray, List.set_cons_zero, List.set_cons_succ]
        refine wpAnyH_take (i := 5) (v := ?_) rfl (by kernel_rfl) (by kernel_rfl) (by kernel_rfl) (fun _ _ _ h => h) (Or.inl ⟨by rfl, ?q5⟩) HSS.out ?_
        case q5 => intro w hSw; have q1 := AX.out _ hSw; have q2 := AP.out _ hSw; go_simp; rfl
        simp only [Act.put, List.getElem_toArray, List.getElem_cons_zero, List.getElem_cons_succ, List.setIfInBounds_toArray, List.set_cons_zero, List.set_cons_succ]
        refine wpAnyH_take (i := 6) (v := (.bool false)) rfl (by kernel_rfl) (by kernel_rfl) (by kernel_rfl) (fun _ _ _ h => h) (Or.inl ⟨by rfl, ?q6⟩) HSS.out ?_
        case q6 => intro w hSw; have q1 := AX.out _ hSw; have q2 := AP.out _ hSw; go_simp <;> first | rfl | simp [h255]
        simp only [Act.put, List.getElem_toArray, List.getElem_cons_zero, List.getElem_cons_succ, List.setIfInBounds_toArray, List.set_cons_zero, List.set_cons_succ]
        refine wpAnyH_take (i := 7) (v := (.bool false)) rfl (by kernel_rfl) (by kernel_rfl) (by kernel_rfl) (fun _ _ _ h => h) (Or.inl ⟨by rfl, ?q7⟩) HSS.out ?_
        case q7 => intro w hSw; have q1 := AX.out _ hSw; have q2 := AP.out _ hSw; go_simp <;> rfl
        simp only [Act.put, List.getElem_toArray, List.getElem_cons_zero, List.getElem_cons_succ, List.setIfInBounds_toArray, List.set_cons_zero, List.set_cons_succ]
        refine wpAnyH_take (i := 8) (v := ?_) rfl (by kernel_rfl) (by kernel_rfl) (by kernel_rfl) (fun _ _ _ h => h) (Or.inl ⟨by rfl, ?q8⟩) HSS.out ?_
        case q8 => intro w hSw; have q1 := AX.out _ hSw; have q2 := AP.out _ hSw; go_simp; rfl
        simp only [Act.put, List.getElem_toArray, List.getElem_cons_zero, List.getElem_cons_succ, List.setIfInBounds_toArray, List.set_cons_zero, List.set_cons_succ]
        refine wpAnyH_take (i := 9) (v := (.bool false)) rfl (by kernel_rfl) (by kernel_rfl) (by kernel_rfl) (fun _ _ _ h => h) (Or.inl ⟨by rfl, ?q9⟩) HSS.out ?_
        case q9 => intro w hSw; have q1 := AX.out _ hSw; have q2 := AP.out _ hSw; go_simp <;> first | rfl | simp [h0']
        simp only [Act.put, List.getElem_toArray, List.getElem_cons_zero, List.getElem_cons_succ, List.setIfInBounds_toArray, List.set_cons_zero, List.set_cons_succ]
        refine wpAnyH_take (i := 10) (v := (.bool false)) rfl (by kernel_rfl) (by kernel_rfl) (by kernel_rfl) (fun _ _ _ h => h) (Or.inl ⟨by rfl, ?q10⟩) HSS.out ?_
        case q10 => intro w hSw; have q1 := AX.out _ hSw; have q2 := AP.out _ hSw; go_simp <;> rfl
        simp only [Act.put, List.getElem_toArray, List.getElem_cons_zero, List.getElem_cons_succ, List.setIfInBounds_toArray, List.set_cons_zero, List.set_cons_succ]
        refine wpAnyH_take (i := 11) (v := undef) rfl (by kernel_rfl) (by kernel_rfl) (by kernel_rfl) (fun _ _ _ h => h) (Or.inr ⟨by rfl, rfl⟩) HSS.out ?_
        simp only [Act.put, List.getElem_toArray, List.getElem_cons_zero, List.getElem_cons_succ, List.setIfInBounds_toArray, List.set_cons_zero, List.set_cons_succ]
        refine wpAnyH_take (i := 12) (v := undef) rfl (by kernel_rfl) (by kernel_rfl) (by kernel_rfl) (fun _ _ _ h => h) (Or.inr ⟨by rfl, rfl⟩) HSS.out ?_
        simp only [Act.put, List.getElem_toArray, List.getElem_cons_zero, List.getElem_cons_succ, List.setIfInBounds_toArray, List.set_cons_zero, List.set_cons_succ]
        refine wpAnyH_take (i := 13) (v := undef) rfl (by kernel_rfl) (by kernel_rfl) (by kernel_rfl) (fun _ _ _ h => h) (Or.inr ⟨by rfl, rfl⟩) HSS.out ?_
        simp only [Act.put, List.getElem_toArray, List.getElem_cons_zero, List.getElem_cons_succ, List.setIfInBounds_toArray, List.set_cons_zero, List.set_cons_succ]
        refine wpAnyH_take (i := 14) (v := undef) rfl (by kernel_rfl) (by kernel_rfl) (by kernel_rfl) (fun _ _ _ h => h) (Or.inr ⟨by rfl, rfl⟩) HSS.out ?_
        simp only [Act.put, List.getElem_toArray, List.getElem_cons_zero, List.getElem_cons_succ, List.setIfInBounds_toArray, List.set_cons_zero, List.set_cons_succ]
        refine wpAnyH_take (i := 15) (v := undef) rfl (by kernel_rfl) (by kernel_rfl) (by kernel_rfl) (fun _ _ _ h => h) (Or.inr ⟨by rfl, rfl⟩) HSS.out ?_
        simp only [Act.put, List.getElem_toArray, List.getElem_cons_zero, List.getElem_cons_succ, List.setIfInBounds_toArray, List.set_cons_zero, List.set_cons_succ]
        refine wpAnyH_take (i := 16) (v := undef) rfl (by kernel_rfl) (by kernel_rfl) (by kernel_rfl) (fun _ _ _ h => h) (Or.inr ⟨by rfl, rfl⟩) HSS.out ?_
        simp only [Act.put, List.getElem_toArray, List.getElem_cons_zero, List.getElem_cons_succ, List.setIfInBounds_toArray, List.set_cons_zero, List.set_cons_succ]
        refine wpAnyH_take (i := 17) (v := undef) rfl (by kernel_rfl) (by kernel_rfl) (by kernel_rfl) (fun _ _ _ h => h) (Or.inr ⟨by rfl, rfl⟩) HSS.out ?_
        simp only [Act.put, List.getElem_toArray, List.getElem_cons_zero, List.getElem_cons_succ, List.setIfInBounds_toArray, List.set_cons_zero, List.set_cons_succ]
        refine wpAnyH_take (i := 18) (v := undef) rfl (by kernel_rfl) (by kernel_rfl) (by kernel_rfl) (fun _ _ _ h => h) (Or.inr ⟨by rfl, rfl⟩) HSS.out ?_
        simp only [Act.put, List.getElem_toArray, List.getElem_cons_zero, List.getElem_cons_succ, List.setIfInBounds_toArray, List.set_cons_zero, List.set_cons_succ]
        refine wpAnyH_take (i := 19) (v := undef) rfl (by kernel_rfl) (by kernel_rfl) (by kernel_rfl) (fun _ _ _ h => h) (Or.inr ⟨by rfl, rfl⟩) HSS.out ?_
        simp only [Act.put, List.getElem_toArray, List.getElem_cons_zero, List.getElem_cons_succ, List.setIfInBounds_toArray, List.set_cons_zero, List.set_cons_succ]
        refine wpAnyH_take (i := 20) (v := undef) rfl (by kernel_rfl) (by kernel_rfl) (by kernel_rfl) (fun _ _ _ h => h) (Or.inr ⟨by rfl, rfl⟩) HSS.out ?_
        simp only [Act.put, List.getElem_toArray, List.getElem_cons_zero, List.getElem_cons_succ, List.setIfInBounds_toArray, List.set_cons_zero, List.set_cons_succ]
        refine wpAnyH_take (i := 21) (v := undef) rfl (by kernel_rfl) (by kernel_rfl) (by kernel_rfl) (fun _ _ _ h => h) (Or.inr ⟨by rfl, rfl⟩) HSS.out ?_
        simp only [Act.put, List.getElem_toArray, List.getElem_cons_zero, List.getElem_cons_succ, List.setIfInBounds_toArray, List.set_cons_zero, List.set_cons_succ]
        refine wpAnyH_take (i := 22) (v := undef) rfl (by kernel_rfl) (by kernel_rfl) (by kernel_rfl) (fun _ _ _ h => h) (Or.inr ⟨by rfl, rfl⟩) HSS.out ?_
        simp only [Act.put, List.getElem_toArray, List.getElem_cons_zero, List.getElem_cons_succ, List.setIfInBounds_toArray, List.set_cons_zero, List.set_cons_succ]
        refine wpAnyH_take (i := 23) (v := undef) rfl (by kernel_rfl) (by kernel_rfl) (by kernel_rfl) (fun _ _ _ h => h) (Or.inr ⟨by rfl, rfl⟩) HSS.out ?_
        simp only [Act.put, List.getElem_toArray, List.getElem_cons_zero, List.getElem_cons_succ, List.setIfInBounds_toArray, List.set_cons_zero, List.set_cons_succ]
        refine wpAnyH_take (i := 24) (v := undef) rfl (by kernel_rfl) (by kernel_rfl) (by kernel_rfl) (fun _ _ _ h => h) (Or.inr ⟨by rfl, rfl⟩) HSS.out ?_
        simp only [Act.put, List.getElem_toArray, List.getElem_cons_zero, List.getElem_cons_succ, List.setIfInBounds_toArray, List.set_cons_zero, List.set_cons_succ]
        refine wpAnyH_take (i := 25) (v := ?_) rfl (by kernel_rfl) (by kernel_rfl) (by kernel_rfl) (fun _ _ _ h => h) (Or.inl ⟨by rfl, ?q25⟩) HSS.out ?_
        case q25 => intro w hSw; have q1 := AX.out _ hSw; have q2 := AP.out _ hSw; go_simp; rfl
        simp only [Act.put, List.getElem_toArray, List.getElem_cons_zero, List.getElem_cons_succ, List.setIfInBounds_toArray, List.set_cons_zero, List.set_cons_succ]
        refine wpAnyH_take (i := 26) (v := ?_) rfl (by kernel_rfl) (by kernel_rfl) (by kernel_rfl) (fun _ _ _ h => h) (Or.inl ⟨by rfl, ?q26⟩) HSS.out ?_
        case q26 => intro w hSw; have q1 := AX.out _ hSw; have q2 := AP.out _ hSw; go_simp; rfl
        simp only [Act.put, List.getElem_toArray, List.getElem_cons_zero, List.getElem_cons_succ, List.setIfInBounds_toArray, List.set_cons_zero, List.set_cons_succ]
        refine wpAnyH_done (by kernel_rfl) ?_ _
        have wx : IntKind.i64.wrap x = x := by rw [IntKind.wrap_i64]; omega
        go_wp2_with fail
        have HDD := hid (HD.out.below ((Below.refl _ wr.drew).drew))
        refine wp_region_last (S := (fun W : World => W.heap[w.heap.size + 2]? = some (.cells (rpA 1 vn nlS) 42 (0, 0)) ∧ Below w.heap.size w W)) 12 (by kernel_rfl) ⟨HDD.out.x2, HDD.out.bel⟩ (fun hHeld => ?_)
        have HSS := hid hHeld
        clear hHeld
        change wpAnyL _ _ _ _ _ _ _ _ _ (World.drew _)
        refine wpAnyL_take (i := 0) (v := ?_) rfl (by kernel_rfl) (by kernel_rfl) (by kernel_rfl) (by kernel_rfl) (by kernel_rfl) (fun _ _ _ h => h) (Or.inl ⟨by rfl, ?q0⟩) HSS.out ?_
        case q0 => intro w hSw; have q1 := AX.out _ hSw.2; have q2 : World.cell? _ ⟨_, 1, none⟩ = some vn := (cell_of_row _ _ _ _ _ _ hSw.1).trans rfl; go_simp; rfl
        simp only [Act.put, List.getElem_toArray, List.getElem_cons_zero, List.getElem_cons_succ, List.setIfInBounds_toArray, List.set_cons_zero, List.set_cons_succ]
        refine wpAnyL_take (i := 1) (v := ?_) rfl (by kernel_rfl) (by kernel_rfl) (by kernel_rfl) (by kernel_rfl) (by kernel_rfl) (fun _ _ _ h => h) (Or.inl ⟨by rfl, ?q1⟩) HSS.out ?_
        case q1 => intro w hSw; have q1 := AX.out _ hSw.2; have q2 : World.cell? _ ⟨_, 1, none⟩ = some vn := (cell_of_row _ _ _ _ _ _ hSw.1).trans rfl; go_simp; rfl
        simp only [Act.put, List.getElem_toArray, List.getElem_cons_zero, List.getElem_cons_succ, List.setIfInBounds_toArray, List.set_cons_zero, List.set_cons_succ]
        refine wpAnyL_take (i := 2) (v := ?_) rfl (by kernel_rfl) (by kernel_rfl) (by kernel_rfl) (by kernel_rfl) (by kernel_rfl) (fun _ _ _ h => h) (Or.inl ⟨by rfl, ?q2⟩) HSS.out ?_
        case q2 => intro w hSw; have q1 := AX.out _ hSw.2; have q2 : World.cell? _ ⟨_, 1, none⟩ = some vn := (cell_of_row _ _ _ _ _ _ hSw.1).trans rfl; go_simp; rfl
        simp only [Act.put, List.getElem_toArray, List.getElem_cons_zero, List.getElem_cons_succ, List.setIfInBounds_toArray, List.set_cons_zero, List.set_cons_succ]
        refine wpAnyL_take (i := 3) (v := ?_) rfl (by kernel_rfl) (by kernel_rfl) (by kernel_rfl) (by kernel_rfl) (by kernel_rfl) (fun _ _ _ h => h) (Or.inl ⟨by rfl, ?q3⟩) HSS.out ?_
        case q3 => intro w hSw; have q1 := AX.out _ hSw.2; have q2 : World.cell? _ ⟨_, 1, none⟩ = some vn := (cell_of_row _ _ _ _ _ _ hSw.1).trans rfl; go_simp; rfl
        simp only [Act.put, List.getElem_toArray, List.getElem_cons_zero, List.getElem_cons_succ, List.setIfInBounds_toArray, List.set_cons_zero, List.set_cons_succ]
        refine wpAnyL_take (i := 4) (v := ?_) rfl (by kernel_rfl) (by kernel_rfl) (by kernel_rfl) (by kernel_rfl) (by kernel_rfl) (fun _ _ _ h => h) (Or.inl ⟨by rfl, ?q4⟩) HSS.out ?_
        case q4 => intro w hSw; have q1 := AX.out _ hSw.2; have q2 : World.cell? _ ⟨_, 1, none⟩ = some vn := (cell_of_row _ _ _ _ _ _ hSw.1).trans rfl; go_simp; rfl
        simp only [Act.put, List.getElem_toArray, List.getElem_cons_zero, List.getElem_cons_succ, List.setIfInBounds_toArray, List.set_cons_zero, List.set_cons_succ]
        refine wpAnyL_take (i := 5) (v := ?_) rfl (by kernel_rfl) (by kernel_rfl) (by kernel_rfl) (by kernel_rfl) (by kernel_rfl) (fun _ _ _ h => h) (Or.inl ⟨by rfl, ?q5⟩) HSS.out ?_
        case q5 => intro w hSw; have q1 := AX.out _ hSw.2; have q2 : World.cell? _ ⟨_, 1, none⟩ = some vn := (cell_of_row _ _ _ _ _ _ hSw.1).trans rfl; go_simp; rfl
        simp only [Act.put, List.getElem_toArray, List.getElem_cons_zero, List.getElem_cons_succ, List.setIfInBounds_toArray, List.set_cons_zero, List.set_cons_succ]
        refine wpAnyL_take (i := 6) (v := ?_) rfl (by kernel_rfl) (by kernel_rfl) (by kernel_rfl) (by kernel_rfl) (by kernel_rfl) (fun _ _ _ h => h) (Or.inl ⟨by rfl, ?q6⟩) HSS.out ?_
        case q6 => intro w hSw; have q1 := AX.out _ hSw.2; have q2 : World.cell? _ ⟨_, 1, none⟩ = some vn := (cell_of_row _ _ _ _ _ _ hSw.1).trans rfl; go_simp; rfl
        simp only [Act.put, List.getElem_toArray, List.getElem_cons_zero, List.getElem_cons_succ, List.setIfInBounds_toArray, List.set_cons_zero, List.set_cons_succ]
        refine wpAnyL_take (i := 7) (v := ?_) rfl (by kernel_rfl) (by kernel_rfl) (by kernel_rfl) (by kernel_rfl) (by kernel_rfl) (fun _ _ _ h => h) (Or.inl ⟨by rfl, ?q7⟩) HSS.out ?_
        case q7 => intro w hSw; have q1 := AX.out _ hSw.2; have q2 : World.cell? _ ⟨_, 1, none⟩ = some vn := (cell_of_row _ _ _ _ _ _ hSw.1).trans rfl; go_simp; rfl
        simp only [Act.put, List.getElem_toArray, List.getElem_cons_zero, List.getElem_cons_succ, List.setIfInBounds_toArray, List.set_cons_zero, List.set_cons_succ]
        refine wpAnyL_take (i := 8) (v := ?_) rfl (by kernel_rfl) (by kernel_rfl) (by kernel_rfl) (by kernel_rfl) (by kernel_rfl) (fun _ _ _ h => h) (Or.inl ⟨by rfl, ?q8⟩) HSS.out ?_
        case q8 => intro w hSw; have q1 := AX.out _ hSw.2; have q2 : World.cell? _ ⟨_, 1, none⟩ = some vn := (cell_of_row _ _ _ _ _ _ hSw.1).trans rfl; go_simp; rfl
        simp only [Act.put, List.getElem_toArray, List.getElem_cons_zero, List.getElem_cons_succ, List.setIfInBounds_toArray, List.set_cons_zero, List.set_cons_succ]
        clear HSS
        refine wpAnyL_one (i := 9) (by kernel_rfl) rfl (fun K hK => ?_)
        refine wanted_litP (by rfl) 40 1 _ rfl #[(0, .int .i64 x)] (by go_simp) _ (run_litI _ _) ?_
        obtain ⟨WL, HWL⟩ : ∃ W : World, Hid (wr.drew.drew.alloc (.cells #[.int .i64 x] 3) = W) := ⟨_, hid rfl⟩
        have BL : Hid (Below wr.drew.drew.heap.size wr.drew.drew WL) := by rw [← HWL.out]; exact hid ((Below.refl _ _).alloc (Nat.le_refl _) _)
        have SL := hid (HDD.out.below BL.out)
        have OL : Hid (WL.ownsRow w.heap.size 3 1 vn j (((l.drop 2).take j).map (Value.int .i64))) := hid (own_of HO.out fun b' hb' => (BL.out.block b' (own_at HO.out hb').1))
        have CL : Hid (WL.cell? ⟨wr.drew.drew.heap.size, 0, none⟩ = some (.int .i64 x)) := hid (by rw [cell_of_row _ _ _ _ _ _ (show WL.heap[wr.drew.drew.heap.size]? = some (.cells #[.int .i64 x] 3 (0, 0)) by rw [← HWL.out]; exact heap_alloc_new _ _)]; rfl)
        rw [HWL.out]
        try simp only [Act.put, List.getElem_toArray, List.getElem_cons_zero, List.getElem_cons_succ, List.setIfInBounds_toArray, List.set_cons_zero, List.set_cons_succ]
        refine hK.out _ _ (fun _ => ⟨SL.out.x2, SL.out.bel⟩) ?_
        clear hK K
        refine wpAnyL_one (i := 10) (by kernel_rfl) rfl (fun K hK => ?_)
        rw [if_pos (by rfl)]
        refine wp_append_I _ _ rfl w.heap.size vn j _ rfl OL.out ⟨wr.drew.drew.heap.size, 0, none⟩ 1 x rfl CL.out (by omega) SL.out.bel.size (fun v1 U hu hg => ?_)
        have SU : Hid (RP w U 1 vn nlS) := hid (SL.out.grown hg (fun b' hb' => by obtain ⟨_, q2, cs', q3⟩ := own_at OL.out hb'; exact ⟨q2, cs', _, q3, by decide⟩))
        have OU : Hid (U.ownsRow w.heap.size 3 1 v1 (j + 1) (((l.drop 2).take (j + 1)).map (Value.int .i64))) := hid (by
          have e : (l.drop 2).take (j + 1) = (l.drop 2).take j ++ [x] := by
            rw [List.take_succ_eq_append_getElem (by simp; omega), List.getElem_drop, ← getD_of_lt (by omega), HX.out]
          rw [e, List.map_append]
          exact hu)
        clear hu hg
        try simp only [Act.put, List.getElem_toArray, List.getElem_cons_zero, List.getElem_cons_succ, List.setIfInBounds_toArray, List.set_cons_zero, List.set_cons_succ]
        have HSS : Hid (U.heap[w.heap.size + 2]? = some (.cells (rpA 1 vn nlS) 42 (0, 0)) ∧ Below w.heap.size w U) := hid ⟨SU.out.x2, SU.out.bel⟩
        have UF := SU.out.fr 1
        have cu : U.cell? ⟨w.heap.size + 2, 1, none⟩ = some vn := SU.out.cell rfl
        refine hK.out _ _ (fun _ => HSS.out) ?_
        clear hK K
        refine wpAnyL_take (i := 11) (v := ?_) rfl (by kernel_rfl) (by kernel_rfl) (by kernel_rfl) (by kernel_rfl) (by kernel_rfl) (fun _ _ _ h => h) (Or.inl ⟨by rfl, ?q11⟩) HSS.out ?_
        case q11 => intro w hSw; have q1 := AX.out _ hSw.2; have q2 : World.cell? _ ⟨_, 1, none⟩ = some vn := (cell_of_row _ _ _ _ _ _ hSw.1).trans rfl; go_simp; rfl
        simp only [Act.put, List.getElem_toArray, List.getElem_cons_zero, List.getElem_cons_succ, List.setIfInBounds_toArray, List.set_cons_zero, List.set_cons_succ]
        refine wpAnyL_one (i := 12) (by kernel_rfl) rfl (fun K hK => ?_)
        obtain ⟨pv, cv, ev⟩ := own_slice OU.out
        rw [ev] at OU ⊢
        obtain ⟨U2, HU2⟩ : ∃ W : World, Hid (U.setCell ⟨w.heap.size + 2, 1, none⟩ (.slice pv (j + 1) cv) = W) := ⟨_, hid rfl⟩
        have S2 : Hid (RP w U2 1 (.slice pv (j + 1) cv) nlS) := by rw [← HU2.out]; exact hid (SU.out.set 1 _ rfl)
        have OU2 : Hid (U2.ownsRow w.heap.size 3 1 (.slice pv (j + 1) cv) (j + 1) (((l.drop 2).take (j + 1)).map (Value.int .i64))) := by
          rw [← HU2.out]
          refine hid (own_of OU.out fun b' hb' => ?_)
          obtain ⟨_, _, cs', q⟩ := own_at OU.out hb'
          have : w.heap.size + 2 ≠ b' := fun e => by
            rw [← e, SU.out.x2] at q
            simp only [Option.some.injEq, Obj.cells.injEq] at q
            exact absurd q.2.1 (by decide)
          simp [World.setCell, Array.getElem?_modify, this]
        have hvo : vn.oneCell' = true := by obtain ⟨pn, cn', en⟩ := own_slice HO.out; rw [en]; rfl
        clear SU OU HSS
        go_simp
        rw [HU2.out]
        refine hK.out _ _ (fun e => absurd rfl e) ?_
        clear hK K
        try simp only [Act.put, List.getElem_toArray, List.getElem_cons_zero, List.getElem_cons_succ, List.setIfInBounds_toArray, List.set_cons_zero, List.set_cons_succ]
        refine wpAnyL_done (by kernel_rfl) ?_ _
        have w9 : IntKind.i64.wrap ((j : Int) + 1) = ((j + 1 : Nat) : Int) := by rw [IntKind.wrap_i64]; omega
        have HFN : Hid (fstB (folAt (l.drop 2)) (j + 1) = none) := hid (by
          have hf : folAt (l.drop 2) j = true := by rw [hfol.out, H00.out]; simp [nbB]; omega
          show (match fstB (folAt (l.drop 2)) j with | some j => some j | none => if folAt (l.drop 2) j = true then none else some j) = none
          rw [HF.out]
          simp [hf])
        go_wp2
        exact ⟨⟨j + 1, _, hlt, by go_num, S2, hid (by rw [show ((l.drop 2).take (j + 1)).length = j + 1 by simp; omega]; exact OU2.out), HFN⟩, by simp [intOf]; omega⟩
      have h0' : (0 : Int) < (j : Int) := by omega
      have h0n : 0 < j := by omega
      by_cases hxy : x ≤ y
      · skip
        go_wp2_with fail
        have HD := hid (HS.out.below ((Below.refl _ wr).drew))
        refine wp_region_held_drew (S := (Below w.heap.size w)) (by kernel_rfl) (HS.out.bel.trans ((Below.refl _ wr).drew.mono HS.out.bel.size)) (fun hHeld => ?_)
        have HSS := hid hHeld
        clear hHeld
        change wpAnyH _ _ _ _ _ _ _ _ (World.drew _)
        refine wpAnyH_take (i := 0) (v := ?_) rfl (by kernel_rfl) (by kernel_rfl) (by kernel_rfl) (fun _ _ _ h => h) (Or.inl ⟨by rfl, ?q0⟩) HSS.out ?_
        case q0 => intro w hSw; have q1 := AX.out _ hSw; have q2 := AP.out _ hSw; go_simp; rfl
        simp only [Act.put, List.getElem_toArray, List.getElem_cons_zero, List.getElem_cons_succ, List.setIfInBounds_toArray, List.set_cons_zero, List.set_cons_succ]
        refine wpAnyH_take (i := 1) (v := ?_) rfl (by kernel_rfl) (by kernel_rfl) (by kernel_rfl) (fun _ _ _ h => h) (Or.inl ⟨by rfl, ?q1⟩) HSS.out ?_
        case q1 => intro w hSw; have q1 := AX.out _ hSw; have q2 := AP.out _ hSw; go_simp; rfl
        simp only [Act.put, List.getElem_toArray, List.getElem_cons_zero, List.getElem_cons_succ, List.setIfInBounds_toArray, List.set_cons_zero, List.set_cons_succ]
        refine wpAnyH_take (i := 2) (v := ?_) rfl (by kernel_rfl) (by kernel_rfl) (by kernel_rfl) (fun _ _ _ h => h) (Or.inl ⟨by rfl, ?q2⟩) HSS.out ?_
        case q2 => intro w hSw; have q1 := AX.out _ hSw; have q2 := AP.out _ hSw; go_simp; rfl
        simp only [Act.put, List.getElem_toArray, List.getElem_cons_zero, List.getElem_cons_succ, List.setIfInBounds_toArray, List.set_cons_zero, List.set_cons_succ]
        refine wpAnyH_take (i := 3) (v := ?_) rfl (by kernel_rfl) (by kernel_rfl) (by kernel_rfl) (fun _ _ _ h => h) (Or.inl ⟨by rfl, ?q3⟩) HSS.out ?_
        case q3 => intro w hSw; have q1 := AX.out _ hSw; have q2 := AP.out _ hSw; go_simp; rfl
        simp only [Act.put, List.getElem_toArray, List.getElem_cons_zero, List.getElem_cons_succ, List.setIfInBounds_toArray, List.set_cons_zero, List.set_cons_succ]
        refine wpAnyH_take (i := 4) (v := ?_) rfl (by kernel_rfl) (by kernel_rfl) (by kernel_rfl) (fun _ _ _ h => h) (Or.inl ⟨by rfl, ?q4⟩) HSS.out ?_
        case q4 => intro w hSw; have q1 := AX.out _ hSw; have q2 := AP.out _ hSw; go_simp; rfl
        simp only [Act.put, List.getElem_toArray, List.getElem_cons_zero, List.getElem_cons_succ, List.setIfInBounds_toArray, List.set_cons_zero, List.set_cons_succ]
        refine wpAnyH_take (i := 5) (v := ?_) rfl (by kernel_rfl) (by kernel_rfl) (by kernel_rfl) (fun _ _ _ h => h) (Or.inl ⟨by rfl, ?q5⟩) HSS.out ?_
        case q5 => intro w hSw; have q1 := AX.out _ hSw; have q2 := AP.out _ hSw; go_simp; rfl
        simp only [Act.put, List.getElem_toArray, List.getElem_cons_zero, List.getElem_cons_succ, List.setIfInBounds_toArray, List.set_cons_zero, List.set_cons_succ]
        refine wpAnyH_take (i := 6) (v := (.bool false)) rfl (by kernel_rfl) (by kernel_rfl) (by kernel_rfl) (fun _ _ _ h => h) (Or.inl ⟨by rfl, ?q6⟩) HSS.out ?_
        case q6 => intro w hSw; have q1 := AX.out _ hSw; have q2 := AP.out _ hSw; go_simp <;> first | rfl | simp [h255]
        simp only [Act.put, List.getElem_toArray, List.getElem_cons_zero, List.getElem_cons_succ, List.setIfInBounds_toArray, List.set_cons_zero, List.set_cons_succ]
        refine wpAnyH_take (i := 7) (v := (.bool false)) rfl (by kernel_rfl) (by kernel_rfl) (by kernel_rfl) (fun _ _ _ h => h) (Or.inl ⟨by rfl, ?q7⟩) HSS.out ?_
        case q7 => intro w hSw; have q1 := AX.out _ hSw; have q2 := AP.out _ hSw; go_simp <;> rfl
        simp only [Act.put, List.getElem_toArray, List.getElem_cons_zero, List.getElem_cons_succ, List.setIfInBounds_toArray, List.set_cons_zero, List.set_cons_succ]
        refine wpAnyH_take (i := 8) (v := ?_) rfl (by kernel_rfl) (by kernel_rfl) (by kernel_rfl) (fun _ _ _ h => h) (Or.inl ⟨by rfl, ?q8⟩) HSS.out ?_
        case q8 => intro w hSw; have q1 := AX.out _ hSw; have q2 := AP.out _ hSw; go_simp; rfl
        simp only [Act.put, List.getElem_toArray, List.getElem_cons_zero, List.getElem_cons_succ, List.setIfInBounds_toArray, List.set_cons_zero, List.set_cons_succ]
        refine wpAnyH_take (i := 9) (v := (.bool true)) rfl (by kernel_rfl) (by kernel_rfl) (by kernel_rfl) (fun _ _ _ h => h) (Or.inl ⟨by rfl, ?q9⟩) HSS.out ?_
        case q9 => intro w hSw; have q1 := AX.out _ hSw; have q2 := AP.out _ hSw; go_simp <;> first | rfl | simp [h0']
        simp only [Act.put, List.getElem_toArray, List.getElem_cons_zero, List.getElem_cons_succ, List.setIfInBounds_toArray, List.set_cons_zero, List.set_cons_succ]
        refine wpAnyH_take (i := 10) (v := (.bool true)) rfl (by kernel_rfl) (by kernel_rfl) (by kernel_rfl) (fun _ _ _ h => h) (Or.inl ⟨by rfl, ?q10⟩) HSS.out ?_
        case q10 => intro w hSw; have q1 := AX.out _ hSw; have q2 := AP.out _ hSw; go_simp <;> rfl
        simp only [Act.put, List.getElem_toArray, List.getElem_cons_zero, List.getElem_cons_succ, List.setIfInBounds_toArray, List.set_cons_zero, List.set_cons_succ]
        refine wpAnyH_take (i := 11) (v := ?_) rfl (by kernel_rfl) (by kernel_rfl) (by kernel_rfl) (fun _ _ _ h => h) (Or.inl ⟨by rfl, ?q11⟩) HSS.out ?_
        case q11 => intro w hSw; have q1 := AX.out _ hSw; have q2 := AP.out _ hSw; go_simp; rfl
        simp only [Act.put, List.getElem_toArray, List.getElem_cons_zero, List.getElem_cons_succ, List.setIfInBounds_toArray, List.set_cons_zero, List.set_cons_succ]
        refine wpAnyH_take (i := 12) (v := ?_) rfl (by kernel_rfl) (by kernel_rfl) (by kernel_rfl) (fun _ _ _ h => h) (Or.inl ⟨by rfl, ?q12⟩) HSS.out ?_
        case q12 => intro w hSw; have q1 := AX.out _ hSw; have q2 := AP.out _ hSw; go_simp; rfl
        simp only [Act.put, List.getElem_toArray, List.getElem_cons_zero, List.getElem_cons_succ, List.setIfInBounds_toArray, List.set_cons_zero, List.set_cons_succ]
        refine wpAnyH_take (i := 13) (v := ?_) rfl (by kernel_rfl) (by kernel_rfl) (by kernel_rfl) (fun _ _ _ h => h) (Or.inl ⟨by rfl, ?q13⟩) HSS.out ?_
        case q13 => intro w hSw; have q1 := AX.out _ hSw; have q2 := AP.out _ hSw; go_simp; rfl
        simp only [Act.put, List.getElem_toArray, List.getElem_cons_zero, List.getElem_cons_succ, List.setIfInBounds_toArray, List.set_cons_zero, List.set_cons_succ]
        refine wpAnyH_take (i := 14) (v := ?_) rfl (by kernel_rfl) (by kernel_rfl) (by kernel_rfl) (fun _ _ _ h => h) (Or.inl ⟨by rfl, ?q14⟩) HSS.out ?_
        case q14 => intro w hSw; have q1 := AX.out _ hSw; have q2 := AP.out _ hSw; go_simp; rfl
        simp only [Act.put, List.getElem_toArray, List.getElem_cons_zero, List.getElem_cons_succ, List.setIfInBounds_toArray, List.set_cons_zero, List.set_cons_succ]
        refine wpAnyH_take (i := 15) (v := ?_) rfl (by kernel_rfl) (by kernel_rfl) (by kernel_rfl) (fun _ _ _ h => h) (Or.inl ⟨by rfl, ?q15⟩) HSS.out ?_
        case q15 => intro w hSw; have q1 := AX.out _ hSw; have q2 := AP.out _ hSw; go_simp; rfl
        simp only [Act.put, List.getElem_toArray, List.getElem_cons_zero, List.getElem_cons_succ, List.setIfInBounds_toArray, List.set_cons_zero, List.set_cons_succ]
        refine wpAnyH_take (i := 16) (v := ?_) rfl (by kernel_rfl) (by kernel_rfl) (by kernel_rfl) (fun _ _ _ h => h) (Or.inl ⟨by rfl, ?q16⟩) HSS.out ?_
        case q16 => intro w hSw; have q1 := AX.out _ hSw; have q2 := AP.out _ hSw; go_simp; rfl
        simp only [Act.put, List.getElem_toArray, List.getElem_cons_zero, List.getElem_cons_succ, List.setIfInBounds_toArray, List.set_cons_zero, List.set_cons_succ]
        refine wpAnyH_take (i := 17) (v := ?_) rfl (by kernel_rfl) (by kernel_rfl) (by kernel_rfl) (fun _ _ _ h => h) (Or.inl ⟨by rfl, ?q17⟩) HSS.out ?_
        case q17 => intro w hSw; have q1 := AX.out _ hSw; have q2 := AP.out _ hSw; go_simp; rfl
        simp only [Act.put, List.getElem_toArray, List.getElem_cons_zero, List.getElem_cons_succ, List.setIfInBounds_toArray, List.set_cons_zero, List.set_cons_succ]
        refine wpAnyH_take (i := 18) (v := ?_) rfl (by kernel_rfl) (by kernel_rfl) (by kernel_rfl) (fun _ _ _ h => h) (Or.inl ⟨by rfl, ?q18⟩) HSS.out ?_
        case q18 => intro w hSw; have q1 := AX.out _ hSw; have q2 := AP.out _ hSw; go_simp; rfl
        simp only [Act.put, List.getElem_toArray, List.getElem_cons_zero, List.getElem_cons_succ, List.setIfInBounds_toArray, List.set_cons_zero, List.set_cons_succ]
        refine wpAnyH_take (i := 19) (v := ?_) rfl (by kernel_rfl) (by kernel_rfl) (by kernel_rfl) (fun _ _ _ h => h) (Or.inl ⟨by rfl, ?q19⟩) HSS.out ?_
        case q19 => intro w hSw; have q1 := AX.out _ hSw; have q2 := AP.out _ hSw; go_simp; rfl
        simp only [Act.put, List.getElem_toArray, List.getElem_cons_zero, List.getElem_cons_succ, List.setIfInBounds_toArray, List.set_cons_zero, List.set_cons_succ]
        refine wpAnyH_take (i := 20) (v := ?_) rfl (by kernel_rfl) (by kernel_rfl) (by kernel_rfl) (fun _ _ _ h => h) (Or.inl ⟨by rfl, ?q20⟩) HSS.out ?_
        case q20 => intro w hSw; have q1 := AX.out _ hSw; have q2 := AP.out _ hSw; go_simp; rfl
        simp only [Act.put, List.getElem_toArray, List.getElem_cons_zero, List.getElem_cons_succ, List.setIfInBounds_toArray, List.set_cons_zero, List.set_cons_succ]
        refine wpAnyH_take (i := 21) (v := ?_) rfl (by kernel_rfl) (by kernel_rfl) (by kernel_rfl) (fun _ _ _ h => h) (Or.inl ⟨by rfl, ?q21⟩) HSS.out ?_
        case q21 => intro w hSw; have q1 := AX.out _ hSw; have q2 := AP.out _ hSw; go_simp; rfl
        simp only [Act.put, List.getElem_toArray, List.getElem_cons_zero, List.getElem_cons_succ, List.setIfInBounds_toArray, List.set_cons_zero, List.set_cons_succ]
        refine wpAnyH_take (i := 22) (v := ?_) rfl (by kernel_rfl) (by kernel_rfl) (by kernel_rfl) (fun _ _ _ h => h) (Or.inl ⟨by rfl, ?q22⟩) HSS.out ?_
        case q22 => intro w hSw; have q1 := AX.out _ hSw; have q2 := AP.out _ hSw; go_simp; rfl
        simp only [Act.put, List.getElem_toArray, List.getElem_cons_zero, List.getElem_cons_succ, List.setIfInBounds_toArray, List.set_cons_zero, List.set_cons_succ]
        refine wpAnyH_take (i := 23) (v := ?_) rfl (by kernel_rfl) (by kernel_rfl) (by kernel_rfl) (fun _ _ _ h => h) (Or.inl ⟨by rfl, ?q23⟩) HSS.out ?_
        case q23 => intro w hSw; have q1 := AX.out _ hSw; have q2 := AP.out _ hSw; go_simp; rfl
        simp only [Act.put, List.getElem_toArray, List.getElem_cons_zero, List.getElem_cons_succ, List.setIfInBounds_toArray, List.set_cons_zero, List.set_cons_succ]
        refine wpAnyH_take (i := 24) (v := (.bool true)) rfl (by kernel_rfl) (by kernel_rfl) (by kernel_rfl) (fun _ _ _ h => h) (Or.inl ⟨by rfl, ?q24⟩) HSS.out ?_
        case q24 => intro w hSw; have q1 := AX.out _ hSw; have q2 := AP.out _ hSw; go_simp <;> first | rfl | simp [hxy]
        simp only [Act.put, List.getElem_toArray, List.getElem_cons_zero, List.getElem_cons_succ, List.setIfInBounds_toArray, List.set_cons_zero, List.set_cons_succ]
        refine wpAnyH_take (i := 25) (v := ?_) rfl (by kernel_rfl) (by kernel_rfl) (by kernel_rfl) (fun _ _ _ h => h) (Or.inl ⟨by rfl, ?q25⟩) HSS.out ?_
        case q25 => intro w hSw; have q1 := AX.out _ hSw; have q2 := AP.out _ hSw; go_simp; rfl
        simp only [Act.put, List.getElem_toArray, List.getElem_cons_zero, List.getElem_cons_succ, List.setIfInBounds_toArray, List.set_cons_zero, List.set_cons_succ]
        refine wpAnyH_take (i := 26) (v := ?_) rfl (by kernel_rfl) (by kernel_rfl) (by kernel_rfl) (fun _ _ _ h => h) (Or.inl ⟨by rfl, ?q26⟩) HSS.out ?_
        case q26 => intro w hSw; have q1 := AX.out _ hSw; have q2 := AP.out _ hSw; go_simp; rfl
        simp only [Act.put, List.getElem_toArray, List.getElem_cons_zero, List.getElem_cons_succ, List.setIfInBounds_toArray, List.set_cons_zero, List.set_cons_succ]
        refine wpAnyH_done (by kernel_rfl) ?_ _
        go_wp2_with (first | (refine wpList_load_mid rfl 42 _ rfl (w.heap.size + 1) 0 rfl zrp.toList _ HD.out.rng1 Try.underlying42 rfl SR.out ?_; rw [Array.toArray_toList]) | (refine wpList_store_row rfl 42 _ _ rfl w.heap.size zrp rfl rfl 42 zrp HD.out.x0 SR.out rfl zrp_one ?_) | fail)
        all_goals
          refine bodyPost_ret (v := .tuple #[.agg zrp, .int .i64 (2 + (j : Int)), .int .i64 201]) (results_cellTT (p := 2) (q := 3) (q' := 4) (ty := 42) rfl _ _ w.heap.size 42 _ (0, 0) _ _ _ rfl rfl rfl (HD.out.ans _).1 Try.underlying42 rfl SR.out) rfl ?_
          exact ⟨.inl ⟨(2 + (j : Int)), FB.out (by rw [hfol.out]; simp [h0]; intro _; omega), rfl⟩, (HD.out.ans _).2⟩
      go_wp2_with fail
      have HD := hid (HS.out.below ((Below.refl _ wr).drew))
      refine wp_region_held_drew (S := (Below w.heap.size w)) (by kernel_rfl) (HS.out.bel.trans ((Below.refl _ wr).drew.mono HS.out.bel.size)) (fun hHeld => ?_)
      have HSS := hid hHeld
      clear hHeld
      change wpAnyH _ _ _ _ _ _ _ _ (World.drew _)
      refine wpAnyH_take (i := 0) (v := ?_) rfl (by kernel_rfl) (by kernel_rfl) (by kernel_rfl) (fun _ _ _ h => h) (Or.inl ⟨by rfl, ?q0⟩) HSS.out ?_
      case q0 => intro w hSw; have q1 := AX.out _ hSw; have q2 := AP.out _ hSw; go_simp; rfl
      simp only [Act.put, List.getElem_toArray, List.getElem_cons_zero, List.getElem_cons_succ, List.setIfInBounds_toArray, List.set_cons_zero, List.set_cons_succ]
      refine wpAnyH_take (i := 1) (v := ?_) rfl (by kernel_rfl) (by kernel_rfl) (by kernel_rfl) (fun _ _ _ h => h) (Or.inl ⟨by rfl, ?q1⟩) HSS.out ?_
      case q1 => intro w hSw; have q1 := AX.out _ hSw; have q2 := AP.out _ hSw; go_simp; rfl
      simp only [Act.put, List.getElem_toArray, List.getElem_cons_zero, List.getElem_cons_succ, List.setIfInBounds_toArray, List.set_cons_zero, List.set_cons_succ]
      refine wpAnyH_take (i := 2) (v := ?_) rfl (by kernel_rfl) (by kernel_rfl) (by kernel_rfl) (fun _ _ _ h => h) (Or.inl ⟨by rfl, ?q2⟩) HSS.out ?_
      case q2 => intro w hSw; have q1 := AX.out _ hSw; have q2 := AP.out _ hSw; go_simp; rfl
      simp only [Act.put, List.getElem_toArray, List.getElem_cons_zero, List.getElem_cons_succ, List.setIfInBounds_toArray, List.set_cons_zero, List.set_cons_succ]
      refine wpAnyH_take (i := 3) (v := ?_) rfl (by kernel_rfl) (by kernel_rfl) (by kernel_rfl) (fun _ _ _ h => h) (Or.inl ⟨by rfl, ?q3⟩) HSS.out ?_
      case q3 => intro w hSw; have q1 := AX.out _ hSw; have q2 := AP.out _ hSw; go_simp; rfl
      simp only [Act.put, List.getElem_toArray, List.getElem_cons_zero, List.getElem_cons_succ, List.setIfInBounds_toArray, List.set_cons_zero, List.set_cons_succ]
      refine wpAnyH_take (i := 4) (v := ?_) rfl (by kernel_rfl) (by kernel_rfl) (by kernel_rfl) (fun _ _ _ h => h) (Or.inl ⟨by rfl, ?q4⟩) HSS.out ?_
      case q4 => intro w hSw; have q1 := AX.out _ hSw; have q2 := AP.out _ hSw; go_simp; rfl
      simp only [Act.put, List.getElem_toArray, List.getElem_cons_zero, List.getElem_cons_succ, List.setIfInBounds_toArray, List.set_cons_zero, List.set_cons_succ]
      refine wpAnyH_take (i := 5) (v := ?_) rfl (by kernel_rfl) (by kernel_rfl) (by kernel_rfl) (fun _ _ _ h => h) (Or.inl ⟨by rfl, ?q5⟩) HSS.out ?_
      case q5 => intro w hSw; have q1 := AX.out _ hSw; have q2 := AP.out _ hSw; go_simp; rfl
      simp only [Act.put, List.getElem_toArray, List.getElem_cons_zero, List.getElem_cons_succ, List.setIfInBounds_toArray, List.set_cons_zero, List.set_cons_succ]
      refine wpAnyH_take (i := 6) (v := (.bool false)) rfl (by kernel_rfl) (by kernel_rfl) (by kernel_rfl) (fun _ _ _ h => h) (Or.inl ⟨by rfl, ?q6⟩) HSS.out ?_
      case q6 => intro w hSw; have q1 := AX.out _ hSw; have q2 := AP.out _ hSw; go_simp <;> first | rfl | simp [h255]
      simp only [Act.put, List.getElem_toArray, List.getElem_cons_zero, List.getElem_cons_succ, List.setIfInBounds_toArray, List.set_cons_zero, List.set_cons_succ]
      refine wpAnyH_take (i := 7) (v := (.bool false)) rfl (by kernel_rfl) (by kernel_rfl) (by kernel_rfl) (fun _ _ _ h => h) (Or.inl ⟨by rfl, ?q7⟩) HSS.out ?_
      case q7 => intro w hSw; have q1 := AX.out _ hSw; have q2 := AP.out _ hSw; go_simp <;> rfl
      simp only [Act.put, List.getElem_toArray, List.getElem_cons_zero, List.getElem_cons_succ, List.setIfInBounds_toArray, List.set_cons_zero, List.set_cons_succ]
      refine wpAnyH_take (i := 8) (v := ?_) rfl (by kernel_rfl) (by kernel_rfl) (by kernel_rfl) (fun _ _ _ h => h) (Or.inl ⟨by rfl, ?q8⟩) HSS.out ?_
      case q8 => intro w hSw; have q1 := AX.out _ hSw; have q2 := AP.out _ hSw; go_simp; rfl
      simp only [Act.put, List.getElem_toArray, List.getElem_cons_zero, List.getElem_cons_succ, List.setIfInBounds_toArray, List.set_cons_zero, List.set_cons_succ]
      refine wpAnyH_take (i := 9) (v := (.bool true)) rfl (by kernel_rfl) (by kernel_rfl) (by kernel_rfl) (fun _ _ _ h => h) (Or.inl ⟨by rfl, ?q9⟩) HSS.out ?_
      case q9 => intro w hSw; have q1 := AX.out _ hSw; have q2 := AP.out _ hSw; go_simp <;> first | rfl | simp [h0']
      simp only [Act.put, List.getElem_toArray, List.getElem_cons_zero, List.getElem_cons_succ, List.setIfInBounds_toArray, List.set_cons_zero, List.set_cons_succ]
      refine wpAnyH_take (i := 10) (v := (.bool true)) rfl (by kernel_rfl) (by kernel_rfl) (by kernel_rfl) (fun _ _ _ h => h) (Or.inl ⟨by rfl, ?q10⟩) HSS.out ?_
      case q10 => intro w hSw; have q1 := AX.out _ hSw; have q2 := AP.out _ hSw; go_simp <;> rfl
      simp only [Act.put, List.getElem_toArray, List.getElem_cons_zero, List.getElem_cons_succ, List.setIfInBounds_toArray, List.set_cons_zero, List.set_cons_succ]
      refine wpAnyH_take (i := 11) (v := ?_) rfl (by kernel_rfl) (by kernel_rfl) (by kernel_rfl) (fun _ _ _ h => h) (Or.inl ⟨by rfl, ?q11⟩) HSS.out ?_
      case q11 => intro w hSw; have q1 := AX.out _ hSw; have q2 := AP.out _ hSw; go_simp; rfl
      simp only [Act.put, List.getElem_toArray, List.getElem_cons_zero, List.getElem_cons_succ, List.setIfInBounds_toArray, List.set_cons_zero, List.set_cons_succ]
      refine wpAnyH_take (i := 12) (v := ?_) rfl (by kernel_rfl) (by kernel_rfl) (by kernel_rfl) (fun _ _ _ h => h) (Or.inl ⟨by rfl, ?q12⟩) HSS.out ?_
      case q12 => intro w hSw; have q1 := AX.out _ hSw; have q2 := AP.out _ hSw; go_simp; rfl
      simp only [Act.put, List.getElem_toArray, List.getElem_cons_zero, List.getElem_cons_succ, List.setIfInBounds_toArray, List.set_cons_zero, List.set_cons_succ]
      refine wpAnyH_take (i := 13) (v := ?_) rfl (by kernel_rfl) (by kernel_rfl) (by kernel_rfl) (fun _ _ _ h => h) (Or.inl ⟨by rfl, ?q13⟩) HSS.out ?_
      case q13 => intro w hSw; have q1 := AX.out _ hSw; have q2 := AP.out _ hSw; go_simp; rfl
      simp only [Act.put, List.getElem_toArray, List.getElem_cons_zero, List.getElem_cons_succ, List.setIfInBounds_toArray, List.set_cons_zero, List.set_cons_succ]
      refine wpAnyH_take (i := 14) (v := ?_) rfl (by kernel_rfl) (by kernel_rfl) (by kernel_rfl) (fun _ _ _ h => h) (Or.inl ⟨by rfl, ?q14⟩) HSS.out ?_
      case q14 => intro w hSw; have q1 := AX.out _ hSw; have q2 := AP.out _ hSw; go_simp; rfl
      simp only [Act.put, List.getElem_toArray, List.getElem_cons_zero, List.getElem_cons_succ, List.setIfInBounds_toArray, List.set_cons_zero, List.set_cons_succ]
      refine wpAnyH_take (i := 15) (v := ?_) rfl (by kernel_rfl) (by kernel_rfl) (by kernel_rfl) (fun _ _ _ h => h) (Or.inl ⟨by rfl, ?q15⟩) HSS.out ?_
      case q15 => intro w hSw; have q1 := AX.out _ hSw; have q2 := AP.out _ hSw; go_simp; rfl
      simp only [Act.put, List.getElem_toArray, List.getElem_cons_zero, List.getElem_cons_succ, List.setIfInBounds_toArray, List.set_cons_zero, List.set_cons_succ]
      refine wpAnyH_take (i := 16) (v := ?_) rfl (by kernel_rfl) (by kernel_rfl) (by kernel_rfl) (fun _ _ _ h => h) (Or.inl ⟨by rfl, ?q16⟩) HSS.out ?_
      case q16 => intro w hSw; have q1 := AX.out _ hSw; have q2 := AP.out _ hSw; go_simp; rfl
      simp only [Act.put, List.getElem_toArray, List.getElem_cons_zero, List.getElem_cons_succ, List.setIfInBounds_toArray, List.set_cons_zero, List.set_cons_succ]
      refine wpAnyH_take (i := 17) (v := ?_) rfl (by kernel_rfl) (by kernel_rfl) (by kernel_rfl) (fun _ _ _ h => h) (Or.inl ⟨by rfl, ?q17⟩) HSS.out ?_
      case q17 => intro w hSw; have q1 := AX.out _ hSw; have q2 := AP.out _ hSw; go_simp; rfl
      simp only [Act.put, List.getElem_toArray, List.getElem_cons_zero, List.getElem_cons_succ, List.setIfInBounds_toArray, List.set_cons_zero, List.set_cons_succ]
      refine wpAnyH_take (i := 18) (v := ?_) rfl (by kernel_rfl) (by kernel_rfl) (by kernel_rfl) (fun _ _ _ h => h) (Or.inl ⟨by rfl, ?q18⟩) HSS.out ?_
      case q18 => intro w hSw; have q1 := AX.out _ hSw; have q2 := AP.out _ hSw; go_simp; rfl
      simp only [Act.put, List.getElem_toArray, List.getElem_cons_zero, List.getElem_cons_succ, List.setIfInBounds_toArray, List.set_cons_zero, List.set_cons_succ]
      refine wpAnyH_take (i := 19) (v := ?_) rfl (by kernel_rfl) (by kernel_rfl) (by kernel_rfl) (fun _ _ _ h => h) (Or.inl ⟨by rfl, ?q19⟩) HSS.out ?_
      case q19 => intro w hSw; have q1 := AX.out _ hSw; have q2 := AP.out _ hSw; go_simp; rfl
      simp only [Act.put, List.getElem_toArray, List.getElem_cons_zero, List.getElem_cons_succ, List.setIfInBounds_toArray, List.set_cons_zero, List.set_cons_succ]
      refine wpAnyH_take (i := 20) (v := ?_) rfl (by kernel_rfl) (by kernel_rfl) (by kernel_rfl) (fun _ _ _ h => h) (Or.inl ⟨by rfl, ?q20⟩) HSS.out ?_
      case q20 => intro w hSw; have q1 := AX.out _ hSw; have q2 := AP.out _ hSw; go_simp; rfl
      simp only [Act.put, List.getElem_toArray, List.getElem_cons_zero, List.getElem_cons_succ, List.setIfInBounds_toArray, List.set_cons_zero, List.set_cons_succ]
      refine wpAnyH_take (i := 21) (v := ?_) rfl (by kernel_rfl) (by kernel_rfl) (by kernel_rfl) (fun _ _ _ h => h) (Or.inl ⟨by rfl, ?q21⟩) HSS.out ?_
      case q21 => intro w hSw; have q1 := AX.out _ hSw; have q2 := AP.out _ hSw; go_simp; rfl
      simp only [Act.put, List.getElem_toArray, List.getElem_cons_zero, List.getElem_cons_succ, List.setIfInBounds_toArray, List.set_cons_zero, List.set_cons_succ]
      refine wpAnyH_take (i := 22) (v := ?_) rfl (by kernel_rfl) (by kernel_rfl) (by kernel_rfl) (fun _ _ _ h => h) (Or.inl ⟨by rfl, ?q22⟩) HSS.out ?_
      case q22 => intro w hSw; have q1 := AX.out _ hSw; have q2 := AP.out _ hSw; go_simp; rfl
      simp only [Act.put, List.getElem_toArray, List.getElem_cons_zero, List.getElem_cons_succ, List.setIfInBounds_toArray, List.set_cons_zero, List.set_cons_succ]
      refine wpAnyH_take (i := 23) (v := ?_) rfl (by kernel_rfl) (by kernel_rfl) (by kernel_rfl) (fun _ _ _ h => h) (Or.inl ⟨by rfl, ?q23⟩) HSS.out ?_
      case q23 => intro w hSw; have q1 := AX.out _ hSw; have q2 := AP.out _ hSw; go_simp; rfl
      simp only [Act.put, List.getElem_toArray, List.getElem_cons_zero, List.getElem_cons_succ, List.setIfInBounds_toArray, List.set_cons_zero, List.set_cons_succ]
      refine wpAnyH_take (i := 24) (v := (.bool false)) rfl (by kernel_rfl) (by kernel_rfl) (by kernel_rfl) (fun _ _ _ h => h) (Or.inl ⟨by rfl, ?q24⟩) HSS.out ?_
      case q24 => intro w hSw; have q1 := AX.out _ hSw; have q2 := AP.out _ hSw; go_simp <;> first | rfl | simp [hxy]
      simp only [Act.put, List.getElem_toArray, List.getElem_cons_zero, List.getElem_cons_succ, List.setIfInBounds_toArray, List.set_cons_zero, List.set_cons_succ]
      refine wpAnyH_take (i := 25) (v := ?_) rfl (by kernel_rfl) (by kernel_rfl) (by kernel_rfl) (fun _ _ _ h => h) (Or.inl ⟨by rfl, ?q25⟩) HSS.out ?_
      case q25 => intro w hSw; have q1 := AX.out _ hSw; have q2 := AP.out _ hSw; go_simp; rfl
      simp only [Act.put, List.getElem_toArray, List.getElem_cons_zero, List.getElem_cons_succ, List.setIfInBounds_toArray, List.set_cons_zero, List.set_cons_succ]
      refine wpAnyH_take (i := 26) (v := ?_) rfl (by kernel_rfl) (by kernel_rfl) (by kernel_rfl) (fun _ _ _ h => h) (Or.inl ⟨by rfl, ?q26⟩) HSS.out ?_
      case q26 => intro w hSw; have q1 := AX.out _ hSw; have q2 := AP.out _ hSw; go_simp; rfl
      simp only [Act.put, List.getElem_toArray, List.getElem_cons_zero, List.getElem_cons_succ, List.setIfInBounds_toArray, List.set_cons_zero, List.set_cons_succ]
      refine wpAnyH_done (by kernel_rfl) ?_ _
      have wx : IntKind.i64.wrap x = x := by rw [IntKind.wrap_i64]; omega
      go_wp2_with fail
      have HDD := hid (HD.out.below ((Below.refl _ wr.drew).drew))
      refine wp_region_last (S := (fun W : World => W.heap[w.heap.size + 2]? = some (.cells (rpA 1 vn nlS) 42 (0, 0)) ∧ Below w.heap.size w W)) 12 (by kernel_rfl) ⟨HDD.out.x2, HDD.out.bel⟩ (fun hHeld => ?_)
      have HSS := hid hHeld
      clear hHeld
      change wpAnyL _ _ _ _ _ _ _ _ _ (World.drew _)
      refine wpAnyL_take (i := 0) (v := ?_) rfl (by kernel_rfl) (by kernel_rfl) (by kernel_rfl) (by kernel_rfl) (by kernel_rfl) (fun _ _ _ h => h) (Or.inl ⟨by rfl, ?q0⟩) HSS.out ?_
      case q0 => intro w hSw; have q1 := AX.out _ hSw.2; have q2 : World.cell? _ ⟨_, 1, none⟩ = some vn := (cell_of_row _ _ _ _ _ _ hSw.1).trans rfl; go_simp; rfl
      simp only [Act.put, List.getElem_toArray, List.getElem_cons_zero, List.getElem_cons_succ, List.setIfInBounds_toArray, List.set_cons_zero, List.set_cons_succ]
      refine wpAnyL_take (i := 1) (v := ?_) rfl (by kernel_rfl) (by kernel_rfl) (by kernel_rfl) (by kernel_rfl) (by kernel_rfl) (fun _ _ _ h => h) (Or.inl ⟨by rfl, ?q1⟩) HSS.out ?_
      case q1 => intro w hSw; have q1 := AX.out _ hSw.2; have q2 : World.cell? _ ⟨_, 1, none⟩ = some vn := (cell_of_row _ _ _ _ _ _ hSw.1).trans rfl; go_simp; rfl
      simp only [Act.put, List.getElem_toArray, List.getElem_cons_zero, List.getElem_cons_succ, List.setIfInBounds_toArray, List.set_cons_zero, List.set_cons_succ]
      refine wpAnyL_take (i := 2) (v := ?_) rfl (by kernel_rfl) (by kernel_rfl) (by kernel_rfl) (by kernel_rfl) (by kernel_rfl) (fun _ _ _ h => h) (Or.inl ⟨by rfl, ?q2⟩) HSS.out ?_
      case q2 => intro w hSw; have q1 := AX.out _ hSw.2; have q2 : World.cell? _ ⟨_, 1, none⟩ = some vn := (cell_of_row _ _ _ _ _ _ hSw.1).trans rfl; go_simp; rfl
      simp only [Act.put, List.getElem_toArray, List.getElem_cons_zero, List.getElem_cons_succ, List.setIfInBounds_toArray, List.set_cons_zero, List.set_cons_succ]
      refine wpAnyL_take (i := 3) (v := ?_) rfl (by kernel_rfl) (by kernel_rfl) (by kernel_rfl) (by kernel_rfl) (by kernel_rfl) (fun _ _ _ h => h) (Or.inl ⟨by rfl, ?q3⟩) HSS.out ?_
      case q3 => intro w hSw; have q1 := AX.out _ hSw.2; have q2 : World.cell? _ ⟨_, 1, none⟩ = some vn := (cell_of_row _ _ _ _ _ _ hSw.1).trans rfl; go_simp; rfl
      simp only [Act.put, List.getElem_toArray, List.getElem_cons_zero, List.getElem_cons_succ, List.setIfInBounds_toArray, List.set_cons_zero, List.set_cons_succ]
      refine wpAnyL_take (i := 4) (v := ?_) rfl (by kernel_rfl) (by kernel_rfl) (by kernel_rfl) (by kernel_rfl) (by kernel_rfl) (fun _ _ _ h => h) (Or.inl ⟨by rfl, ?q4⟩) HSS.out ?_
      case q4 => intro w hSw; have q1 := AX.out _ hSw.2; have q2 : World.cell? _ ⟨_, 1, none⟩ = some vn := (cell_of_row _ _ _ _ _ _ hSw.1).trans rfl; go_simp; rfl
      simp only [Act.put, List.getElem_toArray, List.getElem_cons_zero, List.getElem_cons_succ, List.setIfInBounds_toArray, List.set_cons_zero, List.set_cons_succ]
      refine wpAnyL_take (i := 5) (v := ?_) rfl (by kernel_rfl) (by kernel_rfl) (by kernel_rfl) (by kernel_rfl) (by kernel_rfl) (fun _ _ _ h => h) (Or.inl ⟨by rfl, ?q5⟩) HSS.out ?_
      case q5 => intro w hSw; have q1 := AX.out _ hSw.2; have q2 : World.cell? _ ⟨_, 1, none⟩ = some vn := (cell_of_row _ _ _ _ _ _ hSw.1).trans rfl; go_simp; rfl
      simp only [Act.put, List.getElem_toArray, List.getElem_cons_zero, List.getElem_cons_succ, List.setIfInBounds_toArray, List.set_cons_zero, List.set_cons_succ]
      refine wpAnyL_take (i := 6) (v := ?_) rfl (by kernel_rfl) (by kernel_rfl) (by kernel_rfl) (by kernel_rfl) (by kernel_rfl) (fun _ _ _ h => h) (Or.inl ⟨by rfl, ?q6⟩) HSS.out ?_
      case q6 => intro w hSw; have q1 := AX.out _ hSw.2; have q2 : World.cell? _ ⟨_, 1, none⟩ = some vn := (cell_of_row _ _ _ _ _ _ hSw.1).trans rfl; go_simp; rfl
      simp only [Act.put, List.getElem_toArray, List.getElem_cons_zero, List.getElem_cons_succ, List.setIfInBounds_toArray, List.set_cons_zero, List.set_cons_succ]
      refine wpAnyL_take (i := 7) (v := ?_) rfl (by kernel_rfl) (by kernel_rfl) (by kernel_rfl) (by kernel_rfl) (by kernel_rfl) (fun _ _ _ h => h) (Or.inl ⟨by rfl, ?q7⟩) HSS.out ?_
      case q7 => intro w hSw; have q1 := AX.out _ hSw.2; have q2 : World.cell? _ ⟨_, 1, none⟩ = some vn := (cell_of_row _ _ _ _ _ _ hSw.1).trans rfl; go_simp; rfl
      simp only [Act.put, List.getElem_toArray, List.getElem_cons_zero, List.getElem_cons_succ, List.setIfInBounds_toArray, List.set_cons_zero, List.set_cons_succ]
      refine wpAnyL_take (i := 8) (v := ?_) rfl (by kernel_rfl) (by kernel_rfl) (by kernel_rfl) (by kernel_rfl) (by kernel_rfl) (fun _ _ _ h => h) (Or.inl ⟨by rfl, ?q8⟩) HSS.out ?_
      case q8 => intro w hSw; have q1 := AX.out _ hSw.2; have q2 : World.cell? _ ⟨_, 1, none⟩ = some vn := (cell_of_row _ _ _ _ _ _ hSw.1).trans rfl; go_simp; rfl
      simp only [Act.put, List.getElem_toArray, List.getElem_cons_zero, List.getElem_cons_succ, List.setIfInBounds_toArray, List.set_cons_zero, List.set_cons_succ]
      clear HSS
      refine wpAnyL_one (i := 9) (by kernel_rfl) rfl (fun K hK => ?_)
      refine wanted_litP (by rfl) 40 1 _ rfl #[(0, .int .i64 x)] (by go_simp) _ (run_litI _ _) ?_
      obtain ⟨WL, HWL⟩ : ∃ W : World, Hid (wr.drew.drew.alloc (.cells #[.int .i64 x] 3) = W) := ⟨_, hid rfl⟩
      have BL : Hid (Below wr.drew.drew.heap.size wr.drew.drew WL) := by rw [← HWL.out]; exact hid ((Below.refl _ _).alloc (Nat.le_refl _) _)
      have SL := hid (HDD.out.below BL.out)
      have OL : Hid (WL.ownsRow w.heap.size 3 1 vn j (((l.drop 2).take j).map (Value.int .i64))) := hid (own_of HO.out fun b' hb' => (BL.out.block b' (own_at HO.out hb').1))
      have CL : Hid (WL.cell? ⟨wr.drew.drew.heap.size, 0, none⟩ = some (.int .i64 x)) := hid (by rw [cell_of_row _ _ _ _ _ _ (show WL.heap[wr.drew.drew.heap.size]? = some (.cells #[.int .i64 x] 3 (0, 0)) by rw [← HWL.out]; exact heap_alloc_new _ _)]; rfl)
      rw [HWL.out]
      try simp only [Act.put, List.getElem_toArray, List.getElem_cons_zero, List.getElem_cons_succ, List.setIfInBounds_toArray, List.set_cons_zero, List.set_cons_succ]
      refine hK.out _ _ (fun _ => ⟨SL.out.x2, SL.out.bel⟩) ?_
      clear hK K
      refine wpAnyL_one (i := 10) (by kernel_rfl) rfl (fun K hK => ?_)
      rw [if_pos (by rfl)]
      refine wp_append_I _ _ rfl w.heap.size vn j _ rfl OL.out ⟨wr.drew.drew.heap.size, 0, none⟩ 1 x rfl CL.out (by omega) SL.out.bel.size (fun v1 U hu hg => ?_)
      have SU : Hid (RP w U 1 vn nlS) := hid (SL.out.grown hg (fun b' hb' => by obtain ⟨_, q2, cs', q3⟩ := own_at OL.out hb'; exact ⟨q2, cs', _, q3, by decide⟩))
      have OU : Hid (U.ownsRow w.heap.size 3 1 v1 (j + 1) (((l.drop 2).take (j + 1)).map (Value.int .i64))) := hid (by
        have e : (l.drop 2).take (j + 1) = (l.drop 2).take j ++ [x] := by
          rw [List.take_succ_eq_append_getElem (by simp; omega), List.getElem_drop, ← getD_of_lt (by omega), HX.out]
        rw [e, List.map_append]
        exact hu)
      clear hu hg
      try simp only [Act.put, List.getElem_toArray, List.getElem_cons_zero, List.getElem_cons_succ, List.setIfInBounds_toArray, List.set_cons_zero, List.set_cons_succ]
      have HSS : Hid (U.heap[w.heap.size + 2]? = some (.cells (rpA 1 vn nlS) 42 (0, 0)) ∧ Below w.heap.size w U) := hid ⟨SU.out.x2, SU.out.bel⟩
      have UF := SU.out.fr 1
      have cu : U.cell? ⟨w.heap.size + 2, 1, none⟩ = some vn := SU.out.cell rfl
      refine hK.out _ _ (fun _ => HSS.out) ?_
      clear hK K
      refine wpAnyL_take (i := 11) (v := ?_) rfl (by kernel_rfl) (by kernel_rfl) (by kernel_rfl) (by kernel_rfl) (by kernel_rfl) (fun _ _ _ h => h) (Or.inl ⟨by rfl, ?q11⟩) HSS.out ?_
      case q11 => intro w hSw; have q1 := AX.out _ hSw.2; have q2 : World.cell? _ ⟨_, 1, none⟩ = some vn := (cell_of_row _ _ _ _ _ _ hSw.1).trans rfl; go_simp; rfl
      simp only [Act.put, List.getElem_toArray, List.getElem_cons_zero, List.getElem_cons_succ, List.setIfInBounds_toArray, List.set_cons_zero, List.set_cons_succ]
      refine wpAnyL_one (i := 12) (by kernel_rfl) rfl (fun K hK => ?_)
      obtain ⟨pv, cv, ev⟩ := own_slice OU.out
      rw [ev] at OU ⊢
      obtain ⟨U2, HU2⟩ : ∃ W : World, Hid (U.setCell ⟨w.heap.size + 2, 1, none⟩ (.slice pv (j + 1) cv) = W) := ⟨_, hid rfl⟩
      have S2 : Hid (RP w U2 1 (.slice pv (j + 1) cv) nlS) := by rw [← HU2.out]; exact hid (SU.out.set 1 _ rfl)
      have OU2 : Hid (U2.ownsRow w.heap.size 3 1 (.slice pv (j + 1) cv) (j + 1) (((l.drop 2).take (j + 1)).map (Value.int .i64))) := by
        rw [← HU2.out]
        refine hid (own_of OU.out fun b' hb' => ?_)
        obtain ⟨_, _, cs', q⟩ := own_at OU.out hb'
        have : w.heap.size + 2 ≠ b' := fun e => by
          rw [← e, SU.out.x2] at q
          simp only [Option.some.injEq, Obj.cells.injEq] at q
          exact absurd q.2.1 (by decide)
        simp [World.setCell, Array.getElem?_modify, this]
      have hvo : vn.oneCell' = true := by obtain ⟨pn, cn', en⟩ := own_slice HO.out; rw [en]; rfl
      clear SU OU HSS
      go_simp
      rw [HU2.out]
      refine hK.out _ _ (fun e => absurd rfl e) ?_
      clear hK K
      try simp only [Act.put, List.getElem_toArray, List.getElem_cons_zero, List.getElem_cons_succ, List.setIfInBounds_toArray, List.set_cons_zero, List.set_cons_succ]
      refine wpAnyL_done (by kernel_rfl) ?_ _
      have w9 : IntKind.i64.wrap ((j : Int) + 1) = ((j + 1 : Nat) : Int) := by rw [IntKind.wrap_i64]; omega
      have HFN : Hid (fstB (folAt (l.drop 2)) (j + 1) = none) := hid (by
        have hf : folAt (l.drop 2) j = true := by rw [hfol.out]; simp [nbB]; omega
        show (match fstB (folAt (l.drop 2)) j with | some j => some j | none => if folAt (l.drop 2) j = true then none else some j) = none
        rw [HF.out]
        simp [hf])
      go_wp2
      exact ⟨⟨j + 1, _, hlt, by go_num, S2, hid (by rw [show ((l.drop 2).take (j + 1)).length = j + 1 by simp; omega]; exact OU2.out), HFN⟩, by simp [intOf]; omega⟩
    · have hje : j = dpM l := by omega
      rw [hje] at HF
      have hj2 : j = min cn (l.length - 2) := by rw [← DM.out]; exact hje
      rw [HF.out, Option.map_none] at DP
      clear hje hlt hj AC A'
      obtain ⟨pn, cn', en⟩ := own_slice HO.out
      rw [en] at HS HO
      have OG : Hid (l.length = 2 + cn → wr.ownsRow w.heap.size 3 1 (.slice pn j cn') (dpS l 1).length ((dpS l 1).map (Value.int .i64))) := hid (fun e => by
        have q : (l.drop 2).take j = l.drop 2 := List.take_of_length_le (by simp; omega)
        have o := HO.out
        rw [q] at o
        have q2 : (l.drop 2).length = j := by rw [List.length_drop]; omega
        show wr.ownsRow w.heap.size 3 1 (.slice pn j cn') (l.drop 2).length ((l.drop 2).map (Value.int .i64))
        rw [q2]
        exact o)
      by_cases e1 : j < cn
      · have t1 : (j : Int) < (cn : Int) := by omega
        have t2 : ¬ (2 + (j : Int) < (l.length : Int)) := by omega
        have w1 : IntKind.i64.wrap (2 + (j : Int)) = 2 + (j : Int) := by rw [IntKind.wrap_i64]; omega
        have g0 : l.length < 2 + cn := by omega
        have g0' : (l.length : Int) < 2 + (cn : Int) := by omega
        clear hj2
        go_wp2_with (first | (refine wpList_load_mid rfl 42 _ rfl (w.heap.size + 1) 0 rfl zrp.toList _ HS.out.rng1 Try.underlying42 rfl SR.out ?_; rw [Array.toArray_toList]) | (refine wpList_store_row rfl 42 _ _ rfl w.heap.size zrp rfl rfl 42 zrp HS.out.x0 SR.out rfl zrp_one ?_) | fail)
        refine bodyPost_ret (v := .tuple #[.agg zrp, .int .i64 (l.length : Int), .int .i64 201]) (results_cellTT (p := 2) (q := 3) (q' := 4) (ty := 42) rfl _ _ w.heap.size 42 _ (0, 0) _ _ _ rfl rfl rfl (HS.out.ans _).1 Try.underlying42 rfl SR.out) rfl ?_
        exact ⟨.inl ⟨(l.length : Int), by rw [DP.out]; exact if_pos g0, rfl⟩, (HS.out.ans _).2⟩
      have t1 : ¬ ((j : Int) < (cn : Int)) := by omega
      have g0 : ¬ (l.length < 2 + cn) := by omega
      have g0' : ¬ ((l.length : Int) < 2 + (cn : Int)) := by omega
      clear hj2 e1
      by_cases g1 : 2 + cn < l.length
      · have g1' : 2 + (cn : Int) < (l.length : Int) := by omega
        have we2 : IntKind.i64.wrap (2 + (cn : Int)) = 2 + (cn : Int) := by rw [IntKind.wrap_i64]; omega
        go_wp2_with (first | (refine wpList_load_mid rfl 42 _ rfl (w.heap.size + 1) 0 rfl zrp.toList _ HS.out.rng1 Try.underlying42 rfl SR.out ?_; rw [Array.toArray_toList]) | (refine wpList_store_row rfl 42 _ _ rfl w.heap.size zrp rfl rfl 42 zrp HS.out.x0 SR.out rfl zrp_one ?_) | fail)
        refine bodyPost_ret (v := .tuple #[.agg zrp, .int .i64 (2 + (cn : Int)), .int .i64 201]) (results_cellTT (p := 2) (q := 3) (q' := 4) (ty := 42) rfl _ _ w.heap.size 42 _ (0, 0) _ _ _ rfl rfl rfl (HS.out.ans _).1 Try.underlying42 rfl SR.out) rfl ?_
        exact ⟨.inl ⟨(2 + (cn : Int)), by rw [DP.out]; exact (if_neg g0).trans (if_pos g1), rfl⟩, (HS.out.ans _).2⟩
      have g1' : ¬ (2 + (cn : Int) < (l.length : Int)) := by omega
      have RGE : Hid (_) := hid HS.out.rng
      have hon : Hid ((rpA 1 (.slice pn j cn') nlS).all (·.oneCell') = true) := hid (rpA_one _ _ _ rfl rfl)
      have hs3 : Hid ((rpA 1 (.slice pn j cn') nlS).size = 3) := hid rfl
      obtain ⟨mm, HMM⟩ : ∃ x, Hid (rpA 1 (.slice pn j cn') nlS = x) := ⟨_, hid rfl⟩
      rw [HMM.out] at RGE hon hs3
      have hsl : Hid ((Try.prog.info? 42).map (·.size) = some mm.toList.length) := hid (by rw [Array.length_toList, hs3.out]; exact SR.out)
      go_wp2_with (first | (refine wpList_load_mid rfl 42 _ rfl (w.heap.size + 2) 0 rfl mm.toList _ RGE.out Try.underlying42 rfl hsl.out ?_; rw [Array.toArray_toList]) | (refine wpList_store_row rfl 42 _ _ rfl w.heap.size mm rfl rfl 42 zrp HS.out.x0 (by rw [hs3.out]; exact SR.out) (by rw [hs3.out]; rfl) hon.out ?_) | fail)
      all_goals
        refine bodyPost_ret (v := .tuple #[.agg mm, .int .i64 0, .int .i64 0]) (results_cellTT (p := 2) (q := 3) (q' := 4) (ty := 42) rfl _ _ w.heap.size 42 _ (0, 0) _ _ _ rfl rfl rfl (HS.out.ans _).1 Try.underlying42 rfl (by rw [hs3.out]; exact SR.out)) rfl ?_
        refine ⟨.inr ⟨by rw [DP.out]; exact (if_neg g0).trans (if_neg g1), (.slice pn j cn'), nlS, by rw [hk, HMM.out], ?_, ?_⟩, (HS.out.ans _).2⟩
        · rw [hk]; exact own_setRowG (OG.out (by omega)) HS.out.x0 (by decide)
        · rw [hk]; exact World.ownsRow_nil _ _ _ _
end Go.Proofs.Ytgjadpidoaianaa
