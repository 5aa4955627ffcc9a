/- Of the road to wireCallsUpto_holds: WrRRqL, WrRRq1. -/
import Derived.Test.YtgjadpidoaianaaG11
set_option linter.unusedVariables false
set_option linter.unusedSimpArgs false
namespace Go.Proofs.Ytgjadpidoaianaa
open Go Go.RowKit
set_option maxRecDepth 100000 in
set_option maxHeartbeats 32000000 in
theorem rreq_e (w : World) (v : Value) (l : List Int) (h : HB w v l) (hl : l.length = 0) :
    Calls Try.prog 25 #[v] w fun e w' => DocQ w l e w' ∧ Below w.heap.size w w' := by
  obtain ⟨q, c, e, hlc, hm⟩ := h.open
  subst e
  rw [hl]
  have hl' : l = [] := List.length_eq_zero_iff.1 hl
  have HD : Hid (dqP l = some 0) := hid (by rw [hl']; rfl)
  clear h hlc
  obtain ⟨W1, HW1⟩ : ∃ W : World, Hid (w.alloc (.cells zreq 38) = W) := ⟨_, hid rfl⟩
  have Z1 : W1.heap.size = w.heap.size + 1 := by rw [← HW1.out]; simp
  obtain ⟨W2, HW2⟩ : ∃ W : World, Hid (W1.alloc (.cells zreq 38) = W) := ⟨_, hid rfl⟩
  have B1 : Below w.heap.size w W1 := by rw [← HW1.out]; exact (Below.refl _ w).alloc (Nat.le_refl _) _
  have B2' : Below W1.heap.size W1 W2 := by rw [← HW2.out]; exact (Below.refl _ W1).alloc (Nat.le_refl _) _
  have B2 : Hid (Below w.heap.size w W2) := hid (B1.trans (B2'.mono B1.size))
  have x0 : W1.heap[w.heap.size]? = some (.cells zrq 38 (0, 0)) := by rw [← HW1.out]; exact heap_alloc_new w _
  have X0 : Hid (W2.heap[w.heap.size]? = some (.cells zrq 38 (0, 0))) := hid ((B2'.block _ (by omega)).trans x0)
  have x1 : W2.heap[w.heap.size + 1]? = some (.cells zrq 38 (0, 0)) := by rw [← Z1, ← HW2.out]; exact heap_alloc_new W1 _
  have RG1 : Hid (W2.rangeAt (w.heap.size + 1) 0 zrq.toList) := hid (fun j v hj => by rw [cell_of_row _ _ _ _ _ _ x1, Nat.zero_add, ← Array.getElem?_toList]; exact hj)
  have ANS : Hid ((W2.setRow w.heap.size zrq).heap[w.heap.size]? = some (.cells zrq 38 (0, 0)) ∧ Below w.heap.size w (W2.setRow w.heap.size zrq)) := hid ⟨setRow_heap _ _ _ _ _ _ X0.out, B2.out.trans ((ex_setRow (Ex.refl (fun k => k = w.heap.size) W2) rfl zrq).below B2.out.size (fun k e => by omega))⟩
  have SR : Hid ((Try.prog.info? 38).map (·.size) = some 23) := hid (by kernel_rfl)
  have HZ1 := hid Z1
  clear x0 x1 B2' B1 Z1
  go_enter Try.func25, Try.ntmps25
  refine wp_seq_k fun K0 h0 => ?_
  have H0 := hid h0
  clear h0
  go_wp2
  rw [HW1.out]
  refine H0.out _ _ ?_
  refine wp_seq_k fun K0 h0 => ?_
  have H0 := hid h0
  clear h0
  go_wp2
  rw [HW2.out, HZ1.out]
  refine H0.out _ _ ?_
  go_wp2_with (first | (refine wpList_load_mid rfl 38 _ rfl (w.heap.size + 1) 0 rfl zrq.toList _ RG1.out Try.underlying38 rfl SR.out ?_; rw [Array.toArray_toList]) | (refine wpList_store_row rfl 38 _ _ rfl w.heap.size zrq rfl rfl 38 zrq X0.out SR.out rfl zrq_one ?_) | fail)
  refine bodyPost_ret (v := .tuple #[.agg zrq, .int .i64 0, .int .i64 200]) (results_cellTT (p := 2) (q := 3) (q' := 4) (ty := 38) rfl _ _ w.heap.size 38 _ (0, 0) _ _ _ rfl rfl rfl ANS.out.1 Try.underlying38 rfl SR.out) rfl ?_
  exact ⟨.inl ⟨0, HD.out, rfl⟩, ANS.out.2⟩
set_option maxRecDepth 100000 in
set_option maxHeartbeats 32000000 in
theorem rreq_n (w : World) (v : Value) (l : List Int) (h : HB w v l) (hl : 0 < l.length) (hk : hdN (l.getD 0 0) = 0) :
    Calls Try.prog 25 #[v] w fun e w' => DocQ w l e w' ∧ Below w.heap.size w w' := by
  obtain ⟨q, c, e, hlc, hm⟩ := h.open
  have A : Hid (∀ W, Below w.heap.size w W → ∃ b off, q = some ⟨b, off, none⟩ ∧ W.cell? ⟨b, off + 0, none⟩ = some (.int .u8 (l.getD 0 0))) := hid (fun W hW => by
    obtain ⟨b, off, c', e', _, _, hh⟩ := (h.below hW).ne (by omega)
    rw [e] at e'
    simp only [Value.slice.injEq, true_and] at e'
    exact ⟨b, off, e'.1, hh 0 hl⟩)
  subst e
  have HD : Hid (dqP l = some 0) := hid (by unfold dqP; rw [if_pos hk])
  have HK := hid hk
  obtain ⟨W1, HW1⟩ : ∃ W : World, Hid (w.alloc (.cells zreq 38) = W) := ⟨_, hid rfl⟩
  have Z1 : W1.heap.size = w.heap.size + 1 := by rw [← HW1.out]; simp
  obtain ⟨W2, HW2⟩ : ∃ W : World, Hid (W1.alloc (.cells zreq 38) = W) := ⟨_, hid rfl⟩
  have B1 : Below w.heap.size w W1 := by rw [← HW1.out]; exact (Below.refl _ w).alloc (Nat.le_refl _) _
  have B2' : Below W1.heap.size W1 W2 := by rw [← HW2.out]; exact (Below.refl _ W1).alloc (Nat.le_refl _) _
  have B2 : Hid (Below w.heap.size w W2) := hid (B1.trans (B2'.mono B1.size))
  have x0 : W1.heap[w.heap.size]? = some (.cells zrq 38 (0, 0)) := by rw [← HW1.out]; exact heap_alloc_new w _
  have X0 : Hid (W2.heap[w.heap.size]? = some (.cells zrq 38 (0, 0))) := hid ((B2'.block _ (by omega)).trans x0)
  have x1 : W2.heap[w.heap.size + 1]? = some (.cells zrq 38 (0, 0)) := by rw [← Z1, ← HW2.out]; exact heap_alloc_new W1 _
  have RG1 : Hid (W2.rangeAt (w.heap.size + 1) 0 zrq.toList) := hid (fun j v hj => by rw [cell_of_row _ _ _ _ _ _ x1, Nat.zero_add, ← Array.getElem?_toList]; exact hj)
  have ANS : Hid ((W2.setRow w.heap.size zrq).heap[w.heap.size]? = some (.cells zrq 38 (0, 0)) ∧ Below w.heap.size w (W2.setRow w.heap.size zrq)) := hid ⟨setRow_heap _ _ _ _ _ _ X0.out, B2.out.trans ((ex_setRow (Ex.refl (fun k => k = w.heap.size) W2) rfl zrq).below B2.out.size (fun k e => by omega))⟩
  have SR : Hid ((Try.prog.info? 38).map (·.size) = some 23) := hid (by kernel_rfl)
  have HZ1 := hid Z1
  obtain ⟨b, off, rfl, a0⟩ := A.out W2 B2.out
  have a0' : W2.cell? ⟨b, off, none⟩ = some (.int .u8 (l.getD 0 0)) := a0
  generalize l.getD 0 0 = k at a0' HK
  have hl1 : (0 : Int) < (l.length : Int) := by omega
  have hl0 : ¬ ((l.length : Int) = 0) := by omega
  have hl0' : ¬ (l.length = 0) := by omega
  have hl0'' : ¬ (l = []) := fun e => by rw [e] at hl; simp at hl
  have CH : Hid (∀ W, Calls Try.prog 48 #[.int .u8 k] W fun e w' => e = .returned (.int .i64 0) ∧ w' = W) := hid (fun W => by have := rhead_any W k; rw [HK.out] at this; exact this)
  clear A x0 x1 B2' B1 Z1 a0 h hlc hk
  go_enter Try.func25, Try.ntmps25
  refine wp_seq_k fun K0 h0 => ?_
  have H0 := hid h0
  clear h0
  go_wp2
  rw [HW1.out]
  refine H0.out _ _ ?_
  refine wp_seq_k fun K0 h0 => ?_
  have H0 := hid h0
  clear h0
  go_wp2
  rw [HW2.out, HZ1.out]
  refine H0.out _ _ ?_
  go_wp2_with fail
  refine (CH.out _).mono ?_
  rintro e w' ⟨rfl, rfl⟩
  go_wp2_with (first | (refine wpList_load_mid rfl 38 _ rfl (w.heap.size + 1) 0 rfl zrq.toList _ RG1.out Try.underlying38 rfl SR.out ?_; rw [Array.toArray_toList]) | (refine wpList_store_row rfl 38 _ _ rfl w.heap.size zrq rfl rfl 38 zrq X0.out SR.out rfl zrq_one ?_) | fail)
  refine bodyPost_ret (v := .tuple #[.agg zrq, .int .i64 0, .int .i64 200]) (results_cellTT (p := 2) (q := 3) (q' := 4) (ty := 38) rfl _ _ w.heap.size 38 _ (0, 0) _ _ _ rfl rfl rfl ANS.out.1 Try.underlying38 rfl SR.out) rfl ?_
  exact ⟨.inl ⟨0, HD.out, rfl⟩, ANS.out.2⟩
set_option maxRecDepth 100000 in
set_option maxHeartbeats 32000000 in
theorem rreq_s1 (w : World) (v : Value) (l : List Int) (h : HB w v l) (hl : 0 < l.length) (hk : l.getD 0 0 = 1) (hs : l.length < 17) :
    Calls Try.prog 25 #[v] w fun e w' => DocQ w l e w' ∧ Below w.heap.size w w' := by
  obtain ⟨q, c, e, hlc, hm⟩ := h.open
  have A : Hid (∀ W, Below w.heap.size w W → ∃ b off, q = some ⟨b, off, none⟩ ∧ W.cell? ⟨b, off + 0, none⟩ = some (.int .u8 (l.getD 0 0))) := hid (fun W hW => by
    obtain ⟨b, off, c', e', _, _, hh⟩ := (h.below hW).ne (by omega)
    rw [e] at e'
    simp only [Value.slice.injEq, true_and] at e'
    exact ⟨b, off, e'.1, hh 0 hl⟩)
  subst e
  have HD : Hid (dqP l = some (l.length : Int)) := hid (by unfold dqP; rw [hk, if_neg (by decide), if_pos (show l.length < hdN 1 from hs)])
  obtain ⟨W1, HW1⟩ : ∃ W : World, Hid (w.alloc (.cells zreq 38) = W) := ⟨_, hid rfl⟩
  have Z1 : W1.heap.size = w.heap.size + 1 := by rw [← HW1.out]; simp
  obtain ⟨W2, HW2⟩ : ∃ W : World, Hid (W1.alloc (.cells zreq 38) = W) := ⟨_, hid rfl⟩
  have B1 : Below w.heap.size w W1 := by rw [← HW1.out]; exact (Below.refl _ w).alloc (Nat.le_refl _) _
  have B2' : Below W1.heap.size W1 W2 := by rw [← HW2.out]; exact (Below.refl _ W1).alloc (Nat.le_refl _) _
  have B2 : Hid (Below w.heap.size w W2) := hid (B1.trans (B2'.mono B1.size))
  have x0 : W1.heap[w.heap.size]? = some (.cells zrq 38 (0, 0)) := by rw [← HW1.out]; exact heap_alloc_new w _
  have X0 : Hid (W2.heap[w.heap.size]? = some (.cells zrq 38 (0, 0))) := hid ((B2'.block _ (by omega)).trans x0)
  have x1 : W2.heap[w.heap.size + 1]? = some (.cells zrq 38 (0, 0)) := by rw [← Z1, ← HW2.out]; exact heap_alloc_new W1 _
  have RG1 : Hid (W2.rangeAt (w.heap.size + 1) 0 zrq.toList) := hid (fun j v hj => by rw [cell_of_row _ _ _ _ _ _ x1, Nat.zero_add, ← Array.getElem?_toList]; exact hj)
  have ANS : Hid ((W2.setRow w.heap.size zrq).heap[w.heap.size]? = some (.cells zrq 38 (0, 0)) ∧ Below w.heap.size w (W2.setRow w.heap.size zrq)) := hid ⟨setRow_heap _ _ _ _ _ _ X0.out, B2.out.trans ((ex_setRow (Ex.refl (fun k => k = w.heap.size) W2) rfl zrq).below B2.out.size (fun k e => by omega))⟩
  have SR : Hid ((Try.prog.info? 38).map (·.size) = some 23) := hid (by kernel_rfl)
  have HZ1 := hid Z1
  obtain ⟨b, off, rfl, a0⟩ := A.out W2 B2.out
  have a0' : W2.cell? ⟨b, off, none⟩ = some (.int .u8 (l.getD 0 0)) := a0
  rw [hk] at a0'
  have hl1 : (0 : Int) < (l.length : Int) := by omega
  have hl0 : ¬ ((l.length : Int) = 0) := by omega
  have hl0' : ¬ (l.length = 0) := by omega
  have hl0'' : ¬ (l = []) := fun e => by rw [e] at hl; simp at hl
  have CH : Hid (∀ W, Calls Try.prog 48 #[.int .u8 1] W fun e w' => e = .returned (.int .i64 17) ∧ w' = W) := hid (fun W => rhead_any W 1)
  have hs' : (l.length : Int) < 17 := by omega
  clear A x0 x1 B2' B1 Z1 a0 h hlc hk
  go_enter Try.func25, Try.ntmps25
  refine wp_seq_k fun K0 h0 => ?_
  have H0 := hid h0
  clear h0
  go_wp2
  rw [HW1.out]
  refine H0.out _ _ ?_
  refine wp_seq_k fun K0 h0 => ?_
  have H0 := hid h0
  clear h0
  go_wp2
  rw [HW2.out, HZ1.out]
  refine H0.out _ _ ?_
  go_wp2_with fail
  refine (CH.out _).mono ?_
  rintro e w' ⟨rfl, rfl⟩
  go_wp2_with fail
  refine (CH.out _).mono ?_
  rintro e w' ⟨rfl, rfl⟩
  go_wp2_with (first | (refine wpList_load_mid rfl 38 _ rfl (w.heap.size + 1) 0 rfl zrq.toList _ RG1.out Try.underlying38 rfl SR.out ?_; rw [Array.toArray_toList]) | (refine wpList_store_row rfl 38 _ _ rfl w.heap.size zrq rfl rfl 38 zrq X0.out SR.out rfl zrq_one ?_) | fail)
  refine bodyPost_ret (v := .tuple #[.agg zrq, .int .i64 (l.length : Int), .int .i64 200]) (results_cellTT (p := 2) (q := 3) (q' := 4) (ty := 38) rfl _ _ w.heap.size 38 _ (0, 0) _ _ _ rfl rfl rfl ANS.out.1 Try.underlying38 rfl SR.out) rfl ?_
  exact ⟨.inl ⟨(l.length : Int), HD.out, rfl⟩, ANS.out.2⟩
set_option maxRecDepth 100000 in
set_option maxHeartbeats 32000000 in
theorem rreq_s2 (w : World) (v : Value) (l : List Int) (h : HB w v l) (hl : 0 < l.length) (hk : l.getD 0 0 = 2) (hs : l.length < 34) :
    Calls Try.prog 25 #[v] w fun e w' => DocQ w l e w' ∧ Below w.heap.size w w' := by
  obtain ⟨q, c, e, hlc, hm⟩ := h.open
  have A : Hid (∀ W, Below w.heap.size w W → ∃ b off, q = some ⟨b, off, none⟩ ∧ W.cell? ⟨b, off + 0, none⟩ = some (.int .u8 (l.getD 0 0))) := hid (fun W hW => by
    obtain ⟨b, off, c', e', _, _, hh⟩ := (h.below hW).ne (by omega)
    rw [e] at e'
    simp only [Value.slice.injEq, true_and] at e'
    exact ⟨b, off, e'.1, hh 0 hl⟩)
  subst e
  have HD : Hid (dqP l = some (l.length : Int)) := hid (by unfold dqP; rw [hk, if_neg (by decide), if_pos (show l.length < hdN 2 from hs)])
  obtain ⟨W1, HW1⟩ : ∃ W : World, Hid (w.alloc (.cells zreq 38) = W) := ⟨_, hid rfl⟩
  have Z1 : W1.heap.size = w.heap.size + 1 := by rw [← HW1.out]; simp
  obtain ⟨W2, HW2⟩ : ∃ W : World, Hid (W1.alloc (.cells zreq 38) = W) := ⟨_, hid rfl⟩
  have B1 : Below w.heap.size w W1 := by rw [← HW1.out]; exact (Below.refl _ w).alloc (Nat.le_refl _) _
  have B2' : Below W1.heap.size W1 W2 := by rw [← HW2.out]; exact (Below.refl _ W1).alloc (Nat.le_refl _) _
  have B2 : Hid (Below w.heap.size w W2) := hid (B1.trans (B2'.mono B1.size))
  have x0 : W1.heap[w.heap.size]? = some (.cells zrq 38 (0, 0)) := by rw [← HW1.out]; exact heap_alloc_new w _
  have X0 : Hid (W2.heap[w.heap.size]? = some (.cells zrq 38 (0, 0))) := hid ((B2'.block _ (by omega)).trans x0)
  have x1 : W2.heap[w.heap.size + 1]? = some (.cells zrq 38 (0, 0)) := by rw [← Z1, ← HW2.out]; exact heap_alloc_new W1 _
  have RG1 : Hid (W2.rangeAt (w.heap.size + 1) 0 zrq.toList) := hid (fun j v hj => by rw [cell_of_row _ _ _ _ _ _ x1, Nat.zero_add, ← Array.getElem?_toList]; exact hj)
  have ANS : Hid ((W2.setRow w.heap.size zrq).heap[w.heap.size]? = some (.cells zrq 38 (0, 0)) ∧ Below w.heap.size w (W2.setRow w.heap.size zrq)) := hid ⟨setRow_heap _ _ _ _ _ _ X0.out, B2.out.trans ((ex_setRow (Ex.refl (fun k => k = w.heap.size) W2) rfl zrq).below B2.out.size (fun k e => by omega))⟩
  have SR : Hid ((Try.prog.info? 38).map (·.size) = some 23) := hid (by kernel_rfl)
  have HZ1 := hid Z1
  obtain ⟨b, off, rfl, a0⟩ := A.out W2 B2.out
  have a0' : W2.cell? ⟨b, off, none⟩ = some (.int .u8 (l.getD 0 0)) := a0
  rw [hk] at a0'
  have hl1 : (0 : Int) < (l.length : Int) := by omega
  have hl0 : ¬ ((l.length : Int) = 0) := by omega
  have hl0' : ¬ (l.length = 0) := by omega
  have hl0'' : ¬ (l = []) := fun e => by rw [e] at hl; simp at hl
  have CH : Hid (∀ W, Calls Try.prog 48 #[.int .u8 2] W fun e w' => e = .returned (.int .i64 34) ∧ w' = W) := hid (fun W => rhead_any W 2)
  have hs' : (l.length : Int) < 34 := by omega
  clear A x0 x1 B2' B1 Z1 a0 h hlc hk
  go_enter Try.func25, Try.ntmps25
  refine wp_seq_k fun K0 h0 => ?_
  have H0 := hid h0
  clear h0
  go_wp2
  rw [HW1.out]
  refine H0.out _ _ ?_
  refine wp_seq_k fun K0 h0 => ?_
  have H0 := hid h0
  clear h0
  go_wp2
  rw [HW2.out, HZ1.out]
  refine H0.out _ _ ?_
  go_wp2_with fail
  refine (CH.out _).mono ?_
  rintro e w' ⟨rfl, rfl⟩
  go_wp2_with fail
  refine (CH.out _).mono ?_
  rintro e w' ⟨rfl, rfl⟩
  go_wp2_with (first | (refine wpList_load_mid rfl 38 _ rfl (w.heap.size + 1) 0 rfl zrq.toList _ RG1.out Try.underlying38 rfl SR.out ?_; rw [Array.toArray_toList]) | (refine wpList_store_row rfl 38 _ _ rfl w.heap.size zrq rfl rfl 38 zrq X0.out SR.out rfl zrq_one ?_) | fail)
  refine bodyPost_ret (v := .tuple #[.agg zrq, .int .i64 (l.length : Int), .int .i64 200]) (results_cellTT (p := 2) (q := 3) (q' := 4) (ty := 38) rfl _ _ w.heap.size 38 _ (0, 0) _ _ _ rfl rfl rfl ANS.out.1 Try.underlying38 rfl SR.out) rfl ?_
  exact ⟨.inl ⟨(l.length : Int), HD.out, rfl⟩, ANS.out.2⟩
set_option maxRecDepth 100000 in
set_option maxHeartbeats 32000000 in
theorem rreq_s3 (w : World) (v : Value) (l : List Int) (h : HB w v l) (hl : 0 < l.length) (hk : l.getD 0 0 = 3) (hs : l.length < 26) :
    Calls Try.prog 25 #[v] w fun e w' => DocQ w l e w' ∧ Below w.heap.size w w' := by
  obtain ⟨q, c, e, hlc, hm⟩ := h.open
  have A : Hid (∀ W, Below w.heap.size w W → ∃ b off, q = some ⟨b, off, none⟩ ∧ W.cell? ⟨b, off + 0, none⟩ = some (.int .u8 (l.getD 0 0))) := hid (fun W hW => by
    obtain ⟨b, off, c', e', _, _, hh⟩ := (h.below hW).ne (by omega)
    rw [e] at e'
    simp only [Value.slice.injEq, true_and] at e'
    exact ⟨b, off, e'.1, hh 0 hl⟩)
  subst e
  have HD : Hid (dqP l = some (l.length : Int)) := hid (by unfold dqP; rw [hk, if_neg (by decide), if_pos (show l.length < hdN 3 from hs)])
  obtain ⟨W1, HW1⟩ : ∃ W : World, Hid (w.alloc (.cells zreq 38) = W) := ⟨_, hid rfl⟩
  have Z1 : W1.heap.size = w.heap.size + 1 := by rw [← HW1.out]; simp
  obtain ⟨W2, HW2⟩ : ∃ W : World, Hid (W1.alloc (.cells zreq 38) = W) := ⟨_, hid rfl⟩
  have B1 : Below w.heap.size w W1 := by rw [← HW1.out]; exact (Below.refl _ w).alloc (Nat.le_refl _) _
  have B2' : Below W1.heap.size W1 W2 := by rw [← HW2.out]; exact (Below.refl _ W1).alloc (Nat.le_refl _) _
  have B2 : Hid (Below w.heap.size w W2) := hid (B1.trans (B2'.mono B1.size))
  have x0 : W1.heap[w.heap.size]? = some (.cells zrq 38 (0, 0)) := by rw [← HW1.out]; exact heap_alloc_new w _
  have X0 : Hid (W2.heap[w.heap.size]? = some (.cells zrq 38 (0, 0))) := hid ((B2'.block _ (by omega)).trans x0)
  have x1 : W2.heap[w.heap.size + 1]? = some (.cells zrq 38 (0, 0)) := by rw [← Z1, ← HW2.out]; exact heap_alloc_new W1 _
  have RG1 : Hid (W2.rangeAt (w.heap.size + 1) 0 zrq.toList) := hid (fun j v hj => by rw [cell_of_row _ _ _ _ _ _ x1, Nat.zero_add, ← Array.getElem?_toList]; exact hj)
  have ANS : Hid ((W2.setRow w.heap.size zrq).heap[w.heap.size]? = some (.cells zrq 38 (0, 0)) ∧ Below w.heap.size w (W2.setRow w.heap.size zrq)) := hid ⟨setRow_heap _ _ _ _ _ _ X0.out, B2.out.trans ((ex_setRow (Ex.refl (fun k => k = w.heap.size) W2) rfl zrq).below B2.out.size (fun k e => by omega))⟩
  have SR : Hid ((Try.prog.info? 38).map (·.size) = some 23) := hid (by kernel_rfl)
  have HZ1 := hid Z1
  obtain ⟨b, off, rfl, a0⟩ := A.out W2 B2.out
  have a0' : W2.cell? ⟨b, off, none⟩ = some (.int .u8 (l.getD 0 0)) := a0
  rw [hk] at a0'
  have hl1 : (0 : Int) < (l.length : Int) := by omega
  have hl0 : ¬ ((l.length : Int) = 0) := by omega
  have hl0' : ¬ (l.length = 0) := by omega
  have hl0'' : ¬ (l = []) := fun e => by rw [e] at hl; simp at hl
  have CH : Hid (∀ W, Calls Try.prog 48 #[.int .u8 3] W fun e w' => e = .returned (.int .i64 26) ∧ w' = W) := hid (fun W => rhead_any W 3)
  have hs' : (l.length : Int) < 26 := by omega
  clear A x0 x1 B2' B1 Z1 a0 h hlc hk
  go_enter Try.func25, Try.ntmps25
  refine wp_seq_k fun K0 h0 => ?_
  have H0 := hid h0
  clear h0
  go_wp2
  rw [HW1.out]
  refine H0.out _ _ ?_
  refine wp_seq_k fun K0 h0 => ?_
  have H0 := hid h0
  clear h0
  go_wp2
  rw [HW2.out, HZ1.out]
  refine H0.out _ _ ?_
  go_wp2_with fail
  refine (CH.out _).mono ?_
  rintro e w' ⟨rfl, rfl⟩
  go_wp2_with fail
  refine (CH.out _).mono ?_
  rintro e w' ⟨rfl, rfl⟩
  go_wp2_with (first | (refine wpList_load_mid rfl 38 _ rfl (w.heap.size + 1) 0 rfl zrq.toList _ RG1.out Try.underlying38 rfl SR.out ?_; rw [Array.toArray_toList]) | (refine wpList_store_row rfl 38 _ _ rfl w.heap.size zrq rfl rfl 38 zrq X0.out SR.out rfl zrq_one ?_) | fail)
  refine bodyPost_ret (v := .tuple #[.agg zrq, .int .i64 (l.length : Int), .int .i64 200]) (results_cellTT (p := 2) (q := 3) (q' := 4) (ty := 38) rfl _ _ w.heap.size 38 _ (0, 0) _ _ _ rfl rfl rfl ANS.out.1 Try.underlying38 rfl SR.out) rfl ?_
  exact ⟨.inl ⟨(l.length : Int), HD.out, rfl⟩, ANS.out.2⟩
set_option maxRecDepth 100000 in
set_option maxHeartbeats 32000000 in
theorem rreq_s4 (w : World) (v : Value) (l : List Int) (h : HB w v l) (hl : 0 < l.length) (hk : l.getD 0 0 = 4) (hs : l.length < 29) :
    Calls Try.prog 25 #[v] w fun e w' => DocQ w l e w' ∧ Below w.heap.size w w' := by
  obtain ⟨q, c, e, hlc, hm⟩ := h.open
  have A : Hid (∀ W, Below w.heap.size w W → ∃ b off, q = some ⟨b, off, none⟩ ∧ W.cell? ⟨b, off + 0, none⟩ = some (.int .u8 (l.getD 0 0))) := hid (fun W hW => by
    obtain ⟨b, off, c', e', _, _, hh⟩ := (h.below hW).ne (by omega)
    rw [e] at e'
    simp only [Value.slice.injEq, true_and] at e'
    exact ⟨b, off, e'.1, hh 0 hl⟩)
  subst e
  have HD : Hid (dqP l = some (l.length : Int)) := hid (by unfold dqP; rw [hk, if_neg (by decide), if_pos (show l.length < hdN 4 from hs)])
  obtain ⟨W1, HW1⟩ : ∃ W : World, Hid (w.alloc (.cells zreq 38) = W) := ⟨_, hid rfl⟩
  have Z1 : W1.heap.size = w.heap.size + 1 := by rw [← HW1.out]; simp
  obtain ⟨W2, HW2⟩ : ∃ W : World, Hid (W1.alloc (.cells zreq 38) = W) := ⟨_, hid rfl⟩
  have B1 : Below w.heap.size w W1 := by rw [← HW1.out]; exact (Below.refl _ w).alloc (Nat.le_refl _) _
  have B2' : Below W1.heap.size W1 W2 := by rw [← HW2.out]; exact (Below.refl _ W1).alloc (Nat.le_refl _) _
  have B2 : Hid (Below w.heap.size w W2) := hid (B1.trans (B2'.mono B1.size))
  have x0 : W1.heap[w.heap.size]? = some (.cells zrq 38 (0, 0)) := by rw [← HW1.out]; exact heap_alloc_new w _
  have X0 : Hid (W2.heap[w.heap.size]? = some (.cells zrq 38 (0, 0))) := hid ((B2'.block _ (by omega)).trans x0)
  have x1 : W2.heap[w.heap.size + 1]? = some (.cells zrq 38 (0, 0)) := by rw [← Z1, ← HW2.out]; exact heap_alloc_new W1 _
  have RG1 : Hid (W2.rangeAt (w.heap.size + 1) 0 zrq.toList) := hid (fun j v hj => by rw [cell_of_row _ _ _ _ _ _ x1, Nat.zero_add, ← Array.getElem?_toList]; exact hj)
  have ANS : Hid ((W2.setRow w.heap.size zrq).heap[w.heap.size]? = some (.cells zrq 38 (0, 0)) ∧ Below w.heap.size w (W2.setRow w.heap.size zrq)) := hid ⟨setRow_heap _ _ _ _ _ _ X0.out, B2.out.trans ((ex_setRow (Ex.refl (fun k => k = w.heap.size) W2) rfl zrq).below B2.out.size (fun k e => by omega))⟩
  have SR : Hid ((Try.prog.info? 38).map (·.size) = some 23) := hid (by kernel_rfl)
  have HZ1 := hid Z1
  obtain ⟨b, off, rfl, a0⟩ := A.out W2 B2.out
  have a0' : W2.cell? ⟨b, off, none⟩ = some (.int .u8 (l.getD 0 0)) := a0
  rw [hk] at a0'
  have hl1 : (0 : Int) < (l.length : Int) := by omega
  have hl0 : ¬ ((l.length : Int) = 0) := by omega
  have hl0' : ¬ (l.length = 0) := by omega
  have hl0'' : ¬ (l = []) := fun e => by rw [e] at hl; simp at hl
  have CH : Hid (∀ W, Calls Try.prog 48 #[.int .u8 4] W fun e w' => e = .returned (.int .i64 29) ∧ w' = W) := hid (fun W => rhead_any W 4)
  have hs' : (l.length : Int) < 29 := by omega
  clear A x0 x1 B2' B1 Z1 a0 h hlc hk
  go_enter Try.func25, Try.ntmps25
  refine wp_seq_k fun K0 h0 => ?_
  have H0 := hid h0
  clear h0
  go_wp2
  rw [HW1.out]
  refine H0.out _ _ ?_
  refine wp_seq_k fun K0 h0 => ?_
  have H0 := hid h0
  clear h0
  go_wp2
  rw [HW2.out, HZ1.out]
  refine H0.out _ _ ?_
  go_wp2_with fail
  refine (CH.out _).mono ?_
  rintro e w' ⟨rfl, rfl⟩
  go_wp2_with fail
  refine (CH.out _).mono ?_
  rintro e w' ⟨rfl, rfl⟩
  go_wp2_with (first | (refine wpList_load_mid rfl 38 _ rfl (w.heap.size + 1) 0 rfl zrq.toList _ RG1.out Try.underlying38 rfl SR.out ?_; rw [Array.toArray_toList]) | (refine wpList_store_row rfl 38 _ _ rfl w.heap.size zrq rfl rfl 38 zrq X0.out SR.out rfl zrq_one ?_) | fail)
  refine bodyPost_ret (v := .tuple #[.agg zrq, .int .i64 (l.length : Int), .int .i64 200]) (results_cellTT (p := 2) (q := 3) (q' := 4) (ty := 38) rfl _ _ w.heap.size 38 _ (0, 0) _ _ _ rfl rfl rfl ANS.out.1 Try.underlying38 rfl SR.out) rfl ?_
  exact ⟨.inl ⟨(l.length : Int), HD.out, rfl⟩, ANS.out.2⟩
set_option maxRecDepth 100000 in
set_option maxHeartbeats 32000000 in
theorem rreq_s5 (w : World) (v : Value) (l : List Int) (h : HB w v l) (hl : 0 < l.length) (hk : l.getD 0 0 = 5) (hs : l.length < 21) :
    Calls Try.prog 25 #[v] w fun e w' => DocQ w l e w' ∧ Below w.heap.size w w' := by
  obtain ⟨q, c, e, hlc, hm⟩ := h.open
  have A : Hid (∀ W, Below w.heap.size w W → ∃ b off, q = some ⟨b, off, none⟩ ∧ W.cell? ⟨b, off + 0, none⟩ = some (.int .u8 (l.getD 0 0))) := hid (fun W hW => by
    obtain ⟨b, off, c', e', _, _, hh⟩ := (h.below hW).ne (by omega)
    rw [e] at e'
    simp only [Value.slice.injEq, true_and] at e'
    exact ⟨b, off, e'.1, hh 0 hl⟩)
  subst e
  have HD : Hid (dqP l = some (l.length : Int)) := hid (by unfold dqP; rw [hk, if_neg (by decide), if_pos (show l.length < hdN 5 from hs)])
  obtain ⟨W1, HW1⟩ : ∃ W : World, Hid (w.alloc (.cells zreq 38) = W) := ⟨_, hid rfl⟩
  have Z1 : W1.heap.size = w.heap.size + 1 := by rw [← HW1.out]; simp
  obtain ⟨W2, HW2⟩ : ∃ W : World, Hid (W1.alloc (.cells zreq 38) = W) := ⟨_, hid rfl⟩
  have B1 : Below w.heap.size w W1 := by rw [← HW1.out]; exact (Below.refl _ w).alloc (Nat.le_refl _) _
  have B2' : Below W1.heap.size W1 W2 := by rw [← HW2.out]; exact (Below.refl _ W1).alloc (Nat.le_refl _) _
  have B2 : Hid (Below w.heap.size w W2) := hid (B1.trans (B2'.mono B1.size))
  have x0 : W1.heap[w.heap.size]? = some (.cells zrq 38 (0, 0)) := by rw [← HW1.out]; exact heap_alloc_new w _
  have X0 : Hid (W2.heap[w.heap.size]? = some (.cells zrq 38 (0, 0))) := hid ((B2'.block _ (by omega)).trans x0)
  have x1 : W2.heap[w.heap.size + 1]? = some (.cells zrq 38 (0, 0)) := by rw [← Z1, ← HW2.out]; exact heap_alloc_new W1 _
  have RG1 : Hid (W2.rangeAt (w.heap.size + 1) 0 zrq.toList) := hid (fun j v hj => by rw [cell_of_row _ _ _ _ _ _ x1, Nat.zero_add, ← Array.getElem?_toList]; exact hj)
  have ANS : Hid ((W2.setRow w.heap.size zrq).heap[w.heap.size]? = some (.cells zrq 38 (0, 0)) ∧ Below w.heap.size w (W2.setRow w.heap.size zrq)) := hid ⟨setRow_heap _ _ _ _ _ _ X0.out, B2.out.trans ((ex_setRow (Ex.refl (fun k => k = w.heap.size) W2) rfl zrq).below B2.out.size (fun k e => by omega))⟩
  have SR : Hid ((Try.prog.info? 38).map (·.size) = some 23) := hid (by kernel_rfl)
  have HZ1 := hid Z1
  obtain ⟨b, off, rfl, a0⟩ := A.out W2 B2.out
  have a0' : W2.cell? ⟨b, off, none⟩ = some (.int .u8 (l.getD 0 0)) := a0
  rw [hk] at a0'
  have hl1 : (0 : Int) < (l.length : Int) := by omega
  have hl0 : ¬ ((l.length : Int) = 0) := by omega
  have hl0' : ¬ (l.length = 0) := by omega
  have hl0'' : ¬ (l = []) := fun e => by rw [e] at hl; simp at hl
  have CH : Hid (∀ W, Calls Try.prog 48 #[.int .u8 5] W fun e w' => e = .returned (.int .i64 21) ∧ w' = W) := hid (fun W => rhead_any W 5)
  have hs' : (l.length : Int) < 21 := by omega
  clear A x0 x1 B2' B1 Z1 a0 h hlc hk
  go_enter Try.func25, Try.ntmps25
  refine wp_seq_k fun K0 h0 => ?_
  have H0 := hid h0
  clear h0
  go_wp2
  rw [HW1.out]
  refine H0.out _ _ ?_
  refine wp_seq_k fun K0 h0 => ?_
  have H0 := hid h0
  clear h0
  go_wp2
  rw [HW2.out, HZ1.out]
  refine H0.out _ _ ?_
  go_wp2_with fail
  refine (CH.out _).mono ?_
  rintro e w' ⟨rfl, rfl⟩
  go_wp2_with fail
  refine (CH.out _).mono ?_
  rintro e w' ⟨rfl, rfl⟩
  go_wp2_with (first | (refine wpList_load_mid rfl 38 _ rfl (w.heap.size + 1) 0 rfl zrq.toList _ RG1.out Try.underlying38 rfl SR.out ?_; rw [Array.toArray_toList]) | (refine wpList_store_row rfl 38 _ _ rfl w.heap.size zrq rfl rfl 38 zrq X0.out SR.out rfl zrq_one ?_) | fail)
  refine bodyPost_ret (v := .tuple #[.agg zrq, .int .i64 (l.length : Int), .int .i64 200]) (results_cellTT (p := 2) (q := 3) (q' := 4) (ty := 38) rfl _ _ w.heap.size 38 _ (0, 0) _ _ _ rfl rfl rfl ANS.out.1 Try.underlying38 rfl SR.out) rfl ?_
  exact ⟨.inl ⟨(l.length : Int), HD.out, rfl⟩, ANS.out.2⟩
set_option maxRecDepth 100000 in
set_option maxHeartbeats 32000000 in
theorem rreq_1 (w : World) (v : Value) (l : List Int) (h : HB w v l) (hbig : l.length ≤ 140737488355328) (hk : l.getD 0 0 = 1) (hl : 17 ≤ l.length) :
    Calls Try.prog 25 #[v] w fun e w' => DocQ w l e w' ∧ Below w.heap.size w w' := by
  obtain ⟨q, c, e, hlc, hm⟩ := h.open
  have hby := h.byte
  have A : Hid (∀ W, Below w.heap.size w W → ∀ j, j < l.length → ∃ b off, q = some ⟨b, off, none⟩ ∧ W.cell? ⟨b, off + j, none⟩ = some (.int .u8 (l.getD j 0))) := hid (fun W hW j hj => by
    obtain ⟨b, off, c', e', _, _, hh⟩ := (h.below hW).ne (by omega)
    rw [e] at e'
    simp only [Value.slice.injEq, true_and] at e'
    exact ⟨b, off, e'.1, hh j hj⟩)
  subst e
  obtain ⟨b, off, rfl, -⟩ := A.out w (Below.refl _ _) 0 (by omega)
  have A' : Hid (∀ W, Below w.heap.size w W → ∀ j, j < l.length → W.cell? ⟨b, off + j, none⟩ = some (.int .u8 (l.getD j 0))) := hid (fun W hW j hj => by
    obtain ⟨b', off', e', hh⟩ := A.out W hW j hj
    cases e'
    exact hh)
  have VB : Hid (∀ W, Below w.heap.size w W → HB W (.slice (some ⟨b, off, none⟩) l.length c) l) := hid (fun W hW => h.below hW)
  have HL := hid hl
  have HBY := hid hby
  have HBY2 := hid h.2
  obtain ⟨W1, HW1⟩ : ∃ W : World, Hid (w.alloc (.cells zreq 38) = W) := ⟨_, hid rfl⟩
  have Z1 : W1.heap.size = w.heap.size + 1 := by rw [← HW1.out]; simp
  obtain ⟨W2, HW2⟩ : ∃ W : World, Hid (W1.alloc (.cells zreq 38) = W) := ⟨_, hid rfl⟩
  have Z2 : W2.heap.size = w.heap.size + 2 := by rw [← HW2.out]; simp [Z1]
  obtain ⟨WA, HWA⟩ : ∃ W : World, Hid (W2.alloc (.cells zreq 38) = W) := ⟨_, hid rfl⟩
  obtain ⟨m0, HM0⟩ : ∃ m, Hid (rqA ⟨1, ixI l 0, 0, 0, 0, 0, 0⟩ nlS = m) := ⟨_, hid rfl⟩
  obtain ⟨W3, HW3⟩ : ∃ W : World, Hid (WA.setRow (w.heap.size + 2) m0 = W) := ⟨_, hid rfl⟩
  have B1 : Below w.heap.size w W1 := by rw [← HW1.out]; exact (Below.refl _ w).alloc (Nat.le_refl _) _
  have B2' : Below W1.heap.size W1 W2 := by rw [← HW2.out]; exact (Below.refl _ W1).alloc (Nat.le_refl _) _
  have B3' : Below W2.heap.size W2 WA := by rw [← HWA.out]; exact (Below.refl _ W2).alloc (Nat.le_refl _) _
  have B2 : Hid (Below w.heap.size w W2) := hid (B1.trans (B2'.mono B1.size))
  have x0 : W1.heap[w.heap.size]? = some (.cells zreq 38 (0, 0)) := by rw [← HW1.out]; exact heap_alloc_new w _
  have x0b : W2.heap[w.heap.size]? = some (.cells zreq 38 (0, 0)) := (B2'.block _ (by omega)).trans x0
  have x1 : W2.heap[w.heap.size + 1]? = some (.cells zreq 38 (0, 0)) := by rw [← Z1, ← HW2.out]; exact heap_alloc_new W1 _
  have xA : WA.heap[w.heap.size + 2]? = some (.cells zreq 38 (0, 0)) := by rw [← Z2, ← HWA.out]; exact heap_alloc_new W2 _
  have HXA := hid xA
  have xk : ∀ i, i ≠ w.heap.size + 2 → W3.heap[i]? = WA.heap[i]? := fun i hi => by rw [← HW3.out]; simp [World.setRow, Array.getElem?_modify, show w.heap.size + 2 ≠ i from fun e => hi e.symm]
  have x3 : W3.heap[w.heap.size + 2]? = some (.cells m0 38 (0, 0)) := by rw [← HW3.out]; exact setRow_heap _ _ _ _ _ _ xA
  have S3 : Hid (RS w W3 ⟨1, ixI l 0, 0, 0, 0, 0, 0⟩ nlS) := hid ⟨(xk _ (by omega)).trans ((B3'.block _ (by omega)).trans x0b), (xk _ (by omega)).trans ((B3'.block _ (by omega)).trans x1), by rw [HM0.out]; exact x3, by
    have q1 := B2.out.trans (B3'.mono B2.out.size)
    refine q1.trans ?_
    rw [← HW3.out]
    exact (ex_setRow (Ex.refl (fun k => k = w.heap.size + 2) WA) rfl m0).below q1.size (fun k e => by omega)⟩
  have HZ1 := hid Z1
  have HZ2 := hid Z2
  have a0 := A'.out W2 B2.out 0 (by omega)
  rw [hk] at a0
  have CH : Hid (∀ W, Calls Try.prog 48 #[.int .u8 1] W fun e w' => e = .returned (.int .i64 17) ∧ w' = W) := hid (fun W => rhead_any W 1)
  have hb0 : Hid (∀ W, (Instr.build 38 #[(0, .int .u8 1)]).run Try.prog W = .ok (.agg m0) W) := hid (fun W => by
    rw [← HM0.out, show ixI l 0 = List.replicate 16 0 by simp [ixI]]
    kernel_rfl)
  have SR : Hid ((Try.prog.info? 38).map (·.size) = some 23) := hid (by kernel_rfl)
  have hm0 : Hid (m0.size = 23) := hid (by rw [← HM0.out]; exact rqA_size ⟨ixI_len l 0 (by omega) (by omega), fun x hx => by simp [ixI] at hx; omega⟩ _)
  have hm1 : Hid (m0.all (·.oneCell') = true) := hid (by rw [← HM0.out]; exact rqA_one _ _ rfl)
  have hl1 : (0 : Int) < (l.length : Int) := by omega
  have hln : ¬ ((l.length : Int) < 17) := by omega
  have hl0 : ¬ ((l.length : Int) = 0) := by omega
  have hl0' : ¬ (l.length = 0) := by omega
  have hl0'' : ¬ (l = []) := fun e => by rw [e] at hl; simp at hl
  have a0' : W2.cell? ⟨b, off, none⟩ = some (.int .u8 1) := a0
  clear A x0 x0b x1 B2' B3' B1 Z1 Z2 h xA xk x3 a0
  go_enter Try.func25, Try.ntmps25
  refine wp_seq_k fun K0 h0 => ?_
  have H0 := hid h0
  clear h0
  go_wp2
  rw [HW1.out]
  refine H0.out _ _ ?_
  refine wp_seq_k fun K0 h0 => ?_
  have H0 := hid h0
  clear h0
  go_wp2
  rw [HW2.out, HZ1.out]
  refine H0.out _ _ ?_
  go_wp2_with fail
  refine (CH.out _).mono ?_
  rintro e w' ⟨rfl, rfl⟩
  go_wp2_with fail
  refine (CH.out _).mono ?_
  rintro e w' ⟨rfl, rfl⟩
  go_wp2_with (first | (refine wpList_buildQ rfl 38 _ rfl #[(0, .int .u8 1)] (by go_simp) _ (hb0.out _) ?_) | rw [HWA.out, HZ2.out] | (refine wpList_store_row rfl 38 _ _ rfl (w.heap.size + 2) m0 rfl rfl 38 zrq HXA.out (by rw [hm0.out]; exact SR.out) (by rw [zrq_size, hm0.out]) hm1.out ?_) | rw [HW3.out] | fail)
  go_loopw [8] (fun i wr => ∃ j : Nat, j ≤ 16 ∧ i = .int .i64 (j : Int) ∧ Hid (RS w wr ⟨1, ixI l j, 0, 0, 0, 0, 0⟩ nlS)) (fun i _ => 16 - (intOf i).toNat)
  case atStart => exact ⟨0, by omega, rfl, S3⟩
  case round =>
    obtain ⟨j, hj, rfl, HS⟩ := hrel
    by_cases hlt : j < 16
    · have ca := A'.out wr HS.out.bel (1 + j) (by omega)
      have h16 := ixI_len l j hj (by omega)
      have cs : wr.cell? ⟨w.heap.size + 2, 1 + j, none⟩ = some (.int .u8 ((ixI l j)[j]'(by omega))) := HS.out.cell (by
        unfold rqA rqL
        rw [List.getElem?_toArray, Nat.add_comm 1 j, List.getElem?_cons_succ, List.getElem?_append_left (by rw [List.length_map]; show j < (ixI l j).length; omega), List.getElem?_map, List.getElem?_eq_getElem (show j < (ixI l j).length by omega)]
        rfl)
      have fr := HS.out.fr (1 + j)
      have SN := hid (HS.out.set (1 + j) (.int .u8 (l.getD (1 + j) 0)) (rqA_ix _ _ _ _ _ _ _ _ j hlt _ h16))
      rw [ixI_set l j hlt (by omega)] at SN
      have w3 : IntKind.i64.wrap (1 + (j : Int)) = ((1 + j : Nat) : Int) := by rw [IntKind.wrap_i64]; omega
      have hjl : 1 + j < l.length := by omega
      have hjl2 : ((1 + j : Nat) : Int) < (l.length : Int) := by omega
      generalize l.getD (1 + j) 0 = y at ca SN
      generalize (ixI l j)[j]'(by omega) = y0 at cs
      clear hl h16
      go_wp2
      exact ⟨⟨j + 1, by omega, by go_num, SN⟩, by simp [intOf]; omega⟩
    · obtain rfl : j = 16 := by omega
      have hk0 : wr.cell? ⟨w.heap.size + 2, 0, none⟩ = some (.int .u8 1) := HS.out.cell rfl
      have hx16 : ixI l 16 = (l.drop 1).take 16 := by simp [ixI]
      rw [hx16] at HS
      have h16 : Hid (((l.drop 1).take 16).length = 16) := hid (by simp; omega)
      obtain ⟨ix, HIX⟩ : ∃ x, Hid ((l.drop 1).take 16 = x) := ⟨_, hid rfl⟩
      rw [HIX.out] at HS h16
      have hwl : IntKind.u64.wrap (l.length : Int) = (l.length : Int) := by rw [IntKind.wrap_u64]; omega
      have hok : Hid (∀ nb pl ln who til, Rq.ok ⟨1, ix, nb, pl, ln, who, til⟩) := hid (fun nb pl ln who til => ⟨h16.out, fun x hx => by
        rw [← HIX.out] at hx
        exact HBY2.out x (List.mem_of_mem_drop (List.mem_of_mem_take hx))⟩)
      clear hj hlt hx16
      have DQ : Hid (dqP l = if l.length < 17 then some (l.length : Int) else if 17 < l.length then some ((17 : Nat) : Int) else none) := hid (by
        unfold dqP dqF dqE
        rw [hk]
        simp only [show ((1 : Int) = 2) = False by simp, show ((1 : Int) = 3) = False by simp, show ((1 : Int) = 4) = False by simp, show ((1 : Int) = 5) = False by simp, show hdN 1 = 17 from rfl, if_true, if_false, or_self, Nat.add_zero]
        rw [if_neg (by omega), if_neg (by omega)])
      have HWR := hid HS.out.bel
      have g0' : ¬ ((l.length : Int) < 17) := by omega
      by_cases g1 : 17 < l.length
      · have g1' : 17 < (l.length : Int) := by omega
        go_wp2_with (first | (refine wpList_load_mid rfl 38 _ rfl (w.heap.size + 1) 0 rfl zrq.toList _ HS.out.rng1 Try.underlying38 rfl SR.out ?_; rw [Array.toArray_toList]) | (refine wpList_store_row rfl 38 _ _ rfl w.heap.size zrq rfl rfl 38 zrq HS.out.x0 SR.out rfl zrq_one ?_) | fail)
        refine bodyPost_ret (v := .tuple #[.agg zrq, .int .i64 (17 : Int), .int .i64 200]) (results_cellTT (p := 2) (q := 3) (q' := 4) (ty := 38) rfl _ _ w.heap.size 38 _ (0, 0) _ _ _ rfl rfl rfl (HS.out.ans _).1 Try.underlying38 rfl SR.out) rfl ?_
        exact ⟨.inl ⟨(17 : Int), by rw [DQ.out]; exact (if_neg (by omega)).trans (if_pos g1), rfl⟩, (HS.out.ans _).2⟩
      have g1' : ¬ (17 < (l.length : Int)) := by omega
      go_wp2_with (first | fail)
      have HVD := hid (HS.out.below ((Below.refl _ wr).drew))
      refine wp_region_last (S := (fun W : World => W.cell? ⟨w.heap.size + 2, 22, none⟩ = some nlS)) 7 (by kernel_rfl) (HVD.out.cell (rqA_22 (hok.out _ _ _ _ _) _)) (fun hHeld => ?_)
      have HS := hid hHeld
      clear hHeld
      change wpAnyL _ _ _ _ _ _ _ _ _ (World.drew _)
      refine wpAnyL_take (i := 0) (v := ?_) rfl (by kernel_rfl) (by kernel_rfl) (by kernel_rfl) (by kernel_rfl) (by kernel_rfl) (fun _ _ _ h => h) (Or.inl ⟨by rfl, ?q0⟩) HS.out ?_
      case q0 => intro w hSw; go_simp; rfl
      simp only [Act.put, List.getElem_toArray, List.getElem_cons_zero, List.getElem_cons_succ, List.setIfInBounds_toArray, List.set_cons_zero, List.set_cons_succ]
      refine wpAnyL_take (i := 1) (v := ?_) rfl (by kernel_rfl) (by kernel_rfl) (by kernel_rfl) (by kernel_rfl) (by kernel_rfl) (fun _ _ _ h => h) (Or.inl ⟨by rfl, ?q1⟩) HS.out ?_
      case q1 => intro w hSw; go_simp; rfl
      simp only [Act.put, List.getElem_toArray, List.getElem_cons_zero, List.getElem_cons_succ, List.setIfInBounds_toArray, List.set_cons_zero, List.set_cons_succ]
      refine wpAnyL_take (i := 2) (v := ?_) rfl (by kernel_rfl) (by kernel_rfl) (by kernel_rfl) (by kernel_rfl) (by kernel_rfl) (fun _ _ _ h => h) (Or.inl ⟨by rfl, ?q2⟩) HS.out ?_
      case q2 => intro w hSw; go_simp; rfl
      simp only [Act.put, List.getElem_toArray, List.getElem_cons_zero, List.getElem_cons_succ, List.setIfInBounds_toArray, List.set_cons_zero, List.set_cons_succ]
      refine wpAnyL_take (i := 3) (v := ?_) rfl (by kernel_rfl) (by kernel_rfl) (by kernel_rfl) (by kernel_rfl) (by kernel_rfl) (fun _ _ _ h => h) (Or.inl ⟨by rfl, ?q3⟩) HS.out ?_
      case q3 => intro w hSw; go_simp; rfl
      simp only [Act.put, List.getElem_toArray, List.getElem_cons_zero, List.getElem_cons_succ, List.setIfInBounds_toArray, List.set_cons_zero, List.set_cons_succ]
      refine wpAnyL_take (i := 4) rfl (by kernel_rfl) (by kernel_rfl) (by kernel_rfl) (by kernel_rfl) (by kernel_rfl) (fun _ _ _ h => h) (yieldsIf_slG (by rfl) 36 _ _ _ (by rw [elmB]; exact Try.underlying36) rfl (.slice (some ⟨b, off, none⟩) l.length c) (some (.int .i64 17)) none rfl rfl rfl _ (fun W _ => slice_lB W (some ⟨b, off, none⟩) l.length c 17 HL.out)) HS.out ?_
      simp only [Act.put, List.getElem_toArray, List.getElem_cons_zero, List.getElem_cons_succ, List.setIfInBounds_toArray, List.set_cons_zero, List.set_cons_succ]
      clear HS
      refine wpAnyL_one (i := 5) (by kernel_rfl) rfl (fun K hK => ?_)
      rw [if_pos (by rfl)]
      refine wp_append_HB _ _ rfl w.heap.size nlS 0 [] rfl (World.ownsRow_nil _ _ _ _) _ (l.drop 17) rfl ((VB.out _ HVD.out.bel).suf 17 HL.out) (by rw [List.length_drop]; omega) (HVD.out.bel.size) (fun v1 U hu hg => ?_)
      have BU : Below (wr.drew).heap.size wr.drew U := (Below.refl _ wr.drew).grown hg (Nat.le_refl _) (fun k e => by cases e)
      have SU := hid (HVD.out.below BU)
      have OU : Hid (U.ownsRow w.heap.size 5 1 v1 (l.drop 17).length ((l.drop 17).map (Value.int .u8))) := hid (by simpa using hu)
      clear hu hg BU
      try simp only [Act.put, List.getElem_toArray, List.getElem_cons_zero, List.getElem_cons_succ, List.setIfInBounds_toArray, List.set_cons_zero, List.set_cons_succ]
      have HS := hid (SU.out.cell (rqA_22 (hok.out _ _ _ _ _) _))
      have UF := SU.out.fr 22
      refine hK.out _ _ (fun _ => HS.out) ?_
      clear hK K
      refine wpAnyL_take (i := 6) (v := ?_) rfl (by kernel_rfl) (by kernel_rfl) (by kernel_rfl) (by kernel_rfl) (by kernel_rfl) (fun _ _ _ h => h) (Or.inl ⟨by rfl, ?q6⟩) HS.out ?_
      case q6 => intro w hSw; go_simp; rfl
      simp only [Act.put, List.getElem_toArray, List.getElem_cons_zero, List.getElem_cons_succ, List.setIfInBounds_toArray, List.set_cons_zero, List.set_cons_succ]
      refine wpAnyL_one (i := 7) (by kernel_rfl) rfl (fun K hK => ?_)
      have cu := HS.out
      obtain ⟨pv, cv, ev⟩ := own_slice OU.out
      rw [ev] at OU ⊢
      obtain ⟨M, HMl⟩ : ∃ x, Hid ((l.drop 17).length = x) := ⟨_, hid rfl⟩
      rw [HMl.out] at OU ⊢
      obtain ⟨U2, HU2⟩ : ∃ W : World, Hid (U.setCell ⟨w.heap.size + 2, 22, none⟩ (.slice pv M cv) = W) := ⟨_, hid rfl⟩
      have SU2 : Hid (RS w U2 ⟨1, ix, 0, 0, 0, 0, 0⟩ (.slice pv M cv)) := by rw [← HU2.out]; exact hid (SU.out.byt h16.out _)
      have OU2 : Hid (U2.ownsRow w.heap.size 5 1 (.slice pv M cv) (l.drop 17).length ((l.drop 17).map (Value.int .u8))) := by
        rw [← HU2.out, HMl.out]
        refine hid (own_of OU.out fun b' hb' => ?_)
        obtain ⟨_, _, cs', q⟩ := own_at OU.out hb'
        have : w.heap.size + 2 ≠ b' := fun e => by
          rw [← e, SU.out.x2] at q
          simp only [Option.some.injEq, Obj.cells.injEq] at q
          exact absurd q.2.1 (by decide)
        simp [World.setCell, Array.getElem?_modify, this]
      clear SU OU HS
      go_simp
      rw [HU2.out]
      refine hK.out _ _ (fun e => absurd rfl e) ?_
      clear hK K
      try simp only [Act.put, List.getElem_toArray, List.getElem_cons_zero, List.getElem_cons_succ, List.setIfInBounds_toArray, List.set_cons_zero, List.set_cons_succ]
      refine wpAnyL_done (by kernel_rfl) ?_ _
      have hsz : Hid ((Try.prog.info? 38).map (·.size) = some (rqA ⟨1, ix, 0, 0, 0, 0, 0⟩ (.slice pv M cv)).toList.length) := hid (by rw [Array.length_toList, rqA_size (hok.out _ _ _ _ _)]; exact SR.out)
      have hsz2 : Hid ((rqA ⟨1, ix, 0, 0, 0, 0, 0⟩ (.slice pv M cv)).size = 23) := hid (rqA_size (hok.out _ _ _ _ _) _)
      have hon : Hid ((rqA ⟨1, ix, 0, 0, 0, 0, 0⟩ (.slice pv M cv)).all (·.oneCell') = true) := hid (rqA_one _ _ rfl)
      have hrr : Hid (dqR l (l.getD 0 0) = ⟨1, ix, 0, 0, 0, 0, 0⟩) := hid (by
        unfold dqR
        rw [hk]
        simp only [show ((1 : Int) = 2) = False by simp, show ((1 : Int) = 3) = False by simp, show ((1 : Int) = 4) = False by simp, show ((1 : Int) = 5) = False by simp, if_true, if_false, or_self, or_true, true_or, HIX.out])
      obtain ⟨mm, HMM⟩ : ∃ x, Hid (rqA ⟨1, ix, 0, 0, 0, 0, 0⟩ (.slice pv M cv) = x) := ⟨_, hid rfl⟩
      have RGE := hid SU2.out.rng
      rw [HMM.out] at hsz hsz2 hon RGE
      go_wp2_with (first | (refine wpList_load_mid rfl 38 _ rfl (w.heap.size + 2) 0 rfl mm.toList _ RGE.out Try.underlying38 rfl hsz.out ?_; rw [Array.toArray_toList]) | (refine wpList_store_row rfl 38 _ _ rfl w.heap.size mm rfl rfl 38 zrq SU2.out.x0 (by rw [hsz2.out]; exact SR.out) (by rw [hsz2.out]; rfl) hon.out ?_) | fail)
      all_goals
        refine bodyPost_ret (v := .tuple #[.agg mm, .int .i64 0, .int .i64 0]) (results_cellTT (p := 2) (q := 3) (q' := 4) (ty := 38) rfl _ _ w.heap.size 38 _ (0, 0) _ _ _ rfl rfl rfl (SU2.out.ans _).1 Try.underlying38 rfl (by rw [hsz2.out]; exact SR.out)) rfl ?_
        refine ⟨.inr ⟨by rw [DQ.out]; exact (if_neg (by omega)).trans (if_neg (by omega)), .slice pv M cv, ?_, ?_⟩, (SU2.out.ans _).2⟩
        · rw [hrr.out, HMM.out]
        · rw [hk]
          exact own_setRow OU2.out SU2.out.x0 (by decide)
end Go.Proofs.Ytgjadpidoaianaa
