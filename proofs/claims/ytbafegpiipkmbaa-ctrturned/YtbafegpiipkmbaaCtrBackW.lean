/- CtrBack, walked. -/
import Derived.Test.YtbafegpiipkmbaaCtrApplyW
import Derived.Test.YtbafegpiipkmbaaCtrKnownLaw
import Derived.Test.YtbafegpiipkmbaaSameBytes
import Derived.Deep.RegionHeld
set_option linter.unusedVariables false
set_option linter.unusedSimpArgs false
namespace Go.Proofs.Ytbafegpiipkmbaa
open Go Go.RowKit Ev

theorem ldk_exec {w : World} {b : Nat} {k : List Nat} {o : Oper} {a : Act} {x : Operand} (h : KeyIn w b k) (hl : k.length = 16) (ho : o.op = .load 23 x) (hx : a.eval x = .pointer (some ⟨b, 0, none⟩)) :
    (execOp a.eval o).run Try.prog w = .ok (.value (.agg (cells8 k))) w := by
  have hr := run_ldk h hl
  simp only [execOp, ho, hx, Sem.run_bind, hr, Result.andThen_ok, Sem.run_pure]
theorem xorB_twice {x y : Int} (hx : 0 ≤ x ∧ x < 256) (hy : 0 ≤ y ∧ y < 256) : xorB (xorB x y) y = x := by
  have h1 := xorB_byt hx hy
  unfold xorB at h1 ⊢
  rw [u8_xor x y hx.1 hx.2 hy.1 hy.2] at h1 ⊢
  rw [u8_xor _ y h1.1 h1.2 hy.1 hy.2, Int.toNat_natCast, Nat.xor_assoc, Nat.xor_self, Nat.xor_zero]
  omega
theorem xorB_zero {y : Int} (hy : 0 ≤ y ∧ y < 256) : xorB 0 y = y := by
  unfold xorB
  rw [u8_xor 0 y (by omega) (by omega) hy.1 hy.2]
  simp
  omega
theorem xorL_twice {l s : List Int} (h : l.length = s.length) (hl : ∀ x ∈ l, 0 ≤ x ∧ x < 256) (hs : ∀ x ∈ s, 0 ≤ x ∧ x < 256) : xorL (xorL l s) s = l := by
  refine List.ext_getElem (by simp [xorL]; omega) fun i h1 h2 => ?_
  simp only [xorL, List.getElem_zipWith]
  exact xorB_twice (hl _ (List.getElem_mem _)) (hs _ (List.getElem_mem _))
theorem xorL_zero {s : List Int} (hs : ∀ x ∈ s, 0 ≤ x ∧ x < 256) : xorL (List.replicate s.length 0) s = s := by
  refine List.ext_getElem (by simp [xorL]) fun i h1 h2 => ?_
  simp only [xorL, List.getElem_zipWith, List.getElem_replicate]
  exact xorB_zero (hs _ (List.getElem_mem _))

set_option maxRecDepth 100000 in
set_option maxHeartbeats 4000000 in
theorem back_long (w : World) (k : List Nat) (p : Int) (v : Value) (l : List Int) (hl : k.length = 16) (hv : HB w v l) (hlong : ¬ l.length ≤ 3000) :
    Calls Try.prog 6 #[.agg (cells8 k), .int .i64 p, v] w fun e w' => e = .returned (.bool true) ∧ Below w.heap.size w w' := by
  obtain ⟨z0, z1, z2, z3, z4, z5, z6, z7, z8, z9, z10, z11, z12, z13, z14, z15, hz⟩ := list16 hl
  have hcz : cells8 k = #[.int .u8 (z0 : Int), .int .u8 (z1 : Int), .int .u8 (z2 : Int), .int .u8 (z3 : Int), .int .u8 (z4 : Int), .int .u8 (z5 : Int), .int .u8 (z6 : Int), .int .u8 (z7 : Int), .int .u8 (z8 : Int), .int .u8 (z9 : Int), .int .u8 (z10 : Int), .int .u8 (z11 : Int), .int .u8 (z12 : Int), .int .u8 (z13 : Int), .int .u8 (z14 : Int), .int .u8 (z15 : Int)] := by rw [hz]; rfl
  have HCZ := hid hcz
  rw [hcz]
  clear hz hcz
  have HV := hid hv
  obtain ⟨pa, ca, rfl, hca, hcm⟩ := hv.open
  clear hv
  refine Calls.mono (calls_of_wp Try.func6 rfl (R := fun e w' => e = .returned (.bool true) ∧ Below w.heap.size w w') ?_) (fun e w' h => h)
  simp only [Try.ntmps6, List.size_toArray, List.length_cons, List.length_nil, Nat.reduceAdd, Nat.reduceSub, Array.replicate_succ, Array.replicate_zero, List.push_toArray, List.append_toArray, List.nil_append, List.cons_append]
  refine wp_seq_k fun K1 h1 => ?_
  have H1 := hid h1
  clear h1
  go_wp2
  refine H1.out _ _ ?_
  clear H1 K1
  rw [← HCZ.out]
  clear HCZ
  obtain ⟨w0, hw0⟩ : ∃ w0, Hid (w.alloc (.cells (cells8 k) 23) = w0) := ⟨_, rfl⟩
  rw [hw0.out]
  have B0 : Hid (Below w.heap.size w w0) := by rw [← hw0.out]; exact (Below.refl _ w).alloc (Nat.le_refl _) _
  have K0 : Hid (KeyIn w0 w.heap.size k) := by rw [← hw0.out]; exact World.alloc_heap_new w _
  have CA := hid (cawake_any w0)
  go_wp2_with fail
  refine CA.out.mono ?_
  rintro e w1 ⟨rfl, hB1⟩
  have K1 := hid (K0.out.below hB1)
  have B1 := hid (B0.out.trans (hB1.mono B0.out.size))
  clear hB1 CA
  have V1 := hid (HV.out.below B1.out)
  have hgt : (3000 : Int) < (l.length : Int) := by omega
  go_wp2
  go_ret
  exact ⟨rfl, B1.out⟩
set_option maxRecDepth 100000 in
set_option maxHeartbeats 4000000 in
theorem back_bad (w : World) (k : List Nat) (p : Int) (v : Value) (l : List Int) (hl : k.length = 16) (hv : HB w v l) (hp : -9223372036854775808 ≤ p ∧ p ≤ 9223372036854775807) (hs : l.length ≤ 3000) (hb : ¬ okPl p l.length) :
    Calls Try.prog 6 #[.agg (cells8 k), .int .i64 p, v] w fun e w' => e = .returned (.bool true) ∧ Below w.heap.size w w' := by
  obtain ⟨i0, hi, hz0, hz1, hz2⟩ := info_parts info_u8
  obtain ⟨z0, z1, z2, z3, z4, z5, z6, z7, z8, z9, z10, z11, z12, z13, z14, z15, hz⟩ := list16 hl
  have hcz : cells8 k = #[.int .u8 (z0 : Int), .int .u8 (z1 : Int), .int .u8 (z2 : Int), .int .u8 (z3 : Int), .int .u8 (z4 : Int), .int .u8 (z5 : Int), .int .u8 (z6 : Int), .int .u8 (z7 : Int), .int .u8 (z8 : Int), .int .u8 (z9 : Int), .int .u8 (z10 : Int), .int .u8 (z11 : Int), .int .u8 (z12 : Int), .int .u8 (z13 : Int), .int .u8 (z14 : Int), .int .u8 (z15 : Int)] := by rw [hz]; rfl
  have HCZ := hid hcz
  rw [hcz]
  clear hz hcz
  have HV := hid hv
  obtain ⟨pa, ca, rfl, hca, hcm⟩ := hv.open
  clear hv
  refine Calls.mono (calls_of_wp Try.func6 rfl (R := fun e w' => e = .returned (.bool true) ∧ Below w.heap.size w w') ?_) (fun e w' h => h)
  simp only [Try.ntmps6, List.size_toArray, List.length_cons, List.length_nil, Nat.reduceAdd, Nat.reduceSub, Array.replicate_succ, Array.replicate_zero, List.push_toArray, List.append_toArray, List.nil_append, List.cons_append]
  refine wp_seq_k fun K1 h1 => ?_
  have H1 := hid h1
  clear h1
  go_wp2
  refine H1.out _ _ ?_
  clear H1 K1
  rw [← HCZ.out]
  clear HCZ
  obtain ⟨w0, hw0⟩ : ∃ w0, Hid (w.alloc (.cells (cells8 k) 23) = w0) := ⟨_, rfl⟩
  rw [hw0.out]
  have B0 : Hid (Below w.heap.size w w0) := by rw [← hw0.out]; exact (Below.refl _ w).alloc (Nat.le_refl _) _
  have K0 : Hid (KeyIn w0 w.heap.size k) := by rw [← hw0.out]; exact World.alloc_heap_new w _
  have CA := hid (cawake_any w0)
  go_wp2_with fail
  refine CA.out.mono ?_
  rintro e w1 ⟨rfl, hB1⟩
  have K1 := hid (K0.out.below hB1)
  have B1 := hid (B0.out.trans (hB1.mono B0.out.size))
  clear hB1 CA
  have V1 := hid (HV.out.below B1.out)
  have hgt : ¬ (3000 : Int) < (l.length : Int) := by omega
  have C2 := hid (apply_bad w1 k p _ l hl V1.out hp (by omega) hb)
  go_wp2_with (refine wpList_ldk K1 hl rfl rfl rfl ?_)
  refine C2.out.mono ?_
  rintro e w2 ⟨rfl, hB2⟩
  have K2 := hid (K1.out.below hB2)
  have B2 := hid (B1.out.trans (hB2.mono B1.out.size))
  clear hB2 C2
  have C3 := hid (stream_bad w2 k p l.length hp (by omega) hb)
  go_wp2_with (refine wpList_ldk K2 hl rfl rfl rfl ?_)
  refine C3.out.mono ?_
  rintro e w3 ⟨rfl, hB3⟩
  have K3 := hid (K2.out.below hB3)
  have B3 := hid (B2.out.trans (hB3.mono B2.out.size))
  clear hB3 C3
  go_wp2_with fail
  obtain ⟨w4, hmk, hown, hgr⟩ := run_make_full (P := Try.prog) w3.drew w3.drew.heap.size 32 5 i0 (.int .u8 0) 1 Try.underlying32 hi hz0 hz1 .i64 .i64 l.length (by rw [hz2]; omega) (by unfold maxLen; omega) (Nat.le_refl _)
  have hS3 : w3.drew.heap.size = w3.heap.size := rfl
  have O4 : Hid (HB w4 (.slice (some ⟨w3.drew.heap.size, 0, none⟩) l.length l.length) (List.replicate l.length 0)) := by
    refine HB.of_own (B := w3.drew.heap.size) (e := 5) ?_ (fun x hx => by rw [List.eq_of_mem_replicate hx]; omega)
    have e : (madeCells (Value.int IntKind.u8 0).cells (l.length * 1)).toList = (List.replicate l.length (0 : Int)).map (Value.int .u8) := by
      rw [show (Value.int IntKind.u8 0).cells = #[Value.int .u8 0] from rfl, toList_madeCells_one]
      simp
    rw [← e, List.length_replicate]
    exact hown
  have B4 : Hid (Below w.heap.size w w4) := B3.out.drew.grown hgr (by have := B3.out.size; omega) (fun k e => by cases e)
  have K4 : Hid (KeyIn w4 w.heap.size k) := (hgr.block _ (Array.getElem?_eq_some_iff.1 K3.out).1 (by simp)).trans K3.out
  clear hown hgr
  refine wp_region_held_drew (S := fun V : World => KeyIn V w.heap.size k) mixedOrders K3.out (fun hHeld => ?_)
  have HS := hid hHeld
  clear hHeld
  change wpAnyH _ _ _ _ _ _ _ _ (World.drew _)
  refine wpAnyH_take (i := 0) (v := .agg (cells8 k)) rfl (by kernel_rfl) (by kernel_rfl) (by kernel_rfl) (fun _ _ _ h => h) (Or.inl ⟨by rfl, fun w hSw => ldk_exec hSw hl rfl rfl⟩) HS.out ?_
  simp only [Act.put, List.getElem_toArray, List.getElem_cons_zero, List.getElem_cons_succ, List.setIfInBounds_toArray, List.set_cons_zero, List.set_cons_succ]
  refine wpAnyH_take (i := 1) (v := ?_) rfl (by kernel_rfl) (by kernel_rfl) (by kernel_rfl) (fun _ _ _ h => h) (Or.inl ⟨by rfl, ?q1⟩) HS.out ?_
  case q1 => intro w hSw; go_simp; rfl
  simp only [Act.put, List.getElem_toArray, List.getElem_cons_zero, List.getElem_cons_succ, List.setIfInBounds_toArray, List.set_cons_zero, List.set_cons_succ]
  refine wpAnyH_take (i := 2) (v := ?_) rfl (by kernel_rfl) (by kernel_rfl) (by kernel_rfl) (fun _ _ _ h => h) (Or.inl ⟨by rfl, ?q2⟩) HS.out ?_
  case q2 => intro w hSw; go_simp; rfl
  simp only [Act.put, List.getElem_toArray, List.getElem_cons_zero, List.getElem_cons_succ, List.setIfInBounds_toArray, List.set_cons_zero, List.set_cons_succ]
  refine wpAnyH_take (i := 3) (v := ?_) rfl (by kernel_rfl) (by kernel_rfl) (by kernel_rfl) (fun _ _ _ h => h) (Or.inl ⟨by rfl, ?q3⟩) HS.out ?_
  case q3 => intro w hSw; go_simp; rfl
  simp only [Act.put, List.getElem_toArray, List.getElem_cons_zero, List.getElem_cons_succ, List.setIfInBounds_toArray, List.set_cons_zero, List.set_cons_succ]
  refine wpAnyH_ready (rs := [4]) (by kernel_rfl) (by simp) ?_
  refine AllReadyH.cons rfl (fun K hK => ?_) AllReadyH.nil
  go_simp
  refine hK.out _ _ K4.out (fun _ => ?_)
  clear hK K hmk
  have C5 := hid (apply_bad w4 k p _ (List.replicate l.length 0) hl O4.out hp (by rw [List.length_replicate]; omega) (by rw [List.length_replicate]; exact hb))
  refine wpAnyH_ready (rs := [5]) (by kernel_rfl) (by simp) ?_
  refine AllReadyH.cons rfl (fun K hK => ?_) AllReadyH.nil
  go_simp
  refine C5.out.mono ?_
  rintro e w5 ⟨rfl, hB5⟩
  have K5 := hid (K4.out.below hB5)
  have B5 := hid (B4.out.trans (hB5.mono B4.out.size))
  clear hB5 C5
  refine hK.out _ _ K5.out (fun _ => ?_)
  clear hK K
  refine wpAnyH_take (i := 6) (v := ?_) rfl (by kernel_rfl) (by kernel_rfl) (by kernel_rfl) (fun _ _ _ h => h) (Or.inl ⟨by rfl, ?q6⟩) K5.out ?_
  case q6 => intro w hSw; go_simp; rfl
  simp only [Act.put, List.getElem_toArray, List.getElem_cons_zero, List.getElem_cons_succ, List.setIfInBounds_toArray, List.set_cons_zero, List.set_cons_succ]
  refine wpAnyH_take (i := 7) (v := ?_) rfl (by kernel_rfl) (by kernel_rfl) (by kernel_rfl) (fun _ _ _ h => h) (Or.inl ⟨by rfl, ?q7⟩) K5.out ?_
  case q7 => intro w hSw; go_simp; rfl
  simp only [Act.put, List.getElem_toArray, List.getElem_cons_zero, List.getElem_cons_succ, List.setIfInBounds_toArray, List.set_cons_zero, List.set_cons_succ]
  refine wpAnyH_take (i := 8) (v := ?_) rfl (by kernel_rfl) (by kernel_rfl) (by kernel_rfl) (fun _ _ _ h => h) (Or.inl ⟨by rfl, ?q8⟩) K5.out ?_
  case q8 => intro w hSw; go_simp; rfl
  simp only [Act.put, List.getElem_toArray, List.getElem_cons_zero, List.getElem_cons_succ, List.setIfInBounds_toArray, List.set_cons_zero, List.set_cons_succ]
  refine wpAnyH_take (i := 9) (v := ?_) rfl (by kernel_rfl) (by kernel_rfl) (by kernel_rfl) (fun _ _ _ h => h) (Or.inl ⟨by rfl, ?q9⟩) K5.out ?_
  case q9 => intro w hSw; go_simp; rfl
  simp only [Act.put, List.getElem_toArray, List.getElem_cons_zero, List.getElem_cons_succ, List.setIfInBounds_toArray, List.set_cons_zero, List.set_cons_succ]
  refine wpAnyH_take (i := 10) (v := ?_) rfl (by kernel_rfl) (by kernel_rfl) (by kernel_rfl) (fun _ _ _ h => h) (Or.inl ⟨by rfl, ?q10⟩) K5.out ?_
  case q10 => intro w hSw; go_simp; rfl
  simp only [Act.put, List.getElem_toArray, List.getElem_cons_zero, List.getElem_cons_succ, List.setIfInBounds_toArray, List.set_cons_zero, List.set_cons_succ]
  refine wpAnyH_done (by kernel_rfl) ?_ _
  go_wp2
  go_ret
  exact ⟨rfl, B5.out⟩
set_option maxRecDepth 100000 in
set_option maxHeartbeats 4000000 in
theorem back_ok (w : World) (k : List Nat) (at' : Nat) (v : Value) (l : List Int) (hk : Byt k) (hl : k.length = 16) (hv : HB w v l) (hs : l.length ≤ 3000) (hpl : at' + l.length ≤ 4611686018427387904) :
    Calls Try.prog 6 #[.agg (cells8 k), .int .i64 (at' : Int), v] w fun e w' => e = .returned (.bool true) ∧ Below w.heap.size w w' := by
  obtain ⟨i0, hi, hz0, hz1, hz2⟩ := info_parts info_u8
  obtain ⟨z0, z1, z2, z3, z4, z5, z6, z7, z8, z9, z10, z11, z12, z13, z14, z15, hz⟩ := list16 hl
  have hcz : cells8 k = #[.int .u8 (z0 : Int), .int .u8 (z1 : Int), .int .u8 (z2 : Int), .int .u8 (z3 : Int), .int .u8 (z4 : Int), .int .u8 (z5 : Int), .int .u8 (z6 : Int), .int .u8 (z7 : Int), .int .u8 (z8 : Int), .int .u8 (z9 : Int), .int .u8 (z10 : Int), .int .u8 (z11 : Int), .int .u8 (z12 : Int), .int .u8 (z13 : Int), .int .u8 (z14 : Int), .int .u8 (z15 : Int)] := by rw [hz]; rfl
  have HCZ := hid hcz
  rw [hcz]
  clear hz hcz
  have HV := hid hv
  obtain ⟨pa, ca, rfl, hca, hcm⟩ := hv.open
  clear hv
  refine Calls.mono (calls_of_wp Try.func6 rfl (R := fun e w' => e = .returned (.bool true) ∧ Below w.heap.size w w') ?_) (fun e w' h => h)
  simp only [Try.ntmps6, List.size_toArray, List.length_cons, List.length_nil, Nat.reduceAdd, Nat.reduceSub, Array.replicate_succ, Array.replicate_zero, List.push_toArray, List.append_toArray, List.nil_append, List.cons_append]
  refine wp_seq_k fun K1 h1 => ?_
  have H1 := hid h1
  clear h1
  go_wp2
  refine H1.out _ _ ?_
  clear H1 K1
  rw [← HCZ.out]
  clear HCZ
  obtain ⟨w0, hw0⟩ : ∃ w0, Hid (w.alloc (.cells (cells8 k) 23) = w0) := ⟨_, rfl⟩
  rw [hw0.out]
  have B0 : Hid (Below w.heap.size w w0) := by rw [← hw0.out]; exact (Below.refl _ w).alloc (Nat.le_refl _) _
  have K0 : Hid (KeyIn w0 w.heap.size k) := by rw [← hw0.out]; exact World.alloc_heap_new w _
  have CA := hid (cawake_any w0)
  go_wp2_with fail
  refine CA.out.mono ?_
  rintro e w1 ⟨rfl, hB1⟩
  have K1 := hid (K0.out.below hB1)
  have B1 := hid (B0.out.trans (hB1.mono B0.out.size))
  clear hB1 CA
  have V1 := hid (HV.out.below B1.out)
  have hgt : ¬ (3000 : Int) < (l.length : Int) := by omega
  obtain ⟨st, HST⟩ : ∃ st, Hid (strL k at' l.length = st) := ⟨_, rfl⟩
  have hstl : Hid (st.length = l.length) := by rw [← HST.out]; exact strL_length _ _ _
  have hstb : Hid (∀ x ∈ st, 0 ≤ x ∧ x < 256) := by rw [← HST.out]; exact strL_byt hl hk _ _
  have C2 := hid (apply_ok w1 k at' _ l hk hl V1.out hpl (by omega))
  rw [HST.out] at C2
  go_wp2_with (refine wpList_ldk K1 hl rfl rfl rfl ?_)
  refine C2.out.mono ?_
  rintro e w2 ⟨v2, rfl, ho2, hB2⟩
  have K2 := hid (K1.out.below hB2)
  have B2 := hid (B1.out.trans (hB2.mono B1.out.size))
  obtain ⟨X, HX⟩ : ∃ X, Hid (xorL l st = X) := ⟨_, rfl⟩
  have hXl : Hid (X.length = l.length) := by rw [← HX.out]; exact xorL_length hstl.out.symm
  have hXb : Hid (∀ x ∈ X, 0 ≤ x ∧ x < 256) := by rw [← HX.out]; exact xorL_byt HV.out.2 hstb.out
  rw [HX.out, ← hXl.out] at ho2
  have X2 := hid (HB.of_own ho2 hXb.out)
  obtain ⟨p2, c2, rfl, _, _⟩ := X2.out.open
  clear hB2 C2 ho2
  have C3 := hid (stream_any w2 k at' l.length hk hl hpl (by omega))
  rw [HST.out, ← hstl.out] at C3
  rw [hstl.out] at C3
  go_wp2_with (refine wpList_ldk K2 hl rfl rfl rfl ?_)
  refine C3.out.mono ?_
  rintro e w3 ⟨v3, rfl, ho3, hB3⟩
  have K3 := hid (K2.out.below hB3)
  have B3 := hid (B2.out.trans (hB3.mono B2.out.size))
  have X3 := hid (X2.out.below hB3)
  have S3 : Hid (HB w3 v3 st) := HB.of_own (by rw [hstl.out]; exact ho3) hstb.out
  clear hB3 C3 ho3
  go_wp2_with fail
  obtain ⟨w4, hmk, hown, hgr⟩ := run_make_full (P := Try.prog) w3.drew w3.drew.heap.size 32 5 i0 (.int .u8 0) 1 Try.underlying32 hi hz0 hz1 .i64 .i64 l.length (by rw [hz2]; omega) (by unfold maxLen; omega) (Nat.le_refl _)
  have hS3 : w3.drew.heap.size = w3.heap.size := rfl
  have O4 : Hid (HB w4 (.slice (some ⟨w3.drew.heap.size, 0, none⟩) l.length l.length) (List.replicate l.length 0)) := by
    refine HB.of_own (B := w3.drew.heap.size) (e := 5) ?_ (fun x hx => by rw [List.eq_of_mem_replicate hx]; omega)
    have e : (madeCells (Value.int IntKind.u8 0).cells (l.length * 1)).toList = (List.replicate l.length (0 : Int)).map (Value.int .u8) := by
      rw [show (Value.int IntKind.u8 0).cells = #[Value.int .u8 0] from rfl, toList_madeCells_one]
      simp
    rw [← e, List.length_replicate]
    exact hown
  have B4 : Hid (Below w.heap.size w w4) := B3.out.drew.grown hgr (by have := B3.out.size; omega) (fun k e => by cases e)
  have K4 : Hid (KeyIn w4 w.heap.size k) := (hgr.block _ (Array.getElem?_eq_some_iff.1 K3.out).1 (by simp)).trans K3.out
  have X4 := hid (X3.out.below (show Below w3.heap.size w3 w4 from (Below.refl _ w3).drew.grown hgr (by omega) (fun k e => by cases e)))
  have S4 := hid (S3.out.below (show Below w3.heap.size w3 w4 from (Below.refl _ w3).drew.grown hgr (by omega) (fun k e => by cases e)))
  clear hown hgr
  refine wp_region_held_drew (S := fun V : World => KeyIn V w.heap.size k) mixedOrders K3.out (fun hHeld => ?_)
  have HS := hid hHeld
  clear hHeld
  change wpAnyH _ _ _ _ _ _ _ _ (World.drew _)
  refine wpAnyH_take (i := 0) (v := .agg (cells8 k)) rfl (by kernel_rfl) (by kernel_rfl) (by kernel_rfl) (fun _ _ _ h => h) (Or.inl ⟨by rfl, fun w hSw => ldk_exec hSw hl rfl rfl⟩) HS.out ?_
  simp only [Act.put, List.getElem_toArray, List.getElem_cons_zero, List.getElem_cons_succ, List.setIfInBounds_toArray, List.set_cons_zero, List.set_cons_succ]
  refine wpAnyH_take (i := 1) (v := ?_) rfl (by kernel_rfl) (by kernel_rfl) (by kernel_rfl) (fun _ _ _ h => h) (Or.inl ⟨by rfl, ?q1⟩) HS.out ?_
  case q1 => intro w hSw; go_simp; rfl
  simp only [Act.put, List.getElem_toArray, List.getElem_cons_zero, List.getElem_cons_succ, List.setIfInBounds_toArray, List.set_cons_zero, List.set_cons_succ]
  refine wpAnyH_take (i := 2) (v := ?_) rfl (by kernel_rfl) (by kernel_rfl) (by kernel_rfl) (fun _ _ _ h => h) (Or.inl ⟨by rfl, ?q2⟩) HS.out ?_
  case q2 => intro w hSw; go_simp; rfl
  simp only [Act.put, List.getElem_toArray, List.getElem_cons_zero, List.getElem_cons_succ, List.setIfInBounds_toArray, List.set_cons_zero, List.set_cons_succ]
  refine wpAnyH_take (i := 3) (v := ?_) rfl (by kernel_rfl) (by kernel_rfl) (by kernel_rfl) (fun _ _ _ h => h) (Or.inl ⟨by rfl, ?q3⟩) HS.out ?_
  case q3 => intro w hSw; go_simp; rfl
  simp only [Act.put, List.getElem_toArray, List.getElem_cons_zero, List.getElem_cons_succ, List.setIfInBounds_toArray, List.set_cons_zero, List.set_cons_succ]
  refine wpAnyH_ready (rs := [4]) (by kernel_rfl) (by simp) ?_
  refine AllReadyH.cons rfl (fun K hK => ?_) AllReadyH.nil
  go_simp
  refine hK.out _ _ K4.out (fun _ => ?_)
  clear hK K hmk
  have C5 := hid (apply_ok w4 k at' _ (List.replicate l.length 0) hk hl O4.out (by rw [List.length_replicate]; exact hpl) (by rw [List.length_replicate]; omega))
  rw [List.length_replicate, HST.out] at C5
  have HZ : Hid (xorL (List.replicate l.length 0) st = st) := by
    show _ = _
    rw [← hstl.out]
    exact xorL_zero hstb.out
  rw [HZ.out] at C5
  refine wpAnyH_ready (rs := [5]) (by kernel_rfl) (by simp) ?_
  refine AllReadyH.cons rfl (fun K hK => ?_) AllReadyH.nil
  go_simp
  refine C5.out.mono ?_
  rintro e w5 ⟨v5, rfl, ho5, hB5⟩
  have K5 := hid (K4.out.below hB5)
  have B5 := hid (B4.out.trans (hB5.mono B4.out.size))
  have X5 := hid (X4.out.below hB5)
  have S5 := hid (S4.out.below hB5)
  have Z5 : Hid (HB w5 v5 st) := HB.of_own (by rw [hstl.out]; exact ho5) hstb.out
  clear hB5 C5 ho5
  refine hK.out _ _ K5.out (fun _ => ?_)
  clear hK K
  refine wpAnyH_take (i := 6) (v := ?_) rfl (by kernel_rfl) (by kernel_rfl) (by kernel_rfl) (fun _ _ _ h => h) (Or.inl ⟨by rfl, ?q6⟩) K5.out ?_
  case q6 => intro w hSw; go_simp; rfl
  simp only [Act.put, List.getElem_toArray, List.getElem_cons_zero, List.getElem_cons_succ, List.setIfInBounds_toArray, List.set_cons_zero, List.set_cons_succ]
  refine wpAnyH_take (i := 7) (v := ?_) rfl (by kernel_rfl) (by kernel_rfl) (by kernel_rfl) (fun _ _ _ h => h) (Or.inl ⟨by rfl, ?q7⟩) K5.out ?_
  case q7 => intro w hSw; go_simp; rfl
  simp only [Act.put, List.getElem_toArray, List.getElem_cons_zero, List.getElem_cons_succ, List.setIfInBounds_toArray, List.set_cons_zero, List.set_cons_succ]
  refine wpAnyH_take (i := 8) (v := ?_) rfl (by kernel_rfl) (by kernel_rfl) (by kernel_rfl) (fun _ _ _ h => h) (Or.inl ⟨by rfl, ?q8⟩) K5.out ?_
  case q8 => intro w hSw; go_simp; rfl
  simp only [Act.put, List.getElem_toArray, List.getElem_cons_zero, List.getElem_cons_succ, List.setIfInBounds_toArray, List.set_cons_zero, List.set_cons_succ]
  refine wpAnyH_take (i := 9) (v := ?_) rfl (by kernel_rfl) (by kernel_rfl) (by kernel_rfl) (fun _ _ _ h => h) (Or.inl ⟨by rfl, ?q9⟩) K5.out ?_
  case q9 => intro w hSw; go_simp; rfl
  simp only [Act.put, List.getElem_toArray, List.getElem_cons_zero, List.getElem_cons_succ, List.setIfInBounds_toArray, List.set_cons_zero, List.set_cons_succ]
  refine wpAnyH_take (i := 10) (v := ?_) rfl (by kernel_rfl) (by kernel_rfl) (by kernel_rfl) (fun _ _ _ h => h) (Or.inl ⟨by rfl, ?q10⟩) K5.out ?_
  case q10 => intro w hSw; go_simp; rfl
  simp only [Act.put, List.getElem_toArray, List.getElem_cons_zero, List.getElem_cons_succ, List.setIfInBounds_toArray, List.set_cons_zero, List.set_cons_succ]
  refine wpAnyH_done (by kernel_rfl) ?_ _
  have HE : Hid (xorL X st = l) := by
    show _ = _
    rw [← HX.out]
    exact xorL_twice hstl.out.symm HV.out.2 hstb.out
  have C6 : Hid (Calls Try.prog 14 #[.agg (cells8 k), .int .i64 (at' : Int), .slice p2 X.length c2] w5 fun e w' => ∃ v', e = .returned (.tuple #[v', .int .i64 0]) ∧ w'.ownsRow w5.heap.size 5 1 v' l.length (l.map (Value.int .u8)) ∧ Below w5.heap.size w5 w') := by
    refine (apply_ok w5 k at' _ X hk hl X5.out (by rw [hXl.out]; exact hpl) (by rw [hXl.out]; omega)).mono ?_
    rintro e w' ⟨v', rfl, ho, hB⟩
    rw [hXl.out, HST.out, HE.out] at ho
    exact ⟨v', rfl, ho, hB⟩
  have hXi : (X.length : Int) = (l.length : Int) := by rw [hXl.out]
  go_wp2_with (refine wpList_ldk K5 hl rfl rfl rfl ?_)
  refine C6.out.mono ?_
  rintro e w6 ⟨v6, rfl, ho6, hB6⟩
  have B6 := hid (B5.out.trans (hB6.mono B5.out.size))
  have V6 := hid (HV.out.below B6.out)
  have R6 : Hid (HB w6 v6 l) := HB.of_own ho6 HV.out.2
  have S6 := hid (S5.out.below hB6)
  have Z6 := hid (Z5.out.below hB6)
  clear hB6 C6 ho6
  have C7 := hid (sameBytes_any w6 v6 _ l l R6.out V6.out)
  rw [show decide (l = l) = true by simp] at C7
  go_wp2_with fail
  refine C7.out.mono ?_
  rintro e w7 ⟨rfl, hD7⟩
  have B7 := hid (B6.out.trans ((hD7.below _)))
  have C8 := hid (sameBytes_any w7 v3 v5 st st (S6.out.dr hD7) (Z6.out.dr hD7))
  rw [show decide (st = st) = true by simp] at C8
  clear C7 hD7
  go_wp2_with fail
  refine C8.out.mono ?_
  rintro e w8 ⟨rfl, hD8⟩
  have B8 := hid (B7.out.trans ((hD8.below _)))
  clear C8 hD8
  go_wp2
  go_ret
  exact ⟨rfl, B8.out⟩
theorem back_walk (w : World) (k : List Nat) (p : Int) (v : Value) (l : List Int) (hk : Byt k) (hl : k.length = 16) (hv : HB w v l) (hp : -9223372036854775808 ≤ p ∧ p ≤ 9223372036854775807) :
    Calls Try.prog 6 #[.agg (cells8 k), .int .i64 p, v] w fun e w' => e = .returned (.bool true) ∧ Below w.heap.size w w' := by
  by_cases h1 : l.length ≤ 3000
  · by_cases h2 : okPl p l.length
    · obtain ⟨m, rfl⟩ := Int.eq_ofNat_of_zero_le h2.1
      have := h2.2
      exact back_ok w k m v l hk hl hv h1 (by omega)
    · exact back_bad w k p v l hl hv hp h1 h2
  · exact back_long w k p v l hl hv h1
end Go.Proofs.Ytbafegpiipkmbaa
