/- CtrTurned, walked. -/
import Derived.Test.YtbafegpiipkmbaaCtrBackW
import Derived.Test.YtbafegpiipkmbaaKitCopy
set_option linter.unusedVariables false
set_option linter.unusedSimpArgs false
namespace Go.Proofs.Ytbafegpiipkmbaa
open Go Go.RowKit Ev

set_option maxRecDepth 100000 in
set_option maxHeartbeats 4000000 in
theorem turned_out (w : World) (k : List Nat) (p : Int) (v : Value) (l : List Int) (x : Int) (y : Nat) (hl : k.length = 16) (hv : HB w v l) (hout : l.length = 0 ∨ ¬ l.length ≤ 3000) :
    Calls Try.prog 8 #[.agg (cells8 k), .int .i64 p, v, .int .i64 x, .int .u8 (y : Int)] w fun e w' => e = .returned (.bool true) ∧ Below w.heap.size w w' := by
  obtain ⟨z0, z1, z2, z3, z4, z5, z6, z7, z8, z9, z10, z11, z12, z13, z14, z15, hz⟩ := list16 hl
  have hcz : cells8 k = #[.int .u8 (z0 : Int), .int .u8 (z1 : Int), .int .u8 (z2 : Int), .int .u8 (z3 : Int), .int .u8 (z4 : Int), .int .u8 (z5 : Int), .int .u8 (z6 : Int), .int .u8 (z7 : Int), .int .u8 (z8 : Int), .int .u8 (z9 : Int), .int .u8 (z10 : Int), .int .u8 (z11 : Int), .int .u8 (z12 : Int), .int .u8 (z13 : Int), .int .u8 (z14 : Int), .int .u8 (z15 : Int)] := by rw [hz]; rfl
  have HCZ := hid hcz
  rw [hcz]
  clear hz hcz
  have HV := hid hv
  obtain ⟨pa, ca, rfl, hca, hcm⟩ := hv.open
  clear hv
  refine Calls.mono (calls_of_wp Try.func8 rfl (R := fun e w' => e = .returned (.bool true) ∧ Below w.heap.size w w') ?_) (fun e w' h => h)
  simp only [Try.ntmps8, List.size_toArray, List.length_cons, List.length_nil, Nat.reduceAdd, Nat.reduceSub, Array.replicate_succ, Array.replicate_zero, List.push_toArray, List.append_toArray, List.nil_append, List.cons_append]
  refine wp_seq_k fun K1 h1 => ?_
  have H1 := hid h1
  clear h1
  go_wp2
  refine H1.out _ _ ?_
  clear H1 K1
  rw [← HCZ.out]
  clear HCZ
  obtain ⟨w0, hw0⟩ : ∃ w0, Hid (w.alloc (.cells (cells8 k) 23) = w0) := ⟨_, rfl⟩
  rw [hw0.out]
  have B0 : Hid (Below w.heap.size w w0) := by rw [← hw0.out]; exact (Below.refl _ w).alloc (Nat.le_refl _) _
  have K0 : Hid (KeyIn w0 w.heap.size k) := by rw [← hw0.out]; exact World.alloc_heap_new w _
  have CA := hid (cawake_any w0)
  go_wp2_with fail
  refine CA.out.mono ?_
  rintro e w1 ⟨rfl, hB1⟩
  have K1 := hid (K0.out.below hB1)
  have B1 := hid (B0.out.trans (hB1.mono B0.out.size))
  clear hB1 CA
  have V1 := hid (HV.out.below B1.out)
  by_cases h0 : l.length = 0
  · have h0i : (l.length : Int) = 0 := by omega
    go_wp2
    go_ret
    exact ⟨rfl, B1.out⟩
  · have h0i : ¬ (l.length : Int) = 0 := by omega
    have hgt : (3000 : Int) < (l.length : Int) := by omega
    go_wp2
    go_ret
    exact ⟨rfl, B1.out⟩
set_option maxRecDepth 100000 in
set_option maxHeartbeats 4000000 in
theorem turned_bad (w : World) (k : List Nat) (p : Int) (v : Value) (l : List Int) (x : Int) (y : Nat) (hl : k.length = 16) (hv : HB w v l) (hp : -9223372036854775808 ≤ p ∧ p ≤ 9223372036854775807) (h0 : 1 ≤ l.length) (hs : l.length ≤ 3000) (hb : ¬ okPl p l.length) :
    Calls Try.prog 8 #[.agg (cells8 k), .int .i64 p, v, .int .i64 x, .int .u8 (y : Int)] w fun e w' => e = .returned (.bool true) ∧ Below w.heap.size w w' := by
  obtain ⟨z0, z1, z2, z3, z4, z5, z6, z7, z8, z9, z10, z11, z12, z13, z14, z15, hz⟩ := list16 hl
  have hcz : cells8 k = #[.int .u8 (z0 : Int), .int .u8 (z1 : Int), .int .u8 (z2 : Int), .int .u8 (z3 : Int), .int .u8 (z4 : Int), .int .u8 (z5 : Int), .int .u8 (z6 : Int), .int .u8 (z7 : Int), .int .u8 (z8 : Int), .int .u8 (z9 : Int), .int .u8 (z10 : Int), .int .u8 (z11 : Int), .int .u8 (z12 : Int), .int .u8 (z13 : Int), .int .u8 (z14 : Int), .int .u8 (z15 : Int)] := by rw [hz]; rfl
  have HCZ := hid hcz
  rw [hcz]
  clear hz hcz
  have HV := hid hv
  obtain ⟨pa, ca, rfl, hca, hcm⟩ := hv.open
  clear hv
  refine Calls.mono (calls_of_wp Try.func8 rfl (R := fun e w' => e = .returned (.bool true) ∧ Below w.heap.size w w') ?_) (fun e w' h => h)
  simp only [Try.ntmps8, List.size_toArray, List.length_cons, List.length_nil, Nat.reduceAdd, Nat.reduceSub, Array.replicate_succ, Array.replicate_zero, List.push_toArray, List.append_toArray, List.nil_append, List.cons_append]
  refine wp_seq_k fun K1 h1 => ?_
  have H1 := hid h1
  clear h1
  go_wp2
  refine H1.out _ _ ?_
  clear H1 K1
  rw [← HCZ.out]
  clear HCZ
  obtain ⟨w0, hw0⟩ : ∃ w0, Hid (w.alloc (.cells (cells8 k) 23) = w0) := ⟨_, rfl⟩
  rw [hw0.out]
  have B0 : Hid (Below w.heap.size w w0) := by rw [← hw0.out]; exact (Below.refl _ w).alloc (Nat.le_refl _) _
  have K0 : Hid (KeyIn w0 w.heap.size k) := by rw [← hw0.out]; exact World.alloc_heap_new w _
  have CA := hid (cawake_any w0)
  go_wp2_with fail
  refine CA.out.mono ?_
  rintro e w1 ⟨rfl, hB1⟩
  have K1 := hid (K0.out.below hB1)
  have B1 := hid (B0.out.trans (hB1.mono B0.out.size))
  clear hB1 CA
  have V1 := hid (HV.out.below B1.out)
  have h0n : ¬ l.length = 0 := by omega
  have h0i : ¬ (l.length : Int) = 0 := by omega
  have hgt : ¬ (3000 : Int) < (l.length : Int) := by omega
  have e0 : ((l.length : Int) == 0) = false := beq_eq_false_iff_ne.2 h0i
  have e1 : decide ((3000 : Int) < (l.length : Int)) = false := decide_eq_false hgt
  have C2 := hid (apply_bad w1 k p _ l hl V1.out hp (by omega) hb)
  clear hp hb
  go_wp2_with (refine wpList_ldk K1 hl rfl rfl rfl ?_)
  refine C2.out.mono ?_
  rintro e w2 ⟨rfl, hB2⟩
  have B2 := hid (B1.out.trans (hB2.mono B1.out.size))
  clear hB2 C2
  go_wp2
  go_ret
  exact ⟨rfl, B2.out⟩
theorem xorB_turn {x y s : Int} (hx : 0 ≤ x ∧ x < 256) (hy : 0 ≤ y ∧ y < 256) (hs : 0 ≤ s ∧ s < 256) : xorB (xorB (xorB x y) s) y = xorB x s := by
  have h1 := xorB_byt hx hy
  have h2 := xorB_byt h1 hs
  unfold xorB at h1 h2 ⊢
  rw [u8_xor x y hx.1 hx.2 hy.1 hy.2] at h1 h2 ⊢
  rw [u8_xor _ s h1.1 h1.2 hs.1 hs.2] at h2 ⊢
  rw [u8_xor _ y h2.1 h2.2 hy.1 hy.2, u8_xor x s hx.1 hx.2 hs.1 hs.2, Int.toNat_natCast, Int.toNat_natCast, Nat.xor_assoc, Nat.xor_assoc, Nat.xor_comm s.toNat y.toNat, ← Nat.xor_assoc y.toNat, Nat.xor_self, Nat.zero_xor]
theorem xorL_turn {l s : List Int} {y : Int} (h : l.length = s.length) (hl : ∀ x ∈ l, 0 ≤ x ∧ x < 256) (hs : ∀ x ∈ s, 0 ≤ x ∧ x < 256) (hy : 0 ≤ y ∧ y < 256) (K : Nat) (hK : K < l.length) :
    (xorL (l.set K (xorB (l.getD K 0) y)) s).set K (xorB ((xorL (l.set K (xorB (l.getD K 0) y)) s).getD K 0) y) = xorL l s := by
  have hlen : (l.set K (xorB (l.getD K 0) y)).length = s.length := by simpa using h
  rw [xorL_getD hlen (by simpa using hK)]
  have e0 : (l.set K (xorB (l.getD K 0) y)).getD K 0 = xorB (l.getD K 0) y := by simp [List.getD, hK]
  rw [e0]
  refine List.ext_getElem (by simp [xorL]) fun i h1 h2 => ?_
  have hi : i < l.length := by simp [xorL] at h2; omega
  rw [List.getElem_set]
  split
  · rename_i e
    subst e
    rw [xorB_turn (by rw [getD_of_lt hK]; exact hl _ (List.getElem_mem _)) hy (by rw [getD_of_lt (by omega)]; exact hs _ (List.getElem_mem _)), getD_of_lt hK, getD_of_lt (by omega)]
    simp [xorL]
  · rename_i e
    simp only [xorL, List.getElem_zipWith]
    rw [List.getElem_set_ne e]
set_option maxRecDepth 100000 in
set_option maxHeartbeats 4000000 in
theorem turned_ok (w : World) (k : List Nat) (at' : Nat) (v : Value) (l : List Int) (x : Int) (y : Nat) (hk : Byt k) (hl : k.length = 16) (hv : HB w v l) (h0 : 1 ≤ l.length) (hs : l.length ≤ 3000) (hpl : at' + l.length ≤ 4611686018427387904) (hy : y < 256) :
    Calls Try.prog 8 #[.agg (cells8 k), .int .i64 (at' : Int), v, .int .i64 x, .int .u8 (y : Int)] w fun e w' => e = .returned (.bool true) ∧ Below w.heap.size w w' := by
  obtain ⟨z0, z1, z2, z3, z4, z5, z6, z7, z8, z9, z10, z11, z12, z13, z14, z15, hz⟩ := list16 hl
  have hcz : cells8 k = #[.int .u8 (z0 : Int), .int .u8 (z1 : Int), .int .u8 (z2 : Int), .int .u8 (z3 : Int), .int .u8 (z4 : Int), .int .u8 (z5 : Int), .int .u8 (z6 : Int), .int .u8 (z7 : Int), .int .u8 (z8 : Int), .int .u8 (z9 : Int), .int .u8 (z10 : Int), .int .u8 (z11 : Int), .int .u8 (z12 : Int), .int .u8 (z13 : Int), .int .u8 (z14 : Int), .int .u8 (z15 : Int)] := by rw [hz]; rfl
  have HCZ := hid hcz
  rw [hcz]
  clear hz hcz
  have HV := hid hv
  obtain ⟨pa, ca, rfl, hca, hcm⟩ := hv.open
  clear hv
  refine Calls.mono (calls_of_wp Try.func8 rfl (R := fun e w' => e = .returned (.bool true) ∧ Below w.heap.size w w') ?_) (fun e w' h => h)
  simp only [Try.ntmps8, List.size_toArray, List.length_cons, List.length_nil, Nat.reduceAdd, Nat.reduceSub, Array.replicate_succ, Array.replicate_zero, List.push_toArray, List.append_toArray, List.nil_append, List.cons_append]
  refine wp_seq_k fun K1 h1 => ?_
  have H1 := hid h1
  clear h1
  go_wp2
  refine H1.out _ _ ?_
  clear H1 K1
  rw [← HCZ.out]
  clear HCZ
  obtain ⟨w0, hw0⟩ : ∃ w0, Hid (w.alloc (.cells (cells8 k) 23) = w0) := ⟨_, rfl⟩
  rw [hw0.out]
  have B0 : Hid (Below w.heap.size w w0) := by rw [← hw0.out]; exact (Below.refl _ w).alloc (Nat.le_refl _) _
  have K0 : Hid (KeyIn w0 w.heap.size k) := by rw [← hw0.out]; exact World.alloc_heap_new w _
  have CA := hid (cawake_any w0)
  go_wp2_with fail
  refine CA.out.mono ?_
  rintro e w1 ⟨rfl, hB1⟩
  have K1 := hid (K0.out.below hB1)
  have B1 := hid (B0.out.trans (hB1.mono B0.out.size))
  clear hB1 CA
  have V1 := hid (HV.out.below B1.out)
  have h0n : ¬ l.length = 0 := by omega
  have h0i : ¬ (l.length : Int) = 0 := by omega
  have hgt : ¬ (3000 : Int) < (l.length : Int) := by omega
  have e0 : ((l.length : Int) == 0) = false := beq_eq_false_iff_ne.2 h0i
  have e1 : decide ((3000 : Int) < (l.length : Int)) = false := decide_eq_false hgt
  obtain ⟨st, HST⟩ : ∃ st, Hid (strL k at' l.length = st) := ⟨_, rfl⟩
  have hstl : Hid (st.length = l.length) := by rw [← HST.out]; exact strL_length _ _ _
  have hstb : Hid (∀ x ∈ st, 0 ≤ x ∧ x < 256) := by rw [← HST.out]; exact strL_byt hl hk _ _
  have C2 := hid (apply_ok w1 k at' _ l hk hl V1.out hpl (by omega))
  rw [HST.out] at C2
  go_wp2_with (refine wpList_ldk K1 hl rfl rfl rfl ?_)
  refine C2.out.mono ?_
  rintro e w2 ⟨v2, rfl, ho2, hB2⟩
  have K2 := hid (K1.out.below hB2)
  have B2 := hid (B1.out.trans (hB2.mono B1.out.size))
  obtain ⟨X, HX⟩ : ∃ X, Hid (xorL l st = X) := ⟨_, rfl⟩
  have hXl : Hid (X.length = l.length) := by rw [← HX.out]; exact xorL_length hstl.out.symm
  have hXb : Hid (∀ x ∈ X, 0 ≤ x ∧ x < 256) := by rw [← HX.out]; exact xorL_byt HV.out.2 hstb.out
  rw [HX.out, ← hXl.out] at ho2
  have X2 := hid (HB.of_own ho2 hXb.out)
  obtain ⟨p2, c2, rfl, _, _⟩ := X2.out.open
  clear hB2 C2 ho2
  have C3 := hid (kpick_any w2 x l.length h0 (by omega))
  go_wp2_with fail
  refine C3.out.mono ?_
  rintro e w3 ⟨⟨K, hK, rfl⟩, rfl⟩
  clear C3
  have C4 := hid (kcopy_any w3 _ l (HV.out.below B2.out) (by omega))
  go_wp2_with fail
  refine C4.out.mono ?_
  rintro e w4 ⟨v4, rfl, ho4, hB4⟩
  have K4 := hid (K2.out.below hB4)
  have B4 := hid (B2.out.trans (hB4.mono B2.out.size))
  have D4 := hid hB4
  obtain ⟨g4, c4, hve⟩ : ∃ g c, v4 = .slice (some ⟨g, 0, none⟩) l.length c := by
    obtain ⟨m', hm'⟩ : ∃ m', l.length = m' + 1 := ⟨l.length - 1, by omega⟩
    rw [hm'] at ho4 ⊢
    exact ownsRow_succ ho4
  subst hve
  have O4 := hid ho4
  have hg4 := (O4.out.lt g4 rfl)
  clear ho4 hB4 C4
  obtain ⟨z, HZ⟩ : ∃ z, Hid (l.getD K 0 = z) := ⟨_, rfl⟩
  have hzb : Hid (0 ≤ z ∧ z < 256) := by rw [← HZ.out, getD_of_lt hK]; exact HV.out.2 _ (List.getElem_mem _)
  have hzi := hzb.out.1
  have hzj := hzb.out.2
  have hc4 : w4.cell? ⟨g4, K, none⟩ = some (.int .u8 z) := by
    rw [O4.out.cellAt K (by omega), List.getElem?_map, List.getElem?_eq_getElem hK, ← HZ.out, getD_of_lt hK]
    rfl
  have hf4 := O4.out.frozenAt K
  have hKi : (K : Int) < (l.length : Int) := by omega
  have hyb : (0 : Int) ≤ (y : Int) ∧ (y : Int) < 256 := by omega
  have hgk : w.heap.size ≠ g4 := by have := (Array.getElem?_eq_some_iff.1 K2.out).1; have := hg4.1; omega
  have K5 : Hid (KeyIn (w4.setCell ⟨g4, K, none⟩ (.int .u8 (bits .xor .u8 z (y : Int)))) w.heap.size k) := (Below.heap_setCell _ _ _ _ hgk).trans K4.out
  go_wp2_with (refine wpList_ldk K5 hl rfl rfl rfl ?_)
  obtain ⟨w5, hw5⟩ : ∃ w5, Hid (w4.setCell ⟨g4, K, none⟩ (.int .u8 (bits .xor .u8 z (y : Int))) = w5) := ⟨_, rfl⟩
  rw [hw5.out]
  rw [hw5.out] at K5
  have D5 : Hid (Below w3.heap.size w3 w5) := by rw [← hw5.out]; exact D4.out.setCell hg4.1 _
  have B5 := hid (B2.out.trans (D5.out.mono B2.out.size))
  obtain ⟨L', HL'⟩ : ∃ L', Hid (l.set K (xorB z (y : Int)) = L') := ⟨_, rfl⟩
  have hLl : Hid (L'.length = l.length) := by rw [← HL'.out]; exact List.length_set ..
  have hLb : Hid (∀ x ∈ L', 0 ≤ x ∧ x < 256) := by
    rw [← HL'.out]
    intro q hq
    rcases List.mem_or_eq_of_mem_set hq with h | h
    · exact HV.out.2 _ h
    · rw [h]; exact xorB_byt hzb.out hyb
  have O5 : Hid (HB w5 (.slice (some ⟨g4, 0, none⟩) l.length c4) L') := by
    have h1 := (O4.out.stored K (.int .u8 (xorB z (y : Int)))).1
    rw [← List.map_set, HL'.out] at h1
    have h2 : w5.ownsRow w3.heap.size 5 1 (.slice (some ⟨g4, 0, none⟩) l.length c4) l.length (L'.map (Value.int .u8)) := by rw [← hw5.out]; exact h1
    rw [← hLl.out] at h2 ⊢
    exact HB.of_own h2 hLb.out
  have C6 : Hid (Calls Try.prog 14 #[.agg (cells8 k), .int .i64 (at' : Int), .slice (some ⟨g4, 0, none⟩) l.length c4] w5 fun e w' => ∃ v', e = .returned (.tuple #[v', .int .i64 0]) ∧ w'.ownsRow w5.heap.size 5 1 v' l.length ((xorL L' st).map (Value.int .u8)) ∧ Below w5.heap.size w5 w') := by
    refine (apply_ok w5 k at' _ L' hk hl O5.out (by rw [hLl.out]; exact hpl) (by rw [hLl.out]; omega)).mono ?_
    rintro e w' ⟨v', rfl, ho, hB⟩
    rw [hLl.out, HST.out] at ho
    exact ⟨v', rfl, ho, hB⟩
  clear hc4 hf4
  refine C6.out.mono ?_
  rintro e w6 ⟨v6, rfl, ho6, hB6⟩
  have D6 := hid (D5.out.trans (hB6.mono D5.out.size))
  obtain ⟨g6, c6, hve⟩ : ∃ g c, v6 = .slice (some ⟨g, 0, none⟩) l.length c := by
    obtain ⟨m', hm'⟩ : ∃ m', l.length = m' + 1 := ⟨l.length - 1, by omega⟩
    rw [hm'] at ho6 ⊢
    exact ownsRow_succ ho6
  subst hve
  have O6 := hid ho6
  have hg6 := (O6.out.lt g6 rfl)
  have hs5 := D5.out.size
  clear ho6 hB6 C6
  obtain ⟨Y, HY⟩ : ∃ Y, Hid (xorL L' st = Y) := ⟨_, rfl⟩
  have hYl : Hid (Y.length = l.length) := by rw [← HY.out, xorL_length (by rw [hLl.out, hstl.out])]; exact hLl.out
  have hYb : Hid (∀ x ∈ Y, 0 ≤ x ∧ x < 256) := by rw [← HY.out]; exact xorL_byt hLb.out hstb.out
  rw [HY.out] at O6
  obtain ⟨q, HQ⟩ : ∃ q, Hid (Y.getD K 0 = q) := ⟨_, rfl⟩
  have hKY : K < Y.length := by rw [hYl.out]; exact hK
  have hqb : Hid (0 ≤ q ∧ q < 256) := by rw [← HQ.out, getD_of_lt hKY]; exact hYb.out _ (List.getElem_mem _)
  have hqi := hqb.out.1
  have hqj := hqb.out.2
  have hc6 : w6.cell? ⟨g6, K, none⟩ = some (.int .u8 q) := by
    rw [O6.out.cellAt K (by omega), List.getElem?_map, List.getElem?_eq_getElem hKY, ← HQ.out, getD_of_lt hKY]
    rfl
  have hf6 := O6.out.frozenAt K
  have hXi : (X.length : Int) = (l.length : Int) := by rw [hXl.out]
  obtain ⟨w7, hw7⟩ : ∃ w7, Hid (w6.setCell ⟨g6, K, none⟩ (.int .u8 (bits .xor .u8 q (y : Int))) = w7) := ⟨_, rfl⟩
  have D7 : Hid (Below w3.heap.size w3 w7) := by rw [← hw7.out]; exact D6.out.setCell (Nat.le_trans hs5 hg6.1) _
  have HT : Hid (Y.set K (xorB q (y : Int)) = X) := by
    show _ = _
    rw [← HQ.out, ← HY.out, ← HL'.out, ← HZ.out, ← HX.out]
    exact xorL_turn hstl.out.symm HV.out.2 hstb.out hyb K hK
  have O7 : Hid (HB w7 (.slice (some ⟨g6, 0, none⟩) l.length c6) X) := by
    have h1 := (O6.out.stored K (.int .u8 (xorB q (y : Int)))).1
    rw [← List.map_set, HT.out] at h1
    have h2 : w7.ownsRow w5.heap.size 5 1 (.slice (some ⟨g6, 0, none⟩) l.length c6) l.length (X.map (Value.int .u8)) := by rw [← hw7.out]; exact h1
    rw [← hXl.out] at h2 ⊢
    exact HB.of_own h2 hXb.out
  have X7 := hid (X2.out.below D7.out)
  have C8 := hid (sameBytes_any w7 _ _ X X X7.out O7.out)
  rw [show decide (X = X) = true by simp] at C8
  have hw7e := hw7.out
  go_wp2_with fail
  refine C8.out.mono ?_
  rintro e w8 ⟨rfl, hD8⟩
  have B8 := hid ((B2.out.trans (D7.out.mono B2.out.size)).trans (hD8.below _))
  clear C8 hD8 hw7e hc6 hf6
  go_wp2
  go_ret
  exact ⟨rfl, B8.out⟩
theorem turned_walk (w : World) (k : List Nat) (p : Int) (v : Value) (l : List Int) (x : Int) (y : Nat) (hk : Byt k) (hl : k.length = 16) (hv : HB w v l) (hp : -9223372036854775808 ≤ p ∧ p ≤ 9223372036854775807) (hy : y < 256) :
    Calls Try.prog 8 #[.agg (cells8 k), .int .i64 p, v, .int .i64 x, .int .u8 (y : Int)] w fun e w' => e = .returned (.bool true) ∧ Below w.heap.size w w' := by
  by_cases h1 : l.length = 0 ∨ ¬ l.length ≤ 3000
  · exact turned_out w k p v l x y hl hv h1
  · by_cases h2 : okPl p l.length
    · obtain ⟨m, rfl⟩ := Int.eq_ofNat_of_zero_le h2.1
      have := h2.2
      exact turned_ok w k m v l x y hk hl hv (by omega) (by omega) (by omega) hy
    · exact turned_bad w k p v l x y hl hv hp (by omega) (by omega) h2
end Go.Proofs.Ytbafegpiipkmbaa
