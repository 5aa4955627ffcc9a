/- ctr.Stream, walked. -/
import Derived.Test.YtbafegpiipkmbaaCtrCopy
import Derived.Test.YtbafegpiipkmbaaRange2
import Derived.Deep.RegionHeld
set_option linter.unusedVariables false
set_option linter.unusedSimpArgs false
namespace Go.Proofs.Ytbafegpiipkmbaa
open Go Go.RowKit Go.Shelf Ev
attribute [local go_sem] Oper.semAt_some

set_option maxHeartbeats 1000000 in
theorem within_ok (w : World) (at' n : Nat) (hpl : at' + n ≤ 4611686018427387904) : Calls Try.prog 36 #[.int .i64 (at' : Int), .int .i64 (n : Int)] w fun e w' => e = .returned (.bool true) ∧ w' = w := by
  have h1 : (0 : Int) ≤ (at' : Int) := by omega
  have h2 : (at' : Int) ≤ 4611686018427387904 - (n : Int) := by omega
  go_enter Try.func36, Try.ntmps36
  go_wp2
  go_ret
  exact ⟨rfl, rfl⟩

set_option maxRecDepth 100000 in
set_option maxHeartbeats 4000000 in
theorem stream_any (w : World) (k : List Nat) (at' n : Nat) (hk : Byt k) (hl : k.length = 16) (hpl : at' + n ≤ 4611686018427387904) (hn : n ≤ 140737488351232) :
    Calls Try.prog 13 #[.agg (cells8 k), .int .i64 (at' : Int), .int .i64 (n : Int)] w fun e w' => ∃ v', e = .returned (.tuple #[v', .int .i64 0]) ∧ w'.ownsRow w.heap.size 5 1 v' n ((strL k at' n).map (Value.int .u8)) ∧ Below w.heap.size w w' := by
  obtain ⟨i0, hi, hz0, hz1, hz2⟩ := info_parts info_u8
  obtain ⟨z0, z1, z2, z3, z4, z5, z6, z7, z8, z9, z10, z11, z12, z13, z14, z15, hz⟩ := list16 hl
  have HZ := hid hz
  have hcz : cells8 k = #[.int .u8 (z0 : Int), .int .u8 (z1 : Int), .int .u8 (z2 : Int), .int .u8 (z3 : Int), .int .u8 (z4 : Int), .int .u8 (z5 : Int), .int .u8 (z6 : Int), .int .u8 (z7 : Int), .int .u8 (z8 : Int), .int .u8 (z9 : Int), .int .u8 (z10 : Int), .int .u8 (z11 : Int), .int .u8 (z12 : Int), .int .u8 (z13 : Int), .int .u8 (z14 : Int), .int .u8 (z15 : Int)] := by rw [hz]; rfl
  have HCZ := hid hcz
  rw [hcz]
  clear hz hcz
  refine (callsIn_wide (n := 3)).1 ?_
  refine callsIn_of_wp_marks Try.func13 rfl trivial ?_ rfl
  simp only [Try.ntmps13, List.size_toArray, List.length_cons, List.length_nil, Nat.reduceAdd, Nat.reduceSub, Array.replicate_succ, Array.replicate_zero, List.push_toArray, List.append_toArray, List.nil_append, List.cons_append]
  refine wpIn_seq_k fun K1 h1 => ?_
  have H1 := hid h1
  clear h1
  gi_wp2
  refine H1.out _ _ ?_
  clear H1 K1
  obtain ⟨S, hS⟩ : ∃ S, w.heap.size = S := ⟨_, rfl⟩
  obtain ⟨W0, hW0⟩ : ∃ W0, Hid ((w.alloc (.cells (cells8 k) 23)).alloc (.cells #[.int .i64 (n : Int)] 3) = W0) := ⟨_, rfl⟩
  have hW0e := hW0.out
  rw [HCZ.out] at hW0e
  rw [hW0e, hS]
  clear hW0e
  have HB0 : Hid (Below S w W0) := by rw [← hW0.out, ← hS]; exact ((Below.refl _ w).alloc (Nat.le_refl _) _).alloc (by simp) _
  have hS0 : W0.heap.size = S + 2 := by rw [← hW0.out, ← hS]; simp
  have HKY0 : Hid (W0.heap[S]? = some (.cells (cells8 k) 23)) := by
    show _ = _
    rw [← hW0.out, ← hS]
    exact (Below.heap_alloc _ _ _ (by simp)).trans (World.alloc_heap_new w _)
  have HN0 : Hid (Boxed W0 (S + 1) 3 (.int .i64 (n : Int))) := by
    rw [← hW0.out, ← hS]
    have := Boxed.new (w.alloc (.cells (cells8 k) 23)) 3 (.int .i64 (n : Int))
    rwa [World.size_alloc] at this
  have c5 := HN0.out.cell
  have hn0 : ¬ ((n : Int) < 0) := by omega
  refine wpIn_seq_k fun K1 h1 => ?_
  have H1 := hid h1
  clear h1
  gi_wp2
  refine H1.out _ _ ?_
  clear H1 K1
  have HWI := hid (within_ok W0 at' n hpl)
  refine wpIn_seq_k fun K1 h1 => ?_
  have H1 := hid h1
  clear h1
  gi_wp2
  refine ⟨trivial, callsIn_wide.2 (HWI.out.mono ?_)⟩
  rintro e w' ⟨rfl, rfl⟩
  gi_wp2
  refine H1.out _ _ ?_
  clear H1 K1 HWI
  obtain ⟨w1, hmk, hown, hgr⟩ := run_make_full (P := Try.prog) w' w'.heap.size 32 5 i0 (.int .u8 0) 1 Try.underlying32 hi hz0 hz1 .i64 .i64 n (by rw [hz2]; omega) (by unfold maxLen; omega) (Nat.le_refl _)
  rw [hS0] at hown
  have HO1 := hid hown
  have HG1 := hid hgr
  clear hown hgr
  have HKY1 : Hid (w1.heap[S]? = some (.cells (cells8 k) 23)) := (HG1.out.block S (by omega) (by simp)).trans HKY0.out
  have HN1 : Hid (Boxed w1 (S + 1) 3 (.int .i64 (n : Int))) := HN0.out.kept HG1.out (by simp)
  have HB1 : Hid (Below S w w1) := HB0.out.trans ((Below.refl _ w').grown HG1.out (by omega) (fun k e => by cases e))
  refine wpIn_seq_k fun K1 h1 => ?_
  have H1 := hid h1
  clear h1
  gi_wp2
  refine H1.out _ _ ?_
  clear H1 K1 hmk c5
  obtain ⟨A0, HA0⟩ : ∃ A0, Hid (at' % 16 = A0) := ⟨_, rfl⟩
  obtain ⟨Q0, HQ0⟩ : ∃ Q0, Hid (at' / 16 = Q0) := ⟨_, rfl⟩
  have hAlt : A0 < 16 := by rw [← HA0.out]; omega
  have hQlt : Q0 < 18446744073709551616 := by rw [← HQ0.out]; omega
  have hrem : Int.tmod (at' : Int) 16 = (A0 : Int) := by rw [Int.tmod_eq_emod_of_nonneg (by omega), ← HA0.out]; omega
  have hquo : Int.tdiv (at' : Int) 16 = (Q0 : Int) := by rw [Int.tdiv_eq_ediv_of_nonneg (by omega), ← HQ0.out]; omega
  have hrem2 : (at' : Int) % 16 = (A0 : Int) := by rw [← HA0.out]; omega
  have hquo2 : (at' : Int) / 16 = (Q0 : Int) := by rw [← HQ0.out]; omega
  refine wpIn_seq_k fun K1 h1 => ?_
  have H1 := hid h1
  clear h1
  gi_wp2
  refine H1.out _ _ ?_
  clear H1 K1
  refine wpIn_seq_k fun K1 h1 => ?_
  have H1 := hid h1
  clear h1
  gi_wp2
  refine H1.out _ _ ?_
  clear H1 K1
  obtain ⟨T, hT⟩ : ∃ T, w1.heap.size = T := ⟨_, rfl⟩
  rw [hT]
  have hST : S + 3 ≤ T := by
    have := (HO1.out.lt (S + 2) rfl).2
    omega
  obtain ⟨W3, hW3⟩ : ∃ W3, Hid (((w1.alloc (.cells #[.slice (some ⟨S + 2, 0, none⟩) n n] 32)).alloc (.cells #[.int .i64 0] 3)).alloc (.cells #[.int .i64 (A0 : Int)] 3) = W3) := ⟨_, rfl⟩
  rw [hW3.out]
  have hS3 : W3.heap.size = T + 3 := by rw [← hW3.out]; simp; omega
  have HB3 : Hid (Below S w W3) := by
    rw [← hW3.out]
    exact ((HB1.out.alloc (by omega) _).alloc (by simp; omega) _).alloc (by simp; omega) _
  have HG3 : Hid (w1.grownBy W3 none) := by
    rw [← hW3.out]
    exact ⟨rfl, rfl, rfl, by simp; omega, fun i hi _ => (Below.heap_alloc _ _ _ (by simp; omega)).trans ((Below.heap_alloc _ _ _ (by simp; omega)).trans (Below.heap_alloc _ _ _ hi))⟩
  have HKY3 : Hid (W3.heap[S]? = some (.cells (cells8 k) 23)) := (HG3.out.block S (by omega) (by simp)).trans HKY1.out
  have HN3 : Hid (Boxed W3 (S + 1) 3 (.int .i64 (n : Int))) := HN1.out.kept HG3.out (by simp)
  have HO3 : Hid (W3.ownsRow (S + 2) 5 1 (.slice (some ⟨S + 2, 0, none⟩) n n) n ((curS k at' n 0).map (Value.int .u8))) := by
    show World.ownsRow _ _ _ _ _ _ _
    have e : (madeCells (Value.int IntKind.u8 0).cells (n * 1)).toList = (curS k at' n 0).map (Value.int .u8) := by
      rw [show (Value.int IntKind.u8 0).cells = #[Value.int .u8 0] from rfl, toList_madeCells_one]
      simp [curS]
    rw [← e]
    exact HO1.out.kept HG3.out (.inr (by simp [Value.ownBlock]))
  have HOX : Hid (Boxed W3 T 32 (.slice (some ⟨S + 2, 0, none⟩) n n)) := by
    rw [← hW3.out, ← hT]
    exact ((Boxed.new w1 _ _).alloc _).alloc _
  have HFX : Hid (Boxed W3 (T + 1) 3 (.int .i64 0)) := by
    rw [← hW3.out, ← hT]
    have := (Boxed.new (w1.alloc (.cells #[.slice (some ⟨S + 2, 0, none⟩) n n] 32)) 3 (.int .i64 0)).alloc (.cells #[.int .i64 (A0 : Int)] 3)
    rwa [World.size_alloc] at this
  have HAX : Hid (Boxed W3 (T + 2) 3 (.int .i64 (A0 : Int))) := by
    rw [← hW3.out, ← hT]
    have := Boxed.new ((w1.alloc (.cells #[.slice (some ⟨S + 2, 0, none⟩) n n] 32)).alloc (.cells #[.int .i64 0] 3)) 3 (.int .i64 (A0 : Int))
    rwa [World.size_alloc, World.size_alloc] at this
  have hcl : ∀ i, i < 16 → W3.cell? ⟨S, i, none⟩ = some (.int .u8 ((at8 k i : Nat) : Int)) := fun i hi => by
    simp [World.cell?, HKY3.out, cells8, at8, List.getD, hl, hi]
  rw [HZ.out] at hcl
  have hc0 : W3.cell? ⟨S, 0, none⟩ = some (.int .u8 (z0 : Int)) := hcl 0 (by decide)
  have hc1 : W3.cell? ⟨S, 1, none⟩ = some (.int .u8 (z1 : Int)) := hcl 1 (by decide)
  have hc2 : W3.cell? ⟨S, 2, none⟩ = some (.int .u8 (z2 : Int)) := hcl 2 (by decide)
  have hc3 : W3.cell? ⟨S, 3, none⟩ = some (.int .u8 (z3 : Int)) := hcl 3 (by decide)
  have hc4 : W3.cell? ⟨S, 4, none⟩ = some (.int .u8 (z4 : Int)) := hcl 4 (by decide)
  have hc5 : W3.cell? ⟨S, 5, none⟩ = some (.int .u8 (z5 : Int)) := hcl 5 (by decide)
  have hc6 : W3.cell? ⟨S, 6, none⟩ = some (.int .u8 (z6 : Int)) := hcl 6 (by decide)
  have hc7 : W3.cell? ⟨S, 7, none⟩ = some (.int .u8 (z7 : Int)) := hcl 7 (by decide)
  have hc8 : W3.cell? ⟨S, 8, none⟩ = some (.int .u8 (z8 : Int)) := hcl 8 (by decide)
  have hc9 : W3.cell? ⟨S, 9, none⟩ = some (.int .u8 (z9 : Int)) := hcl 9 (by decide)
  have hc10 : W3.cell? ⟨S, 10, none⟩ = some (.int .u8 (z10 : Int)) := hcl 10 (by decide)
  have hc11 : W3.cell? ⟨S, 11, none⟩ = some (.int .u8 (z11 : Int)) := hcl 11 (by decide)
  have hc12 : W3.cell? ⟨S, 12, none⟩ = some (.int .u8 (z12 : Int)) := hcl 12 (by decide)
  have hc13 : W3.cell? ⟨S, 13, none⟩ = some (.int .u8 (z13 : Int)) := hcl 13 (by decide)
  have hc14 : W3.cell? ⟨S, 14, none⟩ = some (.int .u8 (z14 : Int)) := hcl 14 (by decide)
  have hc15 : W3.cell? ⟨S, 15, none⟩ = some (.int .u8 (z15 : Int)) := hcl 15 (by decide)
  clear hcl
  have HBL := hid (blocks_any W3 k Q0 hk hl)
  rw [HCZ.out] at HBL
  refine wpIn_seq_k fun K9 h9 => ?_
  have H9 := hid h9
  clear h9
  refine wpIn_seq_k fun K1 h1 => ?_
  have H1 := hid h1
  clear h1
  gi_wp2
  refine ⟨trivial, callsIn_wide.2 (HBL.out.mono ?_)⟩
  rintro e w4 ⟨b1, b4, g, rfl, hat, hD, hB4⟩
  have HAT := hid hat
  have HD := hid hD
  have HB4 := hid hB4
  clear hat hD hB4 HBL hc0 hc1 hc2 hc3 hc4 hc5 hc6 hc7 hc8 hc9 hc10 hc11 hc12 hc13 hc14 hc15
  rw [← HCZ.out]
  have hS4 := HB4.out.size
  gi_wp2
  refine H1.out _ _ ?_
  clear H1 K1
  have HG4 : Hid (W3.grownBy w4 none) := grown_of HB4.out
  have hkv : (Value.agg (cells8 k)).oneCell' = (Value.agg (cells8 k)).oneCell' := rfl
  refine wpIn_block ?_
  refine range_fit2 rfl (by decide) (gf := 30) (lb := #[.pointer (some ⟨b1, 0, none⟩), .pointer (some ⟨b4, 0, none⟩)]) rfl trivial (enters_of Try.func30 (by kernel_rfl) rfl)
    (blocks_iter (3 - 1) w4 b1 b4 g Q0 k hk hl hQlt HAT.out (fun i hi => (HD.out i hi).2)) (KD.refl _ _) (fun i hi => (HD.out i hi).2) (fun _ _ => rfl)
    (fun j W => Boxed W T 32 (.slice (some ⟨S + 2, 0, none⟩) n n) ∧ Boxed W (T + 1) 3 (.int .i64 ((16 * j - A0 : Nat) : Int)) ∧ Boxed W (T + 2) 3 (.int .i64 ((if j = 0 then A0 else 0 : Nat) : Int)) ∧ Boxed W (S + 1) 3 (.int .i64 (n : Int)) ∧
      W.ownsRow (S + 2) 5 1 (.slice (some ⟨S + 2, 0, none⟩) n n) n ((curS k at' n (16 * j - A0)).map (Value.int .u8)) ∧ Below S w W ∧ w4.heap.size ≤ W.heap.size ∧ (j = 0 ∨ 16 * j < A0 + n))
    (fun c W => c = .exit 0 ∧ Boxed W T 32 (.slice (some ⟨S + 2, 0, none⟩) n n) ∧ W.ownsRow (S + 2) 5 1 (.slice (some ⟨S + 2, 0, none⟩) n n) n ((strL k at' n).map (Value.int .u8)) ∧ Below S w W)
    (fun s A C row hs hg hr => ⟨box_from hs.1 hg hr, box_from hs.2.1 hg hr, box_from hs.2.2.1 hg hr, box_from hs.2.2.2.1 hg hr, row_from hs.2.2.2.2.1 hg hr, below_from hs.2.2.2.2.2.1 (by omega) hg hr (by omega), Nat.le_trans hs.2.2.2.2.2.2.1 hg.size, hs.2.2.2.2.2.2.2⟩)
    (fun s A C row hs hg hr => ⟨hs.1, box_from hs.2.1 hg hr, row_from hs.2.2.1 hg hr, below_from hs.2.2.2 (by omega) hg hr (by omega)⟩)
    (fun j v _ A C row hs hg hr => hs)
    ⟨HOX.out.kept HG4.out (by simp), (by rw [show 16 * 0 - A0 = 0 by omega]; exact HFX.out.kept HG4.out (by simp)), HAX.out.kept HG4.out (by simp), HN3.out.kept HG4.out (by simp), (by rw [show 16 * 0 - A0 = 0 by omega]; exact HO3.out.kept HG4.out (.inr (by simp [Value.ownBlock]))), HB3.out.trans (HB4.out.mono (by omega)), Nat.le_refl _, .inl rfl⟩
    (fun j v a1 W => ∃ b12, w4.heap.size ≤ b12 ∧ b12 < W.heap.size ∧ (∀ i, i < 16 → W.cell? ⟨b12, i, none⟩ = some (.int .u8 ((at8 (ksL k (Q0 + j)) i : Nat) : Int))) ∧
      a1 = { tmps := #[.agg (cells8 k), .int .i64 (at' : Int), .int .i64 (n : Int), .pointer (some ⟨S, 0, none⟩), undef, .pointer (some ⟨S + 1, 0, none⟩), .slice none 0 0, .int .i64 0, .pointer (some ⟨T, 0, none⟩), .pointer (some ⟨T + 1, 0, none⟩), .pointer (some ⟨T + 1 + 1, 0, none⟩), undef, .pointer (some ⟨b12, 0, none⟩), .int .i64 (n : Int), .bool false, .int .i64 (at' : Int), .int .i64 (n : Int), .bool true, .bool false, .int .i64 (n : Int), .slice (some ⟨S + 2, 0, none⟩) n n, .int .i64 (at' : Int), .int .i64 (A0 : Int), .agg (cells8 k), .int .i64 (at' : Int), .int .i64 (Q0 : Int), .int .u64 (Q0 : Int), .func (.func 30) #[] #[.pointer (some ⟨b1, 0, none⟩), .pointer (some ⟨b4, 0, none⟩)], .int .u64 ((Q0 + j : Nat) : Int), v, undef, undef, undef, undef, undef, undef, undef, undef, undef, undef, undef, undef], defers := [] } ∧
      (Boxed W T 32 (.slice (some ⟨S + 2, 0, none⟩) n n) ∧ Boxed W (T + 1) 3 (.int .i64 ((16 * j - A0 : Nat) : Int)) ∧ Boxed W (T + 2) 3 (.int .i64 ((if j = 0 then A0 else 0 : Nat) : Int)) ∧ Boxed W (S + 1) 3 (.int .i64 (n : Int)) ∧
      W.ownsRow (S + 2) 5 1 (.slice (some ⟨S + 2, 0, none⟩) n n) n ((curS k at' n (16 * j - A0)).map (Value.int .u8)) ∧ Below S w W ∧ w4.heap.size ≤ W.heap.size ∧ (j = 0 ∨ 16 * j < A0 + n)))
    ?hA ?assign ?body ?done ?stop
  case hA =>
    rintro j v a1 A C row ⟨b12, h1, h2, h3, h4, hs⟩ hg hr
    refine ⟨b12, h1, Nat.lt_of_lt_of_le h2 hg.size, fun i hi => ?_, h4, ⟨box_from hs.1 hg hr, box_from hs.2.1 hg hr, box_from hs.2.2.1 hg hr, box_from hs.2.2.2.1 hg hr, row_from hs.2.2.2.2.1 hg hr, below_from hs.2.2.2.2.2.1 (by omega) hg hr (by omega), Nat.le_trans hs.2.2.2.2.2.2.1 hg.size, hs.2.2.2.2.2.2.2⟩⟩
    have e : C.heap[b12]? = A.heap[b12]? := hg.block b12 h2 fun e => by
      obtain ⟨_, o, ho, hc⟩ := hr b12 e.symm
      have := h3 i hi
      unfold World.cell? at this
      rw [ho] at this
      cases o <;> simp_all [Obj.isCells]
    have := h3 i hi
    unfold World.cell? at this ⊢
    rw [e]; exact this
  case done =>
    rintro d W _ hs _
    exfalso
    have := hs.2.2.2.2.2.2.2
    have := HQ0.out
    omega
  case stop =>
    rintro d c W hd ⟨rfl, x1, x2, x3⟩ hK
    have c2 := x1.cell
    have HKD := hid hK
    have X2 := hid x2
    have X3 := hid x3
    clear x1 x2 x3 hK
    refine wpIn_exit ?_
    show K9 _ _
    refine H9.out _ _ ?_
    clear H9 K9
    gi_wp2
    refine ⟨by simp, .inl ⟨_, _, rfl, run_takeDeferred HKD.out, ?_⟩⟩
    exact ⟨_, results_tmp2 rfl _ _ _, _, rfl, own_mono (ownsRow_putObj X2.out _ HKD.out rfl) (by omega), X3.out.trans (belowK_b (w := w) (by omega) W d _ _ (by omega) HKD.out rfl rfl)⟩
  case assign =>
    rintro l j v W hll hs hv hj
    subst hv
    obtain ⟨y0, y1, y2, y3, y4, y5, y6, y7, y8, y9, y10, y11, y12, y13, y14, y15, hy⟩ := list16 (ksL_ok hl hk (Q0 + j)).1
    have HY := hid hy
    have hcy : cells8 (ksL k (Q0 + j)) = #[.int .u8 (y0 : Int), .int .u8 (y1 : Int), .int .u8 (y2 : Int), .int .u8 (y3 : Int), .int .u8 (y4 : Int), .int .u8 (y5 : Int), .int .u8 (y6 : Int), .int .u8 (y7 : Int), .int .u8 (y8 : Int), .int .u8 (y9 : Int), .int .u8 (y10 : Int), .int .u8 (y11 : Int), .int .u8 (y12 : Int), .int .u8 (y13 : Int), .int .u8 (y14 : Int), .int .u8 (y15 : Int)] := by rw [hy]; rfl
    have HCY := hid hcy
    rw [hcy]
    have HS := hid hs
    clear hs hy hcy
    refine wpIn_mono (Q := fun e a₁ W₁ => e = .normal ∧ a₁ = { tmps := #[.agg (cells8 k), .int .i64 (at' : Int), .int .i64 (n : Int), .pointer (some ⟨S, 0, none⟩), undef, .pointer (some ⟨S + 1, 0, none⟩), .slice none 0 0, .int .i64 0, .pointer (some ⟨T, 0, none⟩), .pointer (some ⟨T + 1, 0, none⟩), .pointer (some ⟨T + 1 + 1, 0, none⟩), undef, .pointer (some ⟨W.heap.size, 0, none⟩), .int .i64 (n : Int), .bool false, .int .i64 (at' : Int), .int .i64 (n : Int), .bool true, .bool false, .int .i64 (n : Int), .slice (some ⟨S + 2, 0, none⟩) n n, .int .i64 (at' : Int), .int .i64 (A0 : Int), .agg (cells8 k), .int .i64 (at' : Int), .int .i64 (Q0 : Int), .int .u64 (Q0 : Int), .func (.func 30) #[] #[.pointer (some ⟨b1, 0, none⟩), .pointer (some ⟨b4, 0, none⟩)], .int .u64 ((Q0 + j : Nat) : Int), .agg (cells8 (ksL k (Q0 + j))), undef, undef, undef, undef, undef, undef, undef, undef, undef, undef, undef, undef], defers := [] } ∧ W₁ = W.alloc (.cells (cells8 (ksL k (Q0 + j))) 29)) ?_ ?_
    · rw [HCY.out]
      gi_wp2
    · rintro e a₁ W₁ ⟨rfl, rfl, rfl⟩
      rw [← HCY.out]
      have hg := World.grownBy_alloc W (.cells (cells8 (ksL k (Q0 + j))) 29) none
      have hr : ∀ r, (none : Option Nat) = some r → w4.heap.size ≤ r ∧ ∃ o : Obj, W.heap[r]? = some o ∧ o.isCells = false := fun r e => by cases e
      have hs := HS.out
      refine ⟨KeepsFrom.of_grownBy hg (fun j e => by cases e), ⟨hg.size, fun i hi => hg.block i (by have := (HD.out i hi).2; have := hs.2.2.2.2.2.2.1; omega) (by simp)⟩, W.heap.size, hs.2.2.2.2.2.2.1, by simp, fun i hi => ?_, rfl, ⟨box_from hs.1 hg hr, box_from hs.2.1 hg hr, box_from hs.2.2.1 hg hr, box_from hs.2.2.2.1 hg hr, row_from hs.2.2.2.2.1 hg hr, below_from hs.2.2.2.2.2.1 (by omega) hg hr (by omega), Nat.le_trans hs.2.2.2.2.2.2.1 hg.size, hs.2.2.2.2.2.2.2⟩⟩
      have hln := (ksL_ok hl hk (Q0 + j)).1
      unfold World.cell?
      rw [World.alloc_heap_new]
      simp [cells8, at8, List.getD, hln, hi]
  case body =>
    rintro l j v a1 W hll hrec ⟨b12, hb1, hb2, hc, rfl, x1, x2, x3, x4, x5, x6, x7, x8⟩ hj
    clear hrec
    obtain ⟨F, HF⟩ : ∃ F, Hid (16 * j - A0 = F) := ⟨_, rfl⟩
    obtain ⟨ah, HAh⟩ : ∃ ah, Hid ((if j = 0 then A0 else 0) = ah) := ⟨_, rfl⟩
    rw [HF.out] at x2 x5
    rw [HAh.out] at x3
    have hrel : ah < 16 ∧ F ≤ n ∧ (n = F → F = 0) ∧ at' + F = 16 * (Q0 + j) + ah := by
      have e1 := HF.out
      have e2 := HAh.out
      have e3 := HA0.out
      have e4 := HQ0.out
      split at e2 <;> omega
    obtain ⟨hah, hFn, hF0, hmath⟩ := hrel
    obtain ⟨c, HC⟩ : ∃ c, Hid (c = min (16 - ah) (n - F)) := ⟨_, rfl⟩
    have hcl1 : c ≤ 16 - ah := by rw [HC.out]; omega
    have hcl2 : F + c ≤ n := by rw [HC.out]; omega
    have HST : Hid (setAll ((curS k at' n F).map (Value.int .u8)) F (blkC k (Q0 + j) ah c) = (curS k at' n (F + c)).map (Value.int .u8)) := curS_step k at' n F c ah (Q0 + j) hcl2 fun t ht => by omega
    have X1 := hid x1
    have X2 := hid x2
    have X3 := hid x3
    have X4 := hid x4
    have X5 := hid x5
    have X6 := hid x6
    have HCC := hid hc
    have hS2T : S + 2 ≠ T := by omega
    clear x1 x2 x3 x4 x5 x6 hc
    refine wpIn_block ?_
    refine wpIn_seq_k fun K1 h1 => ?_
    have H1 := hid h1
    clear h1
    have hm : Try.prog.follows .mixedOrders = true := mixedOrders
    obtain ⟨G, HGe⟩ : ∃ G, Hid (F + c = G) := ⟨_, rfl⟩
    have hGn : G ≤ n := by rw [← HGe.out]; exact hcl2
    have hadd : (F : Int) + (c : Int) = (G : Int) := by have := HGe.out; omega
    have hwr : IntKind.i64.wrap ((F : Int) + (c : Int)) = (G : Int) := by rw [IntKind.wrap_i64]; omega
    obtain ⟨Wc, HWc⟩ : ∃ Wc, Hid (W.drew.setCells (S + 2) F (blkC k (Q0 + j) ah c) = Wc) := ⟨_, rfl⟩
    obtain ⟨Wd, HWd⟩ : ∃ Wd, Hid (Wc.setCell ⟨T + 1, 0, none⟩ (.int .i64 (G : Int)) = Wd) := ⟨_, rfl⟩
    have HCP : Hid ((Builtin.copy_ #[32, 32] 3 #[.slice (some ⟨S + 2, F, none⟩) (n - F) (n - F), .slice (some ⟨b12, ah, none⟩) (16 - ah) (16 - ah)]).run Try.prog W.drew = .ok (.int .i64 (c : Int)) Wc) := by
      rw [← HWc.out]
      exact run_copy_blk W.drew (S + 2) n (S + 2) F b12 ah c k (Q0 + j) _ _ (by simp [curS_length k at' n F hFn]) X5.out hFn HC.out HCC.out
    have gC : W.drew.grownBy Wc (some (S + 2)) := by rw [← HWc.out]; exact grown_cells (S + 2) _ F W.drew
    have gD : Wc.grownBy Wd (some (T + 1)) := by rw [← HWd.out]; exact grown_sets Wc (T + 1) 0 _
    have bT : Boxed W.drew T 32 (.slice (some ⟨S + 2, 0, none⟩) n n) := X1.out
    have bF : Boxed W.drew (T + 1) 3 (.int .i64 (F : Int)) := X2.out
    have bA : Boxed W.drew (T + 1 + 1) 3 (.int .i64 (ah : Int)) := X3.out
    have bN : Boxed W.drew (S + 1) 3 (.int .i64 (n : Int)) := X4.out
    have ne1 : some T ≠ some (S + 2) := by simp; omega
    have ne2 : some (T + 1) ≠ some (S + 2) := by simp; omega
    have ne3 : some (T + 1 + 1) ≠ some (S + 2) := by simp; omega
    have ne4 : some (S + 1) ≠ some (S + 2) := by simp
    have ne5 : some T ≠ some (T + 1) := by simp
    have ne6 : some (T + 1 + 1) ≠ some (T + 1) := by simp
    have ne7 : some (S + 1) ≠ some (T + 1) := by simp; omega
    have HSS : Hid ((fun V : World => V.cell? ⟨T, 0, none⟩ = some (.slice (some ⟨S + 2, 0, none⟩) n n) ∧ V.cell? ⟨T + 1 + 1, 0, none⟩ = some (.int .i64 (ah : Int))) W.drew) := ⟨X1.out.cell, X3.out.cell⟩
    have HSC : Hid ((fun V : World => V.cell? ⟨T, 0, none⟩ = some (.slice (some ⟨S + 2, 0, none⟩) n n) ∧ V.cell? ⟨T + 1 + 1, 0, none⟩ = some (.int .i64 (ah : Int))) Wc) := ⟨(bT.kept gC ne1).cell, (bA.kept gC ne3).cell⟩
    have HSD : Hid ((fun V : World => V.cell? ⟨T, 0, none⟩ = some (.slice (some ⟨S + 2, 0, none⟩) n n) ∧ V.cell? ⟨T + 1 + 1, 0, none⟩ = some (.int .i64 (ah : Int))) (Wc.setCell ⟨T + 1, 0, none⟩ (.int .i64 (G : Int)))) := by rw [HWd.out]; exact ⟨((bT.kept gC ne1).kept gD ne5).cell, ((bA.kept gC ne3).kept gD ne6).cell⟩
    have DT := hid ((bT.kept gC ne1).kept gD ne5)
    have DF : Hid (Boxed Wd (T + 1) 3 (.int .i64 (G : Int))) := by rw [← HWd.out]; exact Boxed.set _ (bF.kept gC ne2)
    have DA := hid ((bA.kept gC ne3).kept gD ne6)
    have DN := hid ((bN.kept gC ne4).kept gD ne7)
    have OD : Hid (Wd.ownsRow (S + 2) 5 1 (.slice (some ⟨S + 2, 0, none⟩) n n) n ((curS k at' n G).map (Value.int .u8))) := by
      show World.ownsRow _ _ _ _ _ _ _
      have h0 : W.drew.ownsRow (S + 2) 5 1 (.slice (some ⟨S + 2, 0, none⟩) n n) n ((curS k at' n F).map (Value.int .u8)) := X5.out
      have h1 := own_setAll (blkC k (Q0 + j) ah c) F W.drew _ h0
      rw [HST.out, HGe.out, HWc.out] at h1
      exact h1.kept gD (.inr (by simp [Value.ownBlock]; omega))
    have BD : Hid (Below S w Wd) := (X6.out.drew.grown gC (by have := X6.out.size; have : W.drew.heap.size = W.heap.size := rfl; omega) (fun k e => by cases e; omega)).grown gD (by have := gC.size; have := X6.out.size; have : W.drew.heap.size = W.heap.size := rfl; omega) (fun k e => by cases e; omega)
    have KDd : Hid (∀ i, i ≠ S + 2 → i ≠ T + 1 → i < W.heap.size → Wd.heap[i]? = W.heap[i]?) := fun i h1 h2 h3 => by
      have q1 := gC.block i h3 (by simp; exact h1)
      have q2 := gD.block i (Nat.lt_of_lt_of_le h3 gC.size) (by simp; exact h2)
      exact q2.trans q1
    have SZd : Hid (W.heap.size ≤ Wd.heap.size) := Nat.le_trans gC.size gD.size
    have c9c := (bF.kept gC ne2).cell
    have f9c := (bF.kept gC ne2).frozen
    have c9 : W.drew.cell? ⟨T + 1, 0, none⟩ = some (.int .i64 (F : Int)) := X2.out.cell
    have FIN : Hid (K1 { tmps := #[.agg (cells8 k), .int .i64 (at' : Int), .int .i64 (n : Int), .pointer (some ⟨S, 0, none⟩), undef, .pointer (some ⟨S + 1, 0, none⟩), .slice none 0 0, .int .i64 0, .pointer (some ⟨T, 0, none⟩), .pointer (some ⟨T + 1, 0, none⟩), .pointer (some ⟨T + 1 + 1, 0, none⟩), undef, .pointer (some ⟨b12, 0, none⟩), .int .i64 (n : Int), .bool false, .int .i64 (at' : Int), .int .i64 (n : Int), .bool true, .bool false, .int .i64 (n : Int), .slice (some ⟨S + 2, 0, none⟩) n n, .int .i64 (at' : Int), .int .i64 (A0 : Int), .agg (cells8 k), .int .i64 (at' : Int), .int .i64 (Q0 : Int), .int .u64 (Q0 : Int), .func (.func 30) #[] #[.pointer (some ⟨b1, 0, none⟩), .pointer (some ⟨b4, 0, none⟩)], .int .u64 ((Q0 + j : Nat) : Int), v, .int .i64 (F : Int), .slice (some ⟨S + 2, 0, none⟩) n n, .int .i64 (F : Int), .slice (some ⟨S + 2, F, none⟩) (n - F) (n - F), .int .i64 (ah : Int), .slice (some ⟨b12, ah, none⟩) (16 - ah) (16 - ah), .int .i64 (c : Int), .int .i64 (G : Int), undef, undef, undef, undef], defers := [] } (Wc.setCell ⟨T + 1, 0, none⟩ (.int .i64 (G : Int)))) := by
      refine H1.out _ _ ?_
      rw [HWd.out]
      clear c9c f9c c9 H1 HCP
      have c9 := DF.out.cell
      have c5 := DN.out.cell
      have c10 := DA.out.cell
      have f10 := DA.out.frozen
      by_cases hG : G = n
      · have hGi : (G : Int) = (n : Int) := by omega
        gi_wp2
        refine ⟨⟨SZd.out, fun i o hi ho _ => (KDd.out i (by omega) (by omega) (Array.getElem?_eq_some_iff.1 ho).1).trans ho⟩, rfl, DT.out, ?_, BD.out⟩
        have := OD.out
        rw [hG, curS_all] at this
        exact this
      · have hGi : ¬ (G : Int) = (n : Int) := by omega
        gi_wp2
        obtain ⟨We, HWe⟩ : ∃ We, Hid (Wd.setCell ⟨T + 1 + 1, 0, none⟩ (.int .i64 0) = We) := ⟨_, rfl⟩
        rw [HWe.out]
        have gE : Wd.grownBy We (some (T + 1 + 1)) := by rw [← HWe.out]; exact grown_sets Wd (T + 1 + 1) 0 _
        have hej : 16 * (j + 1) - A0 = G := by
          have e1 := HF.out
          have e2 := HAh.out
          have e3 := HC.out
          have e4 := HGe.out
          split at e2 <;> omega
        have KDe : ∀ i, i ≠ S + 2 → i ≠ T + 1 → i ≠ T + 1 + 1 → i < W.heap.size → We.heap[i]? = W.heap[i]? := fun i q1 q2 q3 q4 => (gE.block i (Nat.lt_of_lt_of_le q4 SZd.out) (by simp; exact q3)).trans (KDd.out i q1 q2 q4)
        refine ⟨⟨Nat.le_trans SZd.out gE.size, fun i o hi ho _ => (KDe i (by omega) (by omega) (by omega) (Array.getElem?_eq_some_iff.1 ho).1).trans ho⟩, ⟨Nat.le_trans SZd.out gE.size, fun i hi => KDe i (by have := (HD.out i hi).1; omega) (by have := (HD.out i hi).1; omega) (by have := (HD.out i hi).1; omega) (by have := (HD.out i hi).2; omega)⟩, DT.out.kept gE (by simp; omega), ?_, ?_, DN.out.kept gE (by simp; omega), ?_, BD.out.grown gE (by have := BD.out.size; omega) (fun k e => by cases e; omega), Nat.le_trans x7 (Nat.le_trans SZd.out gE.size), .inr ?_⟩
        · rw [hej]; exact DF.out.kept gE (by simp)
        · rw [if_neg (by omega), ← HWe.out]; exact Boxed.set _ DA.out
        · rw [hej]; exact OD.out.kept gE (.inr (by simp [Value.ownBlock]; omega))
        · omega
    clear bT bF bA bN gC gD ne1 ne2 ne3 ne4 ne5 ne6 ne7
    refine wpIn_mono (wpIn_region_any hm (any_in (ro := some l) (Y := []) (yv := undef) (Q := fun e a' w' => e = .normal ∧ K1 a' w') (fun e a w q => q.1) (by kernel_rfl) _ _ _ _ (wpAny_of_held (S := (fun V : World => V.cell? ⟨T, 0, none⟩ = some (.slice (some ⟨S + 2, 0, none⟩) n n) ∧ V.cell? ⟨T + 1 + 1, 0, none⟩ = some (.int .i64 (ah : Int)))) _ _ _ _ ?_) (fun y hy => by cases hy))) (fun e a' w' q => by rw [q.1.1]; exact q.1.2)
    change wpAnyH _ _ _ _ _ _ _ _ (World.drew _)
    refine wpAnyH_take (i := 1) (v := ?_) rfl (by kernel_rfl) (by kernel_rfl) (by kernel_rfl) (fun _ _ _ h => by cases h.1) (Or.inl ⟨by rfl, ?q1⟩) HSS.out ?_
    case q1 => intro w hSw; have hs1 := hSw.1; have hs2 := hSw.2; clear hSw; go_simp; rfl
    simp only [Act.put, List.getElem_toArray, List.getElem_cons_zero, List.getElem_cons_succ, List.setIfInBounds_toArray, List.set_cons_zero, List.set_cons_succ]
    refine wpAnyH_take (i := 4) (v := ?_) rfl (by kernel_rfl) (by kernel_rfl) (by kernel_rfl) (fun _ _ _ h => by cases h.1) (Or.inl ⟨by rfl, ?q4⟩) HSS.out ?_
    case q4 => intro w hSw; have hs1 := hSw.1; have hs2 := hSw.2; clear hSw; go_simp; rfl
    simp only [Act.put, List.getElem_toArray, List.getElem_cons_zero, List.getElem_cons_succ, List.setIfInBounds_toArray, List.set_cons_zero, List.set_cons_succ]
    refine wpAnyH_take (i := 5) (v := ?_) rfl (by kernel_rfl) (by kernel_rfl) (by kernel_rfl) (fun _ _ _ h => by cases h.1) (Or.inl ⟨by rfl, ?q5⟩) HSS.out ?_
    case q5 => intro w hSw; have hs1 := hSw.1; have hs2 := hSw.2; clear hSw; have hsb := run_slice_blk b12 ah hah w; go_simp; rfl
    simp only [Act.put, List.getElem_toArray, List.getElem_cons_zero, List.getElem_cons_succ, List.setIfInBounds_toArray, List.set_cons_zero, List.set_cons_succ]
    refine wpAnyH_ready (rs := [0, 2]) (by kernel_rfl) (by simp) ?_
    refine AllReadyH.cons rfl (fun K hK => ?_) (AllReadyH.cons rfl (fun K hK => ?_) AllReadyH.nil)
    · go_simp
      refine hK.out _ _ HSS.out (fun _ => ?_)
      clear hK K
      refine wpAnyH_ready (rs := [2]) (by kernel_rfl) (by simp) ?_
      refine AllReadyH.cons rfl (fun K hK => ?_) AllReadyH.nil
      go_simp
      refine hK.out _ _ HSS.out (fun _ => ?_)
      clear hK K
      refine wpAnyH_take (i := 3) (v := .slice (some ⟨S + 2, F, none⟩) (n - F) (n - F)) rfl (by kernel_rfl) (by kernel_rfl) (by kernel_rfl) (fun _ _ _ h => by cases h.1) (Or.inl ⟨by rfl, ?qa3⟩) HSS.out ?_
      case qa3 => intro w hSw; have hs1 := hSw.1; have hs2 := hSw.2; clear hSw; have hso := run_slice_out w (S + 2) n F hFn hF0; go_simp
      simp only [Act.put, List.getElem_toArray, List.getElem_cons_zero, List.getElem_cons_succ, List.setIfInBounds_toArray, List.set_cons_zero, List.set_cons_succ]
      refine wpAnyH_ready (rs := [6]) (by kernel_rfl) (by simp) ?_
      refine AllReadyH.cons rfl (fun K hK => ?_) AllReadyH.nil
      rw [if_pos (show Region.wanted _ _ = true from rfl)]
      refine wp_cp (x := .tmp 33) (y := .tmp 35) rfl rfl rfl HCP.out ?_
      refine hK.out _ _ HSC.out (fun _ => ?_)
      clear hK K
      simp only [Act.put, List.getElem_toArray, List.getElem_cons_zero, List.getElem_cons_succ, List.setIfInBounds_toArray, List.set_cons_zero, List.set_cons_succ]
      refine wpAnyH_take (i := 7) (v := .int .i64 (G : Int)) rfl (by kernel_rfl) (by kernel_rfl) (by kernel_rfl) (fun _ _ _ h => by cases h.1) (Or.inl ⟨by rfl, ?qa7⟩) HSC.out ?_
      case qa7 => intro w hSw; have hs1 := hSw.1; have hs2 := hSw.2; clear hSw; go_simp; rw [IntKind.wrap_i64]; omega
      simp only [Act.put, List.getElem_toArray, List.getElem_cons_zero, List.getElem_cons_succ, List.setIfInBounds_toArray, List.set_cons_zero, List.set_cons_succ]
      refine wpAnyH_ready (rs := [8]) (by kernel_rfl) (by simp) ?_
      refine AllReadyH.cons rfl (fun K hK => ?_) AllReadyH.nil
      go_simp
      refine hK.out _ _ HSD.out (fun _ => ?_)
      clear hK K
      refine wpAnyH_done (by kernel_rfl) ⟨rfl, ?_⟩ _
      exact FIN.out
    · go_simp
      refine hK.out _ _ HSS.out (fun _ => ?_)
      clear hK K
      refine wpAnyH_take (i := 3) (v := .slice (some ⟨S + 2, F, none⟩) (n - F) (n - F)) rfl (by kernel_rfl) (by kernel_rfl) (by kernel_rfl) (fun _ _ _ h => by cases h.1) (Or.inl ⟨by rfl, ?qb3⟩) HSS.out ?_
      case qb3 => intro w hSw; have hs1 := hSw.1; have hs2 := hSw.2; clear hSw; have hso := run_slice_out w (S + 2) n F hFn hF0; go_simp
      simp only [Act.put, List.getElem_toArray, List.getElem_cons_zero, List.getElem_cons_succ, List.setIfInBounds_toArray, List.set_cons_zero, List.set_cons_succ]
      refine wpAnyH_ready (rs := [0, 6]) (by kernel_rfl) (by simp) ?_
      refine AllReadyH.cons rfl (fun K hK => ?_) (AllReadyH.cons rfl (fun K hK => ?_) AllReadyH.nil)
      · go_simp
        refine hK.out _ _ HSS.out (fun _ => ?_)
        clear hK K
        refine wpAnyH_ready (rs := [6]) (by kernel_rfl) (by simp) ?_
        refine AllReadyH.cons rfl (fun K hK => ?_) AllReadyH.nil
        rw [if_pos (show Region.wanted _ _ = true from rfl)]
        refine wp_cp (x := .tmp 33) (y := .tmp 35) rfl rfl rfl HCP.out ?_
        refine hK.out _ _ HSC.out (fun _ => ?_)
        clear hK K
        simp only [Act.put, List.getElem_toArray, List.getElem_cons_zero, List.getElem_cons_succ, List.setIfInBounds_toArray, List.set_cons_zero, List.set_cons_succ]
        refine wpAnyH_take (i := 7) (v := .int .i64 (G : Int)) rfl (by kernel_rfl) (by kernel_rfl) (by kernel_rfl) (fun _ _ _ h => by cases h.1) (Or.inl ⟨by rfl, ?qb7⟩) HSC.out ?_
        case qb7 => intro w hSw; have hs1 := hSw.1; have hs2 := hSw.2; clear hSw; go_simp; rw [IntKind.wrap_i64]; omega
        simp only [Act.put, List.getElem_toArray, List.getElem_cons_zero, List.getElem_cons_succ, List.setIfInBounds_toArray, List.set_cons_zero, List.set_cons_succ]
        refine wpAnyH_ready (rs := [8]) (by kernel_rfl) (by simp) ?_
        refine AllReadyH.cons rfl (fun K hK => ?_) AllReadyH.nil
        go_simp
        refine hK.out _ _ HSD.out (fun _ => ?_)
        clear hK K
        refine wpAnyH_done (by kernel_rfl) ⟨rfl, ?_⟩ _
        exact FIN.out
      · rw [if_pos (show Region.wanted _ _ = true from rfl)]
        refine wp_cp (x := .tmp 33) (y := .tmp 35) rfl rfl rfl HCP.out ?_
        refine hK.out _ _ HSC.out (fun _ => ?_)
        clear hK K
        simp only [Act.put, List.getElem_toArray, List.getElem_cons_zero, List.getElem_cons_succ, List.setIfInBounds_toArray, List.set_cons_zero, List.set_cons_succ]
        refine wpAnyH_ready (rs := [0]) (by kernel_rfl) (by simp) ?_
        refine AllReadyH.cons rfl (fun K hK => ?_) AllReadyH.nil
        go_simp
        refine hK.out _ _ HSC.out (fun _ => ?_)
        clear hK K
        refine wpAnyH_take (i := 7) (v := .int .i64 (G : Int)) rfl (by kernel_rfl) (by kernel_rfl) (by kernel_rfl) (fun _ _ _ h => by cases h.1) (Or.inl ⟨by rfl, ?qc7⟩) HSC.out ?_
        case qc7 => intro w hSw; have hs1 := hSw.1; have hs2 := hSw.2; clear hSw; go_simp; rw [IntKind.wrap_i64]; omega
        simp only [Act.put, List.getElem_toArray, List.getElem_cons_zero, List.getElem_cons_succ, List.setIfInBounds_toArray, List.set_cons_zero, List.set_cons_succ]
        refine wpAnyH_ready (rs := [8]) (by kernel_rfl) (by simp) ?_
        refine AllReadyH.cons rfl (fun K hK => ?_) AllReadyH.nil
        go_simp
        refine hK.out _ _ HSD.out (fun _ => ?_)
        clear hK K
        refine wpAnyH_done (by kernel_rfl) ⟨rfl, ?_⟩ _
        exact FIN.out
end Go.Proofs.Ytbafegpiipkmbaa
