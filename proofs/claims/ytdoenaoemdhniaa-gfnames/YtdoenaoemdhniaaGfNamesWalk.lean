/- The law GfNames, walked. -/
import Derived.Test.YtdoenaoemdhniaaGfPoly
import Derived.Test.YtdoenaoemdhniaaGfAwake
import Derived.Test.YtdoenaoemdhniaaGfScale
import Derived.Test.YtdoenaoemdhniaaEvPart
import Derived.Test.YtdoenaoemdhniaaSameBytes
set_option linter.unusedSimpArgs false
set_option linter.unusedVariables false
namespace Go.Proofs.Ytdoenaoemdhniaa
open Go Go.RowKit Ev

set_option maxHeartbeats 1000000 in
theorem add_n (w : World) : Calls Try.prog 9 #[.int .u8 5, .int .u8 3] w fun e w' => e = .returned (.int .u8 6) ∧ w' = w := by
  have hx : bits .xor .u8 5 3 = 6 := by decide
  go_enter Try.func9, Try.ntmps9
  go_wp2
  go_ret
  exact ⟨rfl, rfl⟩
theorem nm_awake (W : World) : Calls Try.prog 45 #[] W fun e w' => e = .returned (.bool true) ∧ Below W.heap.size W w' := awake_any W
theorem nm_div13 (W : World) : Calls Try.prog 18 #[.int .u8 1, .int .u8 3] W fun e w' => e = .returned (.tuple #[.int .u8 244, .int .i64 0]) ∧ Below W.heap.size W w' := retold (div_any W 1 3 (by decide) (by decide) (by decide)) (by rw [show prod 1 (inv 3) = 244 by decide +kernel]; rfl)
theorem nm_div09 (W : World) : Calls Try.prog 18 #[.int .u8 0, .int .u8 9] W fun e w' => e = .returned (.tuple #[.int .u8 0, .int .i64 0]) ∧ Below W.heap.size W w' := retold (div_any W 0 9 (by decide) (by decide) (by decide)) (by rw [show prod 0 (inv 9) = 0 by decide +kernel]; rfl)
theorem nm_inv0 (W : World) : Calls Try.prog 17 #[.int .u8 0] W fun e w' => e = .returned (.tuple #[.int .u8 0, .int .i64 60]) ∧ Below W.heap.size W w' := inv_none W
theorem nm_add53 (W : World) : Calls Try.prog 9 #[.int .u8 5, .int .u8 3] W fun e w' => e = .returned (.int .u8 6) ∧ Below W.heap.size W w' := still (add_n W)
theorem nm_mul77 (W : World) : Calls Try.prog 15 #[.int .u8 7, .int .u8 7] W fun e w' => e = .returned (.int .u8 21) ∧ Below W.heap.size W w' := retold (still (mul_any W 7 7 (by decide) (by decide))) (by rw [show prod 7 7 = 21 by decide +kernel]; rfl)
theorem nm_exp0 (W : World) : Calls Try.prog 26 #[.int .i64 0] W fun e w' => e = .returned (.int .u8 1) ∧ Below W.heap.size W w' := retold (exp_any W 0 (by decide) (by decide)) (by rw [show ex 0 = 1 by decide +kernel]; rfl)
theorem nm_exp255 (W : World) : Calls Try.prog 26 #[.int .i64 255] W fun e w' => e = .returned (.int .u8 1) ∧ Below W.heap.size W w' := retold (exp_any W 255 (by decide) (by decide)) (by rw [show ex 255 = 1 by decide +kernel]; rfl)
theorem nm_expm1 (W : World) : Calls Try.prog 26 #[.int .i64 (-1)] W fun e w' => e = .returned (.int .u8 142) ∧ Below W.heap.size W w' := retold (exp_any W (-1) (by decide) (by decide)) (by rw [show ex (-1) = 142 by decide +kernel]; rfl)
theorem nm_log29 (W : World) : Calls Try.prog 22 #[.int .u8 29] W fun e w' => e = .returned (.tuple #[.int .i64 8, .int .i64 0]) ∧ Below W.heap.size W w' := retold (log_any W 29 (by decide) (by decide)) (by rw [show lg 29 = 8 by decide +kernel]; rfl)
theorem nm_log1 (W : World) : Calls Try.prog 22 #[.int .u8 1] W fun e w' => e = .returned (.tuple #[.int .i64 0, .int .i64 0]) ∧ Below W.heap.size W w' := retold (log_any W 1 (by decide) (by decide)) (by rw [show lg 1 = 0 by decide +kernel]; rfl)
theorem nm_log0 (W : World) : Calls Try.prog 22 #[.int .u8 0] W fun e w' => e = .returned (.tuple #[.int .i64 0, .int .i64 60]) ∧ Below W.heap.size W w' := log_none W
theorem nm_pow32 (W : World) : Calls Try.prog 23 #[.int .u8 3, .int .i64 2] W fun e w' => e = .returned (.tuple #[.int .u8 5, .int .i64 0]) ∧ Below W.heap.size W w' := retold (pow_any W 3 2 (by decide) (by decide) (by decide)) (by rw [show powV 3 2 = (5, 0) by decide +kernel]; rfl)
theorem nm_pow00 (W : World) : Calls Try.prog 23 #[.int .u8 0, .int .i64 0] W fun e w' => e = .returned (.tuple #[.int .u8 1, .int .i64 0]) ∧ Below W.heap.size W w' := retold (pow_any W 0 0 (by decide) (by decide) (by decide)) (by rw [show powV 0 0 = (1, 0) by decide +kernel]; rfl)
theorem nm_pow0m (W : World) : Calls Try.prog 23 #[.int .u8 0, .int .i64 (-1)] W fun e w' => e = .returned (.tuple #[.int .u8 0, .int .i64 60]) ∧ Below W.heap.size W w' := retold (pow_any W 0 (-1) (by decide) (by decide) (by decide)) (by rw [show powV 0 (-1) = (0, 60) by decide +kernel]; rfl)
theorem nm_pow2m (W : World) : Calls Try.prog 23 #[.int .u8 2, .int .i64 (-1)] W fun e w' => e = .returned (.tuple #[.int .u8 142, .int .i64 0]) ∧ Below W.heap.size W w' := retold (pow_any W 2 (-1) (by decide) (by decide) (by decide)) (by rw [show powV 2 (-1) = (142, 0) by decide +kernel]; rfl)
/-- A slice that was written out. -/
theorem HB.lit (w : World) (l : List Int) (hl : ∀ x ∈ l, 0 ≤ x ∧ x < 256) (hm : l.length ≤ 1000) : HB (w.alloc (.cells (l.map (Value.int .u8)).toArray 5)) (.slice (some ⟨w.heap.size, 0, none⟩) l.length l.length) l := by
  refine ⟨⟨_, _, rfl, Nat.le_refl _, by unfold maxLen; omega, (fun e => by cases e), fun _ => ⟨w.heap.size, 0, rfl, fun j hj => ?_⟩⟩, hl⟩
  rw [cell_of_row _ w.heap.size (0 + j) _ _ _ (heap_alloc_new w _)]
  simp [List.getD, List.getElem?_eq_getElem hj]
/-- Two points at one place. -/
theorem through_ev : (evCallF Try.prog noLore conGf 1000 43 [.tv (.sc (.sl 0 0 2 2))] [newBlk (litB [3, 1, 3, 1])]).map (·.1) = some (.tup [.sc (.nils 0 0), .sc (.int .i64 (.lit 62))]) := by kernel_rfl
theorem through_twice (w : World) : Calls Try.prog 43 #[.slice (some ⟨w.heap.size, 0, none⟩) 2 2] (w.alloc (.cells #[.int .u8 3, .int .u8 1, .int .u8 3, .int .u8 1] 54)) fun e w' => e = .returned (.tuple #[.slice none 0 0, .int .i64 62]) ∧ Below w.heap.size w w' := by
  obtain ⟨H, h⟩ := map_fst through_ev
  obtain ⟨W, hW⟩ : ∃ W, w.alloc (.cells #[.int .u8 3, .int .u8 1, .int .u8 3, .int .u8 1] 54) = W := ⟨_, rfl⟩
  have hB : Below w.heap.size w W := by rw [← hW]; exact (Below.refl _ w).alloc (Nat.le_refl _) _
  have hs : w.heap.size < W.heap.size := by rw [← hW]; simp
  have hh : W.heap[w.heap.size]? = some (.cells #[.int .u8 3, .int .u8 1, .int .u8 3, .int .u8 1] 54 (0, 0)) := by rw [← hW]; exact heap_alloc_new w _
  rw [hW]
  have hH : Holds env0 [w.heap.size] [newBlk (litB [3, 1, 3, 1])] w.heap.size W := by
    have := Holds.known (holds_any env0 W (Nat.le_of_lt hs)) (l := litB [3, 1, 3, 1]) (vs := [.int .u8 3, .int .u8 1, .int .u8 3, .int .u8 1]) rfl (Nat.le_refl _) hs (fun i b k hi hk => absurd (dead0 hk)) (fun j v hj => ?_)
    · exact this
    · constructor
      · rw [cell_of_row W w.heap.size j _ _ _ hh]
        simpa using hj
      · simp [World.frozen?, hh]
  rw [evCallF_eq] at h
  refine (evCall_ok (noLore_ok env0) (conGf_ok env0) mixedOrders 1000 _ _ _ _ _ h [w.heap.size] w.heap.size W #[.slice (some ⟨w.heap.size, 0, none⟩) 2 2] rfl hH).mono ?_
  rintro e w' ⟨ms', u, rfl, -, hu, -, hB'⟩
  have : u = .tuple #[.slice none 0 0, .int .i64 62] := by
    have e1 : (AV.tup [.sc (.nils 0 0), .sc (.int .i64 (.lit 62))]).inst env0 ms' = some (.tuple #[.slice none 0 0, .int .i64 62]) := rfl
    rw [e1] at hu
    exact (Option.some.inj hu).symm
  subst this
  exact ⟨rfl, hB.trans hB'⟩
/-- Two slices that were written out, one behind the other. -/
theorem HB.lit2 (w : World) (l m : List Int) (hl : ∀ x ∈ l, 0 ≤ x ∧ x < 256) (hm : ∀ x ∈ m, 0 ≤ x ∧ x < 256) (h1 : l.length ≤ 1000) (h2 : m.length ≤ 1000) :
    HB ((w.alloc (.cells (l.map (Value.int .u8)).toArray 5)).alloc (.cells (m.map (Value.int .u8)).toArray 5)) (.slice (some ⟨w.heap.size, 0, none⟩) l.length l.length) l ∧
    HB ((w.alloc (.cells (l.map (Value.int .u8)).toArray 5)).alloc (.cells (m.map (Value.int .u8)).toArray 5)) (.slice (some ⟨w.heap.size + 1, 0, none⟩) m.length m.length) m ∧
    Below w.heap.size w ((w.alloc (.cells (l.map (Value.int .u8)).toArray 5)).alloc (.cells (m.map (Value.int .u8)).toArray 5)) := by
  refine ⟨(HB.lit w l hl h1).below ((Below.refl _ _).alloc (Nat.le_refl _) _), ?_, ((Below.refl _ w).alloc (Nat.le_refl _) _).alloc (by simp) _⟩
  have := HB.lit (w.alloc (.cells (l.map (Value.int .u8)).toArray 5)) m hm h2
  rwa [World.size_alloc] at this
theorem bytes_of {l : List Int} (h : l.all (fun x => decide (0 ≤ x ∧ x < 256)) = true) : ∀ x ∈ l, 0 ≤ x ∧ x < 256 := fun x hx => by simpa using List.all_eq_true.1 h x hx
/-- What the example of Over says. -/
theorem over_example {fq fr : Nat → Nat} (hfq : ∀ i, fq i < 256) (hfr : ∀ i, fr i < 256) (h1 : ∀ i, gN [1, 0, 1] i = fr i ^^^ cvF fq [1, 1] [(1 : Int), 0, 1].length i) (h2 : ∀ i, [(1 : Int), 1].length - 1 ≤ i → fr i = 0) (h3 : ∀ k, [(1 : Int), 0, 1].length < k + [(1 : Int), 1].length → fq k = 0) : cutL (tabL 3 fq) = [1, 1] ∧ (cutL (tabL 3 fr)).length = 0 := by
  have q2 : fq 2 = 0 := h3 2 (by decide)
  have r1 : fr 1 = 0 := h2 1 (by decide)
  have r2 : fr 2 = 0 := h2 2 (by decide)
  have e0 := h1 0
  have e1 := h1 1
  have e2 := h1 2
  have p0 := one_prod (fq 0) (hfq 0)
  have p1 := one_prod (fq 1) (hfq 1)
  have z0 := zero_prod (fq 0) (hfq 0)
  simp [cvF, sh, gN, q2, r1, r2, p0, p1, z0, prod_zero] at e0 e1 e2
  have q1 : fq 1 = 1 := by omega
  rw [q1] at e1
  have q0 : fq 0 = 1 := by
    have := congrArg (fun y => y ^^^ 1) e1
    simp [Nat.xor_assoc] at this
    exact this.symm
  rw [q0] at e0
  have r0 : fr 0 = 0 := by
    have := congrArg (fun y => y ^^^ 1) e0
    simp [Nat.xor_assoc] at this
    exact this.symm
  constructor
  · simp [cutL, tabL, cutN, gN, List.range_succ, q0, q1, q2]
  · simp [cutL, tabL, cutN, gN, List.range_succ, r0, r1, r2]
set_option maxRecDepth 100000 in
set_option maxHeartbeats 8000000 in
theorem names_walk (w : World) : Calls Try.prog 8 #[] w fun e w' => e = .returned (.bool true) ∧ Below w.heap.size w w' := by
  have B0 : Hid (Below w.heap.size w w) := Below.refl _ _
  go_enter Try.func8, Try.ntmps8
  go_wp2_with fail
  refine (nm_awake w).mono ?_
  rintro e w1 ⟨rfl, hB⟩
  have B1 := hid (B0.out.trans (hB.mono B0.out.size))
  clear hB B0
  go_wp2_with fail
  refine (nm_div13 w1).mono ?_
  rintro e w2 ⟨rfl, hB⟩
  have B2 := hid (B1.out.trans (hB.mono B1.out.size))
  clear hB B1
  go_wp2_with fail
  refine (nm_div09 w2).mono ?_
  rintro e w3 ⟨rfl, hB⟩
  have B3 := hid (B2.out.trans (hB.mono B2.out.size))
  clear hB B2
  go_wp2_with fail
  refine (nm_inv0 w3).mono ?_
  rintro e w4 ⟨rfl, hB⟩
  have B4 := hid (B3.out.trans (hB.mono B3.out.size))
  clear hB B3
  go_wp2_with fail
  refine (nm_add53 w4).mono ?_
  rintro e w5 ⟨rfl, hB⟩
  have B5 := hid (B4.out.trans (hB.mono B4.out.size))
  clear hB B4
  go_wp2_with fail
  refine (nm_mul77 w5).mono ?_
  rintro e w6 ⟨rfl, hB⟩
  have B6 := hid (B5.out.trans (hB.mono B5.out.size))
  clear hB B5
  go_wp2_with fail
  refine (nm_exp0 w6).mono ?_
  rintro e w7 ⟨rfl, hB⟩
  have B7 := hid (B6.out.trans (hB.mono B6.out.size))
  clear hB B6
  go_wp2_with fail
  refine (nm_exp255 w7).mono ?_
  rintro e w8 ⟨rfl, hB⟩
  have B8 := hid (B7.out.trans (hB.mono B7.out.size))
  clear hB B7
  go_wp2_with fail
  refine (nm_expm1 w8).mono ?_
  rintro e w9 ⟨rfl, hB⟩
  have B9 := hid (B8.out.trans (hB.mono B8.out.size))
  clear hB B8
  go_wp2_with fail
  refine (nm_log29 w9).mono ?_
  rintro e w10 ⟨rfl, hB⟩
  have B10 := hid (B9.out.trans (hB.mono B9.out.size))
  clear hB B9
  go_wp2_with fail
  refine (nm_log1 w10).mono ?_
  rintro e w11 ⟨rfl, hB⟩
  have B11 := hid (B10.out.trans (hB.mono B10.out.size))
  clear hB B10
  go_wp2_with fail
  refine (nm_log0 w11).mono ?_
  rintro e w12 ⟨rfl, hB⟩
  have B12 := hid (B11.out.trans (hB.mono B11.out.size))
  clear hB B11
  go_wp2_with fail
  refine (nm_pow32 w12).mono ?_
  rintro e w13 ⟨rfl, hB⟩
  have B13 := hid (B12.out.trans (hB.mono B12.out.size))
  clear hB B12
  go_wp2_with fail
  refine (nm_pow00 w13).mono ?_
  rintro e w14 ⟨rfl, hB⟩
  have B14 := hid (B13.out.trans (hB.mono B13.out.size))
  clear hB B13
  go_wp2_with fail
  refine (nm_pow0m w14).mono ?_
  rintro e w15 ⟨rfl, hB⟩
  have B15 := hid (B14.out.trans (hB.mono B14.out.size))
  clear hB B14
  go_wp2_with fail
  refine (nm_pow2m w15).mono ?_
  rintro e w16 ⟨rfl, hB⟩
  have B16 := hid (B15.out.trans (hB.mono B15.out.size))
  clear hB B15
  go_wp2_with fail
  have l17 := HB.lit2 w16 [1, 2] [3, 4] (bytes_of rfl) (bytes_of rfl) (by decide) (by decide)
  have c17 := dot_any _ _ _ [1, 2] [3, 4] l17.1 l17.2.1
  rw [show dotV [1, 2] [3, 4] = (11, 0) by decide +kernel] at c17
  refine Calls.mono c17 ?_
  rintro e w17 ⟨rfl, hD⟩
  have B17 := hid (B16.out.trans ((l17.2.2.trans (hD.below _)).mono B16.out.size))
  clear hD l17 c17 B16
  go_wp2_with fail
  have l18 := HB.lit w17 [1] (bytes_of rfl) (by decide)
  have c18 := dot_any _ _ _ [1] [] l18 (HB.nil _)
  rw [show dotV [1] [] = (0, 61) by decide +kernel] at c18
  refine Calls.mono c18 ?_
  rintro e w18 ⟨rfl, hD⟩
  have B18 := hid (B17.out.trans (((Below.trans ((Below.refl _ w17).alloc (Nat.le_refl _) _) (hD.below _))).mono B17.out.size))
  clear hD l18 c18 B17
  go_wp2_with fail
  refine wp_region_any (by kernel_rfl) ?_
  change wpAny _ _ _ _ _ _ _ (World.drew _)
  obtain ⟨Z, HZ⟩ : ∃ Z, Hid (List.replicate 257 (0 : Int) = Z) := ⟨_, rfl⟩
  have hZl : Z.length = 257 := by rw [← HZ.out]; simp
  have HZB : Hid (∀ x ∈ Z, 0 ≤ x ∧ x < 256) := by
    rw [← HZ.out]
    intro x hx
    rw [(List.mem_replicate.1 hx).2]
    decide
  have HZD : Hid (dotV Z Z = (0, 61)) := by
    have : ¬ Z.length ≤ 256 := by omega
    exact dotV_long this
  have B18d : Hid (Below w.heap.size w w18.drew) := B18.out.trans ⟨rfl, rfl, rfl, Nat.le_refl _, fun _ _ => rfl⟩
  refine wpAny_fresh0 (S := [0, 1]) (by decide) (dst := fun i => if i = 0 then 152 else 153) (by decide) (hops := ?c1) (hin := ?c2) (bl := fun _ _ => none) (Φ := fun i W v => HB W v Z) (fun i W W' v h hB => h.below hB) (L := fun d => #[d 0, d 1, false, false, false, false, false]) ?c3 ?c4 ?c5 (F := 5) ?c6 rfl rfl
  case c1 =>
    intro i hi
    simp only [List.mem_cons, List.not_mem_nil, or_false] at hi
    rcases hi with rfl | rfl <;> exact ⟨_, rfl, rfl, rfl⟩
  case c2 =>
    intro i hi
    simp only [List.mem_cons, List.not_mem_nil, or_false] at hi
    rcases hi with rfl | rfl <;> simp
  case c3 =>
    rintro d ⟨i, hi, hd⟩
    simp only [List.mem_cons, List.not_mem_nil, or_false] at hi
    cases h1 : d 0 <;> cases h2 : d 1
    · exact of_ready (rs := [0, 1]) (by kernel_rfl) (by simp) (by simp [h1, h2])
    · exact of_ready (rs := [0]) (by kernel_rfl) (by simp) (by simp [h1, h2])
    · exact of_ready (rs := [1]) (by kernel_rfl) (by simp) (by simp [h1, h2])
    · rcases hi with rfl | rfl
      · rw [h1] at hd; cases hd
      · rw [h2] at hd; cases hd
  case c4 =>
    intro d i hi
    simp only [List.mem_cons, List.not_mem_nil, or_false] at hi
    rcases hi with rfl | rfl <;> simp [upd]
  case c5 =>
    intro i hi o ho a W K hs hB hk
    obtain ⟨i0, hi0, hz0, hz1, hz2⟩ := info_parts info_u8
    obtain ⟨W', hmk, hown, hgr⟩ := run_make_full (P := Try.prog) W W.heap.size 38 5 i0 (.int .u8 0) 1 Try.underlying38 hi0 hz0 hz1 .i64 .i64 257 (by rw [hz2]; omega) (by unfold maxLen; omega) (Nat.le_refl _)
    have hmk2 : (Instr.makeSlice 38 (.int .i64 257) (.int .i64 257)).run Try.prog W = .ok (.slice (some ⟨W.heap.size, 0, none⟩) 257 257) W' := hmk
    have ez : (madeCells (Value.int IntKind.u8 0).cells (257 * 1)).toList = Z.map (Value.int .u8) := by
      rw [show (Value.int IntKind.u8 0).cells = #[Value.int .u8 0] from rfl, toList_madeCells_one, ← HZ.out, List.map_replicate]
    rw [ez] at hown
    have hHB : HB W' (.slice (some ⟨W.heap.size, 0, none⟩) 257 257) Z := HB.of_own (by rw [hZl]; exact hown) HZB.out
    simp only [List.mem_cons, List.not_mem_nil, or_false] at hi
    rcases hi with rfl | rfl
    · simp only [List.getElem?_toArray, List.getElem?_cons_succ, List.getElem?_cons_zero, Option.some.injEq] at ho
      subst ho
      go_simp
      exact hk _ _ hHB (by simp) ⟨hgr.os, hgr.tape, hgr.output, hgr.size, fun k hk => hgr.block k hk (by simp)⟩
    · simp only [List.getElem?_toArray, List.getElem?_cons_succ, List.getElem?_cons_zero, Option.some.injEq] at ho
      subst ho
      go_simp
      exact hk _ _ hHB (by simp) ⟨hgr.os, hgr.tape, hgr.output, hgr.size, fun k hk => hgr.block k hk (by simp)⟩
  case c6 =>
    intro d vals a w19 hall hR hv _ _ hB
    have v0 : HB w19 (vals 0) Z := hv 0 (by simp)
    have v1 : HB w19 (vals 1) Z := hv 1 (by simp)
    have ea := hR.two hall (by decide)
    subst ea
    rw [hall 0 (by simp), hall 1 (by simp)]
    have B19 := hid (B18d.out.trans (hB.mono B18d.out.size))
    obtain ⟨z0, hz0⟩ : ∃ z, vals 0 = z := ⟨_, rfl⟩
    obtain ⟨z1, hz1⟩ : ∃ z, vals 1 = z := ⟨_, rfl⟩
    rw [hz0] at v0 ⊢
    rw [hz1] at v1 ⊢
    have c19 := dot_any w19 z0 z1 Z Z v0 v1
    rw [HZD.out] at c19
    have C19 := hid c19
    clear hR hv hall hB v0 v1 hz0 hz1 c19 B18 B18d
    simp only [Act.put, if_true, reduceIte, List.setIfInBounds_toArray, List.set_cons_zero, List.set_cons_succ, Nat.reduceEqDiff]
    refine wpAny_ready (rs := [2]) (by kernel_rfl) (by simp) ?_
    refine AllReady.cons rfl (fun K hK => ?_) AllReady.nil
    go_simp
    refine C19.out.mono ?_
    rintro e w20 ⟨rfl, hD⟩
    refine hK _ _ ?_
    have B20 := hid (B19.out.trans ((hD.below w19.heap.size).mono B19.out.size))
    clear hK K C19 hD B19
    refine wpAny_take (i := 3) (v := ?_) rfl (by kernel_rfl) (by kernel_rfl) (by kernel_rfl) (fun _ _ _ h => h) (Or.inl ⟨by rfl, ?q3⟩) ?_
    case q3 => intro w; go_simp; rfl
    refine wpAny_take (i := 4) (v := ?_) rfl (by kernel_rfl) (by kernel_rfl) (by kernel_rfl) (fun _ _ _ h => h) (Or.inl ⟨by rfl, ?q4⟩) ?_
    case q4 => intro w; go_simp; rfl
    refine wpAny_take (i := 5) (v := ?_) rfl (by kernel_rfl) (by kernel_rfl) (by kernel_rfl) (fun _ _ _ h => h) (Or.inl ⟨by rfl, ?q5⟩) ?_
    case q5 => intro w; go_simp; rfl
    refine wpAny_take (i := 6) (v := ?_) rfl (by kernel_rfl) (by kernel_rfl) (by kernel_rfl) (fun _ _ _ h => h) (Or.inl ⟨by rfl, ?q6⟩) ?_
    case q6 => intro w; go_simp; rfl
    refine wpAny_done (by kernel_rfl) ?_ _
    simp only [Act.put, List.getElem_toArray, List.getElem_cons_zero, List.getElem_cons_succ, List.setIfInBounds_toArray, List.set_cons_zero, List.set_cons_succ]
    go_wp2_with fail
    have l21 := HB.lit w20 [1, 2] (bytes_of rfl) (by decide)
    have c21 := scale_any _ _ [1, 2] 2 l21 (by decide) (by decide)
    rw [show scL [1, 2] 2 = [2, 4] by decide +kernel] at c21
    refine Calls.mono c21 ?_
    rintro e w21 ⟨vs, rfl, hos, hB⟩
    obtain ⟨ps, cs, es⟩ := own_slc hos
    subst es
    have S21 := hid (HB.of_own hos (bytes_of rfl))
    have B21 := hid (B20.out.trans ((((Below.refl _ w20).alloc (Nat.le_refl _) _).trans (hB.mono (by simp))).mono B20.out.size))
    clear hB hos l21 c21 B20
    go_wp2_with fail
    have l22 := HB.lit w21 [2, 4] (bytes_of rfl) (by decide)
    have c22 := sameBytes_any _ _ _ [2, 4] [2, 4] (S21.out.below ((Below.refl _ w21).alloc (Nat.le_refl _) _)) l22
    rw [decide_eq_true rfl] at c22
    refine Calls.mono c22 ?_
    rintro e w22 ⟨rfl, hD⟩
    have B22 := hid (B21.out.trans ((((Below.refl _ w21).alloc (Nat.le_refl _) _).trans (hD.below w21.heap.size)).mono B21.out.size))
    clear hD l22 c22 B21 S21
    go_wp2_with fail
    have l23 := HB.lit2 w22 [1, 0, 1] [1, 1, 0] (bytes_of rfl) (bytes_of rfl) (by decide) (by decide)
    have c23 := gover_any _ _ _ _ _ [1, 0, 1] [1, 1, 0] l23.1 l23.2.1
    rw [show cutL [1, 0, 1] = [1, 0, 1] by decide +kernel, show cutL [1, 1, 0] = [1, 1] by decide +kernel] at c23
    refine Calls.mono c23 ?_
    rintro e w23 ⟨-, -, hok, hB⟩
    obtain ⟨vq, vr, fq, fr, rfl, hfq, hfr, oq, or', -, h1, h2, h3⟩ := hok (by decide) (by decide)
    have hex := over_example hfq hfr h1 h2 h3
    obtain ⟨pr, cr, er⟩ := own_slc or'
    subst er
    have oq1 := oq
    rw [show [(1 : Int), 0, 1].length = 3 from rfl, hex.1] at oq1
    obtain ⟨pq, cq, eq⟩ := own_slc oq1
    subst eq
    have Q23 := hid (HB.of_own oq1 (bytes_of rfl))
    have hr0 : (cutL (tabL [(1 : Int), 0, 1].length fr)).length = 0 := hex.2
    have B23 := hid (B22.out.trans ((l23.2.2.trans (hB.mono l23.2.2.size)).mono B22.out.size))
    rw [hr0]
    clear hB l23 c23 B22 hok oq or' oq1 h1 h2 h3 hex hfq hfr hr0
    go_wp2_with fail
    have l24 := HB.lit2 w23 [1] [0, 0] (bytes_of rfl) (bytes_of rfl) (by decide) (by decide)
    have c24 := gover_any _ _ _ _ _ [1] [0, 0] l24.1 l24.2.1
    rw [show cutL [1] = [1] by decide +kernel, show cutL [0, 0] = [] by decide +kernel] at c24
    refine Calls.mono c24 ?_
    rintro e w24 ⟨-, h60, -, hB⟩
    obtain rfl := h60 (by decide) rfl
    have B2324 := hid (l24.2.2.trans (hB.mono l24.2.2.size))
    have B24 := hid (B23.out.trans (B2324.out.mono B23.out.size))
    have Q24 := hid (Q23.out.below B2324.out)
    clear hB h60 l24 c24 B23 B2324 Q23
    go_wp2_with fail
    refine Calls.mono (through_twice w24) ?_
    rintro e w25 ⟨rfl, hB⟩
    have B25 := hid (B24.out.trans (hB.mono B24.out.size))
    have Q25 := hid (Q24.out.below hB)
    clear hB B24 Q24
    go_wp2_with fail
    have l26 := HB.lit w25 [1, 1] (bytes_of rfl) (by decide)
    have c26 := sameBytes_any _ _ _ [1, 1] [1, 1] (Q25.out.below ((Below.refl _ w25).alloc (Nat.le_refl _) _)) l26
    rw [decide_eq_true rfl] at c26
    refine Calls.mono c26 ?_
    rintro e w26 ⟨rfl, hD⟩
    have B26 := hid (B25.out.trans ((((Below.refl _ w25).alloc (Nat.le_refl _) _).trans (hD.below w25.heap.size)).mono B25.out.size))
    clear hD l26 c26 B25 Q25
    go_wp2
    go_ret
    exact ⟨rfl, B26.out⟩
end Go.Proofs.Ytdoenaoemdhniaa
