/- octet.width, Big and Small at each of the four widths, walked. -/
import Derived.Test.YtmegeogfpkdodaaU8
namespace Go.Proofs.Ytmegeogfpkdodaa
open Go.RowKit

set_option maxHeartbeats 1000000 in
theorem width_uint8 (w : World) : Calls Try.prog 56 #[] w fun e w' => e = .returned (.int .i64 1) ∧ w' = w := by
  go_enter Try.func56, Try.ntmps56
  go_wp2
  go_loop [1, 2] (fun s m => (s = .int .i64 0 ∧ m = .int .u64 255) ∨ (s = .int .i64 1 ∧ m = .int .u64 0)) (fun s _ => 1 - (intOf s).toNat)
  case atStart =>
    simp
    decide +kernel
  case round =>
    rcases hrel with ⟨rfl, rfl⟩ | ⟨rfl, rfl⟩
    · go_wp2
      simp [intOf]
    · go_wp2
      go_ret
      exact ⟨rfl, rfl⟩

set_option maxHeartbeats 1000000 in
theorem width_uint32 (w : World) : Calls Try.prog 57 #[] w fun e w' => e = .returned (.int .i64 4) ∧ w' = w := by
  go_enter Try.func57, Try.ntmps57
  go_wp2
  go_loop [1, 2] (fun s m => (s = .int .i64 0 ∧ m = .int .u64 4294967295) ∨ (s = .int .i64 1 ∧ m = .int .u64 16777215) ∨ (s = .int .i64 2 ∧ m = .int .u64 65535) ∨ (s = .int .i64 3 ∧ m = .int .u64 255) ∨ (s = .int .i64 4 ∧ m = .int .u64 0)) (fun s _ => 4 - (intOf s).toNat)
  case atStart =>
    simp
    decide +kernel
  case round =>
    rcases hrel with ⟨rfl, rfl⟩ | ⟨rfl, rfl⟩ | ⟨rfl, rfl⟩ | ⟨rfl, rfl⟩ | ⟨rfl, rfl⟩
    · go_wp2
      simp [intOf]
    · go_wp2
      simp [intOf]
    · go_wp2
      simp [intOf]
    · go_wp2
      simp [intOf]
    · go_wp2
      go_ret
      exact ⟨rfl, rfl⟩

set_option maxHeartbeats 1000000 in
theorem width_uint64 (w : World) : Calls Try.prog 58 #[] w fun e w' => e = .returned (.int .i64 8) ∧ w' = w := by
  go_enter Try.func58, Try.ntmps58
  go_wp2
  go_loop [1, 2] (fun s m => (s = .int .i64 0 ∧ m = .int .u64 18446744073709551615) ∨ (s = .int .i64 1 ∧ m = .int .u64 72057594037927935) ∨ (s = .int .i64 2 ∧ m = .int .u64 281474976710655) ∨ (s = .int .i64 3 ∧ m = .int .u64 1099511627775) ∨ (s = .int .i64 4 ∧ m = .int .u64 4294967295) ∨ (s = .int .i64 5 ∧ m = .int .u64 16777215) ∨ (s = .int .i64 6 ∧ m = .int .u64 65535) ∨ (s = .int .i64 7 ∧ m = .int .u64 255) ∨ (s = .int .i64 8 ∧ m = .int .u64 0)) (fun s _ => 8 - (intOf s).toNat)
  case atStart =>
    simp
    decide +kernel
  case round =>
    rcases hrel with ⟨rfl, rfl⟩ | ⟨rfl, rfl⟩ | ⟨rfl, rfl⟩ | ⟨rfl, rfl⟩ | ⟨rfl, rfl⟩ | ⟨rfl, rfl⟩ | ⟨rfl, rfl⟩ | ⟨rfl, rfl⟩ | ⟨rfl, rfl⟩
    · go_wp2
      simp [intOf]
    · go_wp2
      simp [intOf]
    · go_wp2
      simp [intOf]
    · go_wp2
      simp [intOf]
    · go_wp2
      simp [intOf]
    · go_wp2
      simp [intOf]
    · go_wp2
      simp [intOf]
    · go_wp2
      simp [intOf]
    · go_wp2
      go_ret
      exact ⟨rfl, rfl⟩

/-- The lowest r bytes of x, the highest first. -/
def bigL : Nat → Nat → List Int
  | 0, _ => []
  | r + 1, x => ((x / 256 ^ r % 256 : Nat) : Int) :: bigL r x
theorem bigL_length (r x : Nat) : (bigL r x).length = r := by
  induction r with
  | zero => rfl
  | succ r ih => simp [bigL, ih]
theorem bigL_byt (r x : Nat) : ∀ y ∈ bigL r x, 0 ≤ y ∧ y < 256 := by
  induction r with
  | zero => simp [bigL]
  | succ r ih =>
    intro y hy
    simp only [bigL, List.mem_cons] at hy
    rcases hy with rfl | hy
    · omega
    · exact ih y hy

/-- What lies in the row behind r rounds. -/
def stage (n r x : Nat) : List Int := List.replicate (n - r) 0 ++ bigL r x
theorem stage_length (n r x : Nat) (h : r ≤ n) : (stage n r x).length = n := by simp [stage, bigL_length]; omega
theorem stage_step (n r x : Nat) (h : r < n) : (stage n r x).set (n - 1 - r) ((x / 256 ^ r % 256 : Nat) : Int) = stage n (r + 1) x := by
  unfold stage
  rw [List.set_append_left _ _ (by simp; omega)]
  have e : n - r = (n - 1 - r) + 1 := by omega
  have e2 : n - (r + 1) = n - 1 - r := by omega
  rw [e, e2, List.replicate_succ']
  rw [List.set_append_right _ _ (by simp)]
  simp [bigL]

theorem big_round {w wr : World} {n r x y m : Nat} {b t i : Int} (hm : m + 1 + r = n) (hy : y = x / 256 ^ r) (hb : b = ((y % 256 : Nat) : Int)) (ht : t = ((y / 256 : Nat) : Int)) (hi : i = (m : Int) - 1)
    (HO : wr.ownsRow w.heap.size 5 1 (.slice (some ⟨w.heap.size, 0, none⟩) n n) n ((stage n r x).map (Value.int .u8))) (hB : Below w.heap.size w wr) :
    ∃ r', Value.int IntKind.u64 t = Value.int .u64 ((x / 256 ^ r' : Nat) : Int) ∧ ((∃ m' : Nat, m' + 1 + r' = n ∧ Value.int IntKind.i64 i = .int .i64 (m' : Int)) ∨ (r' = n ∧ Value.int IntKind.i64 i = .int .i64 (-1))) ∧ Hid ((wr.setCell ⟨w.heap.size, m, none⟩ (.int .u8 b)).ownsRow w.heap.size 5 1 (.slice (some ⟨w.heap.size, 0, none⟩) n n) n ((stage n r' x).map (Value.int .u8))) ∧ Hid (Below w.heap.size w (wr.setCell ⟨w.heap.size, m, none⟩ (.int .u8 b))) := by
  refine ⟨r + 1, ?_, ?_, ?_, ?_⟩
  · rw [ht, hy, Nat.div_div_eq_div_mul, Nat.pow_succ]
  · cases m with
    | zero => exact .inr ⟨by omega, by rw [hi]; rfl⟩
    | succ m => exact .inl ⟨m, by omega, by rw [hi]; congr 1; omega⟩
  · have h := (HO.stored m (.int .u8 b)).1
    rw [← List.map_set, hb, hy, show m = n - 1 - r by omega, stage_step n r x (by omega)] at h
    rw [hb, hy, show m = n - 1 - r by omega]
    exact h
  · exact hB.setCell (p := ⟨w.heap.size, m, none⟩) (Nat.le_refl _) _

set_option maxHeartbeats 1000000 in
theorem big_uint8 (x : Nat) (_hx : x < 256) (w : World) : Calls Try.prog 37 #[.int .u8 (x : Int)] w fun e w' => ∃ v', e = .returned v' ∧ w'.ownsRow w.heap.size 5 1 v' 1 ((bigL 1 x).map (Value.int .u8)) ∧ Below w.heap.size w w' := by
  obtain ⟨i0, hi, hz0, hz1, hz2⟩ := info_parts info_u8
  obtain ⟨w1, hmk, hown, hgr⟩ := run_make_full (P := Try.prog) w w.heap.size 36 5 i0 (.int .u8 0) 1 Try.underlying36 hi hz0 hz1 .i64 .i64 1 (by rw [hz2]; omega) (by unfold maxLen; omega) (Nat.le_refl _)
  have hmk2 : (Instr.makeSlice 36 (.int .i64 1) (.int .i64 1)).run Try.prog w = .ok (.slice (some ⟨w.heap.size, 0, none⟩) 1 1) w1 := hmk
  clear hmk
  have hB1 : Below w.heap.size w w1 := (Below.refl _ w).grown hgr (Nat.le_refl _) (fun k e => by cases e)
  have hO1 : w1.ownsRow w.heap.size 5 1 (.slice (some ⟨w.heap.size, 0, none⟩) 1 1) 1 ((stage 1 0 x).map (Value.int .u8)) := by
    have e : (madeCells (Value.int IntKind.u8 0).cells (1 * 1)).toList = (stage 1 0 x).map (Value.int .u8) := by
      rw [show (Value.int IntKind.u8 0).cells = #[Value.int .u8 0] from rfl, toList_madeCells_one]
      simp [stage, bigL]
    rw [← e]
    exact hown
  have HO1 := hid hO1
  have HB1 := hid hB1
  clear hO1 hB1 hown hgr
  go_enter Try.func37, Try.ntmps37
  go_wp2_with (go_at_call 56; refine (width_uint8 _).mono ?_; rintro e w' ⟨rfl, hw⟩; have hw' := hw.symm; subst hw'; clear hw)
  go_loopw [4, 5] (fun t i wr => ∃ r : Nat, t = .int .u64 ((x / 256 ^ r : Nat) : Int) ∧ ((∃ m : Nat, m + 1 + r = 1 ∧ i = .int .i64 (m : Int)) ∨ (r = 1 ∧ i = .int .i64 (-1))) ∧ Hid (wr.ownsRow w.heap.size 5 1 (.slice (some ⟨w.heap.size, 0, none⟩) 1 1) 1 ((stage 1 r x).map (Value.int .u8))) ∧ Hid (Below w.heap.size w wr)) (fun _ i _ => (intOf i + 1).toNat)
  case atStart => exact ⟨0, by simp, .inl ⟨0, rfl, rfl⟩, HO1, HB1⟩
  case round =>
    clear HO1 HB1 hmk2
    obtain ⟨r, rfl, hri, HO, HB⟩ := hrel
    obtain ⟨y, HY⟩ : ∃ y, Hid (y = x / 256 ^ r) := ⟨_, rfl⟩
    have hy : y ≤ x := by rw [HY.out]; exact Nat.div_le_self _ _
    rw [← HY.out]
    rcases hri with ⟨m, hm, rfl⟩ | ⟨rfl, rfl⟩
    · have hc := (HO.out.cellAt m (by omega))
      have hfz := HO.out.frozenAt m
      obtain ⟨z, hz⟩ : ∃ z, ((stage 1 r x).map (Value.int .u8))[m]? = some z := ⟨_, List.getElem?_eq_getElem (by rw [List.length_map, stage_length _ _ _ (by omega)]; omega)⟩
      rw [hz] at hc
      clear hz
      have hm1 : m < 1 := by omega
      have hm2 : (m : Int) < 1 := by omega
      go_wp2
      exact ⟨big_round hm HY.out (by omega) (by omega) rfl HO.out HB.out, by simp [intOf]⟩
    · go_wp2
      go_ret
      exact ⟨_, rfl, by simpa [stage] using HO.out, HB.out⟩

set_option maxHeartbeats 1000000 in
theorem big_uint32 (x : Nat) (_hx : x < 4294967296) (w : World) : Calls Try.prog 38 #[.int .u32 (x : Int)] w fun e w' => ∃ v', e = .returned v' ∧ w'.ownsRow w.heap.size 5 1 v' 4 ((bigL 4 x).map (Value.int .u8)) ∧ Below w.heap.size w w' := by
  obtain ⟨i0, hi, hz0, hz1, hz2⟩ := info_parts info_u8
  obtain ⟨w1, hmk, hown, hgr⟩ := run_make_full (P := Try.prog) w w.heap.size 36 5 i0 (.int .u8 0) 1 Try.underlying36 hi hz0 hz1 .i64 .i64 4 (by rw [hz2]; omega) (by unfold maxLen; omega) (Nat.le_refl _)
  have hmk2 : (Instr.makeSlice 36 (.int .i64 4) (.int .i64 4)).run Try.prog w = .ok (.slice (some ⟨w.heap.size, 0, none⟩) 4 4) w1 := hmk
  clear hmk
  have hB1 : Below w.heap.size w w1 := (Below.refl _ w).grown hgr (Nat.le_refl _) (fun k e => by cases e)
  have hO1 : w1.ownsRow w.heap.size 5 1 (.slice (some ⟨w.heap.size, 0, none⟩) 4 4) 4 ((stage 4 0 x).map (Value.int .u8)) := by
    have e : (madeCells (Value.int IntKind.u8 0).cells (4 * 1)).toList = (stage 4 0 x).map (Value.int .u8) := by
      rw [show (Value.int IntKind.u8 0).cells = #[Value.int .u8 0] from rfl, toList_madeCells_one]
      simp [stage, bigL]
    rw [← e]
    exact hown
  have HO1 := hid hO1
  have HB1 := hid hB1
  clear hO1 hB1 hown hgr
  go_enter Try.func38, Try.ntmps38
  go_wp2_with (go_at_call 57; refine (width_uint32 _).mono ?_; rintro e w' ⟨rfl, hw⟩; have hw' := hw.symm; subst hw'; clear hw)
  go_loopw [4, 5] (fun t i wr => ∃ r : Nat, t = .int .u64 ((x / 256 ^ r : Nat) : Int) ∧ ((∃ m : Nat, m + 1 + r = 4 ∧ i = .int .i64 (m : Int)) ∨ (r = 4 ∧ i = .int .i64 (-1))) ∧ Hid (wr.ownsRow w.heap.size 5 1 (.slice (some ⟨w.heap.size, 0, none⟩) 4 4) 4 ((stage 4 r x).map (Value.int .u8))) ∧ Hid (Below w.heap.size w wr)) (fun _ i _ => (intOf i + 1).toNat)
  case atStart => exact ⟨0, by simp, .inl ⟨3, rfl, rfl⟩, HO1, HB1⟩
  case round =>
    clear HO1 HB1 hmk2
    obtain ⟨r, rfl, hri, HO, HB⟩ := hrel
    obtain ⟨y, HY⟩ : ∃ y, Hid (y = x / 256 ^ r) := ⟨_, rfl⟩
    have hy : y ≤ x := by rw [HY.out]; exact Nat.div_le_self _ _
    rw [← HY.out]
    rcases hri with ⟨m, hm, rfl⟩ | ⟨rfl, rfl⟩
    · have hc := (HO.out.cellAt m (by omega))
      have hfz := HO.out.frozenAt m
      obtain ⟨z, hz⟩ : ∃ z, ((stage 4 r x).map (Value.int .u8))[m]? = some z := ⟨_, List.getElem?_eq_getElem (by rw [List.length_map, stage_length _ _ _ (by omega)]; omega)⟩
      rw [hz] at hc
      clear hz
      have hm1 : m < 4 := by omega
      have hm2 : (m : Int) < 4 := by omega
      go_wp2
      exact ⟨big_round hm HY.out (by omega) (by omega) rfl HO.out HB.out, by simp [intOf]⟩
    · go_wp2
      go_ret
      exact ⟨_, rfl, by simpa [stage] using HO.out, HB.out⟩

set_option maxHeartbeats 1000000 in
theorem big_uint64 (x : Nat) (_hx : x < 18446744073709551616) (w : World) : Calls Try.prog 39 #[.int .u64 (x : Int)] w fun e w' => ∃ v', e = .returned v' ∧ w'.ownsRow w.heap.size 5 1 v' 8 ((bigL 8 x).map (Value.int .u8)) ∧ Below w.heap.size w w' := by
  obtain ⟨i0, hi, hz0, hz1, hz2⟩ := info_parts info_u8
  obtain ⟨w1, hmk, hown, hgr⟩ := run_make_full (P := Try.prog) w w.heap.size 36 5 i0 (.int .u8 0) 1 Try.underlying36 hi hz0 hz1 .i64 .i64 8 (by rw [hz2]; omega) (by unfold maxLen; omega) (Nat.le_refl _)
  have hmk2 : (Instr.makeSlice 36 (.int .i64 8) (.int .i64 8)).run Try.prog w = .ok (.slice (some ⟨w.heap.size, 0, none⟩) 8 8) w1 := hmk
  clear hmk
  have hB1 : Below w.heap.size w w1 := (Below.refl _ w).grown hgr (Nat.le_refl _) (fun k e => by cases e)
  have hO1 : w1.ownsRow w.heap.size 5 1 (.slice (some ⟨w.heap.size, 0, none⟩) 8 8) 8 ((stage 8 0 x).map (Value.int .u8)) := by
    have e : (madeCells (Value.int IntKind.u8 0).cells (8 * 1)).toList = (stage 8 0 x).map (Value.int .u8) := by
      rw [show (Value.int IntKind.u8 0).cells = #[Value.int .u8 0] from rfl, toList_madeCells_one]
      simp [stage, bigL]
    rw [← e]
    exact hown
  have HO1 := hid hO1
  have HB1 := hid hB1
  clear hO1 hB1 hown hgr
  go_enter Try.func39, Try.ntmps39
  go_wp2_with (go_at_call 58; refine (width_uint64 _).mono ?_; rintro e w' ⟨rfl, hw⟩; have hw' := hw.symm; subst hw'; clear hw)
  go_loopw [4, 5] (fun t i wr => ∃ r : Nat, t = .int .u64 ((x / 256 ^ r : Nat) : Int) ∧ ((∃ m : Nat, m + 1 + r = 8 ∧ i = .int .i64 (m : Int)) ∨ (r = 8 ∧ i = .int .i64 (-1))) ∧ Hid (wr.ownsRow w.heap.size 5 1 (.slice (some ⟨w.heap.size, 0, none⟩) 8 8) 8 ((stage 8 r x).map (Value.int .u8))) ∧ Hid (Below w.heap.size w wr)) (fun _ i _ => (intOf i + 1).toNat)
  case atStart => exact ⟨0, by simp, .inl ⟨7, rfl, rfl⟩, HO1, HB1⟩
  case round =>
    clear HO1 HB1 hmk2
    obtain ⟨r, rfl, hri, HO, HB⟩ := hrel
    obtain ⟨y, HY⟩ : ∃ y, Hid (y = x / 256 ^ r) := ⟨_, rfl⟩
    have hy : y ≤ x := by rw [HY.out]; exact Nat.div_le_self _ _
    rw [← HY.out]
    rcases hri with ⟨m, hm, rfl⟩ | ⟨rfl, rfl⟩
    · have hc := (HO.out.cellAt m (by omega))
      have hfz := HO.out.frozenAt m
      obtain ⟨z, hz⟩ : ∃ z, ((stage 8 r x).map (Value.int .u8))[m]? = some z := ⟨_, List.getElem?_eq_getElem (by rw [List.length_map, stage_length _ _ _ (by omega)]; omega)⟩
      rw [hz] at hc
      clear hz
      have hm1 : m < 8 := by omega
      have hm2 : (m : Int) < 8 := by omega
      go_wp2
      exact ⟨big_round hm HY.out (by omega) (by omega) rfl HO.out HB.out, by simp [intOf]⟩
    · go_wp2
      go_ret
      exact ⟨_, rfl, by simpa [stage] using HO.out, HB.out⟩

/-- The number of which these are the bytes, the highest first. -/
def valL (l : List Int) : Nat := l.foldl (fun a c => a * 256 + c.toNat) 0
theorem valL_snoc (l : List Int) (c : Int) : valL (l ++ [c]) = valL l * 256 + c.toNat := by simp [valL, List.foldl_append]
theorem valL_lt (l : List Int) (h : ∀ x ∈ l, 0 ≤ x ∧ x < 256) : valL l < 256 ^ l.length := by
  obtain ⟨r, hr⟩ : ∃ r, r = l.reverse := ⟨_, rfl⟩
  have e : l = r.reverse := by rw [hr, List.reverse_reverse]
  subst e
  clear hr
  induction r with
  | nil => simp [valL]
  | cons c r ih =>
    rw [List.reverse_cons, valL_snoc, List.length_append]
    have h1 := ih (fun x hx => h x (by rw [List.reverse_cons]; exact List.mem_append_left _ hx))
    have h2 := h c (by simp)
    simp only [List.length_cons, List.length_nil, Nat.zero_add, Nat.pow_succ]
    omega
theorem valL_take_lt (l : List Int) (h : ∀ x ∈ l, 0 ≤ x ∧ x < 256) (j : Nat) : valL (l.take j) < 256 ^ j := by
  have h1 := valL_lt (l.take j) (fun x hx => h x (List.mem_of_mem_take hx))
  refine Nat.lt_of_lt_of_le h1 (Nat.pow_le_pow_right (by omega) ?_)
  simp; omega
theorem or_byte (x : Nat) (y : Int) (hx : x < 72057594037927936) (h0 : 0 ≤ y) (h1 : y < 256) : bits BinOp.or IntKind.u64 ((x : Int) * 256) y = ((x * 256 + y.toNat : Nat) : Int) := by
  rw [u64_or _ _ (by omega) (by omega) h0 (by omega)]
  have e : ((x : Int) * 256).toNat = 2 ^ 8 * x := by omega
  rw [e, ← Nat.two_pow_add_eq_or_of_lt (show y.toNat < 2 ^ 8 by omega)]
  congr 1
  omega
theorem small_round {x n j : Nat} {y : Int} {l : List Int} (hx : x < 72057594037927936) (h0 : 0 ≤ y) (h1 : y < 256) (hX : valL (l.take j) = x) (hY : l.getD j 0 = y) (hl : l.length = n) (hj : j < n) :
    ∃ j' : Nat, j' ≤ n ∧ Value.int IntKind.i64 ((j : Int) + 1) = .int .i64 j' ∧ Value.int IntKind.u64 (bits BinOp.or IntKind.u64 ((x : Int) * 256) y) = .int .u64 (valL (l.take j')) := by
  have hjl : j < l.length := by omega
  refine ⟨j + 1, by omega, by go_num, ?_⟩
  rw [or_byte x y hx h0 h1, List.take_succ_eq_append_getElem hjl, valL_snoc, hX, ← getD_of_lt hjl, hY]
/-- What Small answers: the number and the error. -/
def smallNo (n : Nat) (l : List Int) : Nat := if l.length = n then valL l else 0
def smallErr (n : Nat) (l : List Int) : Int := if l.length < n then 10 else if n < l.length then 11 else 0

set_option maxHeartbeats 1000000 in
theorem small_uint8 (w : World) (v : Value) (l : List Int) (h : HB w v l) : Calls Try.prog 95 #[v] w fun e w' => e = .returned (.tuple #[.int .u8 (smallNo 1 l), .int .i64 (smallErr 1 l)]) ∧ w' = w := by
  obtain ⟨p, c, rfl, hlc, hm⟩ := h.open
  unfold maxLen at hm
  by_cases h1 : l.length < 1
  · have HN : Hid (smallNo 1 l = 0) := if_neg (by omega)
    have HE : Hid (smallErr 1 l = 10) := if_pos h1
    have hd : decide ((l.length : Int) < 1) = true := by simp; omega
    rw [HN.out, HE.out]
    clear h
    go_enter Try.func95, Try.ntmps95
    go_wp2_with (go_at_call 56; refine (width_uint8 _).mono ?_; rintro e w' ⟨rfl, hw⟩; have hw' := hw.symm; subst hw'; clear hw)
    go_ret2
    exact ⟨rfl, rfl⟩
  · have hd : decide ((l.length : Int) < 1) = false := by simp; omega
    by_cases h2 : 1 < l.length
    · have HN : Hid (smallNo 1 l = 0) := if_neg (by omega)
      have HE : Hid (smallErr 1 l = 11) := (if_neg h1).trans (if_pos h2)
      have hd2 : decide ((1 : Int) < l.length) = true := by simp; omega
      rw [HN.out, HE.out]
      clear h
      go_enter Try.func95, Try.ntmps95
      go_wp2_with (go_at_call 56; refine (width_uint8 _).mono ?_; rintro e w' ⟨rfl, hw⟩; have hw' := hw.symm; subst hw'; clear hw)
      go_ret2
      exact ⟨rfl, rfl⟩
    · have hl : l.length = 1 := by omega
      have HN : Hid (smallNo 1 l = valL l) := if_pos hl
      have HE : Hid (smallErr 1 l = 0) := (if_neg h1).trans (if_neg h2)
      rw [HN.out, HE.out]
      have hby := h.2
      obtain ⟨b, off, c', e, _, _, hh⟩ := h.ne (by omega)
      simp only [Value.slice.injEq, true_and] at e
      obtain ⟨rfl, rfl⟩ := e
      rw [hl] at hlc ⊢
      have HL := hid hl
      have HBy := hid hby
      clear hd h1 h2 hl h hby
      go_enter Try.func95, Try.ntmps95
      go_wp2_with (go_at_call 56; refine (width_uint8 _).mono ?_; rintro e w' ⟨rfl, hw⟩; have hw' := hw.symm; subst hw'; clear hw)
      go_loop [5, 19] (fun x i => ∃ j : Nat, j ≤ 1 ∧ i = .int .i64 j ∧ x = .int .u64 (valL (l.take j))) (fun _ i => 1 - (intOf i).toNat)
      case atStart => exact ⟨0, Nat.zero_le _, rfl, rfl⟩
      case round =>
        obtain ⟨j, hj, rfl, rfl⟩ := hrel
        have hv := valL_take_lt l HBy.out j
        obtain ⟨x, HX⟩ : ∃ x, Hid (valL (l.take j) = x) := ⟨_, rfl⟩
        rw [HX.out] at hv ⊢
        by_cases hlt : j < 1
        · have hcell := hh j (by rw [HL.out]; exact hlt)
          obtain ⟨y, HY⟩ : ∃ y, Hid (l.getD j 0 = y) := ⟨_, rfl⟩
          rw [HY.out] at hcell
          have hx : x < 72057594037927936 := Nat.lt_of_lt_of_le hv (Nat.pow_le_pow_right (by omega) (by omega : j ≤ 7))
          clear hv hh
          have hy : 0 ≤ y ∧ y < 256 := by
            rw [← HY.out]
            have : j < l.length := by rw [HL.out]; exact hlt
            rw [getD_of_lt this]
            exact HBy.out _ (List.getElem_mem this)
          obtain ⟨hy0, hy1⟩ := hy
          go_wp2
          exact ⟨small_round hx hy0 hy1 HX.out HY.out HL.out hlt, by simp [intOf]; omega⟩
        · have HV : Hid (valL l = x) := by
            show _ = _
            rw [← HX.out, List.take_of_length_le (by rw [HL.out]; omega)]
          have hx : x < 256 := by
            have : j = 1 := by omega
            subst this
            exact hv
          clear hv hh
          go_wp2
          go_ret2
          exact ⟨by rw [HV.out]; first | rfl | (congr 4; omega), rfl⟩

set_option maxHeartbeats 1000000 in
theorem small_uint32 (w : World) (v : Value) (l : List Int) (h : HB w v l) : Calls Try.prog 98 #[v] w fun e w' => e = .returned (.tuple #[.int .u32 (smallNo 4 l), .int .i64 (smallErr 4 l)]) ∧ w' = w := by
  obtain ⟨p, c, rfl, hlc, hm⟩ := h.open
  unfold maxLen at hm
  by_cases h1 : l.length < 4
  · have HN : Hid (smallNo 4 l = 0) := if_neg (by omega)
    have HE : Hid (smallErr 4 l = 10) := if_pos h1
    have hd : decide ((l.length : Int) < 4) = true := by simp; omega
    rw [HN.out, HE.out]
    clear h
    go_enter Try.func98, Try.ntmps98
    go_wp2_with (go_at_call 57; refine (width_uint32 _).mono ?_; rintro e w' ⟨rfl, hw⟩; have hw' := hw.symm; subst hw'; clear hw)
    go_ret2
    exact ⟨rfl, rfl⟩
  · have hd : decide ((l.length : Int) < 4) = false := by simp; omega
    by_cases h2 : 4 < l.length
    · have HN : Hid (smallNo 4 l = 0) := if_neg (by omega)
      have HE : Hid (smallErr 4 l = 11) := (if_neg h1).trans (if_pos h2)
      have hd2 : decide ((4 : Int) < l.length) = true := by simp; omega
      rw [HN.out, HE.out]
      clear h
      go_enter Try.func98, Try.ntmps98
      go_wp2_with (go_at_call 57; refine (width_uint32 _).mono ?_; rintro e w' ⟨rfl, hw⟩; have hw' := hw.symm; subst hw'; clear hw)
      go_ret2
      exact ⟨rfl, rfl⟩
    · have hl : l.length = 4 := by omega
      have HN : Hid (smallNo 4 l = valL l) := if_pos hl
      have HE : Hid (smallErr 4 l = 0) := (if_neg h1).trans (if_neg h2)
      rw [HN.out, HE.out]
      have hby := h.2
      obtain ⟨b, off, c', e, _, _, hh⟩ := h.ne (by omega)
      simp only [Value.slice.injEq, true_and] at e
      obtain ⟨rfl, rfl⟩ := e
      rw [hl] at hlc ⊢
      have HL := hid hl
      have HBy := hid hby
      clear hd h1 h2 hl h hby
      go_enter Try.func98, Try.ntmps98
      go_wp2_with (go_at_call 57; refine (width_uint32 _).mono ?_; rintro e w' ⟨rfl, hw⟩; have hw' := hw.symm; subst hw'; clear hw)
      go_loop [5, 19] (fun x i => ∃ j : Nat, j ≤ 4 ∧ i = .int .i64 j ∧ x = .int .u64 (valL (l.take j))) (fun _ i => 4 - (intOf i).toNat)
      case atStart => exact ⟨0, Nat.zero_le _, rfl, rfl⟩
      case round =>
        obtain ⟨j, hj, rfl, rfl⟩ := hrel
        have hv := valL_take_lt l HBy.out j
        obtain ⟨x, HX⟩ : ∃ x, Hid (valL (l.take j) = x) := ⟨_, rfl⟩
        rw [HX.out] at hv ⊢
        by_cases hlt : j < 4
        · have hcell := hh j (by rw [HL.out]; exact hlt)
          obtain ⟨y, HY⟩ : ∃ y, Hid (l.getD j 0 = y) := ⟨_, rfl⟩
          rw [HY.out] at hcell
          have hx : x < 72057594037927936 := Nat.lt_of_lt_of_le hv (Nat.pow_le_pow_right (by omega) (by omega : j ≤ 7))
          clear hv hh
          have hy : 0 ≤ y ∧ y < 256 := by
            rw [← HY.out]
            have : j < l.length := by rw [HL.out]; exact hlt
            rw [getD_of_lt this]
            exact HBy.out _ (List.getElem_mem this)
          obtain ⟨hy0, hy1⟩ := hy
          go_wp2
          exact ⟨small_round hx hy0 hy1 HX.out HY.out HL.out hlt, by simp [intOf]; omega⟩
        · have HV : Hid (valL l = x) := by
            show _ = _
            rw [← HX.out, List.take_of_length_le (by rw [HL.out]; omega)]
          have hx : x < 4294967296 := by
            have : j = 4 := by omega
            subst this
            exact hv
          clear hv hh
          go_wp2
          go_ret2
          exact ⟨by rw [HV.out]; first | rfl | (congr 4; omega), rfl⟩

set_option maxHeartbeats 1000000 in
theorem small_uint64 (w : World) (v : Value) (l : List Int) (h : HB w v l) : Calls Try.prog 99 #[v] w fun e w' => e = .returned (.tuple #[.int .u64 (smallNo 8 l), .int .i64 (smallErr 8 l)]) ∧ w' = w := by
  obtain ⟨p, c, rfl, hlc, hm⟩ := h.open
  unfold maxLen at hm
  by_cases h1 : l.length < 8
  · have HN : Hid (smallNo 8 l = 0) := if_neg (by omega)
    have HE : Hid (smallErr 8 l = 10) := if_pos h1
    have hd : decide ((l.length : Int) < 8) = true := by simp; omega
    rw [HN.out, HE.out]
    clear h
    go_enter Try.func99, Try.ntmps99
    go_wp2_with (go_at_call 58; refine (width_uint64 _).mono ?_; rintro e w' ⟨rfl, hw⟩; have hw' := hw.symm; subst hw'; clear hw)
    go_ret2
    exact ⟨rfl, rfl⟩
  · have hd : decide ((l.length : Int) < 8) = false := by simp; omega
    by_cases h2 : 8 < l.length
    · have HN : Hid (smallNo 8 l = 0) := if_neg (by omega)
      have HE : Hid (smallErr 8 l = 11) := (if_neg h1).trans (if_pos h2)
      have hd2 : decide ((8 : Int) < l.length) = true := by simp; omega
      rw [HN.out, HE.out]
      clear h
      go_enter Try.func99, Try.ntmps99
      go_wp2_with (go_at_call 58; refine (width_uint64 _).mono ?_; rintro e w' ⟨rfl, hw⟩; have hw' := hw.symm; subst hw'; clear hw)
      go_ret2
      exact ⟨rfl, rfl⟩
    · have hl : l.length = 8 := by omega
      have HN : Hid (smallNo 8 l = valL l) := if_pos hl
      have HE : Hid (smallErr 8 l = 0) := (if_neg h1).trans (if_neg h2)
      rw [HN.out, HE.out]
      have hby := h.2
      obtain ⟨b, off, c', e, _, _, hh⟩ := h.ne (by omega)
      simp only [Value.slice.injEq, true_and] at e
      obtain ⟨rfl, rfl⟩ := e
      rw [hl] at hlc ⊢
      have HL := hid hl
      have HBy := hid hby
      clear hd h1 h2 hl h hby
      go_enter Try.func99, Try.ntmps99
      go_wp2_with (go_at_call 58; refine (width_uint64 _).mono ?_; rintro e w' ⟨rfl, hw⟩; have hw' := hw.symm; subst hw'; clear hw)
      go_loop [5, 19] (fun x i => ∃ j : Nat, j ≤ 8 ∧ i = .int .i64 j ∧ x = .int .u64 (valL (l.take j))) (fun _ i => 8 - (intOf i).toNat)
      case atStart => exact ⟨0, Nat.zero_le _, rfl, rfl⟩
      case round =>
        obtain ⟨j, hj, rfl, rfl⟩ := hrel
        have hv := valL_take_lt l HBy.out j
        obtain ⟨x, HX⟩ : ∃ x, Hid (valL (l.take j) = x) := ⟨_, rfl⟩
        rw [HX.out] at hv ⊢
        by_cases hlt : j < 8
        · have hcell := hh j (by rw [HL.out]; exact hlt)
          obtain ⟨y, HY⟩ : ∃ y, Hid (l.getD j 0 = y) := ⟨_, rfl⟩
          rw [HY.out] at hcell
          have hx : x < 72057594037927936 := Nat.lt_of_lt_of_le hv (Nat.pow_le_pow_right (by omega) (by omega : j ≤ 7))
          clear hv hh
          have hy : 0 ≤ y ∧ y < 256 := by
            rw [← HY.out]
            have : j < l.length := by rw [HL.out]; exact hlt
            rw [getD_of_lt this]
            exact HBy.out _ (List.getElem_mem this)
          obtain ⟨hy0, hy1⟩ := hy
          go_wp2
          exact ⟨small_round hx hy0 hy1 HX.out HY.out HL.out hlt, by simp [intOf]; omega⟩
        · have HV : Hid (valL l = x) := by
            show _ = _
            rw [← HX.out, List.take_of_length_le (by rw [HL.out]; omega)]
          have hx : x < 18446744073709551616 := by
            have : j = 8 := by omega
            subst this
            exact hv
          clear hv hh
          go_wp2
          go_ret2
          exact ⟨by rw [HV.out]; first | rfl | (congr 4; omega), rfl⟩
end Go.Proofs.Ytmegeogfpkdodaa
