/- Of the road to tagCallsUptoCard_holds: Numbers, FrameMath, Frames, Slices, TgCut, TcCut, TgFit, TcRef, TcFit, ShaInit, RefShaTurn. -/
import Derived.Test.YtcpchhigiohlnaaDoorG00
set_option linter.unusedVariables false
set_option linter.unusedSimpArgs false
set_option maxRecDepth 100000
set_option maxHeartbeats 16000000
namespace Go.Proofs.YtcpchhigiohlnaaDoor
open Go.RowKit
theorem width_uint32 (w : World) : Calls Tryd.prog 62 #[] w fun e w' => e = .returned (.int .i64 4) /\ w' = w := by
 go_enter Tryd.func62, Tryd.ntmps62
 go_wp2
 go_loop [1, 2] (fun s m => (s = .int .i64 0 /\ m = .int .u64 4294967295) \/ (s = .int .i64 1 /\ m = .int .u64 16777215) \/ (s = .int .i64 2 /\ m = .int .u64 65535) \/ (s = .int .i64 3 /\ m = .int .u64 255) \/ (s = .int .i64 4 /\ m = .int .u64 0)) (fun s _ => 4 - (intOf s).toNat)
 case atStart =>
  simp
  decide +kernel
 case round =>
  rcases hrel with ⟨rfl, rfl⟩ | ⟨rfl, rfl⟩ | ⟨rfl, rfl⟩ | ⟨rfl, rfl⟩ | ⟨rfl, rfl⟩
  ·go_wp2
   simp [intOf]
  ·go_wp2
   simp [intOf]
  ·go_wp2
   simp [intOf]
  ·go_wp2
   simp [intOf]
  ·go_wp2
   go_ret
   exact ⟨rfl, rfl⟩
theorem width_uint64 (w : World) : Calls Tryd.prog 75 #[] w fun e w' => e = .returned (.int .i64 8) /\ w' = w := by
 go_enter Tryd.func75, Tryd.ntmps75
 go_wp2
 go_loop [1, 2] (fun s m => (s = .int .i64 0 /\ m = .int .u64 18446744073709551615) \/ (s = .int .i64 1 /\ m = .int .u64 72057594037927935) \/ (s = .int .i64 2 /\ m = .int .u64 281474976710655) \/ (s = .int .i64 3 /\ m = .int .u64 1099511627775) \/ (s = .int .i64 4 /\ m = .int .u64 4294967295) \/ (s = .int .i64 5 /\ m = .int .u64 16777215) \/ (s = .int .i64 6 /\ m = .int .u64 65535) \/ (s = .int .i64 7 /\ m = .int .u64 255) \/ (s = .int .i64 8 /\ m = .int .u64 0)) (fun s _ => 8 - (intOf s).toNat)
 case atStart =>
  simp
  decide +kernel
 case round =>
  rcases hrel with ⟨rfl, rfl⟩ | ⟨rfl, rfl⟩ | ⟨rfl, rfl⟩ | ⟨rfl, rfl⟩ | ⟨rfl, rfl⟩ | ⟨rfl, rfl⟩ | ⟨rfl, rfl⟩ | ⟨rfl, rfl⟩ | ⟨rfl, rfl⟩
  ·go_wp2
   simp [intOf]
  ·go_wp2
   simp [intOf]
  ·go_wp2
   simp [intOf]
  ·go_wp2
   simp [intOf]
  ·go_wp2
   simp [intOf]
  ·go_wp2
   simp [intOf]
  ·go_wp2
   simp [intOf]
  ·go_wp2
   simp [intOf]
  ·go_wp2
   go_ret
   exact ⟨rfl, rfl⟩
def bigL : Nat -> Nat -> List Int
 | 0, _ => []
 | r + 1, x => ((x / 256 ^ r % 256 : Nat) : Int) :: bigL r x
theorem bigL_length (r x : Nat) : (bigL r x).length = r := by
 induction r with
 | zero => rfl
 | succ r ih => simp [bigL, ih]
theorem bigL_byt (r x : Nat) : ∀ y ∈ bigL r x, 0 <= y /\ y < 256 := by
 induction r with
 | zero => simp [bigL]
 | succ r ih =>
  intro y hy
  simp only [bigL, List.mem_cons] at hy
  rcases hy with rfl | hy
  ·omega
  ·exact ih y hy
def stage (n r x : Nat) : List Int := List.replicate (n - r) 0 ++ bigL r x
theorem stage_length (n r x : Nat) (h : r <= n) : (stage n r x).length = n := by simp [stage, bigL_length]; omega
theorem stage_step (n r x : Nat) (h : r < n) : (stage n r x).set (n - 1 - r) ((x / 256 ^ r % 256 : Nat) : Int) = stage n (r + 1) x := by
 unfold stage
 rw [List.set_append_left _ _ (by simp; omega)]
 have e : n - r = (n - 1 - r) + 1 := by omega
 have e2 : n - (r + 1) = n - 1 - r := by omega
 rw [e, e2, List.replicate_succ']
 rw [List.set_append_right _ _ (by simp)]
 simp [bigL]
theorem big_round {w wr : World} {n r x y m : Nat} {b t i : Int} (hm : m + 1 + r = n) (hy : y = x / 256 ^ r) (hb : b = ((y % 256 : Nat) : Int)) (ht : t = ((y / 256 : Nat) : Int)) (hi : i = (m : Int) - 1)
  (HO : wr.ownsRow w.heap.size 5 1 (.slice (some ⟨w.heap.size, 0, none⟩) n n) n ((stage n r x).map (Value.int .u8))) (hB : Below w.heap.size w wr) :
  ∃ r', Value.int IntKind.u64 t = Value.int .u64 ((x / 256 ^ r' : Nat) : Int) /\ ((∃ m' : Nat, m' + 1 + r' = n /\ Value.int IntKind.i64 i = .int .i64 (m' : Int)) \/ (r' = n /\ Value.int IntKind.i64 i = .int .i64 (-1))) /\ Hid ((wr.setCell ⟨w.heap.size, m, none⟩ (.int .u8 b)).ownsRow w.heap.size 5 1 (.slice (some ⟨w.heap.size, 0, none⟩) n n) n ((stage n r' x).map (Value.int .u8))) /\ Hid (Below w.heap.size w (wr.setCell ⟨w.heap.size, m, none⟩ (.int .u8 b))) := by
 refine ⟨r + 1, ?_, ?_, ?_, ?_⟩
 ·rw [ht, hy, Nat.div_div_eq_div_mul, Nat.pow_succ]
 ·cases m with
  | zero => exact .inr ⟨by omega, by rw [hi]; rfl⟩
  | succ m => exact .inl ⟨m, by omega, by rw [hi]; congr 1; omega⟩
 ·have h := (HO.stored m (.int .u8 b)).1
  rw [<- List.map_set, hb, hy, show m = n - 1 - r by omega, stage_step n r x (by omega)] at h
  rw [hb, hy, show m = n - 1 - r by omega]
  exact h
 ·exact hB.setCell (p := ⟨w.heap.size, m, none⟩) (Nat.le_refl _) _
theorem big_uint32 (x : Nat) (_hx : x < 4294967296) (w : World) : Calls Tryd.prog 31 #[.int .u32 (x : Int)] w fun e w' => ∃ v', e = .returned v' /\ w'.ownsRow w.heap.size 5 1 v' 4 ((bigL 4 x).map (Value.int .u8)) /\ Below w.heap.size w w' := by
 obtain ⟨i0, hi, hz0, hz1, hz2⟩ := info_parts info_u8
 obtain ⟨w1, hmk, hown, hgr⟩ := run_make_full (P := Tryd.prog) w w.heap.size 30 5 i0 (.int .u8 0) 1 Tryd.underlying30 hi hz0 hz1 .i64 .i64 4 (by rw [hz2]; omega) (by unfold maxLen; omega) (Nat.le_refl _)
 have hmk2 : (Instr.makeSlice 30 (.int .i64 4) (.int .i64 4)).run Tryd.prog w = .ok (.slice (some ⟨w.heap.size, 0, none⟩) 4 4) w1 := hmk
 clear hmk
 have hB1 : Below w.heap.size w w1 := (Below.refl _ w).grown hgr (Nat.le_refl _) (fun k e => by cases e)
 have hO1 : w1.ownsRow w.heap.size 5 1 (.slice (some ⟨w.heap.size, 0, none⟩) 4 4) 4 ((stage 4 0 x).map (Value.int .u8)) := by
  have e : (madeCells (Value.int IntKind.u8 0).cells (4 * 1)).toList = (stage 4 0 x).map (Value.int .u8) := by
   rw [show (Value.int IntKind.u8 0).cells = #[Value.int .u8 0] from rfl, toList_madeCells_one]
   simp [stage, bigL]
  rw [<- e]
  exact hown
 have HO1 := hid hO1
 have HB1 := hid hB1
 clear hO1 hB1 hown hgr
 go_enter Tryd.func31, Tryd.ntmps31
 go_wp2_with (go_at_call 62; refine (width_uint32 _).mono ?_; rintro e w' ⟨rfl, hw⟩; have hw' := hw.symm; subst hw'; clear hw)
 go_loopw [4, 5] (fun t i wr => ∃ r : Nat, t = .int .u64 ((x / 256 ^ r : Nat) : Int) /\ ((∃ m : Nat, m + 1 + r = 4 /\ i = .int .i64 (m : Int)) \/ (r = 4 /\ i = .int .i64 (-1))) /\ Hid (wr.ownsRow w.heap.size 5 1 (.slice (some ⟨w.heap.size, 0, none⟩) 4 4) 4 ((stage 4 r x).map (Value.int .u8))) /\ Hid (Below w.heap.size w wr)) (fun _ i _ => (intOf i + 1).toNat)
 case atStart => exact ⟨0, by simp, .inl ⟨3, rfl, rfl⟩, HO1, HB1⟩
 case round =>
  clear HO1 HB1 hmk2
  obtain ⟨r, rfl, hri, HO, HB⟩ := hrel
  obtain ⟨y, HY⟩ : ∃ y, Hid (y = x / 256 ^ r) := ⟨_, rfl⟩
  have hy : y <= x := by rw [HY.out]; exact Nat.div_le_self _ _
  rw [<- HY.out]
  rcases hri with ⟨m, hm, rfl⟩ | ⟨rfl, rfl⟩
  ·have hc := (HO.out.cellAt m (by omega))
   have hfz := HO.out.frozenAt m
   obtain ⟨z, hz⟩ : ∃ z, ((stage 4 r x).map (Value.int .u8))[m]? = some z := ⟨_, List.getElem?_eq_getElem (by rw [List.length_map, stage_length _ _ _ (by omega)]; omega)⟩
   rw [hz] at hc
   clear hz
   have hm1 : m < 4 := by omega
   have hm2 : (m : Int) < 4 := by omega
   go_wp2
   exact ⟨big_round hm HY.out (by omega) (by omega) rfl HO.out HB.out, by simp [intOf]⟩
  ·go_wp2
   go_ret
   exact ⟨_, rfl, by simpa [stage] using HO.out, HB.out⟩
theorem big_uint64 (x : Nat) (_hx : x < 18446744073709551616) (w : World) : Calls Tryd.prog 60 #[.int .u64 (x : Int)] w fun e w' => ∃ v', e = .returned v' /\ w'.ownsRow w.heap.size 5 1 v' 8 ((bigL 8 x).map (Value.int .u8)) /\ Below w.heap.size w w' := by
 obtain ⟨i0, hi, hz0, hz1, hz2⟩ := info_parts info_u8
 obtain ⟨w1, hmk, hown, hgr⟩ := run_make_full (P := Tryd.prog) w w.heap.size 30 5 i0 (.int .u8 0) 1 Tryd.underlying30 hi hz0 hz1 .i64 .i64 8 (by rw [hz2]; omega) (by unfold maxLen; omega) (Nat.le_refl _)
 have hmk2 : (Instr.makeSlice 30 (.int .i64 8) (.int .i64 8)).run Tryd.prog w = .ok (.slice (some ⟨w.heap.size, 0, none⟩) 8 8) w1 := hmk
 clear hmk
 have hB1 : Below w.heap.size w w1 := (Below.refl _ w).grown hgr (Nat.le_refl _) (fun k e => by cases e)
 have hO1 : w1.ownsRow w.heap.size 5 1 (.slice (some ⟨w.heap.size, 0, none⟩) 8 8) 8 ((stage 8 0 x).map (Value.int .u8)) := by
  have e : (madeCells (Value.int IntKind.u8 0).cells (8 * 1)).toList = (stage 8 0 x).map (Value.int .u8) := by
   rw [show (Value.int IntKind.u8 0).cells = #[Value.int .u8 0] from rfl, toList_madeCells_one]
   simp [stage, bigL]
  rw [<- e]
  exact hown
 have HO1 := hid hO1
 have HB1 := hid hB1
 clear hO1 hB1 hown hgr
 go_enter Tryd.func60, Tryd.ntmps60
 go_wp2_with (go_at_call 75; refine (width_uint64 _).mono ?_; rintro e w' ⟨rfl, hw⟩; have hw' := hw.symm; subst hw'; clear hw)
 go_loopw [4, 5] (fun t i wr => ∃ r : Nat, t = .int .u64 ((x / 256 ^ r : Nat) : Int) /\ ((∃ m : Nat, m + 1 + r = 8 /\ i = .int .i64 (m : Int)) \/ (r = 8 /\ i = .int .i64 (-1))) /\ Hid (wr.ownsRow w.heap.size 5 1 (.slice (some ⟨w.heap.size, 0, none⟩) 8 8) 8 ((stage 8 r x).map (Value.int .u8))) /\ Hid (Below w.heap.size w wr)) (fun _ i _ => (intOf i + 1).toNat)
 case atStart => exact ⟨0, by simp, .inl ⟨7, rfl, rfl⟩, HO1, HB1⟩
 case round =>
  clear HO1 HB1 hmk2
  obtain ⟨r, rfl, hri, HO, HB⟩ := hrel
  obtain ⟨y, HY⟩ : ∃ y, Hid (y = x / 256 ^ r) := ⟨_, rfl⟩
  have hy : y <= x := by rw [HY.out]; exact Nat.div_le_self _ _
  rw [<- HY.out]
  rcases hri with ⟨m, hm, rfl⟩ | ⟨rfl, rfl⟩
  ·have hc := (HO.out.cellAt m (by omega))
   have hfz := HO.out.frozenAt m
   obtain ⟨z, hz⟩ : ∃ z, ((stage 8 r x).map (Value.int .u8))[m]? = some z := ⟨_, List.getElem?_eq_getElem (by rw [List.length_map, stage_length _ _ _ (by omega)]; omega)⟩
   rw [hz] at hc
   clear hz
   have hm1 : m < 8 := by omega
   have hm2 : (m : Int) < 8 := by omega
   go_wp2
   exact ⟨big_round hm HY.out (by omega) (by omega) rfl HO.out HB.out, by simp [intOf]⟩
  ·go_wp2
   go_ret
   exact ⟨_, rfl, by simpa [stage] using HO.out, HB.out⟩
def valL (l : List Int) : Nat := l.foldl (fun a c => a * 256 + c.toNat) 0
theorem valL_snoc (l : List Int) (c : Int) : valL (l ++ [c]) = valL l * 256 + c.toNat := by simp [valL, List.foldl_append]
theorem valL_lt (l : List Int) (h : ∀ x ∈ l, 0 <= x /\ x < 256) : valL l < 256 ^ l.length := by
 obtain ⟨r, hr⟩ : ∃ r, r = l.reverse := ⟨_, rfl⟩
 have e : l = r.reverse := by rw [hr, List.reverse_reverse]
 subst e
 clear hr
 induction r with
 | nil => simp [valL]
 | cons c r ih =>
  rw [List.reverse_cons, valL_snoc, List.length_append]
  have h1 := ih (fun x hx => h x (by rw [List.reverse_cons]; exact List.mem_append_left _ hx))
  have h2 := h c (by simp)
  simp only [List.length_cons, List.length_nil, Nat.zero_add, Nat.pow_succ]
  omega
theorem valL_take_lt (l : List Int) (h : ∀ x ∈ l, 0 <= x /\ x < 256) (j : Nat) : valL (l.take j) < 256 ^ j := by
 have h1 := valL_lt (l.take j) (fun x hx => h x (List.mem_of_mem_take hx))
 refine Nat.lt_of_lt_of_le h1 (Nat.pow_le_pow_right (by omega) ?_)
 simp; omega
theorem or_byte (x : Nat) (y : Int) (hx : x < 72057594037927936) (h0 : 0 <= y) (h1 : y < 256) : bits BinOp.or IntKind.u64 ((x : Int) * 256) y = ((x * 256 + y.toNat : Nat) : Int) := by
 rw [u64_or _ _ (by omega) (by omega) h0 (by omega)]
 have e : ((x : Int) * 256).toNat = 2 ^ 8 * x := by omega
 rw [e, <- Nat.two_pow_add_eq_or_of_lt (show y.toNat < 2 ^ 8 by omega)]
 congr 1
 omega
theorem small_round {x n j : Nat} {y : Int} {l : List Int} (hx : x < 72057594037927936) (h0 : 0 <= y) (h1 : y < 256) (hX : valL (l.take j) = x) (hY : l.getD j 0 = y) (hl : l.length = n) (hj : j < n) :
  ∃ j' : Nat, j' <= n /\ Value.int IntKind.i64 ((j : Int) + 1) = .int .i64 j' /\ Value.int IntKind.u64 (bits BinOp.or IntKind.u64 ((x : Int) * 256) y) = .int .u64 (valL (l.take j')) := by
 have hjl : j < l.length := by omega
 refine ⟨j + 1, by omega, by go_num, ?_⟩
 rw [or_byte x y hx h0 h1, List.take_succ_eq_append_getElem hjl, valL_snoc, hX, <- getD_of_lt hjl, hY]
def smallNo (n : Nat) (l : List Int) : Nat := if l.length = n then valL l else 0
def smallErr (n : Nat) (l : List Int) : Int := if l.length < n then 10 else if n < l.length then 11 else 0
theorem small_uint64 (w : World) (v : Value) (l : List Int) (h : HB w v l) : Calls Tryd.prog 70 #[v] w fun e w' => e = .returned (.tuple #[.int .u64 (smallNo 8 l), .int .i64 (smallErr 8 l)]) /\ w' = w := by
 obtain ⟨p, c, rfl, hlc, hm⟩ := h.open
 unfold maxLen at hm
 by_cases h1 : l.length < 8
 ·have HN : Hid (smallNo 8 l = 0) := if_neg (by omega)
  have HE : Hid (smallErr 8 l = 10) := if_pos h1
  have hd : decide ((l.length : Int) < 8) = true := by simp; omega
  rw [HN.out, HE.out]
  clear h
  go_enter Tryd.func70, Tryd.ntmps70
  go_wp2_with (go_at_call 75; refine (width_uint64 _).mono ?_; rintro e w' ⟨rfl, hw⟩; have hw' := hw.symm; subst hw'; clear hw)
  go_ret2
  exact ⟨rfl, rfl⟩
 ·have hd : decide ((l.length : Int) < 8) = false := by simp; omega
  by_cases h2 : 8 < l.length
  ·have HN : Hid (smallNo 8 l = 0) := if_neg (by omega)
   have HE : Hid (smallErr 8 l = 11) := (if_neg h1).trans (if_pos h2)
   have hd2 : decide ((8 : Int) < l.length) = true := by simp; omega
   rw [HN.out, HE.out]
   clear h
   go_enter Tryd.func70, Tryd.ntmps70
   go_wp2_with (go_at_call 75; refine (width_uint64 _).mono ?_; rintro e w' ⟨rfl, hw⟩; have hw' := hw.symm; subst hw'; clear hw)
   go_ret2
   exact ⟨rfl, rfl⟩
  ·have hl : l.length = 8 := by omega
   have HN : Hid (smallNo 8 l = valL l) := if_pos hl
   have HE : Hid (smallErr 8 l = 0) := (if_neg h1).trans (if_neg h2)
   rw [HN.out, HE.out]
   have hby := h.2
   obtain ⟨b, off, c', e, _, _, hh⟩ := h.ne (by omega)
   simp only [Value.slice.injEq, true_and] at e
   obtain ⟨rfl, rfl⟩ := e
   rw [hl] at hlc ⊢
   have HL := hid hl
   have HBy := hid hby
   clear hd h1 h2 hl h hby
   go_enter Tryd.func70, Tryd.ntmps70
   go_wp2_with (go_at_call 75; refine (width_uint64 _).mono ?_; rintro e w' ⟨rfl, hw⟩; have hw' := hw.symm; subst hw'; clear hw)
   go_loop [5, 19] (fun x i => ∃ j : Nat, j <= 8 /\ i = .int .i64 j /\ x = .int .u64 (valL (l.take j))) (fun _ i => 8 - (intOf i).toNat)
   case atStart => exact ⟨0, Nat.zero_le _, rfl, rfl⟩
   case round =>
    obtain ⟨j, hj, rfl, rfl⟩ := hrel
    have hv := valL_take_lt l HBy.out j
    obtain ⟨x, HX⟩ : ∃ x, Hid (valL (l.take j) = x) := ⟨_, rfl⟩
    rw [HX.out] at hv ⊢
    by_cases hlt : j < 8
    ·have hcell := hh j (by rw [HL.out]; exact hlt)
     obtain ⟨y, HY⟩ : ∃ y, Hid (l.getD j 0 = y) := ⟨_, rfl⟩
     rw [HY.out] at hcell
     have hx : x < 72057594037927936 := Nat.lt_of_lt_of_le hv (Nat.pow_le_pow_right (by omega) (by omega : j <= 7))
     clear hv hh
     have hy : 0 <= y /\ y < 256 := by
      rw [<- HY.out]
      have : j < l.length := by rw [HL.out]; exact hlt
      rw [getD_of_lt this]
      exact HBy.out _ (List.getElem_mem this)
     obtain ⟨hy0, hy1⟩ := hy
     go_wp2
     exact ⟨small_round hx hy0 hy1 HX.out HY.out HL.out hlt, by simp [intOf]; omega⟩
    ·have HV : Hid (valL l = x) := by
      show _ = _
      rw [<- HX.out, List.take_of_length_le (by rw [HL.out]; omega)]
     have hx : x < 18446744073709551616 := by
      have : j = 8 := by omega
      subst this
      exact hv
     clear hv hh
     go_wp2
     go_ret2
     exact ⟨by rw [HV.out]; first | rfl | (congr 4; omega), rfl⟩
def pcs (ls : List (List Int)) : List (List Int) := ls.flatMap fun l => [bigL 8 l.length, l]
def pcsTo (ls : List (List Int)) (k : Nat) : List (List Int) := pcs (ls.take k)
def framed (ls : List (List Int)) : List Int := (pcs ls).flatten
theorem pcs_snoc (ls : List (List Int)) (k : Nat) (hk : k < ls.length) : pcsTo ls (k + 1) = pcsTo ls k ++ [bigL 8 (ls.getD k []).length, ls.getD k []] := by
 unfold pcsTo pcs
 rw [List.take_succ_eq_append_getElem hk, List.flatMap_append]
 have e : ls.getD k [] = ls[k] := by simp [List.getD, List.getElem?_eq_getElem hk]
 rw [e]
 simp
theorem pcs_length (ls : List (List Int)) : (pcs ls).length = 2 * ls.length := by
 unfold pcs
 induction ls with
 | nil => rfl
 | cons a r ih => simp only [List.flatMap_cons, List.length_append, List.length_cons, List.length_nil, ih]; omega
theorem pcsTo_length (ls : List (List Int)) (k : Nat) : (pcsTo ls k).length <= 2 * ls.length := by
 unfold pcsTo
 rw [pcs_length, List.length_take]
 omega
theorem framed_length (ls : List (List Int)) : (framed ls).length = ls.flatten.length + 8 * ls.length := by
 unfold framed pcs
 induction ls with
 | nil => rfl
 | cons a r ih =>
  simp only [List.flatMap_cons, List.flatten_append, List.flatten_cons, List.flatten_nil, List.length_append, List.length_nil, List.length_cons, bigL_length] at ih ⊢
  omega
theorem fold_bigL (r x a : Nat) : (bigL r x).foldl (fun a c => a * 256 + c.toNat) a = a * 256 ^ r + x % 256 ^ r := by
 induction r generalizing a with
 | zero => simp [bigL, Nat.mod_one]
 | succ r ih =>
  simp only [bigL, List.foldl_cons, Int.toNat_natCast]
  rw [ih, Nat.pow_succ]
  have h1 := Nat.mod_mul (a := 256 ^ r) (b := 256) (x := x)
  rw [h1]
  have : (a * 256 + x / 256 ^ r % 256) * 256 ^ r = a * (256 ^ r * 256) + 256 ^ r * (x / 256 ^ r % 256) := by
   rw [Nat.add_mul, Nat.mul_assoc, Nat.mul_comm 256 (256 ^ r), Nat.mul_comm (x / 256 ^ r % 256)]
  omega
theorem valL_bigL (r x : Nat) (h : x < 256 ^ r) : valL (bigL r x) = x := by
 unfold valL
 rw [fold_bigL, Nat.zero_mul, Nat.zero_add, Nat.mod_eq_of_lt h]
theorem valL_head (c : Int) (l : List Int) : valL (c :: l) = c.toNat * 256 ^ l.length + valL l := by
 obtain ⟨r, hr⟩ : ∃ r, r = l.reverse := ⟨_, rfl⟩
 have e : l = r.reverse := by rw [hr, List.reverse_reverse]
 subst e
 clear hr
 induction r with
 | nil => simp [valL]
 | cons d r ih =>
  rw [List.reverse_cons, <- List.cons_append, valL_snoc, valL_snoc, ih, List.length_append]
  simp only [List.length_cons, List.length_nil, Nat.zero_add, Nat.pow_succ]
  rw [Nat.add_mul, Nat.mul_assoc]
  omega
theorem bigL_mod (r x y : Nat) : bigL r (y * 256 ^ r + x) = bigL r x := by
 induction r generalizing y with
 | zero => rfl
 | succ r ih =>
  have e : y * 256 ^ (r + 1) + x = (y * 256) * 256 ^ r + x := by rw [Nat.pow_succ, Nat.mul_comm (256 ^ r), Nat.mul_assoc]
  simp only [bigL]
  rw [e, ih]
  have hp : 0 < 256 ^ r := Nat.pow_pos (by omega)
  rw [Nat.add_comm (y * 256 * 256 ^ r), Nat.add_mul_div_right _ _ hp]
  congr 2
  omega
theorem bigL_valL (l : List Int) (h : ∀ x ∈ l, 0 <= x /\ x < 256) : bigL l.length (valL l) = l := by
 induction l with
 | nil => rfl
 | cons c l ih =>
  have hl : ∀ x ∈ l, 0 <= x /\ x < 256 := fun x hx => h x (List.mem_cons_of_mem _ hx)
  have hc := h c (by simp)
  have hv := valL_lt l hl
  rw [valL_head]
  simp only [List.length_cons, bigL]
  rw [bigL_mod, ih hl]
  have hp : 0 < 256 ^ l.length := Nat.pow_pos (by omega)
  rw [Nat.add_comm (c.toNat * 256 ^ l.length), Nat.add_mul_div_right _ _ hp, Nat.div_eq_of_lt hv]
  congr 1
  omega
def Ok (ls : List (List Int)) : Prop := ∀ l ∈ ls, l.length < 256 ^ 8
theorem framed_cons (x : List Int) (xs : List (List Int)) : framed (x :: xs) = bigL 8 x.length ++ (x ++ framed xs) := by
 simp [framed, pcs]
theorem framed_append (a b : List (List Int)) : framed (a ++ b) = framed a ++ framed b := by
 simp [framed, pcs]
theorem framed_nil : framed [] = [] := rfl
theorem framed_cancel (ls : List (List Int)) (l : List Int) : ∀ xs, Ok xs -> Ok ls -> framed xs = framed ls ++ l -> ∃ bs, xs = ls ++ bs /\ framed bs = l := by
 induction ls with
 | nil => intro ys _ _ h; exact ⟨ys, rfl, h⟩
 | cons x xs ih =>
  intro as' ha hl h
  cases as' with
  | nil =>
   exfalso
   have := congrArg List.length h
   rw [framed_cons] at this
   simp [framed_nil, bigL_length] at this
   omega
  | cons y ys =>
   rw [framed_cons, framed_cons, List.append_assoc, List.append_assoc] at h
   have h1 := List.append_inj h (by rw [bigL_length, bigL_length])
   have hlen : y.length = x.length := by
    have := congrArg valL h1.1
    rwa [valL_bigL 8 _ (ha y (by simp)), valL_bigL 8 _ (hl x (by simp))] at this
   have h2 := List.append_inj h1.2 hlen
   obtain ⟨bs, e1, e2⟩ := ih ys (fun z hz => ha z (List.mem_cons_of_mem _ hz)) (fun z hz => hl z (List.mem_cons_of_mem _ hz)) h2.2
   exact ⟨bs, by rw [h2.1, e1]; rfl, e2⟩
def UInv (raw : List Int) (ls : List (List Int)) (f : Bool) (l : List Int) : Prop :=
 8 * ls.length <= raw.length + 8 /\ l.length <= raw.length /\ Ok ls /\ (f = false -> raw = framed ls ++ l) /\ (f = true -> l = [] /\ ∀ xs, Ok xs -> framed xs ≠ raw)
theorem UInv.start (raw : List Int) : UInv raw [] false raw := ⟨by simp, Nat.le_refl _, by intro l hl; simp at hl, fun _ => rfl, fun h => by cases h⟩
theorem UInv.none {raw : List Int} {ls : List (List Int)} {l : List Int} (h : UInv raw ls false l) (hb : ∀ bs, Ok bs -> framed bs ≠ l) : ∀ xs, Ok xs -> framed xs ≠ raw := by
 intro xs ha he
 obtain ⟨_, _, h3, h4, _⟩ := h
 rw [h4 rfl] at he
 obtain ⟨bs, e1, e2⟩ := framed_cancel ls l xs ha h3 he
 exact hb bs (fun z hz => ha z (by rw [e1]; exact List.mem_append_right _ hz)) e2
theorem no_frames_long {l : List Int} (h8 : 8 <= l.length) (hv : (l.drop 8).length < valL (l.take 8)) : ∀ bs, Ok bs -> framed bs ≠ l := by
 intro bs hb h
 cases bs with
 | nil => rw [framed_nil] at h; subst h; simp at h8
 | cons y ys =>
  rw [framed_cons] at h
  have h1 : l.take 8 = bigL 8 y.length := by rw [<- h, List.take_left' (bigL_length _ _)]
  have h2 : l.drop 8 = y ++ framed ys := by rw [<- h, List.drop_left' (bigL_length _ _)]
  rw [h1, h2, valL_bigL 8 _ (hb y (by simp)), List.length_append] at hv
  omega
theorem UInv.step {raw : List Int} {ls : List (List Int)} {l : List Int} (hraw : raw.length < 256 ^ 8) (hby : ∀ x ∈ l, 0 <= x /\ x < 256) (h : UInv raw ls false l) (h8 : 8 <= l.length) (hv : valL (l.take 8) <= (l.drop 8).length) :
  UInv raw (ls ++ [(l.drop 8).take (valL (l.take 8))]) false ((l.drop 8).drop (valL (l.take 8))) := by
 obtain ⟨h1, h2, h3, h4, h5⟩ := h
 have hlen : ((l.drop 8).take (valL (l.take 8))).length = valL (l.take 8) := by simp at hv ⊢; omega
 have e := h4 rfl
 have hr : raw.length = ls.flatten.length + 8 * ls.length + l.length := by rw [e, List.length_append, framed_length]
 refine ⟨?_, ?_, ?_, ?_, fun h => by cases h⟩
 ·rw [List.length_append, List.length_singleton]; omega
 ·simp; omega
 ·intro z hz
  rcases List.mem_append.1 hz with hz | hz
  ·exact h3 z hz
  ·simp only [List.mem_singleton] at hz
   subst hz
   rw [hlen]
   refine Nat.lt_of_le_of_lt hv (Nat.lt_of_le_of_lt ?_ hraw)
   simp; omega
 ·intro _
  rw [framed_append, framed_cons, framed_nil, List.append_nil, hlen, e]
  have hb8 : bigL 8 (valL (l.take 8)) = l.take 8 := by
   have := bigL_valL (l.take 8) (fun x hx => hby x (List.mem_of_mem_take hx))
   rwa [show (l.take 8).length = 8 by simp; omega] at this
  rw [hb8]
  simp only [List.append_assoc, List.take_append_drop]
theorem EL.below {w0 w w' : World} {u : Value} {l : List Int} (h : EL w0 w u l) (hb : Below w.heap.size w w') : EL w0 w' u l :=
 h.grown (row := none) ⟨hb.os, hb.tape, hb.output, hb.size, fun k hk _ => hb.block k hk⟩ (fun g e => by cases e)
theorem grown_set (w : World) (g o : Nat) (u : Value) : w.grownBy (w.setCell ⟨g, o, none⟩ u) (some g) :=
 ⟨rfl, rfl, rfl, by simp, fun k _ hk => heap_setCell_other w ⟨g, o, none⟩ k u (fun e => hk (by simp [e]))⟩
theorem grown_trans {a b c : World} {r : Option Nat} (h : a.grownBy b r) (k : b.grownBy c r) : a.grownBy c r :=
 ⟨k.os.trans h.os, k.tape.trans h.tape, k.output.trans h.output, Nat.le_trans h.size k.size, fun i hi hr => (k.block i (Nat.lt_of_lt_of_le hi h.size) hr).trans (h.block i hi hr)⟩
theorem grown_below {a b : World} {r : Option Nat} (h : Below a.heap.size a b) : a.grownBy b r :=
 ⟨h.os, h.tape, h.output, h.size, fun i hi _ => h.block i hi⟩
theorem HB.sliced {w : World} {p : Option Addr} {c : Nat} {l : List Int} (h : HB w (.slice p l.length c) l) (lo hi m : Nat) (h1 : lo <= hi) (h2 : hi <= l.length) (h3 : hi <= m) (h4 : m <= c) : HB w (.slice (if m = lo then p else p.map (·.add lo)) (hi - lo) (m - lo)) ((l.take hi).drop lo) := by
 obtain ⟨⟨p', c', e, hc, hm, hpc, hcell⟩, hby⟩ := h
 simp only [Value.slice.injEq, true_and] at e
 obtain ⟨rfl, rfl⟩ := e
 have hlen : ((l.take hi).drop lo).length = hi - lo := by simp; omega
 refine ⟨⟨_, m - lo, by rw [hlen], by omega, by omega, fun e => ?_, fun hne => ?_⟩, fun x hx => hby x (List.mem_of_mem_take (List.mem_of_mem_drop hx))⟩
 ·have : p = none := by
   split at e
   ·exact e
   ·cases p <;> simp_all
  have := hpc this
  omega
 have hlt : lo < hi := by
  apply Classical.byContradiction
  intro hn
  exact hne (List.length_eq_zero_iff.1 (by omega))
 obtain ⟨b, off, rfl, hk⟩ := hcell (by intro e; subst e; simp at h2; omega)
 rw [if_neg (by omega)]
 refine ⟨b, off + lo, by simp [Go.WideShapes.add_plain], fun j hj => ?_⟩
 rw [hlen] at hj
 have := hk (lo + j) (by omega)
 rw [show off + lo + j = off + (lo + j) by omega, this]
 have e1 : ((l.take hi).drop lo).getD j 0 = l.getD (lo + j) 0 := by
  simp only [List.getD, List.getElem?_drop, List.getElem?_take]
  rw [if_pos (by omega)]
 rw [e1]
theorem HB.suf {w : World} {p : Option Addr} {c : Nat} {l : List Int} (h : HB w (.slice p l.length c) l) (n : Nat) (hn : n <= l.length) : HB w (.slice (if c = n then p else p.map (·.add n)) (l.length - n) (c - n)) (l.drop n) := by
 obtain ⟨p', c', e, hc, _⟩ := h.open
 simp only [Value.slice.injEq, true_and] at e
 obtain ⟨rfl, rfl⟩ := e
 have := h.sliced n l.length c hn (Nat.le_refl _) hc (Nat.le_refl _)
 rwa [List.take_of_length_le (Nat.le_refl _)] at this
end Go.Proofs.YtcpchhigiohlnaaDoor
namespace Go.Proofs.YtcpchhigiohlnaaDoor
open Go Go.RowKit
theorem bel8 : Tryd.prog.elem 30 = 5 := by kernel_rfl
theorem slice_lh (W : World) (p : Option Addr) (n c lo hi : Nat) (h1 : lo <= hi) (h2 : hi <= c) : (Instr.slice 30 (.slice p n c) (some (.int .i64 (lo : Int))) (some (.int .i64 (hi : Int))) none).run Tryd.prog W = .ok (.slice (if c = lo then p else p.map (·.add lo)) (hi - lo) (c - lo)) W := by
 have h := run_slice_lh (P := Tryd.prog) W 30 p n c (by rw [bel8]; exact Tryd.underlying30) .i64 .i64 (lo : Int) (hi : Int) (by omega) (by omega) (by omega)
 rw [h, bel8, size_u8, Result.andThen_ok, Int.toNat_natCast, Int.toNat_natCast]
 unfold sliced
 rw [Nat.mul_one]
def cutF (raw : List Int) : Nat -> Nat -> List (List Int) -> List (List Int) × Nat × Bool
 | 0, _, fs => (fs, 0, decide (0 < fs.length))
 | k + 1, at_, fs =>
  if at_ < raw.length then
   if at_ + 8 <= raw.length then
    if valL ((raw.drop at_).take 8) <= raw.length - at_ - 8 then cutF raw k (at_ + 8 + valL ((raw.drop at_).take 8)) (fs ++ [(raw.drop (at_ + 8)).take (valL ((raw.drop at_).take 8))])
    else ([], at_, false)
   else ([], at_, false)
  else (fs, 0, decide (0 < fs.length))
section
variable {raw : List Int}
theorem cutF_end (K A : Nat) (ls : List (List Int)) (h : ¬ A < raw.length) : cutF raw K A ls = (ls, 0, decide (0 < ls.length)) := by
 cases K with
 | zero => rfl
 | succ k => rw [cutF, if_neg h]
theorem cutF_short (K A : Nat) (ls : List (List Int)) (h : A < raw.length) (h8 : ¬ A + 8 <= raw.length) (hK : raw.length - A <= K) : cutF raw K A ls = ([], A, false) := by
 cases K with
 | zero => omega
 | succ k => rw [cutF, if_pos h, if_neg h8]
theorem cutF_long (K A : Nat) (ls : List (List Int)) (h8 : A + 8 <= raw.length) (hN : ¬ valL ((raw.drop A).take 8) <= raw.length - A - 8) (hK : raw.length - A <= K) : cutF raw K A ls = ([], A, false) := by
 cases K with
 | zero => omega
 | succ k => rw [cutF, if_pos (by omega), if_pos h8, if_neg hN]
theorem cutF_step (K A : Nat) (ls : List (List Int)) (h8 : A + 8 <= raw.length) (hN : valL ((raw.drop A).take 8) <= raw.length - A - 8) (hK : raw.length - A <= K) :
  ∃ K', raw.length - (A + 8 + valL ((raw.drop A).take 8)) <= K' /\ cutF raw K A ls = cutF raw K' (A + 8 + valL ((raw.drop A).take 8)) (ls ++ [(raw.drop (A + 8)).take (valL ((raw.drop A).take 8))]) := by
 cases K with
 | zero => omega
 | succ k => exact ⟨k, by omega, by rw [cutF, if_pos (by omega), if_pos h8, if_pos hN]⟩
end
def CutC (w w' : World) (raw : List Int) (v : Value) (fs : List (List Int)) (a : Nat) (b : Bool) : Prop :=
 cutF raw raw.length 0 [] = (fs, a, b) /\ (b = true -> OWL w w' v fs /\ Ok fs)
theorem tcutC (w : World) (v : Value) (raw : List Int) (h : HB w v raw) (hbig : raw.length <= 2000000) :
  Calls Tryd.prog 38 #[v] w fun e w' => ∃ (v' : Value) (fs : List (List Int)) (a : Nat) (b : Bool), e = .returned (.tuple #[v', .int .i64 (a : Int), .bool b]) /\ CutC w w' raw v' fs a b /\ Below w.heap.size w w' := by
 obtain ⟨p, c, e, hlc, hm⟩ := h.open
 have H := hid h
 clear h
 subst e
 unfold maxLen at hm
 obtain ⟨n, Hn⟩ : ∃ x, Hid (raw.length = x) := ⟨_, rfl⟩
 have hbig : n <= 2000000 := by rw [<- Hn.out]; exact hbig
 have hlc : n <= c := by rw [<- Hn.out]; exact hlc
 rw [Hn.out]
 have HV := H.out
 rw [Hn.out] at HV
 have HV := hid HV
 have RUN := hid fun W lo hi h1 h2 => slice_lh W p n c lo hi h1 h2
 have CS := hid fun W v l h => small_uint64 W v l h
 go_enter Tryd.func38, Tryd.ntmps38
 go_wp2
 go_loopw [5, 6] (fun fr ii wr => ∃ (ls : List (List Int)) (A : Nat), A <= n /\ ii = .int .i64 (A : Int) /\ Hid (OWL w wr fr ls) /\ Hid (UInv raw ls false (raw.drop A)) /\ Hid (∃ K, raw.length - A <= K /\ cutF raw K A ls = cutF raw raw.length 0 []) /\ Hid (Below w.heap.size w wr)) (fun _ ii _ => n - (intOf ii).toNat)
 case atStart => exact ⟨[], 0, by omega, rfl, hid (OWL.nil _ _), hid (UInv.start raw), hid ⟨raw.length, Nat.sub_le _ _, rfl⟩, hid (Below.refl _ _)⟩
 case round =>
  obtain ⟨ls, A, hA, rfl, HO, HU, HK, HBw⟩ := hrel
  have hdl : Hid ((raw.drop A).length = n - A) := hid (by rw [List.length_drop, Hn.out])
  by_cases hlt : A < n
  case neg =>
   have hAn : A = n := by omega
   have HE : Hid (framed ls = raw) := hid (by
    have h1 := HU.out.2.2.2.1 rfl
    have h2 : raw.drop A = [] := List.drop_eq_nil_of_le (by rw [Hn.out]; omega)
    rw [h2, List.append_nil] at h1
    exact h1.symm)
   obtain ⟨pf, cf, ef, _, _⟩ := (HO.out.hl HBw.out).open
   subst ef
   by_cases h0 : 0 < ls.length
   ·have hd : decide ((0 : Int) < (ls.length : Int)) = true := by simp; omega
    have HA : Hid (CutC w wr raw (.slice pf ls.length cf) ls 0 true) := hid ⟨by obtain ⟨K, _, q⟩ := HK.out; rw [<- q, cutF_end _ _ _ (by rw [Hn.out]; omega), decide_eq_true h0], fun _ => ⟨HO.out, HU.out.2.2.1⟩⟩
    go_wp2
    go_ret3
    exact ⟨_, _, _, _, rfl, HA.out, HBw.out⟩
   ·have hd : decide ((0 : Int) < (ls.length : Int)) = false := decide_eq_false (by omega)
    have hnil : ls = [] := List.length_eq_zero_iff.1 (by omega)
    have HA : Hid (CutC w wr raw (.slice pf ls.length cf) ls 0 false) := hid ⟨by obtain ⟨K, _, q⟩ := HK.out; rw [<- q, cutF_end _ _ _ (by rw [Hn.out]; omega), decide_eq_false h0], fun e => by cases e⟩
    go_wp2
    go_ret3
    exact ⟨_, _, _, _, rfl, HA.out, HBw.out⟩
  case pos =>
   by_cases h8 : A + 8 <= n
   case neg =>
    have HA : Hid (CutC w wr raw (.slice none 0 0) [] A false) := hid ⟨by obtain ⟨K, hK, q⟩ := HK.out; rw [<- q, cutF_short _ _ _ (by rw [Hn.out]; exact hlt) (by rw [Hn.out]; exact h8) hK], fun e => by cases e⟩
    go_wp2
    go_ret3
    exact ⟨_, _, _, _, rfl, HA.out, HBw.out⟩
   case pos =>
    have hcA : ¬ c = A := by omega
    have hs8 := H.out.sliced A (A + 8) c (by omega) (by rw [Hn.out]; exact h8) (by omega) (Nat.le_refl _)
    rw [if_neg hcA, Nat.add_sub_cancel_left, List.drop_take, Nat.add_sub_cancel_left] at hs8
    have r1 : ∀ W, (Instr.slice 30 (.slice p n c) (some (.int .i64 (A : Int))) (some (.int .i64 ((A : Int) + 8))) none).run Tryd.prog W = .ok (.slice (p.map (·.add A)) 8 (c - A)) W := fun W => by
     have := RUN.out W A (A + 8) (by omega) (by omega)
     rwa [if_neg hcA, Nat.add_sub_cancel_left, show ((A + 8 : Nat) : Int) = (A : Int) + 8 by omega] at this
    have hl8 : ((raw.drop A).take 8).length = 8 := by rw [List.length_take, hdl.out]; omega
    have C := CS.out wr _ _ (hs8.below HBw.out)
    rw [show smallNo 8 ((raw.drop A).take 8) = valL ((raw.drop A).take 8) by unfold smallNo; rw [if_pos hl8]] at C
    have hby : ∀ x ∈ raw.drop A, 0 <= x /\ x < 256 := fun x hx => H.out.2 x (List.mem_of_mem_drop hx)
    have hNb : valL ((raw.drop A).take 8) < 18446744073709551616 := by
     have := valL_take_lt (raw.drop A) hby 8
     omega
    have HST : Hid (valL ((raw.drop A).take 8) <= ((raw.drop A).drop 8).length -> UInv raw (ls ++ [((raw.drop A).drop 8).take (valL ((raw.drop A).take 8))]) false (((raw.drop A).drop 8).drop (valL ((raw.drop A).take 8)))) := hid fun hv => UInv.step (by rw [Hn.out]; omega) hby HU.out (by rw [hdl.out]; omega) hv
    have HNO : Hid (((raw.drop A).drop 8).length < valL ((raw.drop A).take 8) -> ∀ xs, Ok xs -> framed xs ≠ raw) := hid fun hv => HU.out.none (no_frames_long (by rw [hdl.out]; omega) hv)
    have hd8 : ((raw.drop A).drop 8).length = n - A - 8 := by rw [List.length_drop, hdl.out]
    rw [hd8] at HST HNO
    obtain ⟨N, HN⟩ : ∃ x, Hid (valL ((raw.drop A).take 8) = x) := ⟨_, rfl⟩
    have HKL : Hid (¬ N <= n - A - 8 -> cutF raw raw.length 0 [] = ([], A, false)) := hid fun q => by
     obtain ⟨K, hK, q1⟩ := HK.out
     rw [<- q1, cutF_long _ _ _ (by rw [Hn.out]; exact h8) (by rw [HN.out, Hn.out]; exact q) hK]
    have HKS : Hid (N <= n - A - 8 -> ∃ K, raw.length - (A + 8 + N) <= K /\ cutF raw K (A + 8 + N) (ls ++ [(raw.drop (A + 8)).take N]) = cutF raw raw.length 0 []) := hid fun q => by
     obtain ⟨K, hK, q1⟩ := HK.out
     obtain ⟨K', hK', q2⟩ := cutF_step K A ls (by rw [Hn.out]; exact h8) (by rw [HN.out, Hn.out]; exact q) hK
     rw [HN.out] at hK' q2
     exact ⟨K', hK', q2.symm.trans q1⟩
    rw [HN.out] at C HST HNO hNb
    have C := hid C
    clear hs8 hl8 hby hd8 HN
    go_wp2_with fail
    refine C.out.mono ?_
    rintro e w2 ⟨rfl, hw2⟩
    have hw2' := hw2.symm
    subst hw2'
    clear C r1 hw2
    have hwr : IntKind.u64.wrap ((n : Int) - ((A : Int) + 8)) = (n : Int) - ((A : Int) + 8) := by rw [IntKind.wrap_u64]; omega
    by_cases hle : N <= n - A - 8
    case neg =>
     have HA : Hid (CutC w wr raw (.slice none 0 0) [] A false) := hid ⟨HKL.out hle, fun e => by cases e⟩
     have hd2 : decide ((n : Int) - ((A : Int) + 8) < (N : Int)) = true := decide_eq_true (by omega)
     go_wp2
     go_ret3
     exact ⟨_, _, _, _, rfl, HA.out, HBw.out⟩
    case pos =>
     have hd2 : decide ((n : Int) - ((A : Int) + 8) < (N : Int)) = false := decide_eq_false (by omega)
     have hwi : IntKind.i64.wrap (N : Int) = (N : Int) := by rw [IntKind.wrap_i64]; omega
     have HU2 := hid (HST.out hle)
     have HK2 := hid (HKS.out hle)
     rw [List.drop_drop, List.drop_drop] at HU2
     have hsN := H.out.sliced (A + 8) (A + 8 + N) c (by omega) (by rw [Hn.out]; omega) (by omega) (Nat.le_refl _)
     rw [Nat.add_sub_cancel_left, List.drop_take, Nat.add_sub_cancel_left] at hsN
     have r2 := fun W => RUN.out W (A + 8) (A + 8 + N) (by omega) (by omega)
     rw [Nat.add_sub_cancel_left, show ((A + 8 + N : Nat) : Int) = (A : Int) + 8 + (N : Int) by omega, show ((A + 8 : Nat) : Int) = (A : Int) + 8 by omega] at r2
     obtain ⟨pn, Hpn⟩ : ∃ x, Hid ((if c = A + 8 then p else p.map (·.add (A + 8))) = x) := ⟨_, rfl⟩
     rw [Hpn.out] at hsN r2
     obtain ⟨l3, HL3⟩ : ∃ x, Hid ((raw.drop (A + 8)).take N = x) := ⟨_, rfl⟩
     rw [HL3.out] at hsN HU2 HK2
     have HSN := hid hsN
     have hal : Below wr.heap.size wr (wr.alloc (.cells #[.slice pn N (c - (A + 8))] 30)) := (Below.refl _ _).alloc (Nat.le_refl _) _
     have HO4 := hid (HO.out.below hal)
     have HB4 := hid (HBw.out.trans (hal.mono HBw.out.size))
     have hll : 8 * ls.length <= n + 8 := by rw [<- Hn.out]; exact HU.out.1
     clear hsN hal HST HNO Hpn HL3 HKL HKS HK
     go_wp2_with (at_builtin; refine wpList_append_OWL (w0 := w) rfl _ _ rfl _ ls rfl HO4.out ⟨wr.heap.size, 0, none⟩ 1 1 [_] [l3] rfl rfl rfl (cell_one_new _ _ _) ?q1 ?q2 ?q3 ?q4 ?_)
     case q1 => intro j hj; obtain rfl : j = 0 := (by omega); exact .inr HSN.out
     case q2 => intro u hu; simp only [List.mem_singleton] at hu; subst hu; rfl
     case q3 => omega
     case q4 => exact HB4.out.size
     intro v5 w5 hO5 hg5 hbk
     have HO5 := hid hO5
     have HB5 := hid (HB4.out.grown hg5 HB4.out.size (fun k e => (hbk k e).1))
     clear hO5 hg5 hbk
     go_wp2
     exact ⟨⟨_, A + 8 + N, by omega, by go_num, HO5, HU2, HK2, HB5⟩, by simp [intOf]; omega⟩
end Go.Proofs.YtcpchhigiohlnaaDoor
namespace Go.Proofs.YtcpchhigiohlnaaDoor
open Go Go.RowKit
inductive Bd where
 | just (n : Nat)
 | most (n : Nat)
 | any
def Bd.ok : Bd -> Nat -> Bool
 | .just n, x => decide (x = n)
 | .most n, x => decide (x <= n)
 | .any, _ => true
def bdsOf (t : Nat) : List Bd :=
 match t with
 | 1 => [.most 64, .just 6, .most 16777216]
 | 2 => [.just 16]
 | 3 => [.any]
 | 4 => [.any]
 | 5 => [.just 32]
 | 6 => [.just 32, .just 32]
 | 7 => [.just 4]
 | 8 => [.any]
 | 9 => [.just 16, .just 4]
 | _ => []
def wS (t : Nat) : ByteArray :=
 match t with
 | 1 => ⟨#[115, 116, 114, 111, 110, 103, 114, 111, 111, 109, 32, 107, 101, 121]⟩
 | 2 => ⟨#[115, 116, 114, 111, 110, 103, 114, 111, 111, 109, 32, 105, 110, 100, 101, 120]⟩
 | 3 => ⟨#[115, 116, 114, 111, 110, 103, 114, 111, 111, 109, 32, 98, 108, 111, 99, 107]⟩
 | 4 => ⟨#[115, 116, 114, 111, 110, 103, 114, 111, 111, 109, 32, 115, 101, 103, 109, 101, 110, 116]⟩
 | 5 => ⟨#[115, 116, 114, 111, 110, 103, 114, 111, 111, 109, 32, 114, 111, 111, 116]⟩
 | 6 => ⟨#[115, 116, 114, 111, 110, 103, 114, 111, 111, 109, 32, 110, 111, 100, 101]⟩
 | 7 => ⟨#[115, 116, 114, 111, 110, 103, 114, 111, 111, 109, 32, 112, 97, 100]⟩
 | 8 => ⟨#[115, 116, 114, 111, 110, 103, 114, 111, 111, 109, 32, 117, 101, 98]⟩
 | 9 => ⟨#[115, 116, 114, 111, 110, 103, 114, 111, 111, 109, 32, 114, 105, 110, 103]⟩
 | _ => ⟨#[]⟩
def cJ (x : Nat) : Value := .func (.func 81) #[] #[.pointer (some ⟨x, 0, none⟩)]
def cM (x : Nat) : Value := .func (.func 80) #[] #[.pointer (some ⟨x, 0, none⟩)]
def cA : Value := .func (.func 82) #[] #[]
def HBd (w : World) (v : Value) : Bd -> Prop
 | .just n => ∃ x, v = cJ x /\ w.cell? ⟨x, 0, none⟩ = some (.int .i64 (n : Int))
 | .most n => ∃ x, v = cM x /\ w.cell? ⟨x, 0, none⟩ = some (.int .i64 (n : Int))
 | .any => v = cA
theorem HBd.below {w w' : World} {v : Value} : ∀ {b : Bd}, HBd w v b -> Below w.heap.size w w' -> HBd w' v b
 | .just _, ⟨x, e, h⟩, hb => ⟨x, e, (hb.cell (World.block_lt_of_cell? w _ h)).trans h⟩
 | .most _, ⟨x, e, h⟩, hb => ⟨x, e, (hb.cell (World.block_lt_of_cell? w _ h)).trans h⟩
 | .any, h, _ => h
def HBs (w : World) (v : Value) (bs : List Bd) : Prop :=
 (bs = [] /\ v = .slice none 0 0) \/ (bs ≠ [] /\ ∃ (g : Nat) (vs : List Value), v = .slice (some ⟨g, 0, none⟩) bs.length bs.length /\ vs.length = bs.length /\ w.heap[g]? = some (.cells vs.toArray 92 (0, 0)) /\ ∀ j, j < bs.length -> HBd w (vs.getD j undef) (bs.getD j .any))
theorem just_mk (w : World) (n : Int) : Calls Tryd.prog 73 #[.int .i64 n] w fun e w' => e = .returned (cJ w.heap.size) /\ w' = w.alloc (.cells #[.int .i64 n] 3) := by
 go_enter Tryd.func73, Tryd.ntmps73
 go_wp2
 go_ret
 exact ⟨rfl, rfl⟩
theorem just_cl (w : World) (x : Nat) (n m : Nat) (h : w.cell? ⟨x, 0, none⟩ = some (.int .i64 (n : Int))) : Calls Tryd.prog 81 #[.int .i64 (m : Int), .pointer (some ⟨x, 0, none⟩)] w fun e w' => e = .returned (.bool ((Bd.just n).ok m)) /\ w' = w := by
 go_enter Tryd.func81, Tryd.ntmps81
 go_wp2
 go_ret
 refine ⟨?_, rfl⟩
 simp only [Bd.ok]
 by_cases e : m = n
 ·subst e; simp
 ·first | (simp [e]; done) | (simp [e]; omega) | simp
theorem most_mk (w : World) (n : Int) : Calls Tryd.prog 72 #[.int .i64 n] w fun e w' => e = .returned (cM w.heap.size) /\ w' = w.alloc (.cells #[.int .i64 n] 3) := by
 go_enter Tryd.func72, Tryd.ntmps72
 go_wp2
 go_ret
 exact ⟨rfl, rfl⟩
theorem most_cl (w : World) (x : Nat) (n m : Nat) (h : w.cell? ⟨x, 0, none⟩ = some (.int .i64 (n : Int))) : Calls Tryd.prog 80 #[.int .i64 (m : Int), .pointer (some ⟨x, 0, none⟩)] w fun e w' => e = .returned (.bool ((Bd.most n).ok m)) /\ w' = w := by
 go_enter Tryd.func80, Tryd.ntmps80
 go_wp2
 go_ret
 refine ⟨?_, rfl⟩
 simp only [Bd.ok]
 by_cases e : m = n
 ·subst e; simp
 ·first | (simp [e]; done) | (simp [e]; omega) | simp
theorem what_mk (w : World) : Calls Tryd.prog 74 #[] w fun e w' => e = .returned cA /\ w' = w := by
 go_enter Tryd.func74, Tryd.ntmps74
 go_wp2
 go_ret
 exact ⟨rfl, rfl⟩
theorem what_cl (w : World) (m : Nat) : Calls Tryd.prog 82 #[.int .i64 (m : Int)] w fun e w' => e = .returned (.bool true) /\ w' = w := by
 go_enter Tryd.func82, Tryd.ntmps82
 go_wp2
 go_ret
 exact ⟨rfl, rfl⟩
theorem word_t1 (w : World) : Calls Tryd.prog 12 #[.int .u8 1] w fun e w' => e = .returned (.string (wS 1)) /\ w' = w := by
 go_enter Tryd.func12, Tryd.ntmps12
 go_wp2
 go_ret
 exact ⟨rfl, rfl⟩
theorem word_t2 (w : World) : Calls Tryd.prog 12 #[.int .u8 2] w fun e w' => e = .returned (.string (wS 2)) /\ w' = w := by
 go_enter Tryd.func12, Tryd.ntmps12
 go_wp2
 go_ret
 exact ⟨rfl, rfl⟩
theorem word_t3 (w : World) : Calls Tryd.prog 12 #[.int .u8 3] w fun e w' => e = .returned (.string (wS 3)) /\ w' = w := by
 go_enter Tryd.func12, Tryd.ntmps12
 go_wp2
 go_ret
 exact ⟨rfl, rfl⟩
theorem word_t4 (w : World) : Calls Tryd.prog 12 #[.int .u8 4] w fun e w' => e = .returned (.string (wS 4)) /\ w' = w := by
 go_enter Tryd.func12, Tryd.ntmps12
 go_wp2
 go_ret
 exact ⟨rfl, rfl⟩
theorem word_t5 (w : World) : Calls Tryd.prog 12 #[.int .u8 5] w fun e w' => e = .returned (.string (wS 5)) /\ w' = w := by
 go_enter Tryd.func12, Tryd.ntmps12
 go_wp2
 go_ret
 exact ⟨rfl, rfl⟩
theorem word_t6 (w : World) : Calls Tryd.prog 12 #[.int .u8 6] w fun e w' => e = .returned (.string (wS 6)) /\ w' = w := by
 go_enter Tryd.func12, Tryd.ntmps12
 go_wp2
 go_ret
 exact ⟨rfl, rfl⟩
theorem word_t7 (w : World) : Calls Tryd.prog 12 #[.int .u8 7] w fun e w' => e = .returned (.string (wS 7)) /\ w' = w := by
 go_enter Tryd.func12, Tryd.ntmps12
 go_wp2
 go_ret
 exact ⟨rfl, rfl⟩
theorem word_t8 (w : World) : Calls Tryd.prog 12 #[.int .u8 8] w fun e w' => e = .returned (.string (wS 8)) /\ w' = w := by
 go_enter Tryd.func12, Tryd.ntmps12
 go_wp2
 go_ret
 exact ⟨rfl, rfl⟩
theorem word_t9 (w : World) : Calls Tryd.prog 12 #[.int .u8 9] w fun e w' => e = .returned (.string (wS 9)) /\ w' = w := by
 go_enter Tryd.func12, Tryd.ntmps12
 go_wp2
 go_ret
 exact ⟨rfl, rfl⟩
theorem tag_cases (t : Nat) : t = 1 \/ t = 2 \/ t = 3 \/ t = 4 \/ t = 5 \/ t = 6 \/ t = 7 \/ t = 8 \/ t = 9 \/ (t = 0 \/ 10 <= t) := by omega
theorem none_of {t : Nat} (h : t = 0 \/ 10 <= t) : bdsOf t = [] /\ wS t = ⟨#[]⟩ := by
 rcases h with rfl | h
 ·exact ⟨rfl, rfl⟩
 ·obtain ⟨k, rfl⟩ := Nat.exists_eq_add_of_le h
  rw [Nat.add_comm]
  exact ⟨rfl, rfl⟩
theorem word_none (w : World) (t : Nat) (ht : t = 0 \/ 10 <= t) : Calls Tryd.prog 12 #[.int .u8 (t : Int)] w fun e w' => e = .returned (.string (wS t)) /\ w' = w := by
 rw [(none_of ht).2]
 have h1 : ((t : Int) == 1) = false := by simp; omega
 have h2 : ((t : Int) == 2) = false := by simp; omega
 have h3 : ((t : Int) == 3) = false := by simp; omega
 have h4 : ((t : Int) == 4) = false := by simp; omega
 have h5 : ((t : Int) == 5) = false := by simp; omega
 have h6 : ((t : Int) == 6) = false := by simp; omega
 have h7 : ((t : Int) == 7) = false := by simp; omega
 have h8 : ((t : Int) == 8) = false := by simp; omega
 have h9 : ((t : Int) == 9) = false := by simp; omega
 go_enter Tryd.func12, Tryd.ntmps12
 go_wp2
 go_ret
 exact ⟨rfl, rfl⟩
theorem word_tag (w : World) (t : Nat) : Calls Tryd.prog 12 #[.int .u8 (t : Int)] w fun e w' => e = .returned (.string (wS t)) /\ w' = w := by
 rcases tag_cases t with rfl | rfl | rfl | rfl | rfl | rfl | rfl | rfl | rfl | h
 ·exact word_t1 w
 ·exact word_t2 w
 ·exact word_t3 w
 ·exact word_t4 w
 ·exact word_t5 w
 ·exact word_t6 w
 ·exact word_t7 w
 ·exact word_t8 w
 ·exact word_t9 w
 ·exact word_none w t h
theorem bounds_t1 (w : World) : Calls Tryd.prog 59 #[.int .u8 1] w fun e w' => ∃ v, e = .returned v /\ HBs w' v (bdsOf 1) /\ Below w.heap.size w w' := by
 have CJ := hid just_mk
 have CM := hid most_mk
 have CA := hid what_mk
 go_enter Tryd.func59, Tryd.ntmps59
 go_wp2_with fail
 refine (CM.out w 64).mono ?_
 rintro e w1 ⟨rfl, e1⟩
 have E1 := hid e1
 clear e1
 try simp only [cJ, cM, cA]
 go_wp2_with fail
 refine (CJ.out w1 6).mono ?_
 rintro e w2 ⟨rfl, e2⟩
 have E2 := hid e2
 clear e2
 try simp only [cJ, cM, cA]
 go_wp2_with fail
 refine (CM.out w2 16777216).mono ?_
 rintro e w3 ⟨rfl, e3⟩
 have E3 := hid e3
 clear e3
 try simp only [cJ, cM, cA]
 go_wp2
 go_ret
 have b1 : Below w.heap.size w w1 := by rw [E1.out]; exact bel_al5 _ _
 have b2 : Below w1.heap.size w1 w2 := by rw [E2.out]; exact bel_al5 _ _
 have b3 : Below w2.heap.size w2 w3 := by rw [E3.out]; exact bel_al5 _ _
 refine ⟨_, rfl, .inr ⟨by simp [bdsOf], w3.heap.size, [cM w.heap.size, cJ w1.heap.size, cM w2.heap.size], rfl, rfl, heap_alloc_new _ _, fun j hj => ?_⟩, ?_⟩
 ·match j, hj with
  | 0, _ => exact HBd.below (b := .most 64) (w := w1) ⟨w.heap.size, rfl, by rw [E1.out]; exact (cell_of_row _ _ 0 _ _ _ (heap_alloc_new _ _)).trans rfl⟩ ((b2.trans (b3.mono b2.size)).trans ((bel_al5 w3 _).mono (b2.trans (b3.mono b2.size)).size))
  | 1, _ => exact HBd.below (b := .just 6) (w := w2) ⟨w1.heap.size, rfl, by rw [E2.out]; exact (cell_of_row _ _ 0 _ _ _ (heap_alloc_new _ _)).trans rfl⟩ (b3.trans ((bel_al5 w3 _).mono b3.size))
  | 2, _ => exact HBd.below (b := .most 16777216) (w := w3) ⟨w2.heap.size, rfl, by rw [E3.out]; exact (cell_of_row _ _ 0 _ _ _ (heap_alloc_new _ _)).trans rfl⟩ (bel_al5 w3 _)
  | j + 3, h => exfalso; simp [bdsOf] at h; try omega
 ·exact (((b1.trans (b2.mono b1.size)).trans (b3.mono (b1.trans (b2.mono b1.size)).size)).trans ((bel_al5 w3 _).mono ((b1.trans (b2.mono b1.size)).trans (b3.mono (b1.trans (b2.mono b1.size)).size)).size))
theorem bounds_t2 (w : World) : Calls Tryd.prog 59 #[.int .u8 2] w fun e w' => ∃ v, e = .returned v /\ HBs w' v (bdsOf 2) /\ Below w.heap.size w w' := by
 have CJ := hid just_mk
 have CM := hid most_mk
 have CA := hid what_mk
 go_enter Tryd.func59, Tryd.ntmps59
 go_wp2_with fail
 refine (CJ.out w 16).mono ?_
 rintro e w1 ⟨rfl, e1⟩
 have E1 := hid e1
 clear e1
 try simp only [cJ, cM, cA]
 go_wp2
 go_ret
 have b1 : Below w.heap.size w w1 := by rw [E1.out]; exact bel_al5 _ _
 refine ⟨_, rfl, .inr ⟨by simp [bdsOf], w1.heap.size, [cJ w.heap.size], rfl, rfl, heap_alloc_new _ _, fun j hj => ?_⟩, ?_⟩
 ·match j, hj with
  | 0, _ => exact HBd.below (b := .just 16) (w := w1) ⟨w.heap.size, rfl, by rw [E1.out]; exact (cell_of_row _ _ 0 _ _ _ (heap_alloc_new _ _)).trans rfl⟩ (bel_al5 w1 _)
  | j + 1, h => exfalso; simp [bdsOf] at h; try omega
 ·exact (b1.trans ((bel_al5 w1 _).mono b1.size))
theorem bounds_t3 (w : World) : Calls Tryd.prog 59 #[.int .u8 3] w fun e w' => ∃ v, e = .returned v /\ HBs w' v (bdsOf 3) /\ Below w.heap.size w w' := by
 have CJ := hid just_mk
 have CM := hid most_mk
 have CA := hid what_mk
 go_enter Tryd.func59, Tryd.ntmps59
 go_wp2_with fail
 refine (CA.out w).mono ?_
 rintro e w1 ⟨rfl, e1⟩
 have E1 := hid e1
 clear e1
 try simp only [cJ, cM, cA]
 go_wp2
 go_ret
 have b1 : Below w.heap.size w w1 := by rw [E1.out]; exact Below.refl _ _
 refine ⟨_, rfl, .inr ⟨by simp [bdsOf], w1.heap.size, [cA], rfl, rfl, heap_alloc_new _ _, fun j hj => ?_⟩, ?_⟩
 ·match j, hj with
  | 0, _ => exact rfl
  | j + 1, h => exfalso; simp [bdsOf] at h; try omega
 ·exact (b1.trans ((bel_al5 w1 _).mono b1.size))
theorem bounds_t4 (w : World) : Calls Tryd.prog 59 #[.int .u8 4] w fun e w' => ∃ v, e = .returned v /\ HBs w' v (bdsOf 4) /\ Below w.heap.size w w' := by
 have CJ := hid just_mk
 have CM := hid most_mk
 have CA := hid what_mk
 go_enter Tryd.func59, Tryd.ntmps59
 go_wp2_with fail
 refine (CA.out w).mono ?_
 rintro e w1 ⟨rfl, e1⟩
 have E1 := hid e1
 clear e1
 try simp only [cJ, cM, cA]
 go_wp2
 go_ret
 have b1 : Below w.heap.size w w1 := by rw [E1.out]; exact Below.refl _ _
 refine ⟨_, rfl, .inr ⟨by simp [bdsOf], w1.heap.size, [cA], rfl, rfl, heap_alloc_new _ _, fun j hj => ?_⟩, ?_⟩
 ·match j, hj with
  | 0, _ => exact rfl
  | j + 1, h => exfalso; simp [bdsOf] at h; try omega
 ·exact (b1.trans ((bel_al5 w1 _).mono b1.size))
theorem bounds_t5 (w : World) : Calls Tryd.prog 59 #[.int .u8 5] w fun e w' => ∃ v, e = .returned v /\ HBs w' v (bdsOf 5) /\ Below w.heap.size w w' := by
 have CJ := hid just_mk
 have CM := hid most_mk
 have CA := hid what_mk
 go_enter Tryd.func59, Tryd.ntmps59
 go_wp2_with fail
 refine (CJ.out w 32).mono ?_
 rintro e w1 ⟨rfl, e1⟩
 have E1 := hid e1
 clear e1
 try simp only [cJ, cM, cA]
 go_wp2
 go_ret
 have b1 : Below w.heap.size w w1 := by rw [E1.out]; exact bel_al5 _ _
 refine ⟨_, rfl, .inr ⟨by simp [bdsOf], w1.heap.size, [cJ w.heap.size], rfl, rfl, heap_alloc_new _ _, fun j hj => ?_⟩, ?_⟩
 ·match j, hj with
  | 0, _ => exact HBd.below (b := .just 32) (w := w1) ⟨w.heap.size, rfl, by rw [E1.out]; exact (cell_of_row _ _ 0 _ _ _ (heap_alloc_new _ _)).trans rfl⟩ (bel_al5 w1 _)
  | j + 1, h => exfalso; simp [bdsOf] at h; try omega
 ·exact (b1.trans ((bel_al5 w1 _).mono b1.size))
theorem bounds_t6 (w : World) : Calls Tryd.prog 59 #[.int .u8 6] w fun e w' => ∃ v, e = .returned v /\ HBs w' v (bdsOf 6) /\ Below w.heap.size w w' := by
 have CJ := hid just_mk
 have CM := hid most_mk
 have CA := hid what_mk
 go_enter Tryd.func59, Tryd.ntmps59
 go_wp2_with fail
 refine (CJ.out w 32).mono ?_
 rintro e w1 ⟨rfl, e1⟩
 have E1 := hid e1
 clear e1
 try simp only [cJ, cM, cA]
 go_wp2_with fail
 refine (CJ.out w1 32).mono ?_
 rintro e w2 ⟨rfl, e2⟩
 have E2 := hid e2
 clear e2
 try simp only [cJ, cM, cA]
 go_wp2
 go_ret
 have b1 : Below w.heap.size w w1 := by rw [E1.out]; exact bel_al5 _ _
 have b2 : Below w1.heap.size w1 w2 := by rw [E2.out]; exact bel_al5 _ _
 refine ⟨_, rfl, .inr ⟨by simp [bdsOf], w2.heap.size, [cJ w.heap.size, cJ w1.heap.size], rfl, rfl, heap_alloc_new _ _, fun j hj => ?_⟩, ?_⟩
 ·match j, hj with
  | 0, _ => exact HBd.below (b := .just 32) (w := w1) ⟨w.heap.size, rfl, by rw [E1.out]; exact (cell_of_row _ _ 0 _ _ _ (heap_alloc_new _ _)).trans rfl⟩ (b2.trans ((bel_al5 w2 _).mono b2.size))
  | 1, _ => exact HBd.below (b := .just 32) (w := w2) ⟨w1.heap.size, rfl, by rw [E2.out]; exact (cell_of_row _ _ 0 _ _ _ (heap_alloc_new _ _)).trans rfl⟩ (bel_al5 w2 _)
  | j + 2, h => exfalso; simp [bdsOf] at h; try omega
 ·exact ((b1.trans (b2.mono b1.size)).trans ((bel_al5 w2 _).mono (b1.trans (b2.mono b1.size)).size))
theorem bounds_t7 (w : World) : Calls Tryd.prog 59 #[.int .u8 7] w fun e w' => ∃ v, e = .returned v /\ HBs w' v (bdsOf 7) /\ Below w.heap.size w w' := by
 have CJ := hid just_mk
 have CM := hid most_mk
 have CA := hid what_mk
 go_enter Tryd.func59, Tryd.ntmps59
 go_wp2_with fail
 refine (CJ.out w 4).mono ?_
 rintro e w1 ⟨rfl, e1⟩
 have E1 := hid e1
 clear e1
 try simp only [cJ, cM, cA]
 go_wp2
 go_ret
 have b1 : Below w.heap.size w w1 := by rw [E1.out]; exact bel_al5 _ _
 refine ⟨_, rfl, .inr ⟨by simp [bdsOf], w1.heap.size, [cJ w.heap.size], rfl, rfl, heap_alloc_new _ _, fun j hj => ?_⟩, ?_⟩
 ·match j, hj with
  | 0, _ => exact HBd.below (b := .just 4) (w := w1) ⟨w.heap.size, rfl, by rw [E1.out]; exact (cell_of_row _ _ 0 _ _ _ (heap_alloc_new _ _)).trans rfl⟩ (bel_al5 w1 _)
  | j + 1, h => exfalso; simp [bdsOf] at h; try omega
 ·exact (b1.trans ((bel_al5 w1 _).mono b1.size))
theorem bounds_t8 (w : World) : Calls Tryd.prog 59 #[.int .u8 8] w fun e w' => ∃ v, e = .returned v /\ HBs w' v (bdsOf 8) /\ Below w.heap.size w w' := by
 have CJ := hid just_mk
 have CM := hid most_mk
 have CA := hid what_mk
 go_enter Tryd.func59, Tryd.ntmps59
 go_wp2_with fail
 refine (CA.out w).mono ?_
 rintro e w1 ⟨rfl, e1⟩
 have E1 := hid e1
 clear e1
 try simp only [cJ, cM, cA]
 go_wp2
 go_ret
 have b1 : Below w.heap.size w w1 := by rw [E1.out]; exact Below.refl _ _
 refine ⟨_, rfl, .inr ⟨by simp [bdsOf], w1.heap.size, [cA], rfl, rfl, heap_alloc_new _ _, fun j hj => ?_⟩, ?_⟩
 ·match j, hj with
  | 0, _ => exact rfl
  | j + 1, h => exfalso; simp [bdsOf] at h; try omega
 ·exact (b1.trans ((bel_al5 w1 _).mono b1.size))
theorem bounds_t9 (w : World) : Calls Tryd.prog 59 #[.int .u8 9] w fun e w' => ∃ v, e = .returned v /\ HBs w' v (bdsOf 9) /\ Below w.heap.size w w' := by
 have CJ := hid just_mk
 have CM := hid most_mk
 have CA := hid what_mk
 go_enter Tryd.func59, Tryd.ntmps59
 go_wp2_with fail
 refine (CJ.out w 16).mono ?_
 rintro e w1 ⟨rfl, e1⟩
 have E1 := hid e1
 clear e1
 try simp only [cJ, cM, cA]
 go_wp2_with fail
 refine (CJ.out w1 4).mono ?_
 rintro e w2 ⟨rfl, e2⟩
 have E2 := hid e2
 clear e2
 try simp only [cJ, cM, cA]
 go_wp2
 go_ret
 have b1 : Below w.heap.size w w1 := by rw [E1.out]; exact bel_al5 _ _
 have b2 : Below w1.heap.size w1 w2 := by rw [E2.out]; exact bel_al5 _ _
 refine ⟨_, rfl, .inr ⟨by simp [bdsOf], w2.heap.size, [cJ w.heap.size, cJ w1.heap.size], rfl, rfl, heap_alloc_new _ _, fun j hj => ?_⟩, ?_⟩
 ·match j, hj with
  | 0, _ => exact HBd.below (b := .just 16) (w := w1) ⟨w.heap.size, rfl, by rw [E1.out]; exact (cell_of_row _ _ 0 _ _ _ (heap_alloc_new _ _)).trans rfl⟩ (b2.trans ((bel_al5 w2 _).mono b2.size))
  | 1, _ => exact HBd.below (b := .just 4) (w := w2) ⟨w1.heap.size, rfl, by rw [E2.out]; exact (cell_of_row _ _ 0 _ _ _ (heap_alloc_new _ _)).trans rfl⟩ (bel_al5 w2 _)
  | j + 2, h => exfalso; simp [bdsOf] at h; try omega
 ·exact ((b1.trans (b2.mono b1.size)).trans ((bel_al5 w2 _).mono (b1.trans (b2.mono b1.size)).size))
theorem bounds_none (w : World) (t : Nat) (ht : t = 0 \/ 10 <= t) : Calls Tryd.prog 59 #[.int .u8 (t : Int)] w fun e w' => ∃ v, e = .returned v /\ HBs w' v (bdsOf t) /\ Below w.heap.size w w' := by
 rw [(none_of ht).1]
 have h1 : ((t : Int) == 1) = false := by simp; omega
 have h2 : ((t : Int) == 2) = false := by simp; omega
 have h3 : ((t : Int) == 3) = false := by simp; omega
 have h4 : ((t : Int) == 4) = false := by simp; omega
 have h5 : ((t : Int) == 5) = false := by simp; omega
 have h6 : ((t : Int) == 6) = false := by simp; omega
 have h7 : ((t : Int) == 7) = false := by simp; omega
 have h8 : ((t : Int) == 8) = false := by simp; omega
 have h9 : ((t : Int) == 9) = false := by simp; omega
 go_enter Tryd.func59, Tryd.ntmps59
 go_wp2
 go_ret
 exact ⟨_, rfl, .inl ⟨rfl, rfl⟩, Below.refl _ _⟩
theorem bounds_any (w : World) (t : Nat) : Calls Tryd.prog 59 #[.int .u8 (t : Int)] w fun e w' => ∃ v, e = .returned v /\ HBs w' v (bdsOf t) /\ Below w.heap.size w w' := by
 rcases tag_cases t with rfl | rfl | rfl | rfl | rfl | rfl | rfl | rfl | rfl | h
 ·exact bounds_t1 w
 ·exact bounds_t2 w
 ·exact bounds_t3 w
 ·exact bounds_t4 w
 ·exact bounds_t5 w
 ·exact bounds_t6 w
 ·exact bounds_t7 w
 ·exact bounds_t8 w
 ·exact bounds_t9 w
 ·exact bounds_none w t h
def FitQ (t : Nat) (ls : List (List Int)) : Prop := ls.length = (bdsOf t).length /\ ∀ j, j < ls.length -> ((bdsOf t).getD j .any).ok (ls.getD j []).length = true
instance (t : Nat) (ls : List (List Int)) : Decidable (FitQ t ls) := by unfold FitQ; infer_instance
theorem bds_len (t : Nat) : (bdsOf t).length <= 3 := by
 rcases tag_cases t with rfl | rfl | rfl | rfl | rfl | rfl | rfl | rfl | rfl | h
 all_goals first | (rw [(none_of h).1]; simp) | simp [bdsOf]
theorem fit_any (w : World) (t : Nat) (v : Value) (ls : List (List Int)) (h : HL w v ls) : Calls Tryd.prog 28 #[.int .u8 (t : Int), v] w fun e w' => e = .returned (.bool (decide (FitQ t ls))) /\ Below w.heap.size w w' := by
 have CB := hid (bounds_any w t)
 have CJ := hid just_cl
 have CM := hid most_cl
 have CA := hid what_cl
 have HH := hid h
 have BL := hid (bds_len t)
 have FQ : Hid (FitQ t ls ↔ (ls.length = (bdsOf t).length /\ ∀ j, j < ls.length -> ((bdsOf t).getD j .any).ok (ls.getD j []).length = true)) := hid Iff.rfl
 obtain ⟨d, HD⟩ : ∃ d, Hid (decide (FitQ t ls) = d) := ⟨_, rfl⟩
 rw [HD.out]
 obtain ⟨bs, HBS⟩ : ∃ bs, Hid (bdsOf t = bs) := ⟨_, rfl⟩
 rw [HBS.out] at CB FQ BL
 obtain ⟨p, c, rfl, hlc, hcm⟩ := h.open
 clear h hlc hcm
 have hbl := BL.out
 go_enter Tryd.func28, Tryd.ntmps28
 go_wp2_with fail
 refine CB.out.mono ?_
 rintro e w1 ⟨vb, rfl, hvb, hb1⟩
 have B1 := hid hb1
 have VB := hid hvb
 clear hvb hb1 CB
 have hvl : ∃ q, vb = .slice q bs.length bs.length := by
  rcases VB.out with ⟨rfl, rfl⟩ | ⟨_, g, vs, rfl, _⟩
  ·exact ⟨none, rfl⟩
  ·exact ⟨_, rfl⟩
 obtain ⟨q, rfl⟩ := hvl
 by_cases hlen : ls.length = bs.length
 case neg =>
  have hd : d = false := by rw [<- HD.out]; exact decide_eq_false fun hf => hlen (FQ.out.1 hf).1
  subst hd
  have hl1 : ((ls.length : Int) == (bs.length : Int)) = false := by simp; omega
  go_wp2
  go_ret
  exact ⟨rfl, B1.out⟩
 case pos =>
  go_wp2
  go_loopw [17] (fun ii wr => ∃ I : Nat, I <= ls.length /\ ii = .int .i64 (I : Int) /\ Hid (∀ j, j < I -> (bs.getD j .any).ok (ls.getD j []).length = true) /\ wr = w1) (fun ii _ => ls.length - (intOf ii).toNat)
  case atStart => exact ⟨0, by omega, rfl, hid (fun j hj => by omega), rfl⟩
  case round =>
   obtain ⟨I, hI, rfl, HN, rfl⟩ := hrel
   by_cases hlt : I < ls.length
   case neg =>
    have hd : d = true := by rw [<- HD.out]; exact decide_eq_true (FQ.out.2 ⟨hlen, fun j hj => HN.out j (by omega)⟩)
    subst hd
    go_wp2
    go_ret
    exact ⟨rfl, B1.out⟩
   case pos =>
    obtain ⟨b, off, ep, hp⟩ := HH.out.at5 (by omega)
    subst ep
    obtain ⟨u, hu, hbu⟩ := hp I hlt
    obtain ⟨p2, c2, eu, _, _⟩ := hbu.open
    subst eu
    have hc := ((B1.out.cell (World.block_lt_of_cell? w _ hu)).trans hu)
    obtain ⟨hne, g, vs, eg, hvl, hg, hj⟩ : bs ≠ [] /\ ∃ (g : Nat) (vs : List Value), (Value.slice q bs.length bs.length) = .slice (some ⟨g, 0, none⟩) bs.length bs.length /\ vs.length = bs.length /\ wr.heap[g]? = some (.cells vs.toArray 92 (0, 0)) /\ ∀ j, j < bs.length -> HBd wr (vs.getD j undef) (bs.getD j .any) := by
     rcases VB.out with ⟨e, _⟩ | h
     ·rw [e, List.length_nil] at hlen; omega
     ·exact h
    simp only [Value.slice.injEq, and_true] at eg
    subst eg
    have hq := hj I (by omega)
    have hcv : wr.cell? ⟨g, 0 + I, none⟩ = some (vs.getD I undef) := by
     rw [cell_of_row _ g (0 + I) _ _ _ hg]
     simp [List.getD, show I < vs.length by omega]
    rw [Nat.zero_add] at hcv
    obtain ⟨m, Hm⟩ : ∃ x, Hid ((ls.getD I []).length = x) := ⟨_, rfl⟩
    rw [Hm.out] at hc
    have HNX : Hid ((bs.getD I .any).ok m = true -> ∀ j, j < I + 1 -> (bs.getD j .any).ok (ls.getD j []).length = true) := hid fun h j hj => by
     by_cases e : j = I
     ·rw [e, Hm.out]; exact h
     ·exact HN.out j (by omega)
    have HNO : Hid ((bs.getD I .any).ok m = false -> d = false) := hid fun h => by
     rw [<- HD.out]
     refine decide_eq_false fun hf => ?_
     have := (FQ.out.1 hf).2 I hlt
     rw [Hm.out, h] at this
     cases this
    obtain ⟨bd, Hbd⟩ : ∃ x, Hid (bs.getD I .any = x) := ⟨_, rfl⟩
    rw [Hbd.out] at hq HNX HNO
    obtain ⟨vv, Hvv⟩ : ∃ x, Hid (vs.getD I undef = x) := ⟨_, rfl⟩
    rw [Hvv.out] at hq hcv
    have hib : (I : Int) < (bs.length : Int) := by omega
    have hI9 : I < 4 := by omega
    clear hu hbu hp hj hg hvl hne Hvv Hbd Hm
    cases bd with
    | just n =>
     obtain ⟨x, ev, hx⟩ := hq
     subst ev
     simp only [cJ, cM] at hcv
     have C := hid (CJ.out wr x n m hx)
     go_wp2_with fail
     refine C.out.mono ?_
     rintro e w2 ⟨rfl, rfl⟩
     clear C
     cases hok : (Bd.just n).ok m with
     | true =>
      have HT := hid (HNX.out hok)
      clear hok
      go_wp2
      exact ⟨⟨I + 1, by omega, by go_num, HT, by first | rfl | trivial⟩, by simp [intOf]; omega⟩
     | false =>
      have hd := HNO.out hok
      subst hd
      clear hok
      go_wp2
      go_ret
      exact ⟨rfl, B1.out⟩
    | most n =>
     obtain ⟨x, ev, hx⟩ := hq
     subst ev
     simp only [cJ, cM] at hcv
     have C := hid (CM.out wr x n m hx)
     go_wp2_with fail
     refine C.out.mono ?_
     rintro e w2 ⟨rfl, rfl⟩
     clear C
     cases hok : (Bd.most n).ok m with
     | true =>
      have HT := hid (HNX.out hok)
      clear hok
      go_wp2
      exact ⟨⟨I + 1, by omega, by go_num, HT, by first | rfl | trivial⟩, by simp [intOf]; omega⟩
     | false =>
      have hd := HNO.out hok
      subst hd
      clear hok
      go_wp2
      go_ret
      exact ⟨rfl, B1.out⟩
    | any =>
     have ev : vv = cA := hq
     subst ev
     simp only [cA] at hcv
     have C := hid (CA.out wr m)
     go_wp2_with fail
     refine C.out.mono ?_
     rintro e w2 ⟨rfl, rfl⟩
     clear C
     have HT := hid (HNX.out rfl)
     go_wp2
     exact ⟨⟨I + 1, by omega, by go_num, HT, by first | rfl | trivial⟩, by simp [intOf]; omega⟩
theorem rwordC_1 (w : World) : Calls Tryd.prog 24 #[.int .u8 1] w fun e w' => e = .returned (.string (wS 1)) /\ w' = w := by
 go_enter Tryd.func24, Tryd.ntmps24
 go_wp2
 go_ret
 exact ⟨rfl, rfl⟩
theorem rwordC_2 (w : World) : Calls Tryd.prog 24 #[.int .u8 2] w fun e w' => e = .returned (.string (wS 2)) /\ w' = w := by
 go_enter Tryd.func24, Tryd.ntmps24
 go_wp2
 go_ret
 exact ⟨rfl, rfl⟩
theorem rwordC_3 (w : World) : Calls Tryd.prog 24 #[.int .u8 3] w fun e w' => e = .returned (.string (wS 3)) /\ w' = w := by
 go_enter Tryd.func24, Tryd.ntmps24
 go_wp2
 go_ret
 exact ⟨rfl, rfl⟩
theorem rwordC_4 (w : World) : Calls Tryd.prog 24 #[.int .u8 4] w fun e w' => e = .returned (.string (wS 4)) /\ w' = w := by
 go_enter Tryd.func24, Tryd.ntmps24
 go_wp2
 go_ret
 exact ⟨rfl, rfl⟩
theorem rwordC_5 (w : World) : Calls Tryd.prog 24 #[.int .u8 5] w fun e w' => e = .returned (.string (wS 5)) /\ w' = w := by
 go_enter Tryd.func24, Tryd.ntmps24
 go_wp2
 go_ret
 exact ⟨rfl, rfl⟩
theorem rwordC_6 (w : World) : Calls Tryd.prog 24 #[.int .u8 6] w fun e w' => e = .returned (.string (wS 6)) /\ w' = w := by
 go_enter Tryd.func24, Tryd.ntmps24
 go_wp2
 go_ret
 exact ⟨rfl, rfl⟩
theorem rwordC_7 (w : World) : Calls Tryd.prog 24 #[.int .u8 7] w fun e w' => e = .returned (.string (wS 7)) /\ w' = w := by
 go_enter Tryd.func24, Tryd.ntmps24
 go_wp2
 go_ret
 exact ⟨rfl, rfl⟩
theorem rwordC_8 (w : World) : Calls Tryd.prog 24 #[.int .u8 8] w fun e w' => e = .returned (.string (wS 8)) /\ w' = w := by
 go_enter Tryd.func24, Tryd.ntmps24
 go_wp2
 go_ret
 exact ⟨rfl, rfl⟩
theorem rwordC_9 (w : World) : Calls Tryd.prog 24 #[.int .u8 9] w fun e w' => e = .returned (.string (wS 9)) /\ w' = w := by
 go_enter Tryd.func24, Tryd.ntmps24
 go_wp2
 go_ret
 exact ⟨rfl, rfl⟩
theorem rwordC_none (w : World) (t : Nat) (ht : t = 0 \/ 10 <= t) : Calls Tryd.prog 24 #[.int .u8 (t : Int)] w fun e w' => e = .returned (.string (wS t)) /\ w' = w := by
 rw [(none_of ht).2]
 have h1 : ((t : Int) == 1) = false := by simp; omega
 have h2 : ((t : Int) == 2) = false := by simp; omega
 have h3 : ((t : Int) == 3) = false := by simp; omega
 have h4 : ((t : Int) == 4) = false := by simp; omega
 have h5 : ((t : Int) == 5) = false := by simp; omega
 have h6 : ((t : Int) == 6) = false := by simp; omega
 have h7 : ((t : Int) == 7) = false := by simp; omega
 have h8 : ((t : Int) == 8) = false := by simp; omega
 have h9 : ((t : Int) == 9) = false := by simp; omega
 clear ht
 go_enter Tryd.func24, Tryd.ntmps24
 go_wp2
 go_ret
 exact ⟨rfl, rfl⟩
theorem rwordC (w : World) (t : Nat) : Calls Tryd.prog 24 #[.int .u8 (t : Int)] w fun e w' => e = .returned (.string (wS t)) /\ w' = w := by
 rcases tag_cases t with rfl | rfl | rfl | rfl | rfl | rfl | rfl | rfl | rfl | h
 ·exact rwordC_1 w
 ·exact rwordC_2 w
 ·exact rwordC_3 w
 ·exact rwordC_4 w
 ·exact rwordC_5 w
 ·exact rwordC_6 w
 ·exact rwordC_7 w
 ·exact rwordC_8 w
 ·exact rwordC_9 w
 ·exact rwordC_none w t h
theorem HL.cut {w : World} {v : Value} {ls : List (List Int)} (h : HL w v ls) : ∃ p c, v = .slice p ls.length c /\ ∀ j, j < ls.length -> ∃ b off q d, p = some ⟨b, off, none⟩ /\ w.cell? ⟨b, off + j, none⟩ = some (.slice q (ls.getD j []).length d) := by
 obtain ⟨p, c, e, hlc, hm⟩ := h.open
 refine ⟨p, c, e, fun j hj => ?_⟩
 obtain ⟨b, off, c', e', _, _, hh⟩ := h.ne (by omega)
 rw [e] at e'
 simp only [Value.slice.injEq, true_and] at e'
 obtain ⟨u, hu, hb⟩ := hh j hj
 obtain ⟨q, d, rfl, _, _⟩ := hb.open
 exact ⟨b, off, q, d, e'.1, hu⟩
theorem rfit1_len (w : World) (v : Value) (ls : List (List Int)) (h : HL w v ls) (hn : ls.length ≠ 3) : Calls Tryd.prog 35 #[.int .u8 1, v] w fun e w' => e = .returned (.bool false) /\ w' = w := by
 obtain ⟨p, c, rfl, hh⟩ := h.cut
 have e : ((ls.length : Int) == 3) = false := by simp; omega
 clear hn hh h
 go_enter Tryd.func35, Tryd.ntmps35
 go_wp2
 go_ret
 exact ⟨rfl, rfl⟩
theorem rfit1_p0 (w : World) (v : Value) (ls : List (List Int)) (h : HL w v ls) (hn : ls.length = 3)  (h0 : ¬ (ls.getD 0 []).length <= 64) : Calls Tryd.prog 35 #[.int .u8 1, v] w fun e w' => e = .returned (.bool false) /\ w' = w := by
 obtain ⟨p, c, rfl, hh⟩ := h.cut
 obtain ⟨b, off, q0, d0, rfl, c0⟩ := hh 0 (by omega)
 simp only [Nat.add_zero] at c0
 rw [hn]
 obtain ⟨n0, H0⟩ : ∃ n, Hid ((ls.getD 0 []).length = n) := ⟨_, rfl⟩
 rw [H0.out] at c0 h0
 have z0 : ¬ (n0 : Int) <= 64 := by omega
 clear hn hh h h0
 go_enter Tryd.func35, Tryd.ntmps35
 go_wp2
 go_ret
 exact ⟨rfl, rfl⟩
theorem rfit1_p1 (w : World) (v : Value) (ls : List (List Int)) (h : HL w v ls) (hn : ls.length = 3) (h0 : (ls.getD 0 []).length <= 64) (h1 : (ls.getD 1 []).length ≠ 6) : Calls Tryd.prog 35 #[.int .u8 1, v] w fun e w' => e = .returned (.bool false) /\ w' = w := by
 obtain ⟨p, c, rfl, hh⟩ := h.cut
 obtain ⟨b, off, q0, d0, rfl, c0⟩ := hh 0 (by omega)
 simp only [Nat.add_zero] at c0
 obtain ⟨_, _, q1, d1, e1, c1⟩ := hh 1 (by omega)
 cases e1
 rw [hn]
 obtain ⟨n0, H0⟩ : ∃ n, Hid ((ls.getD 0 []).length = n) := ⟨_, rfl⟩
 rw [H0.out] at c0 h0
 have z0 : (n0 : Int) <= 64 := by omega
 obtain ⟨n1, H1⟩ : ∃ n, Hid ((ls.getD 1 []).length = n) := ⟨_, rfl⟩
 rw [H1.out] at c1 h1
 have z1 : ((n1 : Int) == 6) = false := by simp; omega
 clear hn hh h h0 h1
 go_enter Tryd.func35, Tryd.ntmps35
 go_wp2
 go_ret
 exact ⟨rfl, rfl⟩
theorem rfit1_p2 (w : World) (v : Value) (ls : List (List Int)) (h : HL w v ls) (hn : ls.length = 3) (h0 : (ls.getD 0 []).length <= 64) (h1 : (ls.getD 1 []).length = 6) (h2 : ¬ (ls.getD 2 []).length <= 16777216) : Calls Tryd.prog 35 #[.int .u8 1, v] w fun e w' => e = .returned (.bool false) /\ w' = w := by
 obtain ⟨p, c, rfl, hh⟩ := h.cut
 obtain ⟨b, off, q0, d0, rfl, c0⟩ := hh 0 (by omega)
 simp only [Nat.add_zero] at c0
 obtain ⟨_, _, q1, d1, e1, c1⟩ := hh 1 (by omega)
 cases e1
 obtain ⟨_, _, q2, d2, e2, c2⟩ := hh 2 (by omega)
 cases e2
 rw [hn]
 obtain ⟨n0, H0⟩ : ∃ n, Hid ((ls.getD 0 []).length = n) := ⟨_, rfl⟩
 rw [H0.out] at c0 h0
 have z0 : (n0 : Int) <= 64 := by omega
 rw [h1] at c1
 obtain ⟨n2, H2⟩ : ∃ n, Hid ((ls.getD 2 []).length = n) := ⟨_, rfl⟩
 rw [H2.out] at c2 h2
 have z2 : ¬ (n2 : Int) <= 16777216 := by omega
 clear hn hh h h0 h1 h2
 go_enter Tryd.func35, Tryd.ntmps35
 go_wp2
 go_ret
 exact ⟨rfl, rfl⟩
theorem rfit1_ok (w : World) (v : Value) (ls : List (List Int)) (h : HL w v ls) (hn : ls.length = 3) (h0 : (ls.getD 0 []).length <= 64) (h1 : (ls.getD 1 []).length = 6) (h2 : (ls.getD 2 []).length <= 16777216) : Calls Tryd.prog 35 #[.int .u8 1, v] w fun e w' => e = .returned (.bool true) /\ w' = w := by
 obtain ⟨p, c, rfl, hh⟩ := h.cut
 obtain ⟨b, off, q0, d0, rfl, c0⟩ := hh 0 (by omega)
 simp only [Nat.add_zero] at c0
 obtain ⟨_, _, q1, d1, e1, c1⟩ := hh 1 (by omega)
 cases e1
 obtain ⟨_, _, q2, d2, e2, c2⟩ := hh 2 (by omega)
 cases e2
 rw [hn]
 obtain ⟨n0, H0⟩ : ∃ n, Hid ((ls.getD 0 []).length = n) := ⟨_, rfl⟩
 rw [H0.out] at c0 h0
 have z0 : (n0 : Int) <= 64 := by omega
 rw [h1] at c1
 obtain ⟨n2, H2⟩ : ∃ n, Hid ((ls.getD 2 []).length = n) := ⟨_, rfl⟩
 rw [H2.out] at c2 h2
 have z2 : (n2 : Int) <= 16777216 := by omega
 clear hn hh h h0 h1 h2
 go_enter Tryd.func35, Tryd.ntmps35
 go_wp2
 go_ret
 exact ⟨rfl, rfl⟩
theorem rfit2_len (w : World) (v : Value) (ls : List (List Int)) (h : HL w v ls) (hn : ls.length ≠ 1) : Calls Tryd.prog 35 #[.int .u8 2, v] w fun e w' => e = .returned (.bool false) /\ w' = w := by
 obtain ⟨p, c, rfl, hh⟩ := h.cut
 have e : ((ls.length : Int) == 1) = false := by simp; omega
 clear hn hh h
 go_enter Tryd.func35, Tryd.ntmps35
 go_wp2
 go_ret
 exact ⟨rfl, rfl⟩
theorem rfit2_p0 (w : World) (v : Value) (ls : List (List Int)) (h : HL w v ls) (hn : ls.length = 1)  (h0 : (ls.getD 0 []).length ≠ 16) : Calls Tryd.prog 35 #[.int .u8 2, v] w fun e w' => e = .returned (.bool false) /\ w' = w := by
 obtain ⟨p, c, rfl, hh⟩ := h.cut
 obtain ⟨b, off, q0, d0, rfl, c0⟩ := hh 0 (by omega)
 simp only [Nat.add_zero] at c0
 rw [hn]
 obtain ⟨n0, H0⟩ : ∃ n, Hid ((ls.getD 0 []).length = n) := ⟨_, rfl⟩
 rw [H0.out] at c0 h0
 have z0 : ((n0 : Int) == 16) = false := by simp; omega
 clear hn hh h h0
 go_enter Tryd.func35, Tryd.ntmps35
 go_wp2
 go_ret
 exact ⟨rfl, rfl⟩
theorem rfit2_ok (w : World) (v : Value) (ls : List (List Int)) (h : HL w v ls) (hn : ls.length = 1) (h0 : (ls.getD 0 []).length = 16) : Calls Tryd.prog 35 #[.int .u8 2, v] w fun e w' => e = .returned (.bool true) /\ w' = w := by
 obtain ⟨p, c, rfl, hh⟩ := h.cut
 obtain ⟨b, off, q0, d0, rfl, c0⟩ := hh 0 (by omega)
 simp only [Nat.add_zero] at c0
 rw [hn]
 rw [h0] at c0
 clear hn hh h h0
 go_enter Tryd.func35, Tryd.ntmps35
 go_wp2
 go_ret
 exact ⟨rfl, rfl⟩
theorem rfit3_len (w : World) (v : Value) (ls : List (List Int)) (h : HL w v ls) (hn : ls.length ≠ 1) : Calls Tryd.prog 35 #[.int .u8 3, v] w fun e w' => e = .returned (.bool false) /\ w' = w := by
 obtain ⟨p, c, rfl, hh⟩ := h.cut
 have e : ((ls.length : Int) == 1) = false := by simp; omega
 clear hn hh h
 go_enter Tryd.func35, Tryd.ntmps35
 go_wp2
 go_ret
 exact ⟨rfl, rfl⟩
theorem rfit3_ok (w : World) (v : Value) (ls : List (List Int)) (h : HL w v ls) (hn : ls.length = 1)  : Calls Tryd.prog 35 #[.int .u8 3, v] w fun e w' => e = .returned (.bool true) /\ w' = w := by
 obtain ⟨p, c, rfl, hh⟩ := h.cut
 rw [hn]
 clear hn hh h
 go_enter Tryd.func35, Tryd.ntmps35
 go_wp2
 go_ret
 exact ⟨rfl, rfl⟩
theorem rfit4_len (w : World) (v : Value) (ls : List (List Int)) (h : HL w v ls) (hn : ls.length ≠ 1) : Calls Tryd.prog 35 #[.int .u8 4, v] w fun e w' => e = .returned (.bool false) /\ w' = w := by
 obtain ⟨p, c, rfl, hh⟩ := h.cut
 have e : ((ls.length : Int) == 1) = false := by simp; omega
 clear hn hh h
 go_enter Tryd.func35, Tryd.ntmps35
 go_wp2
 go_ret
 exact ⟨rfl, rfl⟩
theorem rfit4_ok (w : World) (v : Value) (ls : List (List Int)) (h : HL w v ls) (hn : ls.length = 1)  : Calls Tryd.prog 35 #[.int .u8 4, v] w fun e w' => e = .returned (.bool true) /\ w' = w := by
 obtain ⟨p, c, rfl, hh⟩ := h.cut
 rw [hn]
 clear hn hh h
 go_enter Tryd.func35, Tryd.ntmps35
 go_wp2
 go_ret
 exact ⟨rfl, rfl⟩
theorem rfit5_len (w : World) (v : Value) (ls : List (List Int)) (h : HL w v ls) (hn : ls.length ≠ 1) : Calls Tryd.prog 35 #[.int .u8 5, v] w fun e w' => e = .returned (.bool false) /\ w' = w := by
 obtain ⟨p, c, rfl, hh⟩ := h.cut
 have e : ((ls.length : Int) == 1) = false := by simp; omega
 clear hn hh h
 go_enter Tryd.func35, Tryd.ntmps35
 go_wp2
 go_ret
 exact ⟨rfl, rfl⟩
theorem rfit5_p0 (w : World) (v : Value) (ls : List (List Int)) (h : HL w v ls) (hn : ls.length = 1)  (h0 : (ls.getD 0 []).length ≠ 32) : Calls Tryd.prog 35 #[.int .u8 5, v] w fun e w' => e = .returned (.bool false) /\ w' = w := by
 obtain ⟨p, c, rfl, hh⟩ := h.cut
 obtain ⟨b, off, q0, d0, rfl, c0⟩ := hh 0 (by omega)
 simp only [Nat.add_zero] at c0
 rw [hn]
 obtain ⟨n0, H0⟩ : ∃ n, Hid ((ls.getD 0 []).length = n) := ⟨_, rfl⟩
 rw [H0.out] at c0 h0
 have z0 : ((n0 : Int) == 32) = false := by simp; omega
 clear hn hh h h0
 go_enter Tryd.func35, Tryd.ntmps35
 go_wp2
 go_ret
 exact ⟨rfl, rfl⟩
theorem rfit5_ok (w : World) (v : Value) (ls : List (List Int)) (h : HL w v ls) (hn : ls.length = 1) (h0 : (ls.getD 0 []).length = 32) : Calls Tryd.prog 35 #[.int .u8 5, v] w fun e w' => e = .returned (.bool true) /\ w' = w := by
 obtain ⟨p, c, rfl, hh⟩ := h.cut
 obtain ⟨b, off, q0, d0, rfl, c0⟩ := hh 0 (by omega)
 simp only [Nat.add_zero] at c0
 rw [hn]
 rw [h0] at c0
 clear hn hh h h0
 go_enter Tryd.func35, Tryd.ntmps35
 go_wp2
 go_ret
 exact ⟨rfl, rfl⟩
theorem rfit6_len (w : World) (v : Value) (ls : List (List Int)) (h : HL w v ls) (hn : ls.length ≠ 2) : Calls Tryd.prog 35 #[.int .u8 6, v] w fun e w' => e = .returned (.bool false) /\ w' = w := by
 obtain ⟨p, c, rfl, hh⟩ := h.cut
 have e : ((ls.length : Int) == 2) = false := by simp; omega
 clear hn hh h
 go_enter Tryd.func35, Tryd.ntmps35
 go_wp2
 go_ret
 exact ⟨rfl, rfl⟩
theorem rfit6_p0 (w : World) (v : Value) (ls : List (List Int)) (h : HL w v ls) (hn : ls.length = 2)  (h0 : (ls.getD 0 []).length ≠ 32) : Calls Tryd.prog 35 #[.int .u8 6, v] w fun e w' => e = .returned (.bool false) /\ w' = w := by
 obtain ⟨p, c, rfl, hh⟩ := h.cut
 obtain ⟨b, off, q0, d0, rfl, c0⟩ := hh 0 (by omega)
 simp only [Nat.add_zero] at c0
 rw [hn]
 obtain ⟨n0, H0⟩ : ∃ n, Hid ((ls.getD 0 []).length = n) := ⟨_, rfl⟩
 rw [H0.out] at c0 h0
 have z0 : ((n0 : Int) == 32) = false := by simp; omega
 clear hn hh h h0
 go_enter Tryd.func35, Tryd.ntmps35
 go_wp2
 go_ret
 exact ⟨rfl, rfl⟩
theorem rfit6_p1 (w : World) (v : Value) (ls : List (List Int)) (h : HL w v ls) (hn : ls.length = 2) (h0 : (ls.getD 0 []).length = 32) (h1 : (ls.getD 1 []).length ≠ 32) : Calls Tryd.prog 35 #[.int .u8 6, v] w fun e w' => e = .returned (.bool false) /\ w' = w := by
 obtain ⟨p, c, rfl, hh⟩ := h.cut
 obtain ⟨b, off, q0, d0, rfl, c0⟩ := hh 0 (by omega)
 simp only [Nat.add_zero] at c0
 obtain ⟨_, _, q1, d1, e1, c1⟩ := hh 1 (by omega)
 cases e1
 rw [hn]
 rw [h0] at c0
 obtain ⟨n1, H1⟩ : ∃ n, Hid ((ls.getD 1 []).length = n) := ⟨_, rfl⟩
 rw [H1.out] at c1 h1
 have z1 : ((n1 : Int) == 32) = false := by simp; omega
 clear hn hh h h0 h1
 go_enter Tryd.func35, Tryd.ntmps35
 go_wp2
 go_ret
 exact ⟨rfl, rfl⟩
theorem rfit6_ok (w : World) (v : Value) (ls : List (List Int)) (h : HL w v ls) (hn : ls.length = 2) (h0 : (ls.getD 0 []).length = 32) (h1 : (ls.getD 1 []).length = 32) : Calls Tryd.prog 35 #[.int .u8 6, v] w fun e w' => e = .returned (.bool true) /\ w' = w := by
 obtain ⟨p, c, rfl, hh⟩ := h.cut
 obtain ⟨b, off, q0, d0, rfl, c0⟩ := hh 0 (by omega)
 simp only [Nat.add_zero] at c0
 obtain ⟨_, _, q1, d1, e1, c1⟩ := hh 1 (by omega)
 cases e1
 rw [hn]
 rw [h0] at c0
 rw [h1] at c1
 clear hn hh h h0 h1
 go_enter Tryd.func35, Tryd.ntmps35
 go_wp2
 go_ret
 exact ⟨rfl, rfl⟩
theorem rfit7_len (w : World) (v : Value) (ls : List (List Int)) (h : HL w v ls) (hn : ls.length ≠ 1) : Calls Tryd.prog 35 #[.int .u8 7, v] w fun e w' => e = .returned (.bool false) /\ w' = w := by
 obtain ⟨p, c, rfl, hh⟩ := h.cut
 have e : ((ls.length : Int) == 1) = false := by simp; omega
 clear hn hh h
 go_enter Tryd.func35, Tryd.ntmps35
 go_wp2
 go_ret
 exact ⟨rfl, rfl⟩
theorem rfit7_p0 (w : World) (v : Value) (ls : List (List Int)) (h : HL w v ls) (hn : ls.length = 1)  (h0 : (ls.getD 0 []).length ≠ 4) : Calls Tryd.prog 35 #[.int .u8 7, v] w fun e w' => e = .returned (.bool false) /\ w' = w := by
 obtain ⟨p, c, rfl, hh⟩ := h.cut
 obtain ⟨b, off, q0, d0, rfl, c0⟩ := hh 0 (by omega)
 simp only [Nat.add_zero] at c0
 rw [hn]
 obtain ⟨n0, H0⟩ : ∃ n, Hid ((ls.getD 0 []).length = n) := ⟨_, rfl⟩
 rw [H0.out] at c0 h0
 have z0 : ((n0 : Int) == 4) = false := by simp; omega
 clear hn hh h h0
 go_enter Tryd.func35, Tryd.ntmps35
 go_wp2
 go_ret
 exact ⟨rfl, rfl⟩
theorem rfit7_ok (w : World) (v : Value) (ls : List (List Int)) (h : HL w v ls) (hn : ls.length = 1) (h0 : (ls.getD 0 []).length = 4) : Calls Tryd.prog 35 #[.int .u8 7, v] w fun e w' => e = .returned (.bool true) /\ w' = w := by
 obtain ⟨p, c, rfl, hh⟩ := h.cut
 obtain ⟨b, off, q0, d0, rfl, c0⟩ := hh 0 (by omega)
 simp only [Nat.add_zero] at c0
 rw [hn]
 rw [h0] at c0
 clear hn hh h h0
 go_enter Tryd.func35, Tryd.ntmps35
 go_wp2
 go_ret
 exact ⟨rfl, rfl⟩
theorem rfit8_len (w : World) (v : Value) (ls : List (List Int)) (h : HL w v ls) (hn : ls.length ≠ 1) : Calls Tryd.prog 35 #[.int .u8 8, v] w fun e w' => e = .returned (.bool false) /\ w' = w := by
 obtain ⟨p, c, rfl, hh⟩ := h.cut
 have e : ((ls.length : Int) == 1) = false := by simp; omega
 clear hn hh h
 go_enter Tryd.func35, Tryd.ntmps35
 go_wp2
 go_ret
 exact ⟨rfl, rfl⟩
theorem rfit8_ok (w : World) (v : Value) (ls : List (List Int)) (h : HL w v ls) (hn : ls.length = 1)  : Calls Tryd.prog 35 #[.int .u8 8, v] w fun e w' => e = .returned (.bool true) /\ w' = w := by
 obtain ⟨p, c, rfl, hh⟩ := h.cut
 rw [hn]
 clear hn hh h
 go_enter Tryd.func35, Tryd.ntmps35
 go_wp2
 go_ret
 exact ⟨rfl, rfl⟩
theorem rfit9_len (w : World) (v : Value) (ls : List (List Int)) (h : HL w v ls) (hn : ls.length ≠ 2) : Calls Tryd.prog 35 #[.int .u8 9, v] w fun e w' => e = .returned (.bool false) /\ w' = w := by
 obtain ⟨p, c, rfl, hh⟩ := h.cut
 have e : ((ls.length : Int) == 2) = false := by simp; omega
 clear hn hh h
 go_enter Tryd.func35, Tryd.ntmps35
 go_wp2
 go_ret
 exact ⟨rfl, rfl⟩
theorem rfit9_p0 (w : World) (v : Value) (ls : List (List Int)) (h : HL w v ls) (hn : ls.length = 2)  (h0 : (ls.getD 0 []).length ≠ 16) : Calls Tryd.prog 35 #[.int .u8 9, v] w fun e w' => e = .returned (.bool false) /\ w' = w := by
 obtain ⟨p, c, rfl, hh⟩ := h.cut
 obtain ⟨b, off, q0, d0, rfl, c0⟩ := hh 0 (by omega)
 simp only [Nat.add_zero] at c0
 rw [hn]
 obtain ⟨n0, H0⟩ : ∃ n, Hid ((ls.getD 0 []).length = n) := ⟨_, rfl⟩
 rw [H0.out] at c0 h0
 have z0 : ((n0 : Int) == 16) = false := by simp; omega
 clear hn hh h h0
 go_enter Tryd.func35, Tryd.ntmps35
 go_wp2
 go_ret
 exact ⟨rfl, rfl⟩
theorem rfit9_p1 (w : World) (v : Value) (ls : List (List Int)) (h : HL w v ls) (hn : ls.length = 2) (h0 : (ls.getD 0 []).length = 16) (h1 : (ls.getD 1 []).length ≠ 4) : Calls Tryd.prog 35 #[.int .u8 9, v] w fun e w' => e = .returned (.bool false) /\ w' = w := by
 obtain ⟨p, c, rfl, hh⟩ := h.cut
 obtain ⟨b, off, q0, d0, rfl, c0⟩ := hh 0 (by omega)
 simp only [Nat.add_zero] at c0
 obtain ⟨_, _, q1, d1, e1, c1⟩ := hh 1 (by omega)
 cases e1
 rw [hn]
 rw [h0] at c0
 obtain ⟨n1, H1⟩ : ∃ n, Hid ((ls.getD 1 []).length = n) := ⟨_, rfl⟩
 rw [H1.out] at c1 h1
 have z1 : ((n1 : Int) == 4) = false := by simp; omega
 clear hn hh h h0 h1
 go_enter Tryd.func35, Tryd.ntmps35
 go_wp2
 go_ret
 exact ⟨rfl, rfl⟩
theorem rfit9_ok (w : World) (v : Value) (ls : List (List Int)) (h : HL w v ls) (hn : ls.length = 2) (h0 : (ls.getD 0 []).length = 16) (h1 : (ls.getD 1 []).length = 4) : Calls Tryd.prog 35 #[.int .u8 9, v] w fun e w' => e = .returned (.bool true) /\ w' = w := by
 obtain ⟨p, c, rfl, hh⟩ := h.cut
 obtain ⟨b, off, q0, d0, rfl, c0⟩ := hh 0 (by omega)
 simp only [Nat.add_zero] at c0
 obtain ⟨_, _, q1, d1, e1, c1⟩ := hh 1 (by omega)
 cases e1
 rw [hn]
 rw [h0] at c0
 rw [h1] at c1
 clear hn hh h h0 h1
 go_enter Tryd.func35, Tryd.ntmps35
 go_wp2
 go_ret
 exact ⟨rfl, rfl⟩
theorem rfitC_1 (w : World) (v : Value) (ls : List (List Int)) (h : HL w v ls) : Calls Tryd.prog 35 #[.int .u8 1, v] w fun e w' => e = .returned (.bool (decide (FitQ 1 ls))) /\ w' = w := by
 by_cases hn : ls.length = 3
 ·by_cases h0 : (ls.getD 0 []).length <= 64
  ·by_cases h1 : (ls.getD 1 []).length = 6
   ·by_cases h2 : (ls.getD 2 []).length <= 16777216
    ·have q : FitQ 1 ls := ⟨hn, fun j hj => by
      have hj' : j = 0 \/ j = 1 \/ j = 2 := by omega
      rcases hj' with rfl | rfl | rfl
      ·exact decide_eq_true h0
      ·exact decide_eq_true h1
      ·exact decide_eq_true h2⟩
     rw [decide_eq_true q]
     exact rfit1_ok w v ls h hn h0 h1 h2
    ·rw [decide_eq_false (fun q : FitQ 1 ls => h2 (of_decide_eq_true (q.2 2 (by omega))))]
     exact rfit1_p2 w v ls h hn h0 h1 h2
   ·rw [decide_eq_false (fun q : FitQ 1 ls => h1 (of_decide_eq_true (q.2 1 (by omega))))]
    exact rfit1_p1 w v ls h hn h0 h1
  ·rw [decide_eq_false (fun q : FitQ 1 ls => h0 (of_decide_eq_true (q.2 0 (by omega))))]
   exact rfit1_p0 w v ls h hn  h0
 ·rw [decide_eq_false (fun q : FitQ 1 ls => hn (q.1.trans rfl))]
  exact rfit1_len w v ls h hn
theorem rfitC_2 (w : World) (v : Value) (ls : List (List Int)) (h : HL w v ls) : Calls Tryd.prog 35 #[.int .u8 2, v] w fun e w' => e = .returned (.bool (decide (FitQ 2 ls))) /\ w' = w := by
 by_cases hn : ls.length = 1
 ·by_cases h0 : (ls.getD 0 []).length = 16
  ·have q : FitQ 2 ls := ⟨hn, fun j hj => by
    have hj' : j = 0 := by omega
    rcases hj' with rfl
    ·exact decide_eq_true h0⟩
   rw [decide_eq_true q]
   exact rfit2_ok w v ls h hn h0
  ·rw [decide_eq_false (fun q : FitQ 2 ls => h0 (of_decide_eq_true (q.2 0 (by omega))))]
   exact rfit2_p0 w v ls h hn  h0
 ·rw [decide_eq_false (fun q : FitQ 2 ls => hn (q.1.trans rfl))]
  exact rfit2_len w v ls h hn
theorem rfitC_3 (w : World) (v : Value) (ls : List (List Int)) (h : HL w v ls) : Calls Tryd.prog 35 #[.int .u8 3, v] w fun e w' => e = .returned (.bool (decide (FitQ 3 ls))) /\ w' = w := by
 by_cases hn : ls.length = 1
 ·have q : FitQ 3 ls := ⟨hn, fun j hj => by
   have hj' : j = 0 := by omega
   rcases hj' with rfl
   ·exact rfl⟩
  rw [decide_eq_true q]
  exact rfit3_ok w v ls h hn
 ·rw [decide_eq_false (fun q : FitQ 3 ls => hn (q.1.trans rfl))]
  exact rfit3_len w v ls h hn
theorem rfitC_4 (w : World) (v : Value) (ls : List (List Int)) (h : HL w v ls) : Calls Tryd.prog 35 #[.int .u8 4, v] w fun e w' => e = .returned (.bool (decide (FitQ 4 ls))) /\ w' = w := by
 by_cases hn : ls.length = 1
 ·have q : FitQ 4 ls := ⟨hn, fun j hj => by
   have hj' : j = 0 := by omega
   rcases hj' with rfl
   ·exact rfl⟩
  rw [decide_eq_true q]
  exact rfit4_ok w v ls h hn
 ·rw [decide_eq_false (fun q : FitQ 4 ls => hn (q.1.trans rfl))]
  exact rfit4_len w v ls h hn
theorem rfitC_5 (w : World) (v : Value) (ls : List (List Int)) (h : HL w v ls) : Calls Tryd.prog 35 #[.int .u8 5, v] w fun e w' => e = .returned (.bool (decide (FitQ 5 ls))) /\ w' = w := by
 by_cases hn : ls.length = 1
 ·by_cases h0 : (ls.getD 0 []).length = 32
  ·have q : FitQ 5 ls := ⟨hn, fun j hj => by
    have hj' : j = 0 := by omega
    rcases hj' with rfl
    ·exact decide_eq_true h0⟩
   rw [decide_eq_true q]
   exact rfit5_ok w v ls h hn h0
  ·rw [decide_eq_false (fun q : FitQ 5 ls => h0 (of_decide_eq_true (q.2 0 (by omega))))]
   exact rfit5_p0 w v ls h hn  h0
 ·rw [decide_eq_false (fun q : FitQ 5 ls => hn (q.1.trans rfl))]
  exact rfit5_len w v ls h hn
theorem rfitC_6 (w : World) (v : Value) (ls : List (List Int)) (h : HL w v ls) : Calls Tryd.prog 35 #[.int .u8 6, v] w fun e w' => e = .returned (.bool (decide (FitQ 6 ls))) /\ w' = w := by
 by_cases hn : ls.length = 2
 ·by_cases h0 : (ls.getD 0 []).length = 32
  ·by_cases h1 : (ls.getD 1 []).length = 32
   ·have q : FitQ 6 ls := ⟨hn, fun j hj => by
     have hj' : j = 0 \/ j = 1 := by omega
     rcases hj' with rfl | rfl
     ·exact decide_eq_true h0
     ·exact decide_eq_true h1⟩
    rw [decide_eq_true q]
    exact rfit6_ok w v ls h hn h0 h1
   ·rw [decide_eq_false (fun q : FitQ 6 ls => h1 (of_decide_eq_true (q.2 1 (by omega))))]
    exact rfit6_p1 w v ls h hn h0 h1
  ·rw [decide_eq_false (fun q : FitQ 6 ls => h0 (of_decide_eq_true (q.2 0 (by omega))))]
   exact rfit6_p0 w v ls h hn  h0
 ·rw [decide_eq_false (fun q : FitQ 6 ls => hn (q.1.trans rfl))]
  exact rfit6_len w v ls h hn
theorem rfitC_7 (w : World) (v : Value) (ls : List (List Int)) (h : HL w v ls) : Calls Tryd.prog 35 #[.int .u8 7, v] w fun e w' => e = .returned (.bool (decide (FitQ 7 ls))) /\ w' = w := by
 by_cases hn : ls.length = 1
 ·by_cases h0 : (ls.getD 0 []).length = 4
  ·have q : FitQ 7 ls := ⟨hn, fun j hj => by
    have hj' : j = 0 := by omega
    rcases hj' with rfl
    ·exact decide_eq_true h0⟩
   rw [decide_eq_true q]
   exact rfit7_ok w v ls h hn h0
  ·rw [decide_eq_false (fun q : FitQ 7 ls => h0 (of_decide_eq_true (q.2 0 (by omega))))]
   exact rfit7_p0 w v ls h hn  h0
 ·rw [decide_eq_false (fun q : FitQ 7 ls => hn (q.1.trans rfl))]
  exact rfit7_len w v ls h hn
theorem rfitC_8 (w : World) (v : Value) (ls : List (List Int)) (h : HL w v ls) : Calls Tryd.prog 35 #[.int .u8 8, v] w fun e w' => e = .returned (.bool (decide (FitQ 8 ls))) /\ w' = w := by
 by_cases hn : ls.length = 1
 ·have q : FitQ 8 ls := ⟨hn, fun j hj => by
   have hj' : j = 0 := by omega
   rcases hj' with rfl
   ·exact rfl⟩
  rw [decide_eq_true q]
  exact rfit8_ok w v ls h hn
 ·rw [decide_eq_false (fun q : FitQ 8 ls => hn (q.1.trans rfl))]
  exact rfit8_len w v ls h hn
theorem rfitC_9 (w : World) (v : Value) (ls : List (List Int)) (h : HL w v ls) : Calls Tryd.prog 35 #[.int .u8 9, v] w fun e w' => e = .returned (.bool (decide (FitQ 9 ls))) /\ w' = w := by
 by_cases hn : ls.length = 2
 ·by_cases h0 : (ls.getD 0 []).length = 16
  ·by_cases h1 : (ls.getD 1 []).length = 4
   ·have q : FitQ 9 ls := ⟨hn, fun j hj => by
     have hj' : j = 0 \/ j = 1 := by omega
     rcases hj' with rfl | rfl
     ·exact decide_eq_true h0
     ·exact decide_eq_true h1⟩
    rw [decide_eq_true q]
    exact rfit9_ok w v ls h hn h0 h1
   ·rw [decide_eq_false (fun q : FitQ 9 ls => h1 (of_decide_eq_true (q.2 1 (by omega))))]
    exact rfit9_p1 w v ls h hn h0 h1
  ·rw [decide_eq_false (fun q : FitQ 9 ls => h0 (of_decide_eq_true (q.2 0 (by omega))))]
   exact rfit9_p0 w v ls h hn  h0
 ·rw [decide_eq_false (fun q : FitQ 9 ls => hn (q.1.trans rfl))]
  exact rfit9_len w v ls h hn
theorem rfitC (w : World) (t : Nat) (ht : 1 <= t /\ t <= 9) (v : Value) (ls : List (List Int)) (h : HL w v ls) : Calls Tryd.prog 35 #[.int .u8 (t : Int), v] w fun e w' => e = .returned (.bool (decide (FitQ t ls))) /\ w' = w := by
 rcases tag_cases t with rfl | rfl | rfl | rfl | rfl | rfl | rfl | rfl | rfl | q
 ·exact rfitC_1 w v ls h
 ·exact rfitC_2 w v ls h
 ·exact rfitC_3 w v ls h
 ·exact rfitC_4 w v ls h
 ·exact rfitC_5 w v ls h
 ·exact rfitC_6 w v ls h
 ·exact rfitC_7 w v ls h
 ·exact rfitC_8 w v ls h
 ·exact rfitC_9 w v ls h
 ·omega
end Go.Proofs.YtcpchhigiohlnaaDoor
namespace Go.Proofs.YtcpchhigiohlnaaDoor
open Go.RowKit
def iv : List Nat := [1779033703, 3144134277, 1013904242, 2773480762, 1359893119, 2600822924, 528734635, 1541459225]
theorem iv_W8 : W8 iv := ⟨rfl, by decide⟩
theorem initial_any (w : World) : Calls Tryd.prog 76 #[] w fun e w' => e = .returned (.agg (cellsW iv)) /\ Below w.heap.size w w' := by
 obtain ⟨z8, HZ8⟩ : ∃ z8, Hid (cellsW (zerosW 8) = z8) := ⟨_, rfl⟩
 have hz8 := zero_w8
 rw [HZ8.out] at hz8
 have HZ1 := hid hz8
 have HIm : Hid ((Tryd.prog.info? 69).map (·.size) = some (cellsW iv).size) := size_w8
 have H1m : Hid ((cellsW iv).all (·.oneCell') = true) := cellsW_one _
 have HZM : Hid (z8.size = (cellsW iv).size) := by rw [<- HZ8.out, cellsW_size, zerosW_length]; exact rfl
 have HR : Hid ((w.alloc (.cells z8 69)).heap[w.heap.size]? = some (.cells z8 69 (0, 0))) := heap_alloc_new w _
 have HB := hid (below_setRow ((Below.refl _ w).alloc (Nat.le_refl _) (.cells z8 69)) (g := w.heap.size) (Nat.le_refl _) (cellsW iv))
 clear hz8
 go_enter Tryd.func76, Tryd.ntmps76
 go_wp2_with (first | (refine wpList_alloc_agg HZ1.out rfl rfl ?_) | (refine wpList_store_row rfl 69 _ _ rfl w.heap.size (cellsW iv) rfl rfl 69 _ HR.out HIm.out HZM.out H1m.out ?_))
 refine bodyPost_ret (v := .agg (cellsW iv)) (results_cell_row (p := 0) (ty := 69) rfl _ _ w.heap.size 69 (cellsW iv) (0, 0) _ rfl (setRow_heap _ _ _ _ _ _ HR.out) Tryd.underlying69 rfl HIm.out) rfl ?_
 exact ⟨rfl, HB.out⟩
def hashC (bw ww : List Nat) (rest : List Int) (n : Int) : List Value := bw.map (fun x : Nat => Value.int .u32 (x : Int)) ++ (ww.map (fun x : Nat => Value.int .u32 (x : Int)) ++ (rest.map (Value.int .u8) ++ [.int .i64 n]))
theorem built_hash : Tryd.prog.built 109 [(0, .agg (cellsW iv)), (1, .agg (cellsW iv))] = some (hashC iv iv (List.replicate 64 0) 0).toArray := by kernel_rfl
theorem new_any (w : World) : Calls Tryd.prog 67 #[] w fun e w' => ∃ g, e = .returned (.pointer (some ⟨g, 0, none⟩)) /\ w.heap.size <= g /\ w'.heap[g]? = some (.cells (hashC iv iv (List.replicate 64 0) 0).toArray 109 (0, 0)) /\ Below w.heap.size w w' := by
 obtain ⟨m, HM⟩ : ∃ m, Hid (cellsW iv = m) := ⟨_, rfl⟩
 obtain ⟨hc, HC⟩ : ∃ hc, Hid ((hashC iv iv (List.replicate 64 0) 0).toArray = hc) := ⟨_, rfl⟩
 have hb := built_hash
 rw [HM.out, HC.out] at hb
 have HBT := hid hb
 have CI : Hid (∀ W, Calls Tryd.prog 76 #[] W fun e w' => e = .returned (.agg m) /\ Below W.heap.size W w') := fun W => by rw [<- HM.out]; exact initial_any W
 rw [HC.out]
 clear hb
 go_enter Tryd.func67, Tryd.ntmps67
 go_wp2_with fail
 refine (CI.out w).mono ?_
 rintro e w1 ⟨rfl, hB1⟩
 have B1 := hid hB1
 clear hB1
 go_wp2_with fail
 refine (CI.out w1).mono ?_
 rintro e w2 ⟨rfl, hB2⟩
 have B2 := hid (B1.out.trans (hB2.mono B1.out.size))
 clear hB2
 go_wp2_with (refine wpList_build rfl 109 _ rfl (by simp [Act.eval, HBT.out]) ?_)
 rw [show (Tryd.prog.built 109 [(0, .agg m), (1, .agg m)]).getD #[] = hc by rw [HBT.out]; rfl]
 go_ret
 exact ⟨w2.heap.size, rfl, B2.out.size, heap_alloc_new w2 _, B2.out.alloc B2.out.size _⟩
def eqRoundW (d : Nat) (xs ys : List Nat) (i : Nat) (_ : Option Bool × Unit) : Sem (ForInStep (Option Bool × Unit)) := do
 let a <- part 35 (cellsW xs) (i * 1)
 let b <- part 35 (cellsW ys) (i * 1)
 let c <- Op.equalIn (d + 1) 35 a b
 if (!c) = true then pure (ForInStep.done (some false, ())) else pure (ForInStep.yield (none, ()))
theorem run_eqRoundW (w : World) (d : Nat) (xs ys : List Nat) (i : Nat) (s : Option Bool × Unit) (hx : i < xs.length) (hy : i < ys.length) :
  (eqRoundW d xs ys i s).run Tryd.prog w = .ok (if xs.getD i 0 = ys.getD i 0 then .yield (none, ()) else .done (some false, ())) w := by
 unfold eqRoundW
 simp only [Sem.run_bind, Nat.mul_one, part_u32 w xs i hx, part_u32 w ys i hy, Result.andThen_ok, run_equalIn_int w d 35 .u32 .u32 _ _ Tryd.underlying35]
 by_cases h : xs.getD i 0 = ys.getD i 0
 ·have e : (((xs.getD i 0 : Nat) : Int) == ((ys.getD i 0 : Nat) : Int)) = true := by rw [h]; simp
  rw [e, if_pos h]; rfl
 ·have e : (((xs.getD i 0 : Nat) : Int) == ((ys.getD i 0 : Nat) : Int)) = false := by
   rw [beq_eq_false_iff_ne]
   intro h2
   exact h (by omega)
  rw [e, if_neg h]; rfl
theorem run_eqRoundsW (w : World) (d n : Nat) (xs ys : List Nat) (hx : xs.length = n) (hy : ys.length = n) : ∀ (m k : Nat), k + m = n -> xs.take k = ys.take k →
  (forIn (List.range' k m 1) ((none : Option Bool), ()) (eqRoundW d xs ys)).run Tryd.prog w = .ok (if xs = ys then (none, ()) else (some false, ())) w
 | 0, k, hk, ht => by
  have e : xs = ys := by rw [<- List.take_of_length_le (show xs.length <= k by omega), <- List.take_of_length_le (show ys.length <= k by omega), ht]
  simp [e]
 | m + 1, k, hk, ht => by
  rw [List.range'_succ, List.forIn_cons, Sem.run_bind, run_eqRoundW w d xs ys k _ (by omega) (by omega), Result.andThen_ok]
  by_cases h : xs.getD k 0 = ys.getD k 0
  ·rw [if_pos h]
   have h2 : xs.take (k + 1) = ys.take (k + 1) := by
    rw [List.take_succ_eq_append_getElem (by omega), List.take_succ_eq_append_getElem (by omega), ht]
    simp only [List.getD, List.getElem?_eq_getElem (show k < xs.length by omega), List.getElem?_eq_getElem (show k < ys.length by omega), Option.getD_some] at h
    rw [h]
   exact run_eqRoundsW w d n xs ys hx hy m (k + 1) (by omega) h2
  ·rw [if_neg h, if_neg (fun e => h (by rw [e]))]
   rfl
theorem run_eql_words (w : World) (n : Nat) (t : TypeId) (ht : Tryd.prog.underlying t = some (.array n 35)) (xs ys : List Nat) (hx : xs.length = n) (hy : ys.length = n) :
  (binOp .eql t (.agg (cellsW xs)) (.agg (cellsW ys))).run Tryd.prog w = .ok (.bool (decide (xs = ys))) w := by
 have hq : (Op.equalIn (9998 + 2) t (.agg (cellsW xs)) (.agg (cellsW ys))).run Tryd.prog w = .ok (decide (xs = ys)) w := by
  rw [Op.equalIn]
  simp only [Sem.run_bind, run_underlying ht, Result.andThen_ok, size_u32]
  have hr := run_eqRoundsW w 9998 n xs ys hx hy n 0 (by omega) rfl
  have e : (forIn (m := Sem) [:n] ((none : Option Bool), ()) (eqRoundW 9998 xs ys)) = forIn (List.range' 0 n 1) ((none : Option Bool), ()) (eqRoundW 9998 xs ys) := by
   rw [Std.Legacy.Range.forIn_eq_forIn_range']
   simp [Std.Legacy.Range.size]
  rw [<- e] at hr
  refine (congrArg (fun r => Result.andThen r _) hr).trans ?_
  by_cases h : xs = ys
  ·simp [h]
  ·simp [h]
 rw [run_eql_struct, hq]
 rfl
theorem rot_bits2 (x n : Nat) (hx : x < 4294967296) : bits .or .u32 ((x : Int) / 2 ^ n) (IntKind.u32.wrap ((x : Int) * 2 ^ (32 - n))) = ((rot x n : Nat) : Int) := by
 have e1 : IntKind.u32.wrap ((x : Int) * 2 ^ (32 - n)) = ((x * 2 ^ (32 - n) % 4294967296 : Nat) : Int) := by
  rw [IntKind.wrap_u32, Int.natCast_emod, Int.natCast_mul, Int.natCast_pow]
  rfl
 have e2 : (x : Int) / 2 ^ n = ((x / 2 ^ n : Nat) : Int) := by rw [Int.natCast_ediv, Int.natCast_pow]; rfl
 rw [e1, e2, u32_or_nat _ _ (Nat.lt_of_le_of_lt (Nat.div_le_self _ _) hx) (Nat.mod_lt _ (by decide)), Nat.or_comm]
 rfl
theorem rturn_6 (w : World) (x : Nat) (hx : x < 4294967296) : Calls Tryd.prog 65 #[.int .u32 (x : Int), .int .u64 6] w fun e w' => e = .returned (.int .u32 ((rot x 6 : Nat) : Int)) /\ w' = w := by
 have HR := hid (rot_bits2 x 6 hx)
 go_enter Tryd.func65, Tryd.ntmps65
 go_wp2
 go_ret
 refine ⟨?_, rfl⟩
 rw [<- HR.out]
 rfl
theorem rturn_11 (w : World) (x : Nat) (hx : x < 4294967296) : Calls Tryd.prog 65 #[.int .u32 (x : Int), .int .u64 11] w fun e w' => e = .returned (.int .u32 ((rot x 11 : Nat) : Int)) /\ w' = w := by
 have HR := hid (rot_bits2 x 11 hx)
 go_enter Tryd.func65, Tryd.ntmps65
 go_wp2
 go_ret
 refine ⟨?_, rfl⟩
 rw [<- HR.out]
 rfl
theorem rturn_25 (w : World) (x : Nat) (hx : x < 4294967296) : Calls Tryd.prog 65 #[.int .u32 (x : Int), .int .u64 25] w fun e w' => e = .returned (.int .u32 ((rot x 25 : Nat) : Int)) /\ w' = w := by
 have HR := hid (rot_bits2 x 25 hx)
 go_enter Tryd.func65, Tryd.ntmps65
 go_wp2
 go_ret
 refine ⟨?_, rfl⟩
 rw [<- HR.out]
 rfl
theorem rturn_2 (w : World) (x : Nat) (hx : x < 4294967296) : Calls Tryd.prog 65 #[.int .u32 (x : Int), .int .u64 2] w fun e w' => e = .returned (.int .u32 ((rot x 2 : Nat) : Int)) /\ w' = w := by
 have HR := hid (rot_bits2 x 2 hx)
 go_enter Tryd.func65, Tryd.ntmps65
 go_wp2
 go_ret
 refine ⟨?_, rfl⟩
 rw [<- HR.out]
 rfl
theorem rturn_13 (w : World) (x : Nat) (hx : x < 4294967296) : Calls Tryd.prog 65 #[.int .u32 (x : Int), .int .u64 13] w fun e w' => e = .returned (.int .u32 ((rot x 13 : Nat) : Int)) /\ w' = w := by
 have HR := hid (rot_bits2 x 13 hx)
 go_enter Tryd.func65, Tryd.ntmps65
 go_wp2
 go_ret
 refine ⟨?_, rfl⟩
 rw [<- HR.out]
 rfl
theorem rturn_22 (w : World) (x : Nat) (hx : x < 4294967296) : Calls Tryd.prog 65 #[.int .u32 (x : Int), .int .u64 22] w fun e w' => e = .returned (.int .u32 ((rot x 22 : Nat) : Int)) /\ w' = w := by
 have HR := hid (rot_bits2 x 22 hx)
 go_enter Tryd.func65, Tryd.ntmps65
 go_wp2
 go_ret
 refine ⟨?_, rfl⟩
 rw [<- HR.out]
 rfl
theorem rturn_7 (w : World) (x : Nat) (hx : x < 4294967296) : Calls Tryd.prog 65 #[.int .u32 (x : Int), .int .u64 7] w fun e w' => e = .returned (.int .u32 ((rot x 7 : Nat) : Int)) /\ w' = w := by
 have HR := hid (rot_bits2 x 7 hx)
 go_enter Tryd.func65, Tryd.ntmps65
 go_wp2
 go_ret
 refine ⟨?_, rfl⟩
 rw [<- HR.out]
 rfl
theorem rturn_18 (w : World) (x : Nat) (hx : x < 4294967296) : Calls Tryd.prog 65 #[.int .u32 (x : Int), .int .u64 18] w fun e w' => e = .returned (.int .u32 ((rot x 18 : Nat) : Int)) /\ w' = w := by
 have HR := hid (rot_bits2 x 18 hx)
 go_enter Tryd.func65, Tryd.ntmps65
 go_wp2
 go_ret
 refine ⟨?_, rfl⟩
 rw [<- HR.out]
 rfl
theorem rturn_17 (w : World) (x : Nat) (hx : x < 4294967296) : Calls Tryd.prog 65 #[.int .u32 (x : Int), .int .u64 17] w fun e w' => e = .returned (.int .u32 ((rot x 17 : Nat) : Int)) /\ w' = w := by
 have HR := hid (rot_bits2 x 17 hx)
 go_enter Tryd.func65, Tryd.ntmps65
 go_wp2
 go_ret
 refine ⟨?_, rfl⟩
 rw [<- HR.out]
 rfl
theorem rturn_19 (w : World) (x : Nat) (hx : x < 4294967296) : Calls Tryd.prog 65 #[.int .u32 (x : Int), .int .u64 19] w fun e w' => e = .returned (.int .u32 ((rot x 19 : Nat) : Int)) /\ w' = w := by
 have HR := hid (rot_bits2 x 19 hx)
 go_enter Tryd.func65, Tryd.ntmps65
 go_wp2
 go_ret
 refine ⟨?_, rfl⟩
 rw [<- HR.out]
 rfl
end Go.Proofs.YtcpchhigiohlnaaDoor
