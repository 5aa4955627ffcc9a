/- The law OctetBack, walked: it answers true for all numbers, widths, sizes and lists of bulk at most 1048576, and turns nothing that was there. -/
import Derived.Test.YtiodfpaifkcmoabBackMath
import Derived.Maps.AppendAt
namespace Go.Proofs.Ytiodfpaifkcmoab
open Go.RowKit Go.Shelf
attribute [local go_sem] Oper.semAt_some wide_fn

set_option maxRecDepth 100000 in
set_option maxHeartbeats 4000000 in
theorem back_walk (w : World) (va vb : Value) (la lb : List Int) (x y : Nat) (size d : Int) (ha : HB w va la) (hb : HB w vb lb) (hx : x < 18446744073709551616) (hy : y < 18446744073709551616) (hla : la.length ≤ 1048576) (_hlb : lb.length ≤ 1048576) :
    Calls Try.prog 3 #[.int .u64 (x : Int), .int .u64 (y : Int), va, vb, .int .i64 size, .int .i64 d] w fun e w' => e = .returned (.bool true) ∧ Below w.heap.size w w' := by
  obtain ⟨n, HN⟩ : ∃ n, Hid (wd d = n) := ⟨_, rfl⟩
  have hn : 1 ≤ n ∧ n ≤ 8 := by
    rw [← HN.out]
    unfold wd
    split
    · omega
    · split
      · omega
      · split <;> omega
  obtain ⟨hn1, hn8⟩ := hn
  have HA := hid ha
  have HBb := hid hb
  obtain ⟨pa, ca, ea, _, hca⟩ := ha.open
  obtain ⟨pb, cb, eb, _, hcb⟩ := hb.open
  clear ha hb
  subst ea eb
  obtain ⟨cx, HCX⟩ : ∃ cx, Hid (x % 256 ^ n = cx) := ⟨_, rfl⟩
  obtain ⟨cy, HCY⟩ : ∃ cy, Hid (y % 256 ^ n = cy) := ⟨_, rfl⟩
  obtain ⟨bx, HBX⟩ : ∃ bx, Hid (bigL n x = bx) := ⟨_, rfl⟩
  obtain ⟨by', HBY⟩ : ∃ by', Hid (bigL n y = by') := ⟨_, rfl⟩
  have hbxl : bx.length = n := by rw [← HBX.out, bigL_length]
  have hbyl : by'.length = n := by rw [← HBY.out, bigL_length]
  have HBXb : Hid (∀ z ∈ bx, 0 ≤ z ∧ z < 256) := by rw [← HBX.out]; exact bigL_byt _ _
  have HBYb : Hid (∀ z ∈ by', 0 ≤ z ∧ z < 256) := by rw [← HBY.out]; exact bigL_byt _ _
  have HXL := hid hbxl
  have HYL := hid hbyl
  have HLT : Hid (cx < cy → ltL bx by' = true) := by
    rw [← HCX.out, ← HCY.out, ← HBX.out, ← HBY.out]
    exact ltL_big n x y
  have C1 : Hid (∀ W, Calls Try.prog 9 #[.int .u64 (x : Int), .int .i64 d] W fun e W' => e = .returned (.int .u64 (cx : Int)) ∧ W' = W) := fun W => by
    have := lcut_any W x hx d
    rw [HN.out, HCX.out] at this
    exact this
  have C2 : Hid (∀ W, Calls Try.prog 9 #[.int .u64 (y : Int), .int .i64 d] W fun e W' => e = .returned (.int .u64 (cy : Int)) ∧ W' = W) := fun W => by
    have := lcut_any W y hy d
    rw [HN.out, HCY.out] at this
    exact this
  have C3 : Hid (∀ W, Calls Try.prog 10 #[.int .i64 d] W fun e W' => e = .returned (.int .i64 (n : Int)) ∧ W' = W) := fun W => by
    have := lwidth_any W d
    rw [HN.out] at this
    exact this
  have C6 : Hid (∀ W, Calls Try.prog 7 #[.int .u64 (x : Int), .int .i64 d] W fun e W' => ∃ v', e = .returned v' ∧ W'.ownsRow W.heap.size 5 1 v' n (bx.map (Value.int .u8)) ∧ Below W.heap.size W W') := fun W => by
    have := lbig_any W x hx d
    rw [HN.out, HBX.out] at this
    exact this
  have C7 : Hid (∀ W, Calls Try.prog 7 #[.int .u64 (y : Int), .int .i64 d] W fun e W' => ∃ v', e = .returned v' ∧ W'.ownsRow W.heap.size 5 1 v' n (by'.map (Value.int .u8)) ∧ Below W.heap.size W W') := fun W => by
    have := lbig_any W y hy d
    rw [HN.out, HBY.out] at this
    exact this
  have C8 : Hid (∀ W v, HB W v bx → Calls Try.prog 8 #[v, .int .i64 d] W fun e W' => e = .returned (.tuple #[.int .u64 (cx : Int), .int .i64 0]) ∧ W' = W) := fun W v hv => by
    have := lsmall_any W v bx hv d
    rw [HN.out, ← HBX.out, (small_big n x).1, (small_big n x).2, HCX.out] at this
    exact this
  obtain ⟨sn, HSN⟩ : ∃ sn, Hid (smallNo n la = sn) := ⟨_, rfl⟩
  obtain ⟨se, HSE⟩ : ∃ se, Hid (smallErr n la = se) := ⟨_, rfl⟩
  have hsn : sn < 18446744073709551616 := by rw [← HSN.out]; exact smallNo_lt hn8 HA.out.2
  have HOK : Hid (se = 0 → bigL n sn = la) := by rw [← HSN.out, ← HSE.out]; exact fun h => small_ok h HA.out.2
  have C9 : Hid (∀ W, HB W (.slice pa la.length ca) la → Calls Try.prog 8 #[.slice pa la.length ca, .int .i64 d] W fun e W' => e = .returned (.tuple #[.int .u64 (sn : Int), .int .i64 se]) ∧ W' = W) := fun W hv => by
    have := lsmall_any W _ la hv d
    rw [HN.out, HSN.out, HSE.out] at this
    exact this
  have C10 : Hid (∀ W, se = 0 → Calls Try.prog 7 #[.int .u64 (sn : Int), .int .i64 d] W fun e W' => ∃ v', e = .returned v' ∧ W'.ownsRow W.heap.size 5 1 v' n (la.map (Value.int .u8)) ∧ Below W.heap.size W W' ∧ la.length = n) := fun W h => by
    have := lbig_any W sn hsn d
    rw [HN.out, HOK.out h] at this
    refine this.mono ?_
    rintro e w' ⟨v', rfl, h1, h2⟩
    exact ⟨v', rfl, h1, h2, by rw [← HOK.out h, bigL_length]⟩
  clear hbxl hbyl hx hy hsn
  refine (callsIn_wide (n := 3)).1 ?_
  refine callsIn_of_wp_marks Try.func3 rfl trivial ?_ rfl
  simp only [Try.ntmps3, List.size_toArray, List.length_cons, List.length_nil, Nat.reduceAdd, Nat.reduceSub, Array.replicate_succ, Array.replicate_zero, List.push_toArray, List.append_toArray, List.nil_append, List.cons_append]
  gi_wp2
  refine callsIn_wide.2 ((C6.out w).mono ?_)
  rintro e w1 ⟨v1, rfl, ho1, hB1⟩
  obtain ⟨p1, c1, e1⟩ := own_slc1 ho1
  subst e1
  have L1 := hid (HB.of_own (l := bx) (by rw [HXL.out]; exact ho1) HBXb.out)
  have B1 := hid hB1
  clear ho1 hB1
  gi_wp2
  refine callsIn_wide.2 ((C8.out w1 _ L1.out).mono ?_)
  rintro e w' ⟨rfl, hw⟩
  have hw' := hw.symm
  subst hw'
  clear hw
  have q0 : ((cx : Int) == (cx : Int)) = true := by simp
  gi_wp2
  refine callsIn_wide.2 ((C1.out w1).mono ?_)
  rintro e w' ⟨rfl, hw⟩
  have hw' := hw.symm
  subst hw'
  clear hw
  gi_wp2
  refine callsIn_wide.2 ((C3.out w1).mono ?_)
  rintro e w' ⟨rfl, hw⟩
  have hw' := hw.symm
  subst hw'
  clear hw
  gi_wp2
  refine callsIn_wide.2 ((C1.out w1).mono ?_)
  rintro e w' ⟨rfl, hw⟩
  have hw' := hw.symm
  subst hw'
  clear hw
  gi_wp2
  refine callsIn_wide.2 ((C2.out w1).mono ?_)
  rintro e w' ⟨rfl, hw⟩
  have hw' := hw.symm
  subst hw'
  clear hw
  have HS := hid (ltL_self bx)
  by_cases hlt : cx < cy
  -- the first is less: Less says so
  have hlt' : (cx : Int) < (cy : Int) := by omega
  gi_wp2
  refine callsIn_wide.2 ((C7.out w1).mono ?_)
  rintro e w2 ⟨v2, rfl, ho2, hB2⟩
  have CS := less_any w2 _ _ bx by' (L1.out.below hB2) (HB.of_own (l := by') (by rw [HYL.out]; exact ho2) HBYb.out)
  rw [HLT.out hlt] at CS
  have CS1 := hid CS
  have L2 := hid (L1.out.below hB2)
  have B2 := hid (B1.out.trans (hB2.mono B1.out.size))
  obtain ⟨p2, c2, e2⟩ := own_slc1 ho2
  subst e2
  clear CS ho2 hB2 L1 B1
  gi_wp2
  refine callsIn_wide.2 (CS1.out.mono ?_)
  rintro e w' ⟨rfl, hw⟩
  have hw' := hw.symm
  subst hw'
  clear hw CS1 hlt hlt'
  gi_wp2
  rotate_left
  have hlt' : ¬ ((cx : Int) < (cy : Int)) := by omega
  gi_wp2
  clear hlt hlt'
  obtain ⟨w2, rfl⟩ : ∃ w2, w2 = w1 := ⟨_, rfl⟩
  have L2 := L1
  have B2 := B1
  clear L1 B1
  all_goals have CS := less_any w2 _ _ bx bx L2.out L2.out
  all_goals rw [HS.out] at CS
  all_goals have CS2 := hid CS
  all_goals clear CS
  all_goals refine callsIn_wide.2 (CS2.out.mono ?_)
  all_goals rintro e w' ⟨rfl, hw⟩
  all_goals have hw' := hw.symm
  all_goals subst hw'
  all_goals clear hw CS2 L2
  all_goals gi_wp2
  -- small of a
  all_goals refine callsIn_wide.2 ((C9.out w2 (HA.out.below B2.out)).mono ?_)
  all_goals rintro e w' ⟨rfl, hw⟩
  all_goals have hw' := hw.symm
  all_goals subst hw'
  all_goals clear hw
  all_goals by_cases hse : se = 0
  all_goals by_cases hsz : 1 ≤ size
  subst hse
  have C11 := hid (C10.out w2 rfl)
  gi_wp2
  refine callsIn_wide.2 (C11.out.mono ?_)
  rintro e w3 ⟨v3, rfl, ho3, hB3, hln⟩
  have B3 := B2.out.trans (hB3.mono B2.out.size)
  have S3 := sameBytes_any w3 v3 _ la la (HB.of_own (by rw [hln]; exact ho3) HA.out.2) (HA.out.below B3)
  rw [decide_eq_true rfl] at S3
  have S4 := hid S3
  have B3' := hid B3
  clear C11 ho3 hB3 hln B3 S3 B2
  gi_wp2
  refine callsIn_wide.2 (S4.out.mono ?_)
  rintro e w4 ⟨rfl, hD4⟩
  have B4 := hid (B3'.out.trans ((hD4.below _).mono B3'.out.size))
  clear hD4 S4 B3'
  gi_wp2
  rotate_left
  subst hse
  have C11 := hid (C10.out w2 rfl)
  gi_wp2
  refine callsIn_wide.2 (C11.out.mono ?_)
  rintro e w3 ⟨v3, rfl, ho3, hB3, hln⟩
  have B3 := B2.out.trans (hB3.mono B2.out.size)
  have S3 := sameBytes_any w3 v3 _ la la (HB.of_own (by rw [hln]; exact ho3) HA.out.2) (HA.out.below B3)
  rw [decide_eq_true rfl] at S3
  have S4 := hid S3
  have B3' := hid B3
  clear C11 ho3 hB3 hln B3 S3 B2
  gi_wp2
  refine callsIn_wide.2 (S4.out.mono ?_)
  rintro e w4 ⟨rfl, hD4⟩
  have B4 := hid (B3'.out.trans ((hD4.below _).mono B3'.out.size))
  clear hD4 S4 B3'
  gi_wp2
  rotate_left
  have hse' : (se == 0) = false := by simpa using hse
  obtain ⟨w4, rfl⟩ : ∃ w4, w4 = w2 := ⟨_, rfl⟩
  have B4 := B2
  clear B2 hse
  gi_wp2
  rotate_left
  have hse' : (se == 0) = false := by simpa using hse
  obtain ⟨w4, rfl⟩ : ∃ w4, w4 = w2 := ⟨_, rfl⟩
  have B4 := B2
  clear B2 hse
  gi_wp2
  rotate_left
  subst hse
  have C11 := hid (C10.out w2 rfl)
  gi_wp2
  refine callsIn_wide.2 (C11.out.mono ?_)
  rintro e w3 ⟨v3, rfl, ho3, hB3, hln⟩
  have B3 := B2.out.trans (hB3.mono B2.out.size)
  have S3 := sameBytes_any w3 v3 _ la la (HB.of_own (by rw [hln]; exact ho3) HA.out.2) (HA.out.below B3)
  rw [decide_eq_true rfl] at S3
  have S4 := hid S3
  have B3' := hid B3
  clear C11 ho3 hB3 hln B3 S3 B2
  gi_wp2
  refine callsIn_wide.2 (S4.out.mono ?_)
  rintro e w4 ⟨rfl, hD4⟩
  have B4 := hid (B3'.out.trans ((hD4.below _).mono B3'.out.size))
  clear hD4 S4 B3'
  gi_wp2
  rotate_left
  subst hse
  have C11 := hid (C10.out w2 rfl)
  gi_wp2
  refine callsIn_wide.2 (C11.out.mono ?_)
  rintro e w3 ⟨v3, rfl, ho3, hB3, hln⟩
  have B3 := B2.out.trans (hB3.mono B2.out.size)
  have S3 := sameBytes_any w3 v3 _ la la (HB.of_own (by rw [hln]; exact ho3) HA.out.2) (HA.out.below B3)
  rw [decide_eq_true rfl] at S3
  have S4 := hid S3
  have B3' := hid B3
  clear C11 ho3 hB3 hln B3 S3 B2
  gi_wp2
  refine callsIn_wide.2 (S4.out.mono ?_)
  rintro e w4 ⟨rfl, hD4⟩
  have B4 := hid (B3'.out.trans ((hD4.below _).mono B3'.out.size))
  clear hD4 S4 B3'
  gi_wp2
  rotate_left
  have hse' : (se == 0) = false := by simpa using hse
  obtain ⟨w4, rfl⟩ : ∃ w4, w4 = w2 := ⟨_, rfl⟩
  have B4 := B2
  clear B2 hse
  gi_wp2
  rotate_left
  have hse' : (se == 0) = false := by simpa using hse
  obtain ⟨w4, rfl⟩ : ∃ w4, w4 = w2 := ⟨_, rfl⟩
  have B4 := B2
  clear B2 hse
  gi_wp2
  rotate_left
  · obtain ⟨sz, hszn⟩ : ∃ sz : Nat, size = sz := ⟨size.toNat, by omega⟩
    subst hszn
    have hsz1 : 1 ≤ sz := by omega
    have CC := hid (chunks_any w4 _ la sz (HA.out.below B4.out) (by omega) hsz1)
    refine callsIn_wide.2 (CC.out.mono ?_)
    rintro e w5 ⟨hv, b5, b3, rfl, hbox, hD, hB5⟩
    have HBx := hid hbox
    have HD := hid hD
    have B5 := hid (B4.out.trans (hB5.mono B4.out.size))
    have hs5 := hB5.size
    have hs4 := B4.out.size
    clear hbox hD hB5 CC
    have qf := eql_func_nil
    gi_wp2
    clear qf
    obtain ⟨W6, hW6⟩ : ∃ W6, Hid (w5.alloc (.cells #[.slice none 0 0] 34) = W6) := ⟨_, rfl⟩
    rw [hW6.out]
    have hS6 : W6.heap.size = w5.heap.size + 1 := by rw [← hW6.out]; simp
    have HK6 : Hid (KD (chD hv b5 b3) w5 W6) := by
      rw [← hW6.out]
      exact ⟨by simp, fun i hi => Below.heap_alloc w5 _ i (HD.out i hi).2⟩
    have B6 : Hid (Below w.heap.size w W6) := by rw [← hW6.out]; exact B5.out.alloc (by omega) _
    have X6 : Hid (Boxed W6 w5.heap.size 34 (.slice none 0 0)) := by rw [← hW6.out]; exact Boxed.new w5 _ _
    apply range_fit rfl (by decide) (gf := 36) (lb := #[.pointer (some ⟨b5, 0, none⟩), .pointer (some ⟨b3, 0, none⟩)]) rfl trivial (enters_of Try.func36 (by kernel_rfl) rfl)
      (chunks_iter (3 - 1) W6 hv b5 b3 la sz hsz1 (by omega) (HBx.out.kept HK6.out) (fun i hi => by have := (HD.out i hi).2; omega)) (KD.refl _ _) (fun i hi => by have := (HD.out i hi).2; omega) (fun _ _ => rfl)
      (fun k W => ∃ v, Boxed W w5.heap.size 34 v ∧ PW W6.heap.size W v (pcsL la sz k) ∧ Below w.heap.size w W ∧ W6.heap.size ≤ W.heap.size)
      (fun _ _ => False)
      (fun s A C row hs hg hr => by obtain ⟨v, h1, h2, h3, h4⟩ := hs; exact ⟨v, box_from h1 hg hr, h2.from hg hr, below_from h3 (Nat.le_refl _) hg hr (by omega), Nat.le_trans h4 hg.size⟩)
      (fun _ _ _ _ hs _ _ => hs)
      (fun k v _ A C row hs hg hr => row_from hs hg hr)
      ⟨_, X6.out, PW.nil _ _, B6.out, Nat.le_refl _⟩
    case hassign =>
      intro l k v W K hK
      gi_wp2
      exact hK
    case hstop =>
      intro d c W _ h _
      exact h.elim
    case hbody =>
      rintro l k v W hl - ⟨vp, x1, ⟨xs, hrow, hel⟩, x3, x4⟩ hf hk
      obtain ⟨i0, hi, hz0, hz1, hz2⟩ := info_parts info_bytes
      have hkl : k < 1048576 := Nat.lt_of_lt_of_le hk (Nat.le_trans (chN_le _ _ hsz1) hla)
      obtain ⟨pv, cv, ev⟩ := own_slc1 hf
      obtain ⟨pp, cp, ep⟩ := own_slc1 hrow
      subst ev ep
      have PL := hid (pcsL_length la sz k)
      have HROW := hid hrow
      have HEL := hid hel
      have HF := hid hf
      have X1 := hid x1
      have X3 := hid x3
      have c1 := x1.cell
      have HPB := hid (chPiece_byt HA.out.2 sz k)
      obtain ⟨m, HM⟩ : ∃ m, Hid ((chPiece la sz k).length = m) := ⟨_, rfl⟩
      rw [HM.out]
      obtain ⟨kk, HKK⟩ : ∃ kk, Hid ((pcsL la sz k).length = kk) := ⟨_, rfl⟩
      have hkk : kk = k := by rw [← HKK.out]; exact PL.out
      rw [HKK.out] at c1
      have HR2 : Hid (W.ownsRow W6.heap.size 23 1 (.slice pp kk cp) kk xs) := by rw [← HKK.out]; exact HROW.out
      have X2 : Hid (Boxed W w5.heap.size 34 (.slice pp kk cp)) := by rw [← HKK.out]; exact X1.out
      have HF2 : Hid (W.ownsRow W6.heap.size 5 1 (.slice pv m cv) (chPiece la sz k).length ((chPiece la sz k).map (Value.int .u8))) := by rw [← HM.out]; exact HF.out
      clear hrow hel hf x1 x3 hl hkk
      have hkk : kk < 1048576 := by rw [← HKK.out, PL.out]; exact hkl
      gi_wp2_with (gi_at_builtin; refine wpListIn_append_own _ rfl _ _ 34 rfl W6.heap.size 23 i0 (.slice none 0 0) 1 24 Try.underlying34 hi hz0 hz1 hz2 rfl (by decide) _ _ xs rfl (HR2.out.alloc _) ⟨W.heap.size, 0, none⟩ 1 1 [.slice pv m cv] rfl rfl (cell_one_new _ _ _) (by simp [Value.oneCell']) ?b1 ?b2 ?b3 ?_)
      case b1 => unfold maxLen; omega
      case b2 => omega
      case b3 => simp; omega
      intro v' w1 hown' hgrow _
      obtain ⟨g', cap', rfl⟩ := ownsRow_succ hown'
      rw [← hS6] at hown'
      have P1 : (w1.setCell ⟨w5.heap.size, 0, none⟩ (.slice (some ⟨g', 0, none⟩) (kk + 1) cap')).heap.size = w1.heap.size := by simp
      have PP := PW.push (ls := pcsL la sz k) (by rw [HKK.out]; exact HR2.out) HEL.out HF2.out HPB.out X2.out (by rw [HKK.out]; exact hown') hgrow
      rw [← pcsL_succ] at PP
      obtain ⟨hp1, hp2, hp3⟩ := PP
      have hc1 := hp2.cell
      have hf1 := hp2.frozen
      have HP1 := hid hp1
      have HP3 := hid hp3
      have hwsz : W.heap.size + 1 ≤ w1.heap.size := by have := hgrow.size; simpa using this
      have lt5 := HR2.out.lt
      have FK : Hid (KeepsFrom W6.heap.size W (w1.setCell ⟨w5.heap.size, 0, none⟩ (.slice (some ⟨g', 0, none⟩) (kk + 1) cap'))) := by
        have a1 := KeepsOthers.alloc W (.cells #[.slice pv m cv] 23)
        have a2 : KeepsOthers (W.alloc (.cells #[.slice pv m cv] 23)) w1 := KeepsOthers.of_grownBy hgrow fun j o ej hj => by
          rcases (HR2.out.alloc (.cells #[.slice pv m cv] 23)).2 with ⟨e0, _⟩ | ⟨g, cap, cur, e0, _, hgb, _⟩
          · rw [e0] at ej; simp [Value.ownBlock] at ej
          · rw [e0] at ej
            obtain rfl : g = j := by simpa [Value.ownBlock] using ej
            rw [hgb] at hj; cases hj; rfl
        exact ((a1.trans a2).trans (KeepsOthers.setCell _ _ _)).from _
      have FD : Hid (KD (chD hv b5 b3) W (w1.setCell ⟨w5.heap.size, 0, none⟩ (.slice (some ⟨g', 0, none⟩) (kk + 1) cap'))) := by
        refine ⟨by simp; omega, fun i hi => ?_⟩
        have hi5 := (HD.out i hi).2
        rw [heap_setCell_other _ _ _ _ (by simp; omega), hgrow.block i (by simp; omega) (fun e => by have := (lt5 i e.symm).1; omega)]
        exact Below.heap_alloc W _ i (by omega)
      have FB : Hid (Below w.heap.size w (w1.setCell ⟨w5.heap.size, 0, none⟩ (.slice (some ⟨g', 0, none⟩) (kk + 1) cap'))) := by
        have b1 := X3.out.alloc X3.out.size (.cells #[.slice pv m cv] 23)
        have b2 := b1.grown hgrow b1.size (fun j e => by have := (lt5 j e).1; omega)
        exact b2.setCell (p := ⟨w5.heap.size, 0, none⟩) (by show w.heap.size ≤ w5.heap.size; omega) _
      clear hown' hgrow hp1 hp2 hp3 c1 lt5
      gi_wp2
      exact ⟨FK.out, FD.out, _, HP3.out, HP1.out, FB.out, by rw [P1]; omega⟩
    case hdone =>
      rintro dd W hdd ⟨vp, x1, x2, x3, x4⟩ hK
      have c1 := x1.cell
      have FL := pcsL_all la sz hsz1
      have JN := join_any W vp _ x2.hl (by rw [FL]; omega)
      rw [FL] at JN
      have JN2 := hid JN
      have X3 := hid x3
      have HKD := hid hK
      obtain ⟨d, hdd2⟩ : ∃ d, d = dd := ⟨_, rfl⟩
      subst hdd2
      have hd : w.heap.size ≤ d := by omega
      obtain ⟨pp, cp, ep⟩ := x2.hl.open'
      clear x1 x2 x3 hK JN FL
      subst ep
      gi_wp2
      refine callsIn_wide.2 (JN2.out.mono ?_)
      rintro e w7 ⟨vj, rfl, hoj, hB7⟩
      have B7 := hid (X3.out.trans (hB7.mono X3.out.size))
      have K7 := hid ((hB7.block d (Array.getElem?_eq_some_iff.1 HKD.out).1).trans HKD.out)
      have SJ := sameBytes_any w7 vj _ la la (HB.of_own hoj HA.out.2) (HA.out.below B7.out)
      rw [decide_eq_true rfl] at SJ
      have SJ2 := hid SJ
      obtain ⟨pj, cj, ej⟩ := own_slc1 hoj
      subst ej
      clear hoj hB7 SJ JN2
      gi_wp2
      refine callsIn_wide.2 (SJ2.out.mono ?_)
      rintro e wq ⟨rfl, hDq⟩
      have Bq := hid (B7.out.trans ((hDq.below _).mono B7.out.size))
      have Kq := hid (((hDq.below w7.heap.size).block d (Array.getElem?_eq_some_iff.1 K7.out).1).trans K7.out)
      clear hDq SJ2 B7 K7 X3 HKD
      gi_wp2
      have CX := hid (xor_any wq _ _ la lb (HA.out.below Bq.out) (HBb.out.below Bq.out) (by omega))
      refine callsIn_wide.2 (CX.out.mono ?_)
      rintro e w6 ⟨vc, rfl, hoc, hB6⟩
      have B6 := hid (Bq.out.trans (hB6.mono Bq.out.size))
      have K6 := hid ((hB6.block d (Array.getElem?_eq_some_iff.1 Kq.out).1).trans Kq.out)
      have OC := hid hoc
      obtain ⟨pc, cc, ec⟩ := own_slc1 hoc
      subst ec
      clear hoc hB6 CX
      by_cases hll : la.length = lb.length
      · have e1 : xorE la lb = 0 := if_pos hll
        have e2 : xorA la lb = xorL la lb := if_pos hll
        have e3 := xorL_length hll
        rw [e2, e3] at OC
        rw [e1, e2, e3]
        have CD := xor_any w6 (.slice pc la.length cc) _ (xorL la lb) lb (HB.of_own (by rw [e3]; exact OC.out) (xorL_byt HA.out.2 HBb.out.2)) (HBb.out.below B6.out) (by omega)
        rw [show xorE (xorL la lb) lb = 0 from if_pos (by omega), show xorA (xorL la lb) lb = xorL (xorL la lb) lb from if_pos (by omega), xorL_back hll HA.out.2 HBb.out.2] at CD
        have CD2 := hid CD
        have hq : ((la.length : Int) == (lb.length : Int)) = true := by simp; omega
        clear CD e1 e2 e3 hll
        gi_wp2
        refine callsIn_wide.2 (CD2.out.mono ?_)
        rintro e w7 ⟨vd, rfl, hod, hB7⟩
        have B7 := hid (B6.out.trans (hB7.mono B6.out.size))
        have K7 := hid ((hB7.block d (Array.getElem?_eq_some_iff.1 K6.out).1).trans K6.out)
        have S7 := sameBytes_any w7 vd _ la la (HB.of_own hod HA.out.2) (HA.out.below B7.out)
        rw [decide_eq_true rfl] at S7
        have S8 := hid S7
        obtain ⟨pd, cd, ed⟩ := own_slc1 hod
        subst ed
        clear hod hB7 S7 CD2
        gi_wp2
        refine callsIn_wide.2 (S8.out.mono ?_)
        rintro e w8 ⟨rfl, hD8⟩
        have B8 := hid (B7.out.trans ((hD8.below _).mono B7.out.size))
        have K8 := hid (((hD8.below w7.heap.size).block d (Array.getElem?_eq_some_iff.1 K7.out).1).trans K7.out)
        clear hD8 S8
        gi_wp2
        refine ⟨by simp, .inl ⟨_, _, rfl, run_takeDeferred K8.out, ?_⟩⟩
        exact ⟨_, results_tmp rfl _ _ _, rfl, B8.out.trans (belowK_b (w := w) (Nat.le_refl _) w8 d _ _ hd K8.out rfl rfl)⟩
      · have e1 : xorE la lb = 12 := if_neg hll
        have e2 : xorA la lb = [] := if_neg hll
        rw [e2] at OC
        rw [e1, e2]
        have CD := xor_any w6 (.slice pc 0 cc) _ [] lb (HB.of_own OC.out (by simp)) (HBb.out.below B6.out) (by simp)
        obtain ⟨ge, HGE⟩ : ∃ ge, Hid (xorE [] lb = ge) := ⟨_, rfl⟩
        rw [HGE.out] at CD
        have CD2 := hid CD
        have hq : ((la.length : Int) == (lb.length : Int)) = false := by simp; omega
        have hl0 : ([] : List Int).length = 0 := rfl
        rw [hl0]
        clear CD e1 e2 hll hl0
        gi_wp2
        refine callsIn_wide.2 (CD2.out.mono ?_)
        rintro e w7 ⟨vd, rfl, hod, hB7⟩
        have B7 := hid (B6.out.trans (hB7.mono B6.out.size))
        have K7 := hid ((hB7.block d (Array.getElem?_eq_some_iff.1 K6.out).1).trans K6.out)
        clear hod hB7 CD2
        gi_wp2
        all_goals first | exact (undef_not_bool (by assumption)).elim | (refine ⟨by simp, .inl ⟨_, _, rfl, run_takeDeferred K7.out, ?_⟩⟩; exact ⟨_, results_tmp rfl _ _ _, rfl, B7.out.trans (belowK_b (w := w) (Nat.le_refl _) w7 d _ _ hd K7.out rfl rfl)⟩)
  · have CX := hid (xor_any w4 _ _ la lb (HA.out.below B4.out) (HBb.out.below B4.out) (by omega))
    refine callsIn_wide.2 (CX.out.mono ?_)
    rintro e w6 ⟨vc, rfl, hoc, hB6⟩
    have B6 := hid (B4.out.trans (hB6.mono B4.out.size))
    have OC := hid hoc
    obtain ⟨pc, cc, ec⟩ := own_slc1 hoc
    subst ec
    clear hoc hB6 CX
    by_cases hll : la.length = lb.length
    · have e1 : xorE la lb = 0 := if_pos hll
      have e2 : xorA la lb = xorL la lb := if_pos hll
      have e3 := xorL_length hll
      rw [e2, e3] at OC
      rw [e1, e2, e3]
      have CD := xor_any w6 (.slice pc la.length cc) _ (xorL la lb) lb (HB.of_own (by rw [e3]; exact OC.out) (xorL_byt HA.out.2 HBb.out.2)) (HBb.out.below B6.out) (by omega)
      rw [show xorE (xorL la lb) lb = 0 from if_pos (by omega), show xorA (xorL la lb) lb = xorL (xorL la lb) lb from if_pos (by omega), xorL_back hll HA.out.2 HBb.out.2] at CD
      have CD2 := hid CD
      have hq : ((la.length : Int) == (lb.length : Int)) = true := by simp; omega
      clear CD e1 e2 e3 hll
      gi_wp2
      refine callsIn_wide.2 (CD2.out.mono ?_)
      rintro e w7 ⟨vd, rfl, hod, hB7⟩
      have B7 := hid (B6.out.trans (hB7.mono B6.out.size))
      have S7 := sameBytes_any w7 vd _ la la (HB.of_own hod HA.out.2) (HA.out.below B7.out)
      rw [decide_eq_true rfl] at S7
      have S8 := hid S7
      obtain ⟨pd, cd, ed⟩ := own_slc1 hod
      subst ed
      clear hod hB7 S7 CD2
      gi_wp2
      refine callsIn_wide.2 (S8.out.mono ?_)
      rintro e w8 ⟨rfl, hD8⟩
      have B8 := hid (B7.out.trans ((hD8.below _).mono B7.out.size))
      clear hD8 S8
      gi_wp2
      exact ⟨_, results_tmp rfl _ _ _, rfl, B8.out⟩
    · have e1 : xorE la lb = 12 := if_neg hll
      have e2 : xorA la lb = [] := if_neg hll
      rw [e2] at OC
      rw [e1, e2]
      have CD := xor_any w6 (.slice pc 0 cc) _ [] lb (HB.of_own OC.out (by simp)) (HBb.out.below B6.out) (by simp)
      obtain ⟨ge, HGE⟩ : ∃ ge, Hid (xorE [] lb = ge) := ⟨_, rfl⟩
      rw [HGE.out] at CD
      have CD2 := hid CD
      have hq : ((la.length : Int) == (lb.length : Int)) = false := by simp; omega
      have hl0 : ([] : List Int).length = 0 := rfl
      rw [hl0]
      clear CD e1 e2 hll hl0
      gi_wp2
      refine callsIn_wide.2 (CD2.out.mono ?_)
      rintro e w7 ⟨vd, rfl, hod, hB7⟩
      have B7 := hid (B6.out.trans (hB7.mono B6.out.size))
      clear hod hB7 CD2
      gi_wp2
      all_goals first | exact (undef_not_bool (by assumption)).elim | exact ⟨_, results_tmp rfl _ _ _, rfl, B7.out⟩
  · obtain ⟨sz, hszn⟩ : ∃ sz : Nat, size = sz := ⟨size.toNat, by omega⟩
    subst hszn
    have hsz1 : 1 ≤ sz := by omega
    have CC := hid (chunks_any w4 _ la sz (HA.out.below B4.out) (by omega) hsz1)
    refine callsIn_wide.2 (CC.out.mono ?_)
    rintro e w5 ⟨hv, b5, b3, rfl, hbox, hD, hB5⟩
    have HBx := hid hbox
    have HD := hid hD
    have B5 := hid (B4.out.trans (hB5.mono B4.out.size))
    have hs5 := hB5.size
    have hs4 := B4.out.size
    clear hbox hD hB5 CC
    have qf := eql_func_nil
    gi_wp2
    clear qf
    obtain ⟨W6, hW6⟩ : ∃ W6, Hid (w5.alloc (.cells #[.slice none 0 0] 34) = W6) := ⟨_, rfl⟩
    rw [hW6.out]
    have hS6 : W6.heap.size = w5.heap.size + 1 := by rw [← hW6.out]; simp
    have HK6 : Hid (KD (chD hv b5 b3) w5 W6) := by
      rw [← hW6.out]
      exact ⟨by simp, fun i hi => Below.heap_alloc w5 _ i (HD.out i hi).2⟩
    have B6 : Hid (Below w.heap.size w W6) := by rw [← hW6.out]; exact B5.out.alloc (by omega) _
    have X6 : Hid (Boxed W6 w5.heap.size 34 (.slice none 0 0)) := by rw [← hW6.out]; exact Boxed.new w5 _ _
    apply range_fit rfl (by decide) (gf := 36) (lb := #[.pointer (some ⟨b5, 0, none⟩), .pointer (some ⟨b3, 0, none⟩)]) rfl trivial (enters_of Try.func36 (by kernel_rfl) rfl)
      (chunks_iter (3 - 1) W6 hv b5 b3 la sz hsz1 (by omega) (HBx.out.kept HK6.out) (fun i hi => by have := (HD.out i hi).2; omega)) (KD.refl _ _) (fun i hi => by have := (HD.out i hi).2; omega) (fun _ _ => rfl)
      (fun k W => ∃ v, Boxed W w5.heap.size 34 v ∧ PW W6.heap.size W v (pcsL la sz k) ∧ Below w.heap.size w W ∧ W6.heap.size ≤ W.heap.size)
      (fun _ _ => False)
      (fun s A C row hs hg hr => by obtain ⟨v, h1, h2, h3, h4⟩ := hs; exact ⟨v, box_from h1 hg hr, h2.from hg hr, below_from h3 (Nat.le_refl _) hg hr (by omega), Nat.le_trans h4 hg.size⟩)
      (fun _ _ _ _ hs _ _ => hs)
      (fun k v _ A C row hs hg hr => row_from hs hg hr)
      ⟨_, X6.out, PW.nil _ _, B6.out, Nat.le_refl _⟩
    case hassign =>
      intro l k v W K hK
      gi_wp2
      exact hK
    case hstop =>
      intro d c W _ h _
      exact h.elim
    case hbody =>
      rintro l k v W hl - ⟨vp, x1, ⟨xs, hrow, hel⟩, x3, x4⟩ hf hk
      obtain ⟨i0, hi, hz0, hz1, hz2⟩ := info_parts info_bytes
      have hkl : k < 1048576 := Nat.lt_of_lt_of_le hk (Nat.le_trans (chN_le _ _ hsz1) hla)
      obtain ⟨pv, cv, ev⟩ := own_slc1 hf
      obtain ⟨pp, cp, ep⟩ := own_slc1 hrow
      subst ev ep
      have PL := hid (pcsL_length la sz k)
      have HROW := hid hrow
      have HEL := hid hel
      have HF := hid hf
      have X1 := hid x1
      have X3 := hid x3
      have c1 := x1.cell
      have HPB := hid (chPiece_byt HA.out.2 sz k)
      obtain ⟨m, HM⟩ : ∃ m, Hid ((chPiece la sz k).length = m) := ⟨_, rfl⟩
      rw [HM.out]
      obtain ⟨kk, HKK⟩ : ∃ kk, Hid ((pcsL la sz k).length = kk) := ⟨_, rfl⟩
      have hkk : kk = k := by rw [← HKK.out]; exact PL.out
      rw [HKK.out] at c1
      have HR2 : Hid (W.ownsRow W6.heap.size 23 1 (.slice pp kk cp) kk xs) := by rw [← HKK.out]; exact HROW.out
      have X2 : Hid (Boxed W w5.heap.size 34 (.slice pp kk cp)) := by rw [← HKK.out]; exact X1.out
      have HF2 : Hid (W.ownsRow W6.heap.size 5 1 (.slice pv m cv) (chPiece la sz k).length ((chPiece la sz k).map (Value.int .u8))) := by rw [← HM.out]; exact HF.out
      clear hrow hel hf x1 x3 hl hkk
      have hkk : kk < 1048576 := by rw [← HKK.out, PL.out]; exact hkl
      gi_wp2_with (gi_at_builtin; refine wpListIn_append_own _ rfl _ _ 34 rfl W6.heap.size 23 i0 (.slice none 0 0) 1 24 Try.underlying34 hi hz0 hz1 hz2 rfl (by decide) _ _ xs rfl (HR2.out.alloc _) ⟨W.heap.size, 0, none⟩ 1 1 [.slice pv m cv] rfl rfl (cell_one_new _ _ _) (by simp [Value.oneCell']) ?b1 ?b2 ?b3 ?_)
      case b1 => unfold maxLen; omega
      case b2 => omega
      case b3 => simp; omega
      intro v' w1 hown' hgrow _
      obtain ⟨g', cap', rfl⟩ := ownsRow_succ hown'
      rw [← hS6] at hown'
      have P1 : (w1.setCell ⟨w5.heap.size, 0, none⟩ (.slice (some ⟨g', 0, none⟩) (kk + 1) cap')).heap.size = w1.heap.size := by simp
      have PP := PW.push (ls := pcsL la sz k) (by rw [HKK.out]; exact HR2.out) HEL.out HF2.out HPB.out X2.out (by rw [HKK.out]; exact hown') hgrow
      rw [← pcsL_succ] at PP
      obtain ⟨hp1, hp2, hp3⟩ := PP
      have hc1 := hp2.cell
      have hf1 := hp2.frozen
      have HP1 := hid hp1
      have HP3 := hid hp3
      have hwsz : W.heap.size + 1 ≤ w1.heap.size := by have := hgrow.size; simpa using this
      have lt5 := HR2.out.lt
      have FK : Hid (KeepsFrom W6.heap.size W (w1.setCell ⟨w5.heap.size, 0, none⟩ (.slice (some ⟨g', 0, none⟩) (kk + 1) cap'))) := by
        have a1 := KeepsOthers.alloc W (.cells #[.slice pv m cv] 23)
        have a2 : KeepsOthers (W.alloc (.cells #[.slice pv m cv] 23)) w1 := KeepsOthers.of_grownBy hgrow fun j o ej hj => by
          rcases (HR2.out.alloc (.cells #[.slice pv m cv] 23)).2 with ⟨e0, _⟩ | ⟨g, cap, cur, e0, _, hgb, _⟩
          · rw [e0] at ej; simp [Value.ownBlock] at ej
          · rw [e0] at ej
            obtain rfl : g = j := by simpa [Value.ownBlock] using ej
            rw [hgb] at hj; cases hj; rfl
        exact ((a1.trans a2).trans (KeepsOthers.setCell _ _ _)).from _
      have FD : Hid (KD (chD hv b5 b3) W (w1.setCell ⟨w5.heap.size, 0, none⟩ (.slice (some ⟨g', 0, none⟩) (kk + 1) cap'))) := by
        refine ⟨by simp; omega, fun i hi => ?_⟩
        have hi5 := (HD.out i hi).2
        rw [heap_setCell_other _ _ _ _ (by simp; omega), hgrow.block i (by simp; omega) (fun e => by have := (lt5 i e.symm).1; omega)]
        exact Below.heap_alloc W _ i (by omega)
      have FB : Hid (Below w.heap.size w (w1.setCell ⟨w5.heap.size, 0, none⟩ (.slice (some ⟨g', 0, none⟩) (kk + 1) cap'))) := by
        have b1 := X3.out.alloc X3.out.size (.cells #[.slice pv m cv] 23)
        have b2 := b1.grown hgrow b1.size (fun j e => by have := (lt5 j e).1; omega)
        exact b2.setCell (p := ⟨w5.heap.size, 0, none⟩) (by show w.heap.size ≤ w5.heap.size; omega) _
      clear hown' hgrow hp1 hp2 hp3 c1 lt5
      gi_wp2
      exact ⟨FK.out, FD.out, _, HP3.out, HP1.out, FB.out, by rw [P1]; omega⟩
    case hdone =>
      rintro dd W hdd ⟨vp, x1, x2, x3, x4⟩ hK
      have c1 := x1.cell
      have FL := pcsL_all la sz hsz1
      have JN := join_any W vp _ x2.hl (by rw [FL]; omega)
      rw [FL] at JN
      have JN2 := hid JN
      have X3 := hid x3
      have HKD := hid hK
      obtain ⟨d, hdd2⟩ : ∃ d, d = dd := ⟨_, rfl⟩
      subst hdd2
      have hd : w.heap.size ≤ d := by omega
      obtain ⟨pp, cp, ep⟩ := x2.hl.open'
      clear x1 x2 x3 hK JN FL
      subst ep
      gi_wp2
      refine callsIn_wide.2 (JN2.out.mono ?_)
      rintro e w7 ⟨vj, rfl, hoj, hB7⟩
      have B7 := hid (X3.out.trans (hB7.mono X3.out.size))
      have K7 := hid ((hB7.block d (Array.getElem?_eq_some_iff.1 HKD.out).1).trans HKD.out)
      have SJ := sameBytes_any w7 vj _ la la (HB.of_own hoj HA.out.2) (HA.out.below B7.out)
      rw [decide_eq_true rfl] at SJ
      have SJ2 := hid SJ
      obtain ⟨pj, cj, ej⟩ := own_slc1 hoj
      subst ej
      clear hoj hB7 SJ JN2
      gi_wp2
      refine callsIn_wide.2 (SJ2.out.mono ?_)
      rintro e wq ⟨rfl, hDq⟩
      have Bq := hid (B7.out.trans ((hDq.below _).mono B7.out.size))
      have Kq := hid (((hDq.below w7.heap.size).block d (Array.getElem?_eq_some_iff.1 K7.out).1).trans K7.out)
      clear hDq SJ2 B7 K7 X3 HKD
      gi_wp2
      have CX := hid (xor_any wq _ _ la lb (HA.out.below Bq.out) (HBb.out.below Bq.out) (by omega))
      refine callsIn_wide.2 (CX.out.mono ?_)
      rintro e w6 ⟨vc, rfl, hoc, hB6⟩
      have B6 := hid (Bq.out.trans (hB6.mono Bq.out.size))
      have K6 := hid ((hB6.block d (Array.getElem?_eq_some_iff.1 Kq.out).1).trans Kq.out)
      have OC := hid hoc
      obtain ⟨pc, cc, ec⟩ := own_slc1 hoc
      subst ec
      clear hoc hB6 CX
      by_cases hll : la.length = lb.length
      · have e1 : xorE la lb = 0 := if_pos hll
        have e2 : xorA la lb = xorL la lb := if_pos hll
        have e3 := xorL_length hll
        rw [e2, e3] at OC
        rw [e1, e2, e3]
        have CD := xor_any w6 (.slice pc la.length cc) _ (xorL la lb) lb (HB.of_own (by rw [e3]; exact OC.out) (xorL_byt HA.out.2 HBb.out.2)) (HBb.out.below B6.out) (by omega)
        rw [show xorE (xorL la lb) lb = 0 from if_pos (by omega), show xorA (xorL la lb) lb = xorL (xorL la lb) lb from if_pos (by omega), xorL_back hll HA.out.2 HBb.out.2] at CD
        have CD2 := hid CD
        have hq : ((la.length : Int) == (lb.length : Int)) = true := by simp; omega
        clear CD e1 e2 e3 hll
        gi_wp2
        refine callsIn_wide.2 (CD2.out.mono ?_)
        rintro e w7 ⟨vd, rfl, hod, hB7⟩
        have B7 := hid (B6.out.trans (hB7.mono B6.out.size))
        have K7 := hid ((hB7.block d (Array.getElem?_eq_some_iff.1 K6.out).1).trans K6.out)
        have S7 := sameBytes_any w7 vd _ la la (HB.of_own hod HA.out.2) (HA.out.below B7.out)
        rw [decide_eq_true rfl] at S7
        have S8 := hid S7
        obtain ⟨pd, cd, ed⟩ := own_slc1 hod
        subst ed
        clear hod hB7 S7 CD2
        gi_wp2
        refine callsIn_wide.2 (S8.out.mono ?_)
        rintro e w8 ⟨rfl, hD8⟩
        have B8 := hid (B7.out.trans ((hD8.below _).mono B7.out.size))
        have K8 := hid (((hD8.below w7.heap.size).block d (Array.getElem?_eq_some_iff.1 K7.out).1).trans K7.out)
        clear hD8 S8
        gi_wp2
        refine ⟨by simp, .inl ⟨_, _, rfl, run_takeDeferred K8.out, ?_⟩⟩
        exact ⟨_, results_tmp rfl _ _ _, rfl, B8.out.trans (belowK_b (w := w) (Nat.le_refl _) w8 d _ _ hd K8.out rfl rfl)⟩
      · have e1 : xorE la lb = 12 := if_neg hll
        have e2 : xorA la lb = [] := if_neg hll
        rw [e2] at OC
        rw [e1, e2]
        have CD := xor_any w6 (.slice pc 0 cc) _ [] lb (HB.of_own OC.out (by simp)) (HBb.out.below B6.out) (by simp)
        obtain ⟨ge, HGE⟩ : ∃ ge, Hid (xorE [] lb = ge) := ⟨_, rfl⟩
        rw [HGE.out] at CD
        have CD2 := hid CD
        have hq : ((la.length : Int) == (lb.length : Int)) = false := by simp; omega
        have hl0 : ([] : List Int).length = 0 := rfl
        rw [hl0]
        clear CD e1 e2 hll hl0
        gi_wp2
        refine callsIn_wide.2 (CD2.out.mono ?_)
        rintro e w7 ⟨vd, rfl, hod, hB7⟩
        have B7 := hid (B6.out.trans (hB7.mono B6.out.size))
        have K7 := hid ((hB7.block d (Array.getElem?_eq_some_iff.1 K6.out).1).trans K6.out)
        clear hod hB7 CD2
        gi_wp2
        all_goals first | exact (undef_not_bool (by assumption)).elim | (refine ⟨by simp, .inl ⟨_, _, rfl, run_takeDeferred K7.out, ?_⟩⟩; exact ⟨_, results_tmp rfl _ _ _, rfl, B7.out.trans (belowK_b (w := w) (Nat.le_refl _) w7 d _ _ hd K7.out rfl rfl)⟩)
  · have CX := hid (xor_any w4 _ _ la lb (HA.out.below B4.out) (HBb.out.below B4.out) (by omega))
    refine callsIn_wide.2 (CX.out.mono ?_)
    rintro e w6 ⟨vc, rfl, hoc, hB6⟩
    have B6 := hid (B4.out.trans (hB6.mono B4.out.size))
    have OC := hid hoc
    obtain ⟨pc, cc, ec⟩ := own_slc1 hoc
    subst ec
    clear hoc hB6 CX
    by_cases hll : la.length = lb.length
    · have e1 : xorE la lb = 0 := if_pos hll
      have e2 : xorA la lb = xorL la lb := if_pos hll
      have e3 := xorL_length hll
      rw [e2, e3] at OC
      rw [e1, e2, e3]
      have CD := xor_any w6 (.slice pc la.length cc) _ (xorL la lb) lb (HB.of_own (by rw [e3]; exact OC.out) (xorL_byt HA.out.2 HBb.out.2)) (HBb.out.below B6.out) (by omega)
      rw [show xorE (xorL la lb) lb = 0 from if_pos (by omega), show xorA (xorL la lb) lb = xorL (xorL la lb) lb from if_pos (by omega), xorL_back hll HA.out.2 HBb.out.2] at CD
      have CD2 := hid CD
      have hq : ((la.length : Int) == (lb.length : Int)) = true := by simp; omega
      clear CD e1 e2 e3 hll
      gi_wp2
      refine callsIn_wide.2 (CD2.out.mono ?_)
      rintro e w7 ⟨vd, rfl, hod, hB7⟩
      have B7 := hid (B6.out.trans (hB7.mono B6.out.size))
      have S7 := sameBytes_any w7 vd _ la la (HB.of_own hod HA.out.2) (HA.out.below B7.out)
      rw [decide_eq_true rfl] at S7
      have S8 := hid S7
      obtain ⟨pd, cd, ed⟩ := own_slc1 hod
      subst ed
      clear hod hB7 S7 CD2
      gi_wp2
      refine callsIn_wide.2 (S8.out.mono ?_)
      rintro e w8 ⟨rfl, hD8⟩
      have B8 := hid (B7.out.trans ((hD8.below _).mono B7.out.size))
      clear hD8 S8
      gi_wp2
      exact ⟨_, results_tmp rfl _ _ _, rfl, B8.out⟩
    · have e1 : xorE la lb = 12 := if_neg hll
      have e2 : xorA la lb = [] := if_neg hll
      rw [e2] at OC
      rw [e1, e2]
      have CD := xor_any w6 (.slice pc 0 cc) _ [] lb (HB.of_own OC.out (by simp)) (HBb.out.below B6.out) (by simp)
      obtain ⟨ge, HGE⟩ : ∃ ge, Hid (xorE [] lb = ge) := ⟨_, rfl⟩
      rw [HGE.out] at CD
      have CD2 := hid CD
      have hq : ((la.length : Int) == (lb.length : Int)) = false := by simp; omega
      have hl0 : ([] : List Int).length = 0 := rfl
      rw [hl0]
      clear CD e1 e2 hll hl0
      gi_wp2
      refine callsIn_wide.2 (CD2.out.mono ?_)
      rintro e w7 ⟨vd, rfl, hod, hB7⟩
      have B7 := hid (B6.out.trans (hB7.mono B6.out.size))
      clear hod hB7 CD2
      gi_wp2
      all_goals first | exact (undef_not_bool (by assumption)).elim | exact ⟨_, results_tmp rfl _ _ _, rfl, B7.out⟩
  · obtain ⟨sz, hszn⟩ : ∃ sz : Nat, size = sz := ⟨size.toNat, by omega⟩
    subst hszn
    have hsz1 : 1 ≤ sz := by omega
    have CC := hid (chunks_any w4 _ la sz (HA.out.below B4.out) (by omega) hsz1)
    refine callsIn_wide.2 (CC.out.mono ?_)
    rintro e w5 ⟨hv, b5, b3, rfl, hbox, hD, hB5⟩
    have HBx := hid hbox
    have HD := hid hD
    have B5 := hid (B4.out.trans (hB5.mono B4.out.size))
    have hs5 := hB5.size
    have hs4 := B4.out.size
    clear hbox hD hB5 CC
    have qf := eql_func_nil
    gi_wp2
    clear qf
    obtain ⟨W6, hW6⟩ : ∃ W6, Hid (w5.alloc (.cells #[.slice none 0 0] 34) = W6) := ⟨_, rfl⟩
    rw [hW6.out]
    have hS6 : W6.heap.size = w5.heap.size + 1 := by rw [← hW6.out]; simp
    have HK6 : Hid (KD (chD hv b5 b3) w5 W6) := by
      rw [← hW6.out]
      exact ⟨by simp, fun i hi => Below.heap_alloc w5 _ i (HD.out i hi).2⟩
    have B6 : Hid (Below w.heap.size w W6) := by rw [← hW6.out]; exact B5.out.alloc (by omega) _
    have X6 : Hid (Boxed W6 w5.heap.size 34 (.slice none 0 0)) := by rw [← hW6.out]; exact Boxed.new w5 _ _
    apply range_fit rfl (by decide) (gf := 36) (lb := #[.pointer (some ⟨b5, 0, none⟩), .pointer (some ⟨b3, 0, none⟩)]) rfl trivial (enters_of Try.func36 (by kernel_rfl) rfl)
      (chunks_iter (3 - 1) W6 hv b5 b3 la sz hsz1 (by omega) (HBx.out.kept HK6.out) (fun i hi => by have := (HD.out i hi).2; omega)) (KD.refl _ _) (fun i hi => by have := (HD.out i hi).2; omega) (fun _ _ => rfl)
      (fun k W => ∃ v, Boxed W w5.heap.size 34 v ∧ PW W6.heap.size W v (pcsL la sz k) ∧ Below w.heap.size w W ∧ W6.heap.size ≤ W.heap.size)
      (fun _ _ => False)
      (fun s A C row hs hg hr => by obtain ⟨v, h1, h2, h3, h4⟩ := hs; exact ⟨v, box_from h1 hg hr, h2.from hg hr, below_from h3 (Nat.le_refl _) hg hr (by omega), Nat.le_trans h4 hg.size⟩)
      (fun _ _ _ _ hs _ _ => hs)
      (fun k v _ A C row hs hg hr => row_from hs hg hr)
      ⟨_, X6.out, PW.nil _ _, B6.out, Nat.le_refl _⟩
    case hassign =>
      intro l k v W K hK
      gi_wp2
      exact hK
    case hstop =>
      intro d c W _ h _
      exact h.elim
    case hbody =>
      rintro l k v W hl - ⟨vp, x1, ⟨xs, hrow, hel⟩, x3, x4⟩ hf hk
      obtain ⟨i0, hi, hz0, hz1, hz2⟩ := info_parts info_bytes
      have hkl : k < 1048576 := Nat.lt_of_lt_of_le hk (Nat.le_trans (chN_le _ _ hsz1) hla)
      obtain ⟨pv, cv, ev⟩ := own_slc1 hf
      obtain ⟨pp, cp, ep⟩ := own_slc1 hrow
      subst ev ep
      have PL := hid (pcsL_length la sz k)
      have HROW := hid hrow
      have HEL := hid hel
      have HF := hid hf
      have X1 := hid x1
      have X3 := hid x3
      have c1 := x1.cell
      have HPB := hid (chPiece_byt HA.out.2 sz k)
      obtain ⟨m, HM⟩ : ∃ m, Hid ((chPiece la sz k).length = m) := ⟨_, rfl⟩
      rw [HM.out]
      obtain ⟨kk, HKK⟩ : ∃ kk, Hid ((pcsL la sz k).length = kk) := ⟨_, rfl⟩
      have hkk : kk = k := by rw [← HKK.out]; exact PL.out
      rw [HKK.out] at c1
      have HR2 : Hid (W.ownsRow W6.heap.size 23 1 (.slice pp kk cp) kk xs) := by rw [← HKK.out]; exact HROW.out
      have X2 : Hid (Boxed W w5.heap.size 34 (.slice pp kk cp)) := by rw [← HKK.out]; exact X1.out
      have HF2 : Hid (W.ownsRow W6.heap.size 5 1 (.slice pv m cv) (chPiece la sz k).length ((chPiece la sz k).map (Value.int .u8))) := by rw [← HM.out]; exact HF.out
      clear hrow hel hf x1 x3 hl hkk
      have hkk : kk < 1048576 := by rw [← HKK.out, PL.out]; exact hkl
      gi_wp2_with (gi_at_builtin; refine wpListIn_append_own _ rfl _ _ 34 rfl W6.heap.size 23 i0 (.slice none 0 0) 1 24 Try.underlying34 hi hz0 hz1 hz2 rfl (by decide) _ _ xs rfl (HR2.out.alloc _) ⟨W.heap.size, 0, none⟩ 1 1 [.slice pv m cv] rfl rfl (cell_one_new _ _ _) (by simp [Value.oneCell']) ?b1 ?b2 ?b3 ?_)
      case b1 => unfold maxLen; omega
      case b2 => omega
      case b3 => simp; omega
      intro v' w1 hown' hgrow _
      obtain ⟨g', cap', rfl⟩ := ownsRow_succ hown'
      rw [← hS6] at hown'
      have P1 : (w1.setCell ⟨w5.heap.size, 0, none⟩ (.slice (some ⟨g', 0, none⟩) (kk + 1) cap')).heap.size = w1.heap.size := by simp
      have PP := PW.push (ls := pcsL la sz k) (by rw [HKK.out]; exact HR2.out) HEL.out HF2.out HPB.out X2.out (by rw [HKK.out]; exact hown') hgrow
      rw [← pcsL_succ] at PP
      obtain ⟨hp1, hp2, hp3⟩ := PP
      have hc1 := hp2.cell
      have hf1 := hp2.frozen
      have HP1 := hid hp1
      have HP3 := hid hp3
      have hwsz : W.heap.size + 1 ≤ w1.heap.size := by have := hgrow.size; simpa using this
      have lt5 := HR2.out.lt
      have FK : Hid (KeepsFrom W6.heap.size W (w1.setCell ⟨w5.heap.size, 0, none⟩ (.slice (some ⟨g', 0, none⟩) (kk + 1) cap'))) := by
        have a1 := KeepsOthers.alloc W (.cells #[.slice pv m cv] 23)
        have a2 : KeepsOthers (W.alloc (.cells #[.slice pv m cv] 23)) w1 := KeepsOthers.of_grownBy hgrow fun j o ej hj => by
          rcases (HR2.out.alloc (.cells #[.slice pv m cv] 23)).2 with ⟨e0, _⟩ | ⟨g, cap, cur, e0, _, hgb, _⟩
          · rw [e0] at ej; simp [Value.ownBlock] at ej
          · rw [e0] at ej
            obtain rfl : g = j := by simpa [Value.ownBlock] using ej
            rw [hgb] at hj; cases hj; rfl
        exact ((a1.trans a2).trans (KeepsOthers.setCell _ _ _)).from _
      have FD : Hid (KD (chD hv b5 b3) W (w1.setCell ⟨w5.heap.size, 0, none⟩ (.slice (some ⟨g', 0, none⟩) (kk + 1) cap'))) := by
        refine ⟨by simp; omega, fun i hi => ?_⟩
        have hi5 := (HD.out i hi).2
        rw [heap_setCell_other _ _ _ _ (by simp; omega), hgrow.block i (by simp; omega) (fun e => by have := (lt5 i e.symm).1; omega)]
        exact Below.heap_alloc W _ i (by omega)
      have FB : Hid (Below w.heap.size w (w1.setCell ⟨w5.heap.size, 0, none⟩ (.slice (some ⟨g', 0, none⟩) (kk + 1) cap'))) := by
        have b1 := X3.out.alloc X3.out.size (.cells #[.slice pv m cv] 23)
        have b2 := b1.grown hgrow b1.size (fun j e => by have := (lt5 j e).1; omega)
        exact b2.setCell (p := ⟨w5.heap.size, 0, none⟩) (by show w.heap.size ≤ w5.heap.size; omega) _
      clear hown' hgrow hp1 hp2 hp3 c1 lt5
      gi_wp2
      exact ⟨FK.out, FD.out, _, HP3.out, HP1.out, FB.out, by rw [P1]; omega⟩
    case hdone =>
      rintro dd W hdd ⟨vp, x1, x2, x3, x4⟩ hK
      have c1 := x1.cell
      have FL := pcsL_all la sz hsz1
      have JN := join_any W vp _ x2.hl (by rw [FL]; omega)
      rw [FL] at JN
      have JN2 := hid JN
      have X3 := hid x3
      have HKD := hid hK
      obtain ⟨d, hdd2⟩ : ∃ d, d = dd := ⟨_, rfl⟩
      subst hdd2
      have hd : w.heap.size ≤ d := by omega
      obtain ⟨pp, cp, ep⟩ := x2.hl.open'
      clear x1 x2 x3 hK JN FL
      subst ep
      gi_wp2
      refine callsIn_wide.2 (JN2.out.mono ?_)
      rintro e w7 ⟨vj, rfl, hoj, hB7⟩
      have B7 := hid (X3.out.trans (hB7.mono X3.out.size))
      have K7 := hid ((hB7.block d (Array.getElem?_eq_some_iff.1 HKD.out).1).trans HKD.out)
      have SJ := sameBytes_any w7 vj _ la la (HB.of_own hoj HA.out.2) (HA.out.below B7.out)
      rw [decide_eq_true rfl] at SJ
      have SJ2 := hid SJ
      obtain ⟨pj, cj, ej⟩ := own_slc1 hoj
      subst ej
      clear hoj hB7 SJ JN2
      gi_wp2
      refine callsIn_wide.2 (SJ2.out.mono ?_)
      rintro e wq ⟨rfl, hDq⟩
      have Bq := hid (B7.out.trans ((hDq.below _).mono B7.out.size))
      have Kq := hid (((hDq.below w7.heap.size).block d (Array.getElem?_eq_some_iff.1 K7.out).1).trans K7.out)
      clear hDq SJ2 B7 K7 X3 HKD
      gi_wp2
      have CX := hid (xor_any wq _ _ la lb (HA.out.below Bq.out) (HBb.out.below Bq.out) (by omega))
      refine callsIn_wide.2 (CX.out.mono ?_)
      rintro e w6 ⟨vc, rfl, hoc, hB6⟩
      have B6 := hid (Bq.out.trans (hB6.mono Bq.out.size))
      have K6 := hid ((hB6.block d (Array.getElem?_eq_some_iff.1 Kq.out).1).trans Kq.out)
      have OC := hid hoc
      obtain ⟨pc, cc, ec⟩ := own_slc1 hoc
      subst ec
      clear hoc hB6 CX
      by_cases hll : la.length = lb.length
      · have e1 : xorE la lb = 0 := if_pos hll
        have e2 : xorA la lb = xorL la lb := if_pos hll
        have e3 := xorL_length hll
        rw [e2, e3] at OC
        rw [e1, e2, e3]
        have CD := xor_any w6 (.slice pc la.length cc) _ (xorL la lb) lb (HB.of_own (by rw [e3]; exact OC.out) (xorL_byt HA.out.2 HBb.out.2)) (HBb.out.below B6.out) (by omega)
        rw [show xorE (xorL la lb) lb = 0 from if_pos (by omega), show xorA (xorL la lb) lb = xorL (xorL la lb) lb from if_pos (by omega), xorL_back hll HA.out.2 HBb.out.2] at CD
        have CD2 := hid CD
        have hq : ((la.length : Int) == (lb.length : Int)) = true := by simp; omega
        clear CD e1 e2 e3 hll
        gi_wp2
        refine callsIn_wide.2 (CD2.out.mono ?_)
        rintro e w7 ⟨vd, rfl, hod, hB7⟩
        have B7 := hid (B6.out.trans (hB7.mono B6.out.size))
        have K7 := hid ((hB7.block d (Array.getElem?_eq_some_iff.1 K6.out).1).trans K6.out)
        have S7 := sameBytes_any w7 vd _ la la (HB.of_own hod HA.out.2) (HA.out.below B7.out)
        rw [decide_eq_true rfl] at S7
        have S8 := hid S7
        obtain ⟨pd, cd, ed⟩ := own_slc1 hod
        subst ed
        clear hod hB7 S7 CD2
        gi_wp2
        refine callsIn_wide.2 (S8.out.mono ?_)
        rintro e w8 ⟨rfl, hD8⟩
        have B8 := hid (B7.out.trans ((hD8.below _).mono B7.out.size))
        have K8 := hid (((hD8.below w7.heap.size).block d (Array.getElem?_eq_some_iff.1 K7.out).1).trans K7.out)
        clear hD8 S8
        gi_wp2
        refine ⟨by simp, .inl ⟨_, _, rfl, run_takeDeferred K8.out, ?_⟩⟩
        exact ⟨_, results_tmp rfl _ _ _, rfl, B8.out.trans (belowK_b (w := w) (Nat.le_refl _) w8 d _ _ hd K8.out rfl rfl)⟩
      · have e1 : xorE la lb = 12 := if_neg hll
        have e2 : xorA la lb = [] := if_neg hll
        rw [e2] at OC
        rw [e1, e2]
        have CD := xor_any w6 (.slice pc 0 cc) _ [] lb (HB.of_own OC.out (by simp)) (HBb.out.below B6.out) (by simp)
        obtain ⟨ge, HGE⟩ : ∃ ge, Hid (xorE [] lb = ge) := ⟨_, rfl⟩
        rw [HGE.out] at CD
        have CD2 := hid CD
        have hq : ((la.length : Int) == (lb.length : Int)) = false := by simp; omega
        have hl0 : ([] : List Int).length = 0 := rfl
        rw [hl0]
        clear CD e1 e2 hll hl0
        gi_wp2
        refine callsIn_wide.2 (CD2.out.mono ?_)
        rintro e w7 ⟨vd, rfl, hod, hB7⟩
        have B7 := hid (B6.out.trans (hB7.mono B6.out.size))
        have K7 := hid ((hB7.block d (Array.getElem?_eq_some_iff.1 K6.out).1).trans K6.out)
        clear hod hB7 CD2
        gi_wp2
        all_goals first | exact (undef_not_bool (by assumption)).elim | (refine ⟨by simp, .inl ⟨_, _, rfl, run_takeDeferred K7.out, ?_⟩⟩; exact ⟨_, results_tmp rfl _ _ _, rfl, B7.out.trans (belowK_b (w := w) (Nat.le_refl _) w7 d _ _ hd K7.out rfl rfl)⟩)
  · have CX := hid (xor_any w4 _ _ la lb (HA.out.below B4.out) (HBb.out.below B4.out) (by omega))
    refine callsIn_wide.2 (CX.out.mono ?_)
    rintro e w6 ⟨vc, rfl, hoc, hB6⟩
    have B6 := hid (B4.out.trans (hB6.mono B4.out.size))
    have OC := hid hoc
    obtain ⟨pc, cc, ec⟩ := own_slc1 hoc
    subst ec
    clear hoc hB6 CX
    by_cases hll : la.length = lb.length
    · have e1 : xorE la lb = 0 := if_pos hll
      have e2 : xorA la lb = xorL la lb := if_pos hll
      have e3 := xorL_length hll
      rw [e2, e3] at OC
      rw [e1, e2, e3]
      have CD := xor_any w6 (.slice pc la.length cc) _ (xorL la lb) lb (HB.of_own (by rw [e3]; exact OC.out) (xorL_byt HA.out.2 HBb.out.2)) (HBb.out.below B6.out) (by omega)
      rw [show xorE (xorL la lb) lb = 0 from if_pos (by omega), show xorA (xorL la lb) lb = xorL (xorL la lb) lb from if_pos (by omega), xorL_back hll HA.out.2 HBb.out.2] at CD
      have CD2 := hid CD
      have hq : ((la.length : Int) == (lb.length : Int)) = true := by simp; omega
      clear CD e1 e2 e3 hll
      gi_wp2
      refine callsIn_wide.2 (CD2.out.mono ?_)
      rintro e w7 ⟨vd, rfl, hod, hB7⟩
      have B7 := hid (B6.out.trans (hB7.mono B6.out.size))
      have S7 := sameBytes_any w7 vd _ la la (HB.of_own hod HA.out.2) (HA.out.below B7.out)
      rw [decide_eq_true rfl] at S7
      have S8 := hid S7
      obtain ⟨pd, cd, ed⟩ := own_slc1 hod
      subst ed
      clear hod hB7 S7 CD2
      gi_wp2
      refine callsIn_wide.2 (S8.out.mono ?_)
      rintro e w8 ⟨rfl, hD8⟩
      have B8 := hid (B7.out.trans ((hD8.below _).mono B7.out.size))
      clear hD8 S8
      gi_wp2
      exact ⟨_, results_tmp rfl _ _ _, rfl, B8.out⟩
    · have e1 : xorE la lb = 12 := if_neg hll
      have e2 : xorA la lb = [] := if_neg hll
      rw [e2] at OC
      rw [e1, e2]
      have CD := xor_any w6 (.slice pc 0 cc) _ [] lb (HB.of_own OC.out (by simp)) (HBb.out.below B6.out) (by simp)
      obtain ⟨ge, HGE⟩ : ∃ ge, Hid (xorE [] lb = ge) := ⟨_, rfl⟩
      rw [HGE.out] at CD
      have CD2 := hid CD
      have hq : ((la.length : Int) == (lb.length : Int)) = false := by simp; omega
      have hl0 : ([] : List Int).length = 0 := rfl
      rw [hl0]
      clear CD e1 e2 hll hl0
      gi_wp2
      refine callsIn_wide.2 (CD2.out.mono ?_)
      rintro e w7 ⟨vd, rfl, hod, hB7⟩
      have B7 := hid (B6.out.trans (hB7.mono B6.out.size))
      clear hod hB7 CD2
      gi_wp2
      all_goals first | exact (undef_not_bool (by assumption)).elim | exact ⟨_, results_tmp rfl _ _ _, rfl, B7.out⟩
  · obtain ⟨sz, hszn⟩ : ∃ sz : Nat, size = sz := ⟨size.toNat, by omega⟩
    subst hszn
    have hsz1 : 1 ≤ sz := by omega
    have CC := hid (chunks_any w4 _ la sz (HA.out.below B4.out) (by omega) hsz1)
    refine callsIn_wide.2 (CC.out.mono ?_)
    rintro e w5 ⟨hv, b5, b3, rfl, hbox, hD, hB5⟩
    have HBx := hid hbox
    have HD := hid hD
    have B5 := hid (B4.out.trans (hB5.mono B4.out.size))
    have hs5 := hB5.size
    have hs4 := B4.out.size
    clear hbox hD hB5 CC
    have qf := eql_func_nil
    gi_wp2
    clear qf
    obtain ⟨W6, hW6⟩ : ∃ W6, Hid (w5.alloc (.cells #[.slice none 0 0] 34) = W6) := ⟨_, rfl⟩
    rw [hW6.out]
    have hS6 : W6.heap.size = w5.heap.size + 1 := by rw [← hW6.out]; simp
    have HK6 : Hid (KD (chD hv b5 b3) w5 W6) := by
      rw [← hW6.out]
      exact ⟨by simp, fun i hi => Below.heap_alloc w5 _ i (HD.out i hi).2⟩
    have B6 : Hid (Below w.heap.size w W6) := by rw [← hW6.out]; exact B5.out.alloc (by omega) _
    have X6 : Hid (Boxed W6 w5.heap.size 34 (.slice none 0 0)) := by rw [← hW6.out]; exact Boxed.new w5 _ _
    apply range_fit rfl (by decide) (gf := 36) (lb := #[.pointer (some ⟨b5, 0, none⟩), .pointer (some ⟨b3, 0, none⟩)]) rfl trivial (enters_of Try.func36 (by kernel_rfl) rfl)
      (chunks_iter (3 - 1) W6 hv b5 b3 la sz hsz1 (by omega) (HBx.out.kept HK6.out) (fun i hi => by have := (HD.out i hi).2; omega)) (KD.refl _ _) (fun i hi => by have := (HD.out i hi).2; omega) (fun _ _ => rfl)
      (fun k W => ∃ v, Boxed W w5.heap.size 34 v ∧ PW W6.heap.size W v (pcsL la sz k) ∧ Below w.heap.size w W ∧ W6.heap.size ≤ W.heap.size)
      (fun _ _ => False)
      (fun s A C row hs hg hr => by obtain ⟨v, h1, h2, h3, h4⟩ := hs; exact ⟨v, box_from h1 hg hr, h2.from hg hr, below_from h3 (Nat.le_refl _) hg hr (by omega), Nat.le_trans h4 hg.size⟩)
      (fun _ _ _ _ hs _ _ => hs)
      (fun k v _ A C row hs hg hr => row_from hs hg hr)
      ⟨_, X6.out, PW.nil _ _, B6.out, Nat.le_refl _⟩
    case hassign =>
      intro l k v W K hK
      gi_wp2
      exact hK
    case hstop =>
      intro d c W _ h _
      exact h.elim
    case hbody =>
      rintro l k v W hl - ⟨vp, x1, ⟨xs, hrow, hel⟩, x3, x4⟩ hf hk
      obtain ⟨i0, hi, hz0, hz1, hz2⟩ := info_parts info_bytes
      have hkl : k < 1048576 := Nat.lt_of_lt_of_le hk (Nat.le_trans (chN_le _ _ hsz1) hla)
      obtain ⟨pv, cv, ev⟩ := own_slc1 hf
      obtain ⟨pp, cp, ep⟩ := own_slc1 hrow
      subst ev ep
      have PL := hid (pcsL_length la sz k)
      have HROW := hid hrow
      have HEL := hid hel
      have HF := hid hf
      have X1 := hid x1
      have X3 := hid x3
      have c1 := x1.cell
      have HPB := hid (chPiece_byt HA.out.2 sz k)
      obtain ⟨m, HM⟩ : ∃ m, Hid ((chPiece la sz k).length = m) := ⟨_, rfl⟩
      rw [HM.out]
      obtain ⟨kk, HKK⟩ : ∃ kk, Hid ((pcsL la sz k).length = kk) := ⟨_, rfl⟩
      have hkk : kk = k := by rw [← HKK.out]; exact PL.out
      rw [HKK.out] at c1
      have HR2 : Hid (W.ownsRow W6.heap.size 23 1 (.slice pp kk cp) kk xs) := by rw [← HKK.out]; exact HROW.out
      have X2 : Hid (Boxed W w5.heap.size 34 (.slice pp kk cp)) := by rw [← HKK.out]; exact X1.out
      have HF2 : Hid (W.ownsRow W6.heap.size 5 1 (.slice pv m cv) (chPiece la sz k).length ((chPiece la sz k).map (Value.int .u8))) := by rw [← HM.out]; exact HF.out
      clear hrow hel hf x1 x3 hl hkk
      have hkk : kk < 1048576 := by rw [← HKK.out, PL.out]; exact hkl
      gi_wp2_with (gi_at_builtin; refine wpListIn_append_own _ rfl _ _ 34 rfl W6.heap.size 23 i0 (.slice none 0 0) 1 24 Try.underlying34 hi hz0 hz1 hz2 rfl (by decide) _ _ xs rfl (HR2.out.alloc _) ⟨W.heap.size, 0, none⟩ 1 1 [.slice pv m cv] rfl rfl (cell_one_new _ _ _) (by simp [Value.oneCell']) ?b1 ?b2 ?b3 ?_)
      case b1 => unfold maxLen; omega
      case b2 => omega
      case b3 => simp; omega
      intro v' w1 hown' hgrow _
      obtain ⟨g', cap', rfl⟩ := ownsRow_succ hown'
      rw [← hS6] at hown'
      have P1 : (w1.setCell ⟨w5.heap.size, 0, none⟩ (.slice (some ⟨g', 0, none⟩) (kk + 1) cap')).heap.size = w1.heap.size := by simp
      have PP := PW.push (ls := pcsL la sz k) (by rw [HKK.out]; exact HR2.out) HEL.out HF2.out HPB.out X2.out (by rw [HKK.out]; exact hown') hgrow
      rw [← pcsL_succ] at PP
      obtain ⟨hp1, hp2, hp3⟩ := PP
      have hc1 := hp2.cell
      have hf1 := hp2.frozen
      have HP1 := hid hp1
      have HP3 := hid hp3
      have hwsz : W.heap.size + 1 ≤ w1.heap.size := by have := hgrow.size; simpa using this
      have lt5 := HR2.out.lt
      have FK : Hid (KeepsFrom W6.heap.size W (w1.setCell ⟨w5.heap.size, 0, none⟩ (.slice (some ⟨g', 0, none⟩) (kk + 1) cap'))) := by
        have a1 := KeepsOthers.alloc W (.cells #[.slice pv m cv] 23)
        have a2 : KeepsOthers (W.alloc (.cells #[.slice pv m cv] 23)) w1 := KeepsOthers.of_grownBy hgrow fun j o ej hj => by
          rcases (HR2.out.alloc (.cells #[.slice pv m cv] 23)).2 with ⟨e0, _⟩ | ⟨g, cap, cur, e0, _, hgb, _⟩
          · rw [e0] at ej; simp [Value.ownBlock] at ej
          · rw [e0] at ej
            obtain rfl : g = j := by simpa [Value.ownBlock] using ej
            rw [hgb] at hj; cases hj; rfl
        exact ((a1.trans a2).trans (KeepsOthers.setCell _ _ _)).from _
      have FD : Hid (KD (chD hv b5 b3) W (w1.setCell ⟨w5.heap.size, 0, none⟩ (.slice (some ⟨g', 0, none⟩) (kk + 1) cap'))) := by
        refine ⟨by simp; omega, fun i hi => ?_⟩
        have hi5 := (HD.out i hi).2
        rw [heap_setCell_other _ _ _ _ (by simp; omega), hgrow.block i (by simp; omega) (fun e => by have := (lt5 i e.symm).1; omega)]
        exact Below.heap_alloc W _ i (by omega)
      have FB : Hid (Below w.heap.size w (w1.setCell ⟨w5.heap.size, 0, none⟩ (.slice (some ⟨g', 0, none⟩) (kk + 1) cap'))) := by
        have b1 := X3.out.alloc X3.out.size (.cells #[.slice pv m cv] 23)
        have b2 := b1.grown hgrow b1.size (fun j e => by have := (lt5 j e).1; omega)
        exact b2.setCell (p := ⟨w5.heap.size, 0, none⟩) (by show w.heap.size ≤ w5.heap.size; omega) _
      clear hown' hgrow hp1 hp2 hp3 c1 lt5
      gi_wp2
      exact ⟨FK.out, FD.out, _, HP3.out, HP1.out, FB.out, by rw [P1]; omega⟩
    case hdone =>
      rintro dd W hdd ⟨vp, x1, x2, x3, x4⟩ hK
      have c1 := x1.cell
      have FL := pcsL_all la sz hsz1
      have JN := join_any W vp _ x2.hl (by rw [FL]; omega)
      rw [FL] at JN
      have JN2 := hid JN
      have X3 := hid x3
      have HKD := hid hK
      obtain ⟨d, hdd2⟩ : ∃ d, d = dd := ⟨_, rfl⟩
      subst hdd2
      have hd : w.heap.size ≤ d := by omega
      obtain ⟨pp, cp, ep⟩ := x2.hl.open'
      clear x1 x2 x3 hK JN FL
      subst ep
      gi_wp2
      refine callsIn_wide.2 (JN2.out.mono ?_)
      rintro e w7 ⟨vj, rfl, hoj, hB7⟩
      have B7 := hid (X3.out.trans (hB7.mono X3.out.size))
      have K7 := hid ((hB7.block d (Array.getElem?_eq_some_iff.1 HKD.out).1).trans HKD.out)
      have SJ := sameBytes_any w7 vj _ la la (HB.of_own hoj HA.out.2) (HA.out.below B7.out)
      rw [decide_eq_true rfl] at SJ
      have SJ2 := hid SJ
      obtain ⟨pj, cj, ej⟩ := own_slc1 hoj
      subst ej
      clear hoj hB7 SJ JN2
      gi_wp2
      refine callsIn_wide.2 (SJ2.out.mono ?_)
      rintro e wq ⟨rfl, hDq⟩
      have Bq := hid (B7.out.trans ((hDq.below _).mono B7.out.size))
      have Kq := hid (((hDq.below w7.heap.size).block d (Array.getElem?_eq_some_iff.1 K7.out).1).trans K7.out)
      clear hDq SJ2 B7 K7 X3 HKD
      gi_wp2
      have CX := hid (xor_any wq _ _ la lb (HA.out.below Bq.out) (HBb.out.below Bq.out) (by omega))
      refine callsIn_wide.2 (CX.out.mono ?_)
      rintro e w6 ⟨vc, rfl, hoc, hB6⟩
      have B6 := hid (Bq.out.trans (hB6.mono Bq.out.size))
      have K6 := hid ((hB6.block d (Array.getElem?_eq_some_iff.1 Kq.out).1).trans Kq.out)
      have OC := hid hoc
      obtain ⟨pc, cc, ec⟩ := own_slc1 hoc
      subst ec
      clear hoc hB6 CX
      by_cases hll : la.length = lb.length
      · have e1 : xorE la lb = 0 := if_pos hll
        have e2 : xorA la lb = xorL la lb := if_pos hll
        have e3 := xorL_length hll
        rw [e2, e3] at OC
        rw [e1, e2, e3]
        have CD := xor_any w6 (.slice pc la.length cc) _ (xorL la lb) lb (HB.of_own (by rw [e3]; exact OC.out) (xorL_byt HA.out.2 HBb.out.2)) (HBb.out.below B6.out) (by omega)
        rw [show xorE (xorL la lb) lb = 0 from if_pos (by omega), show xorA (xorL la lb) lb = xorL (xorL la lb) lb from if_pos (by omega), xorL_back hll HA.out.2 HBb.out.2] at CD
        have CD2 := hid CD
        have hq : ((la.length : Int) == (lb.length : Int)) = true := by simp; omega
        clear CD e1 e2 e3 hll
        gi_wp2
        refine callsIn_wide.2 (CD2.out.mono ?_)
        rintro e w7 ⟨vd, rfl, hod, hB7⟩
        have B7 := hid (B6.out.trans (hB7.mono B6.out.size))
        have K7 := hid ((hB7.block d (Array.getElem?_eq_some_iff.1 K6.out).1).trans K6.out)
        have S7 := sameBytes_any w7 vd _ la la (HB.of_own hod HA.out.2) (HA.out.below B7.out)
        rw [decide_eq_true rfl] at S7
        have S8 := hid S7
        obtain ⟨pd, cd, ed⟩ := own_slc1 hod
        subst ed
        clear hod hB7 S7 CD2
        gi_wp2
        refine callsIn_wide.2 (S8.out.mono ?_)
        rintro e w8 ⟨rfl, hD8⟩
        have B8 := hid (B7.out.trans ((hD8.below _).mono B7.out.size))
        have K8 := hid (((hD8.below w7.heap.size).block d (Array.getElem?_eq_some_iff.1 K7.out).1).trans K7.out)
        clear hD8 S8
        gi_wp2
        refine ⟨by simp, .inl ⟨_, _, rfl, run_takeDeferred K8.out, ?_⟩⟩
        exact ⟨_, results_tmp rfl _ _ _, rfl, B8.out.trans (belowK_b (w := w) (Nat.le_refl _) w8 d _ _ hd K8.out rfl rfl)⟩
      · have e1 : xorE la lb = 12 := if_neg hll
        have e2 : xorA la lb = [] := if_neg hll
        rw [e2] at OC
        rw [e1, e2]
        have CD := xor_any w6 (.slice pc 0 cc) _ [] lb (HB.of_own OC.out (by simp)) (HBb.out.below B6.out) (by simp)
        obtain ⟨ge, HGE⟩ : ∃ ge, Hid (xorE [] lb = ge) := ⟨_, rfl⟩
        rw [HGE.out] at CD
        have CD2 := hid CD
        have hq : ((la.length : Int) == (lb.length : Int)) = false := by simp; omega
        have hl0 : ([] : List Int).length = 0 := rfl
        rw [hl0]
        clear CD e1 e2 hll hl0
        gi_wp2
        refine callsIn_wide.2 (CD2.out.mono ?_)
        rintro e w7 ⟨vd, rfl, hod, hB7⟩
        have B7 := hid (B6.out.trans (hB7.mono B6.out.size))
        have K7 := hid ((hB7.block d (Array.getElem?_eq_some_iff.1 K6.out).1).trans K6.out)
        clear hod hB7 CD2
        gi_wp2
        all_goals first | exact (undef_not_bool (by assumption)).elim | (refine ⟨by simp, .inl ⟨_, _, rfl, run_takeDeferred K7.out, ?_⟩⟩; exact ⟨_, results_tmp rfl _ _ _, rfl, B7.out.trans (belowK_b (w := w) (Nat.le_refl _) w7 d _ _ hd K7.out rfl rfl)⟩)
  · have CX := hid (xor_any w4 _ _ la lb (HA.out.below B4.out) (HBb.out.below B4.out) (by omega))
    refine callsIn_wide.2 (CX.out.mono ?_)
    rintro e w6 ⟨vc, rfl, hoc, hB6⟩
    have B6 := hid (B4.out.trans (hB6.mono B4.out.size))
    have OC := hid hoc
    obtain ⟨pc, cc, ec⟩ := own_slc1 hoc
    subst ec
    clear hoc hB6 CX
    by_cases hll : la.length = lb.length
    · have e1 : xorE la lb = 0 := if_pos hll
      have e2 : xorA la lb = xorL la lb := if_pos hll
      have e3 := xorL_length hll
      rw [e2, e3] at OC
      rw [e1, e2, e3]
      have CD := xor_any w6 (.slice pc la.length cc) _ (xorL la lb) lb (HB.of_own (by rw [e3]; exact OC.out) (xorL_byt HA.out.2 HBb.out.2)) (HBb.out.below B6.out) (by omega)
      rw [show xorE (xorL la lb) lb = 0 from if_pos (by omega), show xorA (xorL la lb) lb = xorL (xorL la lb) lb from if_pos (by omega), xorL_back hll HA.out.2 HBb.out.2] at CD
      have CD2 := hid CD
      have hq : ((la.length : Int) == (lb.length : Int)) = true := by simp; omega
      clear CD e1 e2 e3 hll
      gi_wp2
      refine callsIn_wide.2 (CD2.out.mono ?_)
      rintro e w7 ⟨vd, rfl, hod, hB7⟩
      have B7 := hid (B6.out.trans (hB7.mono B6.out.size))
      have S7 := sameBytes_any w7 vd _ la la (HB.of_own hod HA.out.2) (HA.out.below B7.out)
      rw [decide_eq_true rfl] at S7
      have S8 := hid S7
      obtain ⟨pd, cd, ed⟩ := own_slc1 hod
      subst ed
      clear hod hB7 S7 CD2
      gi_wp2
      refine callsIn_wide.2 (S8.out.mono ?_)
      rintro e w8 ⟨rfl, hD8⟩
      have B8 := hid (B7.out.trans ((hD8.below _).mono B7.out.size))
      clear hD8 S8
      gi_wp2
      exact ⟨_, results_tmp rfl _ _ _, rfl, B8.out⟩
    · have e1 : xorE la lb = 12 := if_neg hll
      have e2 : xorA la lb = [] := if_neg hll
      rw [e2] at OC
      rw [e1, e2]
      have CD := xor_any w6 (.slice pc 0 cc) _ [] lb (HB.of_own OC.out (by simp)) (HBb.out.below B6.out) (by simp)
      obtain ⟨ge, HGE⟩ : ∃ ge, Hid (xorE [] lb = ge) := ⟨_, rfl⟩
      rw [HGE.out] at CD
      have CD2 := hid CD
      have hq : ((la.length : Int) == (lb.length : Int)) = false := by simp; omega
      have hl0 : ([] : List Int).length = 0 := rfl
      rw [hl0]
      clear CD e1 e2 hll hl0
      gi_wp2
      refine callsIn_wide.2 (CD2.out.mono ?_)
      rintro e w7 ⟨vd, rfl, hod, hB7⟩
      have B7 := hid (B6.out.trans (hB7.mono B6.out.size))
      clear hod hB7 CD2
      gi_wp2
      all_goals first | exact (undef_not_bool (by assumption)).elim | exact ⟨_, results_tmp rfl _ _ _, rfl, B7.out⟩
end Go.Proofs.Ytiodfpaifkcmoab
