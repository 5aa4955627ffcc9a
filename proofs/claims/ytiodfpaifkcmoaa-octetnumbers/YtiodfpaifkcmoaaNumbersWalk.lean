/- The law OctetNumbers, walked: it answers true for all numbers, widths and bytes within the reach, and turns nothing that was there. -/
import Derived.Test.YtiodfpaifkcmoaaRefNum
import Derived.Test.YtiodfpaifkcmoaaApart
import Derived.Test.YtiodfpaifkcmoaaReader
namespace Go.Proofs.Ytiodfpaifkcmoaa
open Go.RowKit

theorem wd_le (w : Int) : 1 ≤ wd w ∧ wd w ≤ 8 := by
  unfold wd
  split
  · omega
  · split
    · omega
    · split <;> omega

theorem own_lt {w : World} {B e n : Nat} {v : Value} {xs : List Value} (h : w.ownsRow B e 1 v n xs) (h0 : 0 < n) : ∃ g cap, v = .slice (some ⟨g, 0, none⟩) n cap ∧ B ≤ g ∧ g < w.heap.size := by
  rcases h.2 with ⟨_, e0⟩ | ⟨g, cap, cur, rfl, hb, hh, _⟩
  · omega
  · exact ⟨g, cap, rfl, hb, (Array.getElem?_eq_some_iff.1 hh).1⟩

theorem HV.three (w : World) (a b c : Value) : HV (w.alloc (.cells #[a, b, c] 23)) (.slice (some ⟨w.heap.size, 0, none⟩) 3 3) [a, b, c] := by
  refine ⟨_, _, rfl, by simp, by decide, fun _ => ⟨w.heap.size, 0, rfl, ⟨_, _, heap_alloc_new w _⟩, fun k hk => ?_⟩⟩
  match k, hk with
  | 0, _ => simp
  | 1, _ => simp
  | 2, _ => simp

set_option maxHeartbeats 4000000 in
theorem numbers_walk (w : World) (vb : Value) (lb : List Int) (x y : Nat) (d : Int) (hb : HB w vb lb) (hx : x < 18446744073709551616) (hy : y < 18446744073709551616) (hlb : lb.length ≤ 140737488351232) :
    Calls Try.prog 3 #[.int .u64 (x : Int), .int .u64 (y : Int), vb, .int .i64 d] w fun e w' => e = .returned (.bool true) ∧ Below w.heap.size w w' := by
  obtain ⟨n, HN⟩ : ∃ n, Hid (wd d = n) := ⟨_, rfl⟩
  have hn := wd_le d
  rw [HN.out] at hn
  obtain ⟨hn1, hn8⟩ := hn
  obtain ⟨pb, cb, eb, _, hmb⟩ := hb.open
  have HBb := hid hb
  clear hb
  subst eb
  have cutlt : ∀ z : Nat, z < 18446744073709551616 → z % 256 ^ n < 18446744073709551616 := fun z hz => Nat.lt_of_le_of_lt (Nat.mod_le _ _) hz
  obtain ⟨cx, HCX⟩ : ∃ cx, Hid (x % 256 ^ n = cx) := ⟨_, rfl⟩
  obtain ⟨cy, HCY⟩ : ∃ cy, Hid (y % 256 ^ n = cy) := ⟨_, rfl⟩
  have hcx : cx < 18446744073709551616 := by rw [← HCX.out]; exact cutlt x hx
  have hcy : cy < 18446744073709551616 := by rw [← HCY.out]; exact cutlt y hy
  obtain ⟨bx, HBX⟩ : ∃ bx, Hid (bigL n x = bx) := ⟨_, rfl⟩
  obtain ⟨by', HBY⟩ : ∃ by', Hid (bigL n y = by') := ⟨_, rfl⟩
  have hbxl : bx.length = n := by rw [← HBX.out, bigL_length]
  have hbyl : by'.length = n := by rw [← HBY.out, bigL_length]
  have HBXb : Hid (∀ z ∈ bx, 0 ≤ z ∧ z < 256) := by rw [← HBX.out]; exact bigL_byt _ _
  have HBYb : Hid (∀ z ∈ by', 0 ≤ z ∧ z < 256) := by rw [← HBY.out]; exact bigL_byt _ _
  have HXL := hid hbxl
  have HYL := hid hbyl
  clear cutlt hbxl hbyl
  -- the contracts, at these numbers
  have hcutx : ∀ W, Hid (Calls Try.prog 10 #[.int .u64 (x : Int), .int .i64 d] W fun e W' => e = .returned (.int .u64 (cx : Int)) ∧ W' = W) := fun W => by
    have := lcut_any W x hx d
    rw [HN.out, HCX.out] at this
    exact this
  have hcuty : ∀ W, Hid (Calls Try.prog 10 #[.int .u64 (y : Int), .int .i64 d] W fun e W' => e = .returned (.int .u64 (cy : Int)) ∧ W' = W) := fun W => by
    have := lcut_any W y hy d
    rw [HN.out, HCY.out] at this
    exact this
  have hwid : ∀ W, Hid (Calls Try.prog 11 #[.int .i64 d] W fun e W' => e = .returned (.int .i64 (n : Int)) ∧ W' = W) := fun W => by
    have := lwidth_any W d
    rw [HN.out] at this
    exact this
  have hrx : ∀ W, Hid (Calls Try.prog 9 #[.int .u64 (cx : Int), .int .i64 (n : Int)] W fun e W' => ∃ v', e = .returned v' ∧ W'.ownsRow W.heap.size 5 1 v' n (bx.map (Value.int .u8)) ∧ Below W.heap.size W W') := fun W => by
    have := rbig_any W cx n hcx hn8
    rw [← HCX.out, bigL_cut, HBX.out, HCX.out] at this
    exact this
  have hry : ∀ W, Hid (Calls Try.prog 9 #[.int .u64 (cy : Int), .int .i64 (n : Int)] W fun e W' => ∃ v', e = .returned v' ∧ W'.ownsRow W.heap.size 5 1 v' n (by'.map (Value.int .u8)) ∧ Below W.heap.size W W') := fun W => by
    have := rbig_any W cy n hcy hn8
    rw [← HCY.out, bigL_cut, HBY.out, HCY.out] at this
    exact this
  have hbx : ∀ W, Hid (Calls Try.prog 12 #[.int .u64 (x : Int), .int .i64 d] W fun e W' => ∃ v', e = .returned v' ∧ W'.ownsRow W.heap.size 5 1 v' n (bx.map (Value.int .u8)) ∧ Below W.heap.size W W') := fun W => by
    have := lbig_any W x hx d
    rw [HN.out, HBX.out] at this
    exact this
  have hby : ∀ W, Hid (Calls Try.prog 12 #[.int .u64 (y : Int), .int .i64 d] W fun e W' => ∃ v', e = .returned v' ∧ W'.ownsRow W.heap.size 5 1 v' n (by'.map (Value.int .u8)) ∧ Below W.heap.size W W') := fun W => by
    have := lbig_any W y hy d
    rw [HN.out, HBY.out] at this
    exact this
  have C1 := hid hcutx; have C2 := hid hcuty; have C3 := hid hwid; have C4 := hid hrx; have C5 := hid hry; have C6 := hid hbx; have C7 := hid hby
  clear hcutx hcuty hwid hrx hry hbx hby
  go_enter Try.func3, Try.ntmps3
  go_wp2_with fail
  refine (C1.out w).out.mono ?_
  rintro e w' ⟨rfl, hw⟩
  have hw' := hw.symm
  subst hw'
  clear hw
  go_wp2_with fail
  refine (C3.out w).out.mono ?_
  rintro e w' ⟨rfl, hw⟩
  have hw' := hw.symm
  subst hw'
  clear hw
  go_wp2_with fail
  refine (C4.out w).out.mono ?_
  rintro e w1 ⟨v1, rfl, ho1, hB1⟩
  have O1 := hid (HB.of_own (l := bx) (by rw [HXL.out]; exact ho1) HBXb.out)
  have B1 := hid hB1
  clear ho1 hB1
  go_wp2_with fail
  refine (C2.out w1).out.mono ?_
  rintro e w' ⟨rfl, hw⟩
  have hw' := hw.symm
  subst hw'
  clear hw
  go_wp2_with fail
  refine (C3.out w1).out.mono ?_
  rintro e w' ⟨rfl, hw⟩
  have hw' := hw.symm
  subst hw'
  clear hw
  go_wp2_with fail
  refine (C5.out w1).out.mono ?_
  rintro e w2 ⟨v2, rfl, ho2, hB2⟩
  have O2 := hid (HB.of_own (l := by') (by rw [HYL.out]; exact ho2) HBYb.out)
  have O1b := hid (O1.out.below hB2)
  have B2 := hid (B1.out.trans (hB2.mono B1.out.size))
  clear ho2 hB2 O1 B1
  go_wp2_with fail
  refine (C6.out w2).out.mono ?_
  rintro e w3 ⟨v3, rfl, ho3, hB3⟩
  have R3 := hid ho3
  have O2b := hid (O2.out.below hB3)
  have O1c := hid (O1b.out.below hB3)
  have B3 := hid (B2.out.trans (hB3.mono B2.out.size))
  have hsz2 : w2.heap.size ≤ w3.heap.size := hB3.size
  have hsz0 : w.heap.size ≤ w2.heap.size := B2.out.size
  clear ho3 hB3 O2 O1b B2
  go_wp2_with fail
  refine (C6.out w3).out.mono ?_
  rintro e w4 ⟨v4, rfl, ho4, hB4⟩
  have R3b := hid (R3.out.kept (grown_below (r := none) hB4) (by cases v3.ownBlock <;> simp))
  have R4 := hid ho4
  have O2 := hid (O2b.out.below hB4)
  have O1 := hid (O1c.out.below hB4)
  have B4 := hid (B3.out.trans (hB4.mono B3.out.size))
  have hsz3 : w3.heap.size ≤ w4.heap.size := hB4.size
  obtain ⟨g3, c3, e3, hg3, hg3b⟩ := own_lt R3.out (by omega)
  clear ho4 hB4 O2b O1c B3 R3
  go_wp2_with fail
  refine (C7.out w4).out.mono ?_
  rintro e w5 ⟨v5, rfl, ho5, hB5⟩
  have R3c := hid (R3b.out.kept (grown_below (r := none) hB5) (by cases v3.ownBlock <;> simp))
  have R4b := hid (R4.out.kept (grown_below (r := none) hB5) (by cases v4.ownBlock <;> simp))
  have R5 := hid ho5
  have O2b := hid (O2.out.below hB5)
  have O1b := hid (O1.out.below hB5)
  have B5 := hid (B4.out.trans (hB5.mono B4.out.size))
  obtain ⟨g4, c4, e4, hg4, hg4b⟩ := own_lt R4.out (by omega)
  obtain ⟨g5, c5, e5, hg5, hg5b⟩ := own_lt R5.out (by omega)
  obtain ⟨p1, c1, e1, _, _⟩ := O1b.out.open
  obtain ⟨p2, c2, e2, _, _⟩ := O2b.out.open
  have hne34 : g3 ≠ g4 := by omega
  have hne35 : g3 ≠ g5 := by omega
  have hne45 : g4 ≠ g5 := by omega
  have HNE := hid (And.intro hne34 (And.intro hne35 hne45))
  clear ho5 hB5 O2 O1 B4 R3b R4 hne34 hne35 hne45
  subst e1 e2 e3 e4 e5
  have F3 := hid (HB.of_own (l := bx) (by rw [HXL.out]; exact R3c.out) HBXb.out)
  have F4 := hid (HB.of_own (l := bx) (by rw [HXL.out]; exact R4b.out) HBXb.out)
  have F5 := hid (HB.of_own (l := by') (by rw [HYL.out]; exact R5.out) HBYb.out)
  go_wp2_with fail
  refine (sameBytes_any w5 _ _ bx bx F3.out O1b.out).mono ?_
  rintro e w6 ⟨rfl, hD6⟩
  rw [decide_eq_true rfl]
  have D6 := hid hD6
  clear hD6
  go_wp2_with fail
  refine (sameBytes_any w6 _ _ bx bx (F4.out.dr D6.out) (O1b.out.dr D6.out)).mono ?_
  rintro e w7 ⟨rfl, hD7⟩
  rw [decide_eq_true rfl]
  have D7 := hid (D6.out.trans hD7)
  clear hD7 D6
  go_wp2_with fail
  refine (sameBytes_any w7 _ _ by' by' (F5.out.dr D7.out) (O2b.out.dr D7.out)).mono ?_
  rintro e w8 ⟨rfl, hD8⟩
  rw [decide_eq_true rfl]
  have D8 := hid (D7.out.trans hD8)
  have tr : ∀ z : Option Nat, z = none ∨ z ≠ none := fun z => by cases z <;> simp
  have hal := World.grownBy_alloc w8 (.cells #[.slice (some ⟨g3, 0, none⟩) n c3, .slice (some ⟨g4, 0, none⟩) n c4, .slice (some ⟨g5, 0, none⟩) n c5] 23) none
  have hd8 := grown_below (r := none) (D8.out.below w5.heap.size)
  have hAp : Apt w.heap.size (w8.alloc (.cells #[.slice (some ⟨g3, 0, none⟩) n c3, .slice (some ⟨g4, 0, none⟩) n c4, .slice (some ⟨g5, 0, none⟩) n c5] 23)) [.slice (some ⟨g3, 0, none⟩) n c3, .slice (some ⟨g4, 0, none⟩) n c4, .slice (some ⟨g5, 0, none⟩) n c5] [bx, bx, by'] := by
    refine ⟨rfl, fun k hk => ?_, fun i j hi hj hij => ?_⟩
    · match k, hk with
      | 0, _ => exact own_mono (by show World.ownsRow _ _ _ _ _ bx.length _; rw [HXL.out]; exact (R3c.out.kept hd8 (tr _)).kept hal (tr _)) (by omega)
      | 1, _ => exact own_mono (by show World.ownsRow _ _ _ _ _ bx.length _; rw [HXL.out]; exact (R4b.out.kept hd8 (tr _)).kept hal (tr _)) (by omega)
      | 2, _ => exact own_mono (by show World.ownsRow _ _ _ _ _ by'.length _; rw [HYL.out]; exact (R5.out.kept hd8 (tr _)).kept hal (tr _)) (by omega)
    · obtain ⟨h34, h35, h45⟩ := HNE.out
      have hi3 : i = 0 ∨ i = 1 ∨ i = 2 := by simp at hi; omega
      have hj3 : j = 0 ∨ j = 1 ∨ j = 2 := by simp at hj; omega
      rcases hi3 with rfl | rfl | rfl <;> rcases hj3 with rfl | rfl | rfl <;> first | exact absurd rfl hij | exact .inr (by simp [Value.ownBlock, h34, h35, h45, Ne.symm h34, Ne.symm h35, Ne.symm h45])
  have HAp := hid hAp
  have B8 := hid (B5.out.trans ((D8.out.below _).mono B5.out.size))
  have HLS : Hid (∀ k, (([bx, bx, by'] : List (List Int)).getD k []).length ≤ 16777216) := fun k => by
    match k with
    | 0 => show bx.length ≤ _; rw [HXL.out]; omega
    | 1 => show bx.length ≤ _; rw [HXL.out]; omega
    | 2 => show by'.length ≤ _; rw [HYL.out]; omega
    | k + 3 => simp
  clear hAp hal hd8 tr hD8 D7 F3 F4 F5 O1b O2b R3c R4b R5 B5
  go_wp2_with fail
  refine (apart_any w.heap.size _ _ _ _ (HV.three w8 _ _ _) HAp.out (by have := B8.out.size; simp; omega) (by simp) HLS.out).mono ?_
  rintro e w9 ⟨rfl, hB9⟩
  have B9 := hid ((B8.out.alloc B8.out.size _).trans hB9)
  clear hB9 HAp B8
  go_wp2_with fail
  refine (lent_any w9 _ lb (HBb.out.below B9.out) hlb).mono ?_
  rintro e w10 ⟨v10, rfl, ho10, hB10⟩
  have B10 := hid (B9.out.trans (hB10.mono B9.out.size))
  have F10 := hid (HB.of_own ho10 (lent_byt HBb.out.2))
  obtain ⟨p10, c10, e10, hc10, hm10⟩ := F10.out.open
  have hll := lent_length lb
  rw [hll] at e10 hc10
  clear ho10 hB10 B9
  subst e10
  have F11 : Hid (HB w10 (.slice p10 lb.length c10) lb) := by
    have h1 := F10.out
    have h2 : HB w10 (.slice p10 (lent lb).length c10) (lent lb) := by rw [hll]; exact h1
    have h3 := h2.sliced 0 lb.length c10 (Nat.zero_le _) (by rw [hll]; omega) (by omega) (Nat.le_refl _)
    rw [lent_take] at h3
    have e : (if c10 = 0 then p10 else p10.map (·.add 0)) = p10 := by
      split
      · rfl
      · cases p10 <;> simp [Addr.add]
    rw [e] at h3
    show HB _ _ _
    simpa using h3
  unfold maxLen at hm10 hmb
  have hc10' : lb.length ≤ c10 := by omega
  have sz := size_u8
  clear hll hc10
  have hsm := lsmall_any w10 _ lb F11.out d
  rw [HN.out] at hsm
  have hrs := rsmall_any w10 _ lb n (HBb.out.below B10.out) hn1 hn8
  obtain ⟨sn, HSN⟩ : ∃ sn, Hid (smallNo n lb = sn) := ⟨_, rfl⟩
  obtain ⟨se, HSE⟩ : ∃ se, Hid (smallErr n lb = se) := ⟨_, rfl⟩
  rw [HSN.out, HSE.out] at hsm hrs
  have HSM := hid hsm
  have HRS := hid hrs
  clear hsm hrs
  have q1 : ((sn : Int) == (sn : Int)) = true := by simp
  have q2 : (se == se) = true := by simp
  go_wp2_with fail
  refine HSM.out.mono ?_
  rintro e w' ⟨rfl, hw⟩
  have hw' := hw.symm
  subst hw'
  clear hw
  go_wp2_with fail
  refine (C3.out w10).out.mono ?_
  rintro e w' ⟨rfl, hw⟩
  have hw' := hw.symm
  subst hw'
  clear hw
  go_wp2_with fail
  refine HRS.out.mono ?_
  rintro e w' ⟨rfl, hw⟩
  have hw' := hw.symm
  subst hw'
  clear hw
  go_wp2_with fail
  refine (kept_any w10 _ _ (lent lb) lb F10.out (HBb.out.below B10.out) hlb).mono ?_
  rintro e w11 ⟨rfl, hB11⟩
  rw [decide_eq_true rfl]
  have B11 := hid (B10.out.trans (hB11.mono B10.out.size))
  clear hB11
  go_wp2
  go_ret
  exact ⟨rfl, B11.out⟩
end Go.Proofs.Ytiodfpaifkcmoaa
