/- Texts laid together: TrRef2, TrRef3. -/
import Derived.Test.YtjmlpkemjafifaaDoorTrRef
import Derived.Test.YtjmlpkemjafifaaDoorPfNeeds
import Derived.Test.YtjmlpkemjafifaaDoorTrClimb

/- The document's tree: place, Up, Chain, Climb, walked. -/
set_option linter.unusedVariables false
set_option linter.unusedSimpArgs false
namespace Go.Proofs.YtjmlpkemjafifaaDoor
open Go.RowKit

theorem qdiv2 (x : Nat) : (x : Int).tdiv 2 = ((x / 2 : Nat) : Int) := by rw [Int.tdiv_eq_ediv_of_nonneg (by omega)]; omega
theorem qmod2 (x : Nat) : (x : Int).tmod 2 = ((x % 2 : Nat) : Int) := by rw [Int.tmod_eq_emod_of_nonneg (by omega)]; omega
set_option maxRecDepth 100000 in
theorem rplace_ok (w : World) (n i : Nat) (h1 : 1 ≤ n) (h2 : n ≤ 512) (hi : i < n) : Calls Tryd.prog 83 #[.int .i64 (n : Int), .int .i64 (i : Int)] w fun e w' => e = .returned (.int .i64 0) ∧ w' = w := by
  have CW := hid (rwidth_ok w n h1 h2)
  have hWl := wdN_le n
  generalize wdN n = W at CW hWl
  have hW0 : ((W : Int) == 0) = false := by simp; omega
  have hi1 : ¬ (i : Int) < 0 := by omega
  have hi2 : ¬ (n : Int) ≤ (i : Int) := by omega
  go_enter Tryd.func83, Tryd.ntmps83
  go_wp2_with fail
  refine CW.out.mono ?_
  rintro e w1 ⟨rfl, rfl⟩
  clear CW
  go_wp2
  go_ret
  exact ⟨rfl, rfl⟩
/-- The nodes of a way up. -/
def upL (x m : Nat) : List Nat := (List.range m).map fun j => x / 2 ^ j
theorem upL_length (x m : Nat) : (upL x m).length = m := by simp [upL]
theorem upL_succ (x m : Nat) : upL x (m + 1) = upL x m ++ [x / 2 ^ m] := by simp [upL, List.range_succ]
set_option maxRecDepth 100000 in
set_option maxHeartbeats 4000000 in
theorem rup_ok (w : World) (n i k : Nat) (h1 : 1 ≤ n) (h2 : n ≤ 512) (hi : i < n) (hk : wdN n = 2 ^ k) (hk9 : k < 10) : Calls Tryd.prog 84 #[.int .i64 (n : Int), .int .i64 (i : Int)] w fun e w' => ∃ v, e = .returned v ∧ HNs w' v (upL (wdN n + i) (k + 1)) ∧ Below w.heap.size w w' := by
  have CPl := hid (rplace_ok w n i h1 h2 hi)
  have CW := hid (rwidth_ok w n h1 h2)
  have hWg := wdN_ge n h2
  have hWl := wdN_le n
  have HK := hid hk
  obtain ⟨W, HW⟩ : ∃ W, Hid (wdN n = W) := ⟨_, rfl⟩
  rw [HW.out] at CW hWg hWl HK
  rw [HW.out]
  obtain ⟨hW5, hW1⟩ := hWl
  obtain ⟨x, HX⟩ : ∃ x, Hid (W + i = x) := ⟨_, rfl⟩
  rw [HX.out]
  have hx1 : 1 ≤ x := by have := HX.out; omega
  have hx2 : x < 1024 := by have := HX.out; omega
  have HXk : Hid (2 ^ k ≤ x ∧ x < 2 ^ (k + 1)) := by
    have := HX.out
    have e := HK.out
    rw [Nat.pow_succ, ← e]
    exact ⟨by omega, by omega⟩
  have ew : IntKind.i64.wrap ((W : Int) + (i : Int)) = (x : Int) := by have := HX.out; rw [IntKind.wrap_i64]; omega
  clear hk
  go_enter Tryd.func84, Tryd.ntmps84
  go_wp2_with fail
  refine CPl.out.mono ?_
  rintro e w1 ⟨rfl, rfl⟩
  clear CPl
  go_wp2_with fail
  refine CW.out.mono ?_
  rintro e w2 ⟨rfl, rfl⟩
  clear CW
  go_wp2
  clear ew
  go_loopw [5, 6] (fun s q wr => ∃ j : Nat, j ≤ k + 1 ∧ q = .int .i64 ((x / 2 ^ j : Nat) : Int) ∧ Hid (wr.ownsRow w2.heap.size 3 1 s (upL x j).length (ivs (upL x j))) ∧ Hid (Below w2.heap.size w2 wr)) (fun _ q _ => (intOf q).toNat)
  case atStart => exact ⟨0, Nat.zero_le _, by rw [Nat.pow_zero, Nat.div_one], World.ownsRow_nil _ _ _ _, Below.refl _ _⟩
  case round =>
    obtain ⟨j, hj, rfl, HO, HB⟩ := hrel
    by_cases hlt : j < k + 1
    · have hy1 : 1 ≤ x / 2 ^ j := by
        rw [Nat.le_div_iff_mul_le (Nat.pow_pos (by decide)), Nat.one_mul]
        exact Nat.le_trans (Nat.pow_le_pow_right (by decide) (by omega)) HXk.out.1
      have hy2 : x / 2 ^ j < 1024 := Nat.lt_of_le_of_lt (Nat.div_le_self _ _) hx2
      have HS : Hid (x / 2 ^ j / 2 = x / 2 ^ (j + 1)) := by rw [Nat.div_div_eq_div_mul, ← Nat.pow_succ]; exact rfl
      have HU := hid (upL_succ x j)
      have hul : (upL x j).length ≤ 10 := by rw [upL_length]; omega
      generalize x / 2 ^ j = y at hy1 hy2 HS HU
      have hy1i : (1 : Int) ≤ (y : Int) := by omega
      have etd := qdiv2 y
      have ewd : IntKind.i64.wrap ((y / 2 : Nat) : Int) = ((y / 2 : Nat) : Int) := by rw [IntKind.wrap_i64]; omega
      have hbase := HB.out.size
      go_wp2_with (refine wpList_append_int rfl _ _ rfl w2.heap.size _ (upL x j).length (ivs (upL x j)) rfl (HO.out.alloc _) _ _ (y : Int) rfl (by rw [cell_of_row _ wr.heap.size 0 _ _ _ (heap_alloc_new wr _)]; rfl) (by omega) (by simp; omega) ?_; intro v' w5 ho5 hg5 hown5)
      have HO5 : Hid (w5.ownsRow w2.heap.size 3 1 v' (upL x (j + 1)).length (ivs (upL x (j + 1)))) := by
        rw [HU.out, List.length_append]
        have e1 : ivs (upL x j ++ [y]) = ivs (upL x j) ++ [.int .i64 (y : Int)] := by simp [ivs]
        rw [e1]
        exact ho5
      have HB5 : Hid (Below w2.heap.size w2 w5) := (HB.out.alloc HB.out.size _).grown hg5 (by simp; omega) (fun q hq => (HO.out.lt q hq).1)
      clear ho5 hg5 hown5
      exact ⟨⟨j + 1, by omega, by rw [← HS.out]; exact congrArg (Value.int .i64) (by omega), HO5, HB5⟩, by simp [intOf]; omega⟩
    · have hjk : j = k + 1 := by omega
      subst hjk
      have hz : x / 2 ^ (k + 1) = 0 := Nat.div_eq_of_lt HXk.out.2
      rw [hz]
      clear hz
      go_wp2
      go_ret
      exact ⟨_, rfl, HNs.of_own HO.out, HB.out⟩
theorem chL_succ (k x : Nat) {j : Nat} (h : j < k) : (chL k x).take (j + 1) = (chL k x).take j ++ [(x / 2 ^ j) ^^^ 1] := by
  have hl : j < (chL k x).length := by rw [chL_length]; exact h
  rw [List.take_succ_eq_append_getElem hl]
  simp [chL]
set_option maxRecDepth 100000 in
set_option maxHeartbeats 4000000 in
theorem rchain_ok (w : World) (n i k : Nat) (h1 : 1 ≤ n) (h2 : n ≤ 512) (hi : i < n) (hk : wdN n = 2 ^ k) (hk9 : k < 10) : Calls Tryd.prog 78 #[.int .i64 (n : Int), .int .i64 (i : Int)] w fun e w' => ∃ v, e = .returned (.tuple #[v, .int .i64 0]) ∧ HNs w' v (chL k (wdN n + i)) ∧ (∀ b, v.ownBlock = some b → w.heap.size ≤ b) ∧ Below w.heap.size w w' := by
  have CPl := hid (rplace_ok w n i h1 h2 hi)
  have CU := hid (rup_ok w n i k h1 h2 hi hk hk9)
  have hWg := wdN_ge n h2
  have hWl := wdN_le n
  obtain ⟨x, HX⟩ : ∃ x, Hid (wdN n + i = x) := ⟨_, rfl⟩
  have hx1 : 1 ≤ x := by have := HX.out; omega
  have hx2 : x < 1024 := by have := HX.out; omega
  have HXk : Hid (2 ^ k ≤ x ∧ x < 2 ^ (k + 1)) := by
    have := HX.out
    rw [Nat.pow_succ, ← hk]
    exact ⟨by omega, by omega⟩
  rw [HX.out] at CU
  rw [HX.out]
  clear hk hWg hWl
  go_enter Tryd.func78, Tryd.ntmps78
  go_wp2_with fail
  refine CPl.out.mono ?_
  rintro e w1 ⟨rfl, rfl⟩
  clear CPl
  go_wp2_with fail
  refine CU.out.mono ?_
  rintro e w2 ⟨v, rfl, hN, hB2⟩
  have BL2 := hid hB2
  obtain ⟨p, c, rfl, hcells⟩ := hN
  rw [upL_length]
  have HC := hid (hcells (by rw [upL_length]; omega))
  clear hB2 CU hcells
  obtain ⟨bb, off, hp, hcell⟩ := HC.out
  subst hp
  have HCE := hid hcell
  clear hcell HC
  go_wp2
  go_loopw [7, 9] (fun s q wr => ∃ j : Nat, j ≤ k + 1 ∧ q = .int .i64 j ∧ Hid (wr.ownsRow w2.heap.size 3 1 s ((chL k x).take j).length (ivs ((chL k x).take j))) ∧ Hid (Below w2.heap.size w2 wr)) (fun _ q _ => k + 1 - (intOf q).toNat)
  case atStart => exact ⟨0, Nat.zero_le _, rfl, World.ownsRow_nil _ _ _ _, Below.refl _ _⟩
  case round =>
    obtain ⟨j, hj, rfl, HO, HB⟩ := hrel
    by_cases hlt : j < k + 1
    · have hlti : (j : Int) < ((k + 1 : Nat) : Int) := by omega
      have hcj := HCE.out j (by rw [upL_length]; exact hlt)
      have e0 : (upL x (k + 1)).getD j 0 = x / 2 ^ j := by simp [upL, List.getD, hlt]
      rw [e0] at hcj
      have hcj' : wr.cell? ⟨bb, off + j, none⟩ = some (.int .i64 ((x / 2 ^ j : Nat) : Int)) := (HB.out.cell (World.block_lt_of_cell? w2 _ hcj)).trans hcj
      have hy1 : 1 ≤ x / 2 ^ j := by
        rw [Nat.le_div_iff_mul_le (Nat.pow_pos (by decide)), Nat.one_mul]
        exact Nat.le_trans (Nat.pow_le_pow_right (by decide) (by omega)) HXk.out.1
      have hy2 : x / 2 ^ j < 1024 := Nat.lt_of_le_of_lt (Nat.div_le_self _ _) hx2
      have HTOP : Hid (j = k → x / 2 ^ j = 1) := fun e => by
        subst e
        rw [Nat.div_eq_of_lt_le]
        · rw [Nat.one_mul]; exact HXk.out.1
        · have := HXk.out.2; rw [Nat.pow_succ] at this; omega
      have HBIG : Hid (j < k → 2 ≤ x / 2 ^ j) := fun e => by
        rw [Nat.le_div_iff_mul_le (Nat.pow_pos (by decide))]
        have : 2 * 2 ^ j ≤ 2 ^ k := by rw [← Nat.pow_succ']; exact Nat.pow_le_pow_right (by decide) e
        have := HXk.out.1
        omega
      have HSU : Hid (j < k → (chL k x).take (j + 1) = (chL k x).take j ++ [(x / 2 ^ j) ^^^ 1]) := fun e => chL_succ k x e
      have hul : ((chL k x).take j).length ≤ 10 := by rw [List.length_take, chL_length]; omega
      clear hcj e0
      generalize x / 2 ^ j = y at hcj' hy1 hy2 HTOP HBIG HSU
      have etm := qmod2 y
      have ewm : IntKind.i64.wrap ((y % 2 : Nat) : Int) = ((y % 2 : Nat) : Int) := by rw [IntKind.wrap_i64]; omega
      have hbase := HB.out.size
      have hxo : y ^^^ 1 = if y % 2 = 1 then y - 1 else y + 1 := xor1 y
      by_cases hp : y % 2 = 1
      · rw [if_pos hp] at hxo
        have etm0 : ((y % 2 : Nat) : Int) = 1 := by rw [hp]; rfl
        rw [etm0] at etm ewm
        clear hp etm0
        by_cases hjk : j < k
        · have hy3 : (1 : Int) < (y : Int) := by have := HBIG.out hjk; omega
          have HS2 := hid (HSU.out hjk)
          rw [hxo] at HS2
          have ewy : IntKind.i64.wrap ((y : Int) - 1) = ((y - 1 : Nat) : Int) := by rw [IntKind.wrap_i64]; omega
          obtain ⟨y', HY'⟩ : ∃ y', Hid (y - 1 = y') := ⟨_, rfl⟩
          rw [HY'.out] at HS2 ewy
          clear hxo
          go_wp2_with (refine wpList_append_int rfl _ _ rfl w2.heap.size _ ((chL k x).take j).length (ivs ((chL k x).take j)) rfl (HO.out.alloc _) _ _ (y' : Int) rfl (by rw [cell_of_row _ wr.heap.size 0 _ _ _ (heap_alloc_new wr _)]; rfl) (by omega) (by simp; omega) ?_; intro v' w5 ho5 hg5 hown5)
          have HO5 : Hid (w5.ownsRow w2.heap.size 3 1 v' ((chL k x).take (j + 1)).length (ivs ((chL k x).take (j + 1)))) := by
            rw [HS2.out, List.length_append]
            have e1 : ivs ((chL k x).take j ++ [y']) = ivs ((chL k x).take j) ++ [.int .i64 (y' : Int)] := by simp [ivs]
            rw [e1]
            exact ho5
          have HB5 : Hid (Below w2.heap.size w2 w5) := (HB.out.alloc HB.out.size _).grown hg5 (by simp; omega) (fun q hq => (HO.out.lt q hq).1)
          clear ho5 hg5 hown5
          exact ⟨⟨j + 1, by omega, by go_num, HO5, HB5⟩, by simp [intOf]; omega⟩
        · have hjk2 : j = k := by omega
          have hy3 : ¬ (1 : Int) < (y : Int) := by have := HTOP.out hjk2; omega
          have HO5 := hid HO.out
          rw [List.take_of_length_le (by rw [chL_length]; omega), ← List.take_of_length_le (l := chL k x) (i := j + 1) (by rw [chL_length]; omega)] at HO5
          clear hxo hjk2
          go_wp2
          exact ⟨⟨j + 1, by omega, by go_num, HO5, HB⟩, by simp [intOf]; omega⟩
      · rw [if_neg hp] at hxo
        have etm0 : ((y % 2 : Nat) : Int) = 0 := by rw [show y % 2 = 0 by omega]; rfl
        rw [etm0] at etm ewm
        have hjk : j < k := by
          apply Classical.byContradiction
          intro h
          have := HTOP.out (by omega)
          omega
        clear hp etm0
        have HS2 := hid (HSU.out hjk)
        rw [hxo] at HS2
        have ewy : IntKind.i64.wrap ((y : Int) + 1) = ((y + 1 : Nat) : Int) := by rw [IntKind.wrap_i64]; omega
        obtain ⟨y', HY'⟩ : ∃ y', Hid (y + 1 = y') := ⟨_, rfl⟩
        rw [HY'.out] at HS2 ewy
        clear hxo
        go_wp2_with (refine wpList_append_int rfl _ _ rfl w2.heap.size _ ((chL k x).take j).length (ivs ((chL k x).take j)) rfl (HO.out.alloc _) _ _ (y' : Int) rfl (by rw [cell_of_row _ wr.heap.size 0 _ _ _ (heap_alloc_new wr _)]; rfl) (by omega) (by simp; omega) ?_; intro v' w5 ho5 hg5 hown5)
        have HO5 : Hid (w5.ownsRow w2.heap.size 3 1 v' ((chL k x).take (j + 1)).length (ivs ((chL k x).take (j + 1)))) := by
          rw [HS2.out, List.length_append]
          have e1 : ivs ((chL k x).take j ++ [y']) = ivs ((chL k x).take j) ++ [.int .i64 (y' : Int)] := by simp [ivs]
          rw [e1]
          exact ho5
        have HB5 : Hid (Below w2.heap.size w2 w5) := (HB.out.alloc HB.out.size _).grown hg5 (by simp; omega) (fun q hq => (HO.out.lt q hq).1)
        clear ho5 hg5 hown5
        exact ⟨⟨j + 1, by omega, by go_num, HO5, HB5⟩, by simp [intOf]; omega⟩
    · have hlti : ¬ (j : Int) < ((k + 1 : Nat) : Int) := by omega
      have HO5 := hid HO.out
      rw [List.take_of_length_le (by rw [chL_length]; omega)] at HO5
      go_wp2
      go_ret2
      exact ⟨_, rfl, HNs.of_own HO5.out, (fun b hb => Nat.le_trans BL2.out.size (HO5.out.lt b hb).1), BL2.out.trans (HB.out.mono BL2.out.size)⟩
end Go.Proofs.YtjmlpkemjafifaaDoor

/- The document's Climb, walked. -/
set_option linter.unusedVariables false
set_option linter.unusedSimpArgs false
namespace Go.Proofs.YtjmlpkemjafifaaDoor
open Go.RowKit

set_option maxRecDepth 100000 in
set_option maxHeartbeats 4000000 in
theorem rclimb_ok (w : World) (n i k : Nat) (d : List Int) (v : Value) (cs : List (List Int)) (hd : D32 d) (hv : HDs w v cs) (h1 : 1 ≤ n) (h2 : n ≤ 512) (hi : i < n) (hk : wdN n = 2 ^ k) (hk9 : k < 10) (hl : cs.length = k) :
    Calls Tryd.prog 63 #[.int .i64 (n : Int), .int .i64 (i : Int), .agg (cellsB d), v] w fun e w' => e = .returned (.tuple #[.agg (cellsB (clV cs (wdN n + i) d)), .int .i64 0]) ∧ Below w.heap.size w w' := by
  obtain ⟨zd, HZD⟩ : ∃ zd, Hid (cellsB zeros32 = zd) := ⟨_, rfl⟩
  obtain ⟨cd, HCD⟩ : ∃ cd, Hid (cellsB d = cd) := ⟨_, rfl⟩
  rw [HCD.out]
  obtain ⟨W0, hW0⟩ : ∃ W0, Hid ((w.alloc (.cells cd 28)).alloc (.cells zd 28) = W0) := ⟨_, rfl⟩
  have e1 : (w.alloc (.cells cd 28)).heap.size = w.heap.size + 1 := by simp
  have HB0 : Hid (Below w.heap.size w W0) := by rw [← hW0.out]; exact ((Below.refl _ w).alloc (Nat.le_refl _) _).alloc (by simp) _
  have H1 : Hid (W0.heap[w.heap.size]? = some (.cells cd 28 (0, 0))) := by rw [← hW0.out]; exact heap_alloc2_old _ _ _
  have H2 : Hid (W0.heap[w.heap.size + 1]? = some (.cells zd 28 (0, 0))) := by rw [← hW0.out]; exact heap_alloc2_new _ _ _
  have hS0 : w.heap.size + 1 < W0.heap.size := (Array.getElem?_eq_some_iff.1 H2.out).1
  have SZ : Hid ((Tryd.prog.info? 28).map (·.size) = some zd.size) := by rw [← HZD.out]; exact size_digest
  have OZ : Hid (zd.all (·.oneCell') = true) := by rw [← HZD.out]; exact cellsB_one _
  have CC := hid (rchain_ok W0 n i k h1 h2 hi hk hk9)
  have hx9 : wdN n + i < 1024 := by have := wdN_le n; have := wdN_ge n h2; omega
  generalize wdN n + i = x at CC hx9 ⊢
  obtain ⟨pv, cv, ev, hcv, hmv⟩ := hv.open
  unfold maxLen at hmv
  have HV := hid hv
  rw [hl] at ev hcv
  subst ev
  clear hv
  go_enter Tryd.func63, Tryd.ntmps63
  go_wp2_with (refine wpList_alloc_digest rfl rfl ?_; rw [HZD.out, e1, hW0.out])
  refine CC.out.mono ?_
  rintro e w1 ⟨vb, rfl, hnb, hnew, hB1⟩
  have HNB := hid hnb
  have HNew := hid hnew
  clear hnew
  obtain ⟨pb, cb, evb, _⟩ := hnb
  rw [chL_length] at evb
  subst evb
  have K1 : Hid (w1.heap[w.heap.size]? = some (.cells (cellsB (clTo cs x d 0)) 28 (0, 0))) := by
    refine hid ?_
    rw [hB1.block _ (by omega), H1.out, ← HCD.out]
    rfl
  have K2 : Hid (w1.heap[w.heap.size + 1]? = some (.cells zd 28 (0, 0))) := (hB1.block _ hS0).trans H2.out
  have BL1 := hid (HB0.out.trans (hB1.mono HB0.out.size))
  have hw1 : w.heap.size + 1 < w1.heap.size := (Array.getElem?_eq_some_iff.1 K2.out).1
  have HCs := hid HV.out.2
  clear hB1 CC
  go_wp2
  go_loopw [12] (fun j wr => ∃ q : Nat, q ≤ k ∧ j = .int .i64 q ∧ Hid (wr.heap[w.heap.size]? = some (.cells (cellsB (clTo cs x d q)) 28 (0, 0))) ∧ Hid (wr.heap[w.heap.size + 1]? = some (.cells zd 28 (0, 0))) ∧ Hid (Below w.heap.size w wr) ∧ Hid (HNs wr (.slice pb k cb) (chL k x))) (fun j _ => k - (intOf j).toNat)
  case atStart => exact ⟨0, Nat.zero_le _, rfl, K1, K2, BL1, HNB⟩
  case round =>
    obtain ⟨q, hq, rfl, G1, G2, HBel, HNr⟩ := hrel
    have hgs : w.heap.size + 1 < wr.heap.size := (Array.getElem?_eq_some_iff.1 G2.out).1
    by_cases hlt : q < k
    case neg =>
      have hqk : q = k := by omega
      have hfin : clTo cs x d q = clV cs x d := by unfold clTo; rw [List.take_of_length_le (by omega)]
      rw [hfin] at G1
      obtain ⟨dm, HD⟩ : ∃ dm, Hid (cellsB (clV cs x d) = dm) := ⟨_, rfl⟩
      have hdD : D32 (clV cs x d) := by rw [← hfin]; exact clTo_D cs HCs.out x d hd q (by omega)
      have hds : dm.size = 32 := by rw [← HD.out, cellsB_size, hdD.1]
      have SD : Hid ((Tryd.prog.info? 28).map (·.size) = some dm.size) := by rw [hds]; exact size_digest
      have OD : Hid (dm.all (·.oneCell') = true) := by rw [← HD.out]; exact cellsB_one _
      have ZD : Hid (zd.size = dm.size) := by rw [hds, ← HZD.out]; rfl
      rw [HD.out] at G1
      have HBF := hid (below_setRow HBel.out (g := w.heap.size + 1) (Nat.le_succ _) dm)
      clear hds
      go_wp2_with (first
        | (refine wpList_load_row rfl 28 _ rfl w.heap.size rfl 28 dm (0, 0) _ G1.out Tryd.underlying28 rfl SD.out ?_)
        | (refine wpList_store_row rfl 28 _ _ rfl (w.heap.size + 1) dm rfl rfl 28 _ G2.out SD.out ZD.out OD.out ?_))
      refine bodyPost_ret (v := .tuple #[.agg dm, .int .i64 0]) (results_cellt (p := 8) (u := 9) (ty := 28) rfl _ _ (w.heap.size + 1) 28 dm (0, 0) _ rfl (setRow_heap _ _ _ _ _ _ G2.out) Tryd.underlying28 rfl SD.out _ rfl) rfl ?_
      exact ⟨by rw [HD.out], HBF.out⟩
    case pos =>
      obtain ⟨bc, oc, cc', ec, _, _, hbc, hrc⟩ := HV.out.ne (by rw [hl]; omega)
      simp only [Value.slice.injEq] at ec
      obtain ⟨rfl, -, -⟩ := ec
      have RC := hid (hrc q (by rw [hl]; exact hlt))
      have hdc := getD_D HCs.out q (by rw [hl]; exact hlt)
      have hdj := clTo_D cs HCs.out x d hd q (by omega)
      have HST := hid (clTo_step q cs x d (by rw [hl]; exact hlt))
      generalize cs.getD q [] = c1 at hdc RC HST
      generalize clTo cs x d q = dj at hdj HST G1
      obtain ⟨pn, cn, en, hnn⟩ := HNr.out
      rw [chL_length] at hnn
      simp only [Value.slice.injEq] at en
      obtain ⟨rfl, -, -⟩ := en
      obtain ⟨bn, on, rfl, hnc⟩ := hnn (by omega)
      have hbn0 := HNew.out bn rfl
      have hcell := hnc q hlt
      have hge : (chL k x).getD q 0 = (x / 2 ^ q) ^^^ 1 := by simp [chL, List.getD, hlt]
      rw [hge] at hcell
      have hyl : x / 2 ^ q < 1024 := Nat.lt_of_le_of_lt (Nat.div_le_self _ _) hx9
      have hpar := xor1_even (x / 2 ^ q)
      generalize x / 2 ^ q = y at hcell hpar HST hyl
      have hzb : (y ^^^ 1) < 1024 := Nat.xor_lt_two_pow (n := 10) hyl (by decide)
      generalize y ^^^ 1 = z at hcell hpar hzb
      have htm : Int.tmod (z : Int) 2 = ((z % 2 : Nat) : Int) := by rw [Int.tmod_eq_emod_of_nonneg (by omega)]; omega
      have CN : Hid (∀ W', _) := fun W' => rnode_any W' c1 dj hdc hdj
      have CN' : Hid (∀ W', _) := fun W' => rnode_any W' dj c1 hdj hdc
      have G1r : Hid (wr.rangeAt w.heap.size 0 (dc dj)) := fun j u hj => by
        rw [cell_of_row wr _ _ _ _ _ G1.out]
        rw [Nat.zero_add, ← dc_arr, List.getElem?_toArray]
        exact hj
      have hsj : (cellsB dj).size = 32 := by rw [cellsB_size, hdj.1]
      clear hnc hnn hrc
      by_cases hod : y % 2 = 1
      · have hz0 : z % 2 = 0 := by omega
        rw [hz0] at htm
        clear hpar
        go_wp2
        refine wp_region_any (by kernel_rfl) ?_
        change wpAny _ _ _ _ _ _ _ (World.drew _)
        refine wpAny_take (i := 0) (v := ?_) rfl (by kernel_rfl) (by kernel_rfl) (by kernel_rfl) (fun _ _ _ h => h) (Or.inl ⟨by rfl, ?q0⟩) ?_
        case q0 => intro w; go_simp; rfl
        simp only [Act.put, List.getElem_toArray, List.getElem_cons_zero, List.getElem_cons_succ, List.setIfInBounds_toArray, List.set_cons_zero, List.set_cons_succ]
        refine wpAny_take (i := 1) (v := ?_) rfl (by kernel_rfl) (by kernel_rfl) (by kernel_rfl) (fun _ _ _ h => h) (Or.inl ⟨by rfl, ?q1⟩) ?_
        case q1 => intro w; go_simp; rfl
        simp only [Act.put, List.getElem_toArray, List.getElem_cons_zero, List.getElem_cons_succ, List.setIfInBounds_toArray, List.set_cons_zero, List.set_cons_succ]
        refine wpAny_take (i := 2) (v := .pointer (some ⟨bc, oc + q * 32, none⟩)) rfl (by kernel_rfl) (by kernel_rfl) (by kernel_rfl) (fun _ _ _ h => h) (Or.inl ⟨by rfl, ?q2⟩) ?_
        case q2 => intro w; go_simp
        simp only [Act.put, List.getElem_toArray, List.getElem_cons_zero, List.getElem_cons_succ, List.setIfInBounds_toArray, List.set_cons_zero, List.set_cons_succ]
        refine wpAny_ready (rs := [3, 4]) (by kernel_rfl) (by simp) ?_
        refine AllReady.cons rfl (fun K hK => ?_) (AllReady.cons rfl (fun K hK => ?_) AllReady.nil)
        · skip
          rw [if_pos (by rfl)]
          refine wp_load_mid 28 _ rfl bc (oc + q * 32) rfl (dc c1) _ (range_below RC.out HBel.out.drew hbc) Tryd.underlying28 rfl (size_dig hdc) ?_
          refine hK _ _ ?_
          clear hK K
          simp only [Act.put, List.getElem_toArray, List.getElem_cons_zero, List.getElem_cons_succ, List.setIfInBounds_toArray, List.set_cons_zero, List.set_cons_succ]
          refine wpAny_ready (rs := [4]) (by kernel_rfl) (by simp) ?_
          refine AllReady.cons rfl (fun K hK => ?_) AllReady.nil
          rw [if_pos (by rfl)]
          refine wp_load_mid 28 _ rfl w.heap.size 0 rfl (dc dj) _ G1r.out Tryd.underlying28 rfl (size_dig hdj) ?_
          refine hK _ _ ?_
          clear hK K
          simp only [Act.put, List.getElem_toArray, List.getElem_cons_zero, List.getElem_cons_succ, List.setIfInBounds_toArray, List.set_cons_zero, List.set_cons_succ]
          rw [dc_arr, dc_arr]
          refine wpAny_ready (rs := [5]) (by kernel_rfl) (by simp) ?_
          refine AllReady.cons rfl (fun K hK => ?_) AllReady.nil
          go_simp
          refine (CN.out _).mono ?_
          rintro e w5 ⟨rfl, hB5⟩
          have HS5 : Hid (Below wr.heap.size wr w5) := (Below.refl _ wr).drew.trans hB5
          have hsz5 := hB5.size
          obtain ⟨dn, HDN⟩ : ∃ dn, Hid (ndL c1 dj = dn) := ⟨_, rfl⟩
          have hdnD : D32 dn := by rw [← HDN.out]; exact ndL_D _ _
          rw [HDN.out]
          have HST2 : Hid (clTo cs x d (q + 1) = dn) := by refine hid ?_; rw [HST.out, if_pos hod, HDN.out]
          obtain ⟨cn, HCN⟩ : ∃ cn, Hid (cellsB dn = cn) := ⟨_, rfl⟩
          have hsn : cn.size = 32 := by rw [← HCN.out, cellsB_size, hdnD.1]
          have SN : Hid ((Tryd.prog.info? 28).map (·.size) = some cn.size) := by rw [hsn]; exact size_digest
          have ON : Hid (cn.all (·.oneCell') = true) := by rw [← HCN.out]; exact cellsB_one _
          have ZN : Hid ((cellsB dj).size = cn.size) := by rw [hsn]; exact hsj
          rw [HCN.out]
          refine hK _ _ ?_
          clear hK K hB5
          refine wpAny_ready (rs := [6]) (by kernel_rfl) (by simp) ?_
          refine AllReady.cons rfl (fun K hK => ?_) AllReady.nil
          rw [if_pos (by rfl)]
          have G15 : Hid (w5.heap[w.heap.size]? = some (.cells (cellsB dj) 28 (0, 0))) := (HS5.out.block _ (by omega)).trans G1.out
          have G25 : Hid (w5.heap[w.heap.size + 1]? = some (.cells zd 28 (0, 0))) := (HS5.out.block _ hgs).trans G2.out
          have HN5 := hid (HNr.out.below HS5.out)
          refine wp_store_row 28 _ _ rfl w.heap.size cn rfl rfl 28 _ G15.out SN.out ZN.out ON.out ?_
          have B6 := hid (below_setRow (HBel.out.trans (HS5.out.mono HBel.out.size)) (g := w.heap.size) (Nat.le_refl _) cn)
          have G16 : Hid ((w5.setRow w.heap.size cn).heap[w.heap.size]? = some (.cells (cellsB (clTo cs x d (q + 1))) 28 (0, 0))) := by rw [HST2.out, HCN.out]; exact setRow_heap _ _ _ _ _ _ G15.out
          have G26 : Hid ((w5.setRow w.heap.size cn).heap[w.heap.size + 1]? = some (.cells zd 28 (0, 0))) := (setRow_other _ _ _ _ (by omega)).trans G25.out
          have HN6 : Hid (HNs (w5.setRow w.heap.size cn) (.slice (some ⟨bn, on, none⟩) k cb) (chL k x)) := by
            obtain ⟨p', c', e', h'⟩ := HN5.out
            refine ⟨p', c', e', fun h0 => ?_⟩
            obtain ⟨b', o', e2, hh⟩ := h' h0
            refine ⟨b', o', e2, fun j hj => ?_⟩
            have hbn : b' = bn := by
              have := e'
              rw [e2] at this
              simp only [Value.slice.injEq, Option.some.injEq, Addr.mk.injEq] at this
              exact this.1.1.symm
            rw [cell_of_setRow_other _ _ _ _ (show b' ≠ w.heap.size by rw [hbn]; omega)]
            exact hh j hj
          refine hK _ _ ?_
          clear hK K
          refine wpAny_done (by kernel_rfl) ?_ _
          go_wp2
          exact ⟨⟨q + 1, by omega, by go_num, G16, G26, B6, HN6⟩, by simp [intOf]; omega⟩
        · skip
          rw [if_pos (by rfl)]
          refine wp_load_mid 28 _ rfl w.heap.size 0 rfl (dc dj) _ G1r.out Tryd.underlying28 rfl (size_dig hdj) ?_
          refine hK _ _ ?_
          clear hK K
          simp only [Act.put, List.getElem_toArray, List.getElem_cons_zero, List.getElem_cons_succ, List.setIfInBounds_toArray, List.set_cons_zero, List.set_cons_succ]
          refine wpAny_ready (rs := [3]) (by kernel_rfl) (by simp) ?_
          refine AllReady.cons rfl (fun K hK => ?_) AllReady.nil
          rw [if_pos (by rfl)]
          refine wp_load_mid 28 _ rfl bc (oc + q * 32) rfl (dc c1) _ (range_below RC.out HBel.out.drew hbc) Tryd.underlying28 rfl (size_dig hdc) ?_
          refine hK _ _ ?_
          clear hK K
          simp only [Act.put, List.getElem_toArray, List.getElem_cons_zero, List.getElem_cons_succ, List.setIfInBounds_toArray, List.set_cons_zero, List.set_cons_succ]
          rw [dc_arr, dc_arr]
          refine wpAny_ready (rs := [5]) (by kernel_rfl) (by simp) ?_
          refine AllReady.cons rfl (fun K hK => ?_) AllReady.nil
          go_simp
          refine (CN.out _).mono ?_
          rintro e w5 ⟨rfl, hB5⟩
          have HS5 : Hid (Below wr.heap.size wr w5) := (Below.refl _ wr).drew.trans hB5
          have hsz5 := hB5.size
          obtain ⟨dn, HDN⟩ : ∃ dn, Hid (ndL c1 dj = dn) := ⟨_, rfl⟩
          have hdnD : D32 dn := by rw [← HDN.out]; exact ndL_D _ _
          rw [HDN.out]
          have HST2 : Hid (clTo cs x d (q + 1) = dn) := by refine hid ?_; rw [HST.out, if_pos hod, HDN.out]
          obtain ⟨cn, HCN⟩ : ∃ cn, Hid (cellsB dn = cn) := ⟨_, rfl⟩
          have hsn : cn.size = 32 := by rw [← HCN.out, cellsB_size, hdnD.1]
          have SN : Hid ((Tryd.prog.info? 28).map (·.size) = some cn.size) := by rw [hsn]; exact size_digest
          have ON : Hid (cn.all (·.oneCell') = true) := by rw [← HCN.out]; exact cellsB_one _
          have ZN : Hid ((cellsB dj).size = cn.size) := by rw [hsn]; exact hsj
          rw [HCN.out]
          refine hK _ _ ?_
          clear hK K hB5
          refine wpAny_ready (rs := [6]) (by kernel_rfl) (by simp) ?_
          refine AllReady.cons rfl (fun K hK => ?_) AllReady.nil
          rw [if_pos (by rfl)]
          have G15 : Hid (w5.heap[w.heap.size]? = some (.cells (cellsB dj) 28 (0, 0))) := (HS5.out.block _ (by omega)).trans G1.out
          have G25 : Hid (w5.heap[w.heap.size + 1]? = some (.cells zd 28 (0, 0))) := (HS5.out.block _ hgs).trans G2.out
          have HN5 := hid (HNr.out.below HS5.out)
          refine wp_store_row 28 _ _ rfl w.heap.size cn rfl rfl 28 _ G15.out SN.out ZN.out ON.out ?_
          have B6 := hid (below_setRow (HBel.out.trans (HS5.out.mono HBel.out.size)) (g := w.heap.size) (Nat.le_refl _) cn)
          have G16 : Hid ((w5.setRow w.heap.size cn).heap[w.heap.size]? = some (.cells (cellsB (clTo cs x d (q + 1))) 28 (0, 0))) := by rw [HST2.out, HCN.out]; exact setRow_heap _ _ _ _ _ _ G15.out
          have G26 : Hid ((w5.setRow w.heap.size cn).heap[w.heap.size + 1]? = some (.cells zd 28 (0, 0))) := (setRow_other _ _ _ _ (by omega)).trans G25.out
          have HN6 : Hid (HNs (w5.setRow w.heap.size cn) (.slice (some ⟨bn, on, none⟩) k cb) (chL k x)) := by
            obtain ⟨p', c', e', h'⟩ := HN5.out
            refine ⟨p', c', e', fun h0 => ?_⟩
            obtain ⟨b', o', e2, hh⟩ := h' h0
            refine ⟨b', o', e2, fun j hj => ?_⟩
            have hbn : b' = bn := by
              have := e'
              rw [e2] at this
              simp only [Value.slice.injEq, Option.some.injEq, Addr.mk.injEq] at this
              exact this.1.1.symm
            rw [cell_of_setRow_other _ _ _ _ (show b' ≠ w.heap.size by rw [hbn]; omega)]
            exact hh j hj
          refine hK _ _ ?_
          clear hK K
          refine wpAny_done (by kernel_rfl) ?_ _
          go_wp2
          exact ⟨⟨q + 1, by omega, by go_num, G16, G26, B6, HN6⟩, by simp [intOf]; omega⟩
      · have hz0 : z % 2 = 1 := by omega
        rw [hz0] at htm
        clear hpar
        go_wp2
        refine wp_region_any (by kernel_rfl) ?_
        change wpAny _ _ _ _ _ _ _ (World.drew _)
        refine wpAny_take (i := 1) (v := ?_) rfl (by kernel_rfl) (by kernel_rfl) (by kernel_rfl) (fun _ _ _ h => h) (Or.inl ⟨by rfl, ?q1⟩) ?_
        case q1 => intro w; go_simp; rfl
        simp only [Act.put, List.getElem_toArray, List.getElem_cons_zero, List.getElem_cons_succ, List.setIfInBounds_toArray, List.set_cons_zero, List.set_cons_succ]
        refine wpAny_take (i := 2) (v := ?_) rfl (by kernel_rfl) (by kernel_rfl) (by kernel_rfl) (fun _ _ _ h => h) (Or.inl ⟨by rfl, ?q2⟩) ?_
        case q2 => intro w; go_simp; rfl
        simp only [Act.put, List.getElem_toArray, List.getElem_cons_zero, List.getElem_cons_succ, List.setIfInBounds_toArray, List.set_cons_zero, List.set_cons_succ]
        refine wpAny_take (i := 3) (v := .pointer (some ⟨bc, oc + q * 32, none⟩)) rfl (by kernel_rfl) (by kernel_rfl) (by kernel_rfl) (fun _ _ _ h => h) (Or.inl ⟨by rfl, ?q3⟩) ?_
        case q3 => intro w; go_simp
        simp only [Act.put, List.getElem_toArray, List.getElem_cons_zero, List.getElem_cons_succ, List.setIfInBounds_toArray, List.set_cons_zero, List.set_cons_succ]
        refine wpAny_ready (rs := [0, 4]) (by kernel_rfl) (by simp) ?_
        refine AllReady.cons rfl (fun K hK => ?_) (AllReady.cons rfl (fun K hK => ?_) AllReady.nil)
        · skip
          rw [if_pos (by rfl)]
          refine wp_load_mid 28 _ rfl w.heap.size 0 rfl (dc dj) _ G1r.out Tryd.underlying28 rfl (size_dig hdj) ?_
          refine hK _ _ ?_
          clear hK K
          simp only [Act.put, List.getElem_toArray, List.getElem_cons_zero, List.getElem_cons_succ, List.setIfInBounds_toArray, List.set_cons_zero, List.set_cons_succ]
          refine wpAny_ready (rs := [4]) (by kernel_rfl) (by simp) ?_
          refine AllReady.cons rfl (fun K hK => ?_) AllReady.nil
          rw [if_pos (by rfl)]
          refine wp_load_mid 28 _ rfl bc (oc + q * 32) rfl (dc c1) _ (range_below RC.out HBel.out.drew hbc) Tryd.underlying28 rfl (size_dig hdc) ?_
          refine hK _ _ ?_
          clear hK K
          simp only [Act.put, List.getElem_toArray, List.getElem_cons_zero, List.getElem_cons_succ, List.setIfInBounds_toArray, List.set_cons_zero, List.set_cons_succ]
          rw [dc_arr, dc_arr]
          refine wpAny_ready (rs := [5]) (by kernel_rfl) (by simp) ?_
          refine AllReady.cons rfl (fun K hK => ?_) AllReady.nil
          go_simp
          refine (CN'.out _).mono ?_
          rintro e w5 ⟨rfl, hB5⟩
          have HS5 : Hid (Below wr.heap.size wr w5) := (Below.refl _ wr).drew.trans hB5
          have hsz5 := hB5.size
          obtain ⟨dn, HDN⟩ : ∃ dn, Hid (ndL dj c1 = dn) := ⟨_, rfl⟩
          have hdnD : D32 dn := by rw [← HDN.out]; exact ndL_D _ _
          rw [HDN.out]
          have HST2 : Hid (clTo cs x d (q + 1) = dn) := by refine hid ?_; rw [HST.out, if_neg hod, HDN.out]
          obtain ⟨cn, HCN⟩ : ∃ cn, Hid (cellsB dn = cn) := ⟨_, rfl⟩
          have hsn : cn.size = 32 := by rw [← HCN.out, cellsB_size, hdnD.1]
          have SN : Hid ((Tryd.prog.info? 28).map (·.size) = some cn.size) := by rw [hsn]; exact size_digest
          have ON : Hid (cn.all (·.oneCell') = true) := by rw [← HCN.out]; exact cellsB_one _
          have ZN : Hid ((cellsB dj).size = cn.size) := by rw [hsn]; exact hsj
          rw [HCN.out]
          refine hK _ _ ?_
          clear hK K hB5
          refine wpAny_ready (rs := [6]) (by kernel_rfl) (by simp) ?_
          refine AllReady.cons rfl (fun K hK => ?_) AllReady.nil
          rw [if_pos (by rfl)]
          have G15 : Hid (w5.heap[w.heap.size]? = some (.cells (cellsB dj) 28 (0, 0))) := (HS5.out.block _ (by omega)).trans G1.out
          have G25 : Hid (w5.heap[w.heap.size + 1]? = some (.cells zd 28 (0, 0))) := (HS5.out.block _ hgs).trans G2.out
          have HN5 := hid (HNr.out.below HS5.out)
          refine wp_store_row 28 _ _ rfl w.heap.size cn rfl rfl 28 _ G15.out SN.out ZN.out ON.out ?_
          have B6 := hid (below_setRow (HBel.out.trans (HS5.out.mono HBel.out.size)) (g := w.heap.size) (Nat.le_refl _) cn)
          have G16 : Hid ((w5.setRow w.heap.size cn).heap[w.heap.size]? = some (.cells (cellsB (clTo cs x d (q + 1))) 28 (0, 0))) := by rw [HST2.out, HCN.out]; exact setRow_heap _ _ _ _ _ _ G15.out
          have G26 : Hid ((w5.setRow w.heap.size cn).heap[w.heap.size + 1]? = some (.cells zd 28 (0, 0))) := (setRow_other _ _ _ _ (by omega)).trans G25.out
          have HN6 : Hid (HNs (w5.setRow w.heap.size cn) (.slice (some ⟨bn, on, none⟩) k cb) (chL k x)) := by
            obtain ⟨p', c', e', h'⟩ := HN5.out
            refine ⟨p', c', e', fun h0 => ?_⟩
            obtain ⟨b', o', e2, hh⟩ := h' h0
            refine ⟨b', o', e2, fun j hj => ?_⟩
            have hbn : b' = bn := by
              have := e'
              rw [e2] at this
              simp only [Value.slice.injEq, Option.some.injEq, Addr.mk.injEq] at this
              exact this.1.1.symm
            rw [cell_of_setRow_other _ _ _ _ (show b' ≠ w.heap.size by rw [hbn]; omega)]
            exact hh j hj
          refine hK _ _ ?_
          clear hK K
          refine wpAny_done (by kernel_rfl) ?_ _
          go_wp2
          exact ⟨⟨q + 1, by omega, by go_num, G16, G26, B6, HN6⟩, by simp [intOf]; omega⟩
        · skip
          rw [if_pos (by rfl)]
          refine wp_load_mid 28 _ rfl bc (oc + q * 32) rfl (dc c1) _ (range_below RC.out HBel.out.drew hbc) Tryd.underlying28 rfl (size_dig hdc) ?_
          refine hK _ _ ?_
          clear hK K
          simp only [Act.put, List.getElem_toArray, List.getElem_cons_zero, List.getElem_cons_succ, List.setIfInBounds_toArray, List.set_cons_zero, List.set_cons_succ]
          refine wpAny_ready (rs := [0]) (by kernel_rfl) (by simp) ?_
          refine AllReady.cons rfl (fun K hK => ?_) AllReady.nil
          rw [if_pos (by rfl)]
          refine wp_load_mid 28 _ rfl w.heap.size 0 rfl (dc dj) _ G1r.out Tryd.underlying28 rfl (size_dig hdj) ?_
          refine hK _ _ ?_
          clear hK K
          simp only [Act.put, List.getElem_toArray, List.getElem_cons_zero, List.getElem_cons_succ, List.setIfInBounds_toArray, List.set_cons_zero, List.set_cons_succ]
          rw [dc_arr, dc_arr]
          refine wpAny_ready (rs := [5]) (by kernel_rfl) (by simp) ?_
          refine AllReady.cons rfl (fun K hK => ?_) AllReady.nil
          go_simp
          refine (CN'.out _).mono ?_
          rintro e w5 ⟨rfl, hB5⟩
          have HS5 : Hid (Below wr.heap.size wr w5) := (Below.refl _ wr).drew.trans hB5
          have hsz5 := hB5.size
          obtain ⟨dn, HDN⟩ : ∃ dn, Hid (ndL dj c1 = dn) := ⟨_, rfl⟩
          have hdnD : D32 dn := by rw [← HDN.out]; exact ndL_D _ _
          rw [HDN.out]
          have HST2 : Hid (clTo cs x d (q + 1) = dn) := by refine hid ?_; rw [HST.out, if_neg hod, HDN.out]
          obtain ⟨cn, HCN⟩ : ∃ cn, Hid (cellsB dn = cn) := ⟨_, rfl⟩
          have hsn : cn.size = 32 := by rw [← HCN.out, cellsB_size, hdnD.1]
          have SN : Hid ((Tryd.prog.info? 28).map (·.size) = some cn.size) := by rw [hsn]; exact size_digest
          have ON : Hid (cn.all (·.oneCell') = true) := by rw [← HCN.out]; exact cellsB_one _
          have ZN : Hid ((cellsB dj).size = cn.size) := by rw [hsn]; exact hsj
          rw [HCN.out]
          refine hK _ _ ?_
          clear hK K hB5
          refine wpAny_ready (rs := [6]) (by kernel_rfl) (by simp) ?_
          refine AllReady.cons rfl (fun K hK => ?_) AllReady.nil
          rw [if_pos (by rfl)]
          have G15 : Hid (w5.heap[w.heap.size]? = some (.cells (cellsB dj) 28 (0, 0))) := (HS5.out.block _ (by omega)).trans G1.out
          have G25 : Hid (w5.heap[w.heap.size + 1]? = some (.cells zd 28 (0, 0))) := (HS5.out.block _ hgs).trans G2.out
          have HN5 := hid (HNr.out.below HS5.out)
          refine wp_store_row 28 _ _ rfl w.heap.size cn rfl rfl 28 _ G15.out SN.out ZN.out ON.out ?_
          have B6 := hid (below_setRow (HBel.out.trans (HS5.out.mono HBel.out.size)) (g := w.heap.size) (Nat.le_refl _) cn)
          have G16 : Hid ((w5.setRow w.heap.size cn).heap[w.heap.size]? = some (.cells (cellsB (clTo cs x d (q + 1))) 28 (0, 0))) := by rw [HST2.out, HCN.out]; exact setRow_heap _ _ _ _ _ _ G15.out
          have G26 : Hid ((w5.setRow w.heap.size cn).heap[w.heap.size + 1]? = some (.cells zd 28 (0, 0))) := (setRow_other _ _ _ _ (by omega)).trans G25.out
          have HN6 : Hid (HNs (w5.setRow w.heap.size cn) (.slice (some ⟨bn, on, none⟩) k cb) (chL k x)) := by
            obtain ⟨p', c', e', h'⟩ := HN5.out
            refine ⟨p', c', e', fun h0 => ?_⟩
            obtain ⟨b', o', e2, hh⟩ := h' h0
            refine ⟨b', o', e2, fun j hj => ?_⟩
            have hbn : b' = bn := by
              have := e'
              rw [e2] at this
              simp only [Value.slice.injEq, Option.some.injEq, Addr.mk.injEq] at this
              exact this.1.1.symm
            rw [cell_of_setRow_other _ _ _ _ (show b' ≠ w.heap.size by rw [hbn]; omega)]
            exact hh j hj
          refine hK _ _ ?_
          clear hK K
          refine wpAny_done (by kernel_rfl) ?_ _
          go_wp2
          exact ⟨⟨q + 1, by omega, by go_num, G16, G26, B6, HN6⟩, by simp [intOf]; omega⟩
end Go.Proofs.YtjmlpkemjafifaaDoor
