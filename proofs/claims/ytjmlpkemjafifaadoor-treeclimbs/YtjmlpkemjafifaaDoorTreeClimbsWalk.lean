/- TreeClimbs, walked. -/
import Derived.Test.YtjmlpkemjafifaaDoorTrLv
import Derived.Test.YtjmlpkemjafifaaDoorTrOneM
import Derived.Test.YtjmlpkemjafifaaDoorTrSame
import Derived.Test.YtjmlpkemjafifaaDoorTrLives
import Derived.Test.YtjmlpkemjafifaaDoorTrBox
import Derived.Great.BuildSlice
set_option linter.unusedVariables false
set_option linter.unusedSimpArgs false
namespace Go.Proofs.YtjmlpkemjafifaaDoor
open Go.RowKit

set_option maxRecDepth 100000 in
set_option maxHeartbeats 1000000 in
theorem tpick_any (w : World) (x : Int) (n : Nat) (h1 : 1 ≤ n) (h2 : n ≤ 140737488355328) : Calls Tryd.prog 12 #[.int .i64 x, .int .i64 (n : Int)] w fun e w' => (∃ p : Nat, p < n ∧ e = .returned (.int .i64 (p : Int))) ∧ w' = w := by
  have b1 : -(n : Int) < Int.tmod x n := Int.lt_tmod_of_pos x (by omega)
  have b2 : Int.tmod x n < (n : Int) := Int.tmod_lt_of_pos x (by omega)
  have hn1 : ¬ ((n : Int) < 1) := by omega
  have hn0 : ¬ ((n : Int) = 0) := by omega
  obtain ⟨y, hy⟩ : ∃ y, Int.tmod x (n : Int) = y := ⟨_, rfl⟩
  rw [hy] at b1 b2
  by_cases hneg : y < 0
  · go_enter Tryd.func12, Tryd.ntmps12
    go_wp2
    go_ret
    refine ⟨⟨(y + n).toNat, by omega, ?_⟩, rfl⟩
    show Ending.returned (Value.int .i64 (y + n)) = _
    rw [Int.toNat_of_nonneg (by omega)]
  · go_enter Tryd.func12, Tryd.ntmps12
    go_wp2
    go_ret
    refine ⟨⟨y.toNat, by omega, ?_⟩, rfl⟩
    show Ending.returned (Value.int .i64 y) = _
    rw [Int.toNat_of_nonneg (by omega)]
theorem wpList_lit_runD {P : Program} {ops : Array Oper} {rest : List Oper} {o : Oper} {a : Act} {w : World} {Q : Exit → Act → World → Prop} (hg : o.guard = none) (t : TypeId) (len : Nat) (parts : Array (Nat × Operand)) (ho : o.op = .buildSlice t len parts) (ps : Array (Nat × Value)) (hps : (parts.map fun (i, x) => (i, a.eval x)) = ps) (v : Value) (w' : World)
    (hr : (Instr.buildSlice t len ps).run P w = .ok v w') (h : wpList P ops Q rest (a.put o.dst v) w') : wpList P ops Q (o :: rest) a w :=
  wpList_plain hg fun _ hK => by
    unfold Oper.wp execOp
    simp only [ho, Sem.run_bind, hps, hr, Result.andThen_ok]
    exact hK _ _ h
theorem wpList_load_mid_on {ops : Array Oper} {rest : List Oper} {op : Oper} {a : Act} {w : World} {Q : Exit → Act → World → Prop} (hw : Region.wanted op (yielded ops a.tmps) = true) (ty : TypeId) (x : Operand) (ho : op.op = .load ty x)
    (b o : Nat) (hx : a.eval x = .pointer (some ⟨b, o, none⟩)) (cs : List Value) (d : TypeDesc) (hc : w.rangeAt b o cs)
    (hu : Tryd.prog.underlying ty = some d) (hd : d.isRow = true) (hi : (Tryd.prog.info? ty).map (·.size) = some cs.length)
    (h : wpList Tryd.prog ops Q rest (a.put op.dst (.agg cs.toArray)) w) : wpList Tryd.prog ops Q (op :: rest) a w := by
  refine wpList_step fun K hK => ?_
  simp only [hw, if_true]
  exact wp_load_mid ty x ho b o hx cs d hc hu hd hi (hK _ _ h)
theorem run_lit1 (w : World) (d : List Int) (hd : D32 d) : (Instr.buildSlice 22 1 #[(0, .agg (cellsB d))]).run Tryd.prog w = .ok (.slice (some ⟨w.heap.size, 0, none⟩) 1 1) (w.alloc (.cells (dc d).toArray 28)) := by
  obtain ⟨i0, hi, hz0, hz1, hz2⟩ := info_parts info_digest
  refine run_buildSlice w 22 28 1 _ _ i0 _ Tryd.underlying22 hi hz0 (by rw [hz1]; omega) (by rw [hz1]; omega) ?_
  rw [hz1]
  have := Great.fill_whole (s := 32) (by decide) [Value.agg (cellsB d)] ((Array.range (1 * 32)).map ((Value.agg (cellsB zeros32)).cells[· % (Value.agg (cellsB zeros32)).cells.size]!)) (fun v hv => by
    rw [List.mem_singleton.1 hv]
    exact (cellsB_size d).trans hd.1) (by simp)
  have e : [Value.agg (cellsB d)].flatMap (fun v => v.cells.toList) = dc d := by
    simp only [List.flatMap_cons, List.flatMap_nil, List.append_nil]
    show (cellsB d).toList = dc d
    rw [← dc_arr]
  rw [e] at this
  exact this
/-- What stands beside a leaf's way, out of the nodes. -/
def besL (N : List (List Int)) (l : List Nat) : List (List Int) := l.map fun x => N.getD (x - 1) []
theorem besL_length (N : List (List Int)) (l : List Nat) : (besL N l).length = l.length := by simp [besL]
theorem way_top {ls N : List (List Int)} {W k i : Nat} (hT : IsT ls W N) (hW : W = 2 ^ k) (hi : i < W) : ∀ q, q ≤ k → clTo (besL N (chL k (W + i))) (W + i) (N.getD (W + i - 1) []) q = N.getD ((W + i) / 2 ^ q - 1) []
  | 0, _ => by rw [Nat.pow_zero, Nat.div_one]; rfl
  | q + 1, hq => by
    have hl : (besL N (chL k (W + i))).length = k := by rw [besL_length, chL_length]
    rw [clTo_step q _ _ _ (by rw [hl]; omega), way_top hT hW hi q (by omega)]
    have hg : (besL N (chL k (W + i))).getD q [] = N.getD ((((W + i) / 2 ^ q) ^^^ 1) - 1) [] := by
      have hq2 : q < k := by omega
      simp [besL, chL, List.getD, hq2]
    rw [hg]
    have e1 : (W + i) / 2 ^ (q + 1) = (W + i) / 2 ^ q / 2 := by rw [Nat.pow_succ, Nat.div_div_eq_div_mul]
    rw [e1]
    have hbig : 2 ≤ (W + i) / 2 ^ q := by
      rw [Nat.le_div_iff_mul_le (Nat.pow_pos (by decide))]
      have : 2 * 2 ^ q ≤ 2 ^ k := by rw [← Nat.pow_succ']; exact Nat.pow_le_pow_right (by decide) hq
      omega
    have hsm : (W + i) / 2 ^ q / 2 < W := by
      have : (W + i) / 2 ^ q ≤ W + i := Nat.div_le_self _ _
      omega
    have hin := hT.inner ((W + i) / 2 ^ q / 2) (by omega) hsm
    unfold InR at hin
    generalize (W + i) / 2 ^ q = y at *
    have hx : y ^^^ 1 = if y % 2 = 1 then y - 1 else y + 1 := by
      have h1 : (y ^^^ 1) / 2 = y / 2 := by simpa using Nat.xor_div_two_pow (a := y) (b := 1) (n := 1)
      have h2 := xor1_even y
      split <;> omega
    rw [hx, hin]
    by_cases hp : y % 2 = 1
    · rw [if_pos hp, if_pos hp, show 2 * (y / 2) - 1 = y - 1 - 1 by omega, show 2 * (y / 2) = y - 1 by omega]
    · rw [if_neg hp, if_neg hp, show 2 * (y / 2) - 1 = y - 1 by omega, show 2 * (y / 2) = y + 1 - 1 by omega]
theorem chain_in {W k i : Nat} (hW : W = 2 ^ k) (hi : i < W) (j : Nat) (hj : j < k) : 1 ≤ (chL k (W + i)).getD j 0 ∧ (chL k (W + i)).getD j 0 ≤ 2 * W - 1 := by
  have e : (chL k (W + i)).getD j 0 = ((W + i) / 2 ^ j) ^^^ 1 := by simp [chL, List.getD, hj]
  rw [e]
  have hbig : 2 ≤ (W + i) / 2 ^ j := by
    rw [Nat.le_div_iff_mul_le (Nat.pow_pos (by decide))]
    have : 2 * 2 ^ j ≤ 2 ^ k := by rw [← Nat.pow_succ']; exact Nat.pow_le_pow_right (by decide) hj
    omega
  have hle : (W + i) / 2 ^ j ≤ W + i := Nat.div_le_self _ _
  generalize (W + i) / 2 ^ j = y at *
  have h1 : (y ^^^ 1) / 2 = y / 2 := by simpa using Nat.xor_div_two_pow (a := y) (b := 1) (n := 1)
  omega
theorem own_belowD {w w' : World} {B n : Nat} {v : Value} {xs : List Value} (h : w.ownsRow B 28 32 v n xs) (hb : Below w.heap.size w w') : w'.ownsRow B 28 32 v n xs := by
  refine h.kept (row := none) ⟨hb.os, hb.tape, hb.output, hb.size, fun k hk _ => hb.block k hk⟩ ?_
  cases hv : v.ownBlock <;> simp
set_option maxRecDepth 100000 in
set_option maxHeartbeats 16000000 in
theorem treeClimbs_walk (w : World) (v : Value) (ls : List (List Int)) (wh : Int) (h : HDs w v ls) (hk : KC w) :
    Calls Tryd.prog 3 #[v, .int .i64 wh] w fun e w' => e = .returned (.bool true) ∧ Below w.heap.size w w' := by
  obtain ⟨p, c, ev, hc, hm⟩ := h.open
  unfold maxLen at hm
  have HV := hid h
  have HK := hid hk
  have HLS := hid h.2
  have CL := hid (lives_any w hk)
  obtain ⟨n, HN⟩ : ∃ n, Hid (ls.length = n) := ⟨_, rfl⟩
  rw [HN.out] at ev hc
  subst ev
  clear h hk
  go_enter Tryd.func3, Tryd.ntmps3
  go_wp2_with fail
  refine CL.out.mono ?_
  rintro e w1 ⟨rfl, hB1⟩
  have BL1 := hid hB1
  clear hB1 CL
  by_cases hn : 1 ≤ n ∧ n ≤ 512
  case neg =>
    have CB := hid (build_bad w1 _ ls (HV.out.below BL1.out) (by rw [HN.out]; exact hn))
    go_wp2_with fail
    refine CB.out.mono ?_
    rintro e w2 ⟨rfl, hB2⟩
    have BL2 := hid (BL1.out.trans (hB2.mono BL1.out.size))
    clear hB2 CB
    by_cases hlow : n < 1
    · have hlowi : (n : Int) < 1 := by omega
      clear hn
      go_wp2
      go_ret
      exact ⟨rfl, BL2.out⟩
    · have hlowi : ¬ (n : Int) < 1 := by omega
      have hhi : (512 : Int) < (n : Int) := by omega
      clear hn
      go_wp2
      go_ret
      exact ⟨rfl, BL2.out⟩
  case pos =>
    obtain ⟨hn1, hn2⟩ := hn
    have hn1i : ¬ (n : Int) < 1 := by omega
    have hn2i : ¬ (512 : Int) < (n : Int) := by omega
    have CB := hid (build_ok w1 _ ls (HV.out.below BL1.out) (by rw [HN.out]; exact hn1) (by rw [HN.out]; exact hn2) (HK.out.below BL1.out))
    go_wp2_with fail
    refine CB.out.mono ?_
    rintro e w2 ⟨g, N, rfl, hg, hO, hT, hB2⟩
    have BL2 := hid (BL1.out.trans (hB2.mono BL1.out.size))
    have HO2 := hid hO
    have HT := hid hT
    have hWg := wdN_ge n hn2
    have hWl := wdN_le n
    obtain ⟨k, hk9, hWk⟩ := pow_of (wdN_pow n)
    rw [HN.out] at HT
    obtain ⟨W, HW⟩ : ∃ W, Hid (wdN n = W) := ⟨_, rfl⟩
    have HWK := hid hWk
    rw [HW.out] at HT hWg hWl HWK
    obtain ⟨hW5, hW1⟩ := hWl
    obtain ⟨m, HM⟩ : ∃ m, Hid (N.length = m) := ⟨_, rfl⟩
    have hm1 : m + 1 = 2 * W := by rw [← HM.out, HT.out.len]; omega
    rw [HM.out]
    have CR := hid (root_ok w2 _ ls (HV.out.below BL2.out) (by rw [HN.out]; exact hn1) (by rw [HN.out]; exact hn2) (HK.out.below BL2.out))
    clear hB2 CB hO hT hWk
    go_wp2_with fail
    refine CR.out.mono ?_
    rintro e w3 ⟨N', rfl, hT', _, hB3⟩
    rw [HN.out, HW.out] at hT'
    obtain rfl : N' = N := hT'.one HT.out
    have HO3 := hid (HO2.out.below hB3)
    have BL3 := hid (BL2.out.trans (hB3.mono BL2.out.size))
    have HDN := hid HO2.out.2.2
    obtain ⟨r, HRr⟩ : ∃ r, Hid (N'.getD 0 [] = r) := ⟨_, rfl⟩
    have Dr : Hid (D32 r) := by rw [← HRr.out]; exact getD_D HDN.out 0 (by rw [HM.out]; omega)
    rw [HRr.out]
    obtain ⟨cr, HCR⟩ : ∃ c, Hid (cellsB r = c) := ⟨_, rfl⟩
    have hcr : cr.size = 32 := by rw [← HCR.out, cellsB_size, Dr.out.1]
    have SR : Hid ((Tryd.prog.info? 28).map (·.size) = some cr.size) := by rw [hcr]; exact size_digest
    have OR : Hid (cr.all (·.oneCell') = true) := by rw [← HCR.out]; exact cellsB_one _
    obtain ⟨zd, HZD⟩ : ∃ zd, Hid (cellsB zeros32 = zd) := ⟨_, rfl⟩
    have hzs : zd.size = 32 := by rw [← HZD.out, cellsB_size, zeros32_length]
    have ZR : Hid (zd.size = cr.size) := by refine hid ?_; rw [hzs, hcr]
    have HZS := hid hzs
    rw [HCR.out]
    obtain ⟨W4, hW4⟩ : ∃ W4, Hid (w3.alloc (.cells cr 28) = W4) := ⟨_, rfl⟩
    have B4 : Hid (Below w3.heap.size w3 W4) := by rw [← hW4.out]; exact (Below.refl _ w3).alloc (Nat.le_refl _) _
    have BL4 := hid (BL3.out.trans (B4.out.mono BL3.out.size))
    have HO4 := hid (HO3.out.below B4.out)
    have HR4 : Hid (W4.heap[w3.heap.size]? = some (.cells cr 28 (0, 0))) := by rw [← hW4.out]; exact heap_alloc_new w3 _
    have CP := hid (tpick_any W4 wh n hn1 (by omega))
    clear hB3 CR hT' hcr hzs
    go_wp2_with (first | (refine wpList_alloc_digest rfl rfl ?_; rw [HZD.out]) | (refine wpList_store_row rfl 28 _ _ rfl w3.heap.size cr rfl rfl 28 zd (heap_alloc_new w3 _) SR.out ZR.out OR.out ?_; rw [setRow_alloc_newT, hW4.out]) | fail)
    refine CP.out.mono ?_
    rintro e w5 ⟨⟨i, hi, rfl⟩, rfl⟩
    have CC := hid (chain_ok w5 n i k hn1 hn2 hi (by rw [HW.out]; exact HWK.out) hk9)
    rw [HW.out] at CC
    clear CP
    go_wp2_with fail
    refine CC.out.mono ?_
    rintro e w6 ⟨vc, rfl, hN6, hown6, hB6⟩
    have BL6 := hid (BL4.out.trans (hB6.mono BL4.out.size))
    have HO6 := hid (HO4.out.below hB6)
    have HR6 : Hid (w6.heap[w3.heap.size]? = some (.cells cr 28 (0, 0))) := (hB6.block _ (Array.getElem?_eq_some_iff.1 HR4.out).1).trans HR4.out
    have hclen := chL_length k (W + i)
    have HIN : Hid (∀ j, j < k → 1 ≤ (chL k (W + i)).getD j 0 ∧ (chL k (W + i)).getD j 0 ≤ 2 * W - 1) := fun j hj => chain_in HWK.out (by omega) j hj
    have HWT : Hid (clTo (besL N' (chL k (W + i))) (W + i) (N'.getD (W + i - 1) []) k = r) := by
      rw [way_top HT.out HWK.out (by omega) k (Nat.le_refl _), ← HRr.out]
      have e1 : (W + i) / 2 ^ k = 1 := by rw [← HWK.out, Nat.div_eq_of_lt_le] <;> omega
      rw [e1]
      exact rfl
    have HLF : Hid (N'.getD (W + i - 1) [] = ls.getD i []) := by
      have := HT.out.leaf i (by omega)
      rw [show W - 1 + i = W + i - 1 by omega] at this
      rw [this]
      exact lf_leaf (by rw [HN.out]; exact hi)
    obtain ⟨cl, HCLs⟩ : ∃ c, Hid (chL k (W + i) = c) := ⟨_, rfl⟩
    rw [HCLs.out] at hN6 hclen HIN HWT
    obtain ⟨pc, cc, rfl, hcells⟩ := hN6
    have HCN := hid hclen
    rw [HCN.out]
    have HCE := hid hcells
    clear hB6 CC hclen hcells hown6
    have Rr0 : Hid (w6.rangeAt g 0 (dc r)) := by
      have := HO6.out.2.1 0 (by rw [HM.out]; omega)
      rw [HRr.out, Nat.zero_mul] at this
      exact this
    have hgl := HO6.out.lt
    have hX6 : Hid (w6.rangeAt w3.heap.size 0 (dc r)) := fun j u hj => by
      rw [Nat.zero_add, cell_of_row w6 _ j _ _ _ HR6.out, ← HCR.out, ← dc_arr, List.getElem?_toArray]; exact hj
    have hl3 : w3.heap.size < w6.heap.size := (Array.getElem?_eq_some_iff.1 HR6.out).1
    have hqr := fun w => run_neq_bytes w 32 28 Tryd.underlying28 r r Dr.out.1 Dr.out.1
    rw [show decide (r = r) = true by simp] at hqr
    have HSr := hid (size_dig Dr.out)
    have hm1i : ¬ (m : Int) < 1 := by omega
    go_wp2
    refine wp_region_held_drew (S := Below w6.heap.size w6) (by kernel_rfl) (Below.refl _ _).drew (fun hHeld => ?_)
    have HS := hid hHeld
    clear hHeld
    change wpAnyH _ _ _ _ _ _ _ _ (World.drew _)
    refine wpAnyH_take (i := 0) (v := ?_) rfl (by kernel_rfl) (by kernel_rfl) (by kernel_rfl) (fun _ _ _ h => h) (Or.inl ⟨by rfl, ?q0⟩) HS.out ?_
    case q0 => intro w hSw; go_simp; rfl
    simp only [Act.put, List.getElem_toArray, List.getElem_cons_zero, List.getElem_cons_succ, List.setIfInBounds_toArray, List.set_cons_zero, List.set_cons_succ]
    refine wpAnyH_take (i := 1) (v := .bool false) rfl (by kernel_rfl) (by kernel_rfl) (by kernel_rfl) (fun _ _ _ h => h) (Or.inl ⟨by rfl, ?q1⟩) HS.out ?_
    case q1 => intro w hSw; go_simp
    simp only [Act.put, List.getElem_toArray, List.getElem_cons_zero, List.getElem_cons_succ, List.setIfInBounds_toArray, List.set_cons_zero, List.set_cons_succ]
    refine wpAnyH_take (i := 2) (v := ?_) rfl (by kernel_rfl) (by kernel_rfl) (by kernel_rfl) (fun _ _ _ h => h) (Or.inl ⟨by rfl, ?q2⟩) HS.out ?_
    case q2 => intro w hSw; go_simp; rfl
    simp only [Act.put, List.getElem_toArray, List.getElem_cons_zero, List.getElem_cons_succ, List.setIfInBounds_toArray, List.set_cons_zero, List.set_cons_succ]
    refine wpAnyH_take (i := 3) (v := ?_) rfl (by kernel_rfl) (by kernel_rfl) (by kernel_rfl) (fun _ _ _ h => h) (Or.inl ⟨by rfl, ?q3⟩) HS.out ?_
    case q3 => intro w hSw; go_simp; rfl
    simp only [Act.put, List.getElem_toArray, List.getElem_cons_zero, List.getElem_cons_succ, List.setIfInBounds_toArray, List.set_cons_zero, List.set_cons_succ]
    refine wpAnyH_take (i := 4) (v := .bool false) rfl (by kernel_rfl) (by kernel_rfl) (by kernel_rfl) (fun _ _ _ h => h) (Or.inl ⟨by rfl, ?q4⟩) HS.out ?_
    case q4 => intro w hSw; go_simp
    simp only [Act.put, List.getElem_toArray, List.getElem_cons_zero, List.getElem_cons_succ, List.setIfInBounds_toArray, List.set_cons_zero, List.set_cons_succ]
    refine wpAnyH_take (i := 5) (v := ?_) rfl (by kernel_rfl) (by kernel_rfl) (by kernel_rfl) (fun _ _ _ h => h) (Or.inl ⟨by rfl, ?q5⟩) HS.out ?_
    case q5 => intro w hSw; go_simp; rfl
    simp only [Act.put, List.getElem_toArray, List.getElem_cons_zero, List.getElem_cons_succ, List.setIfInBounds_toArray, List.set_cons_zero, List.set_cons_succ]
    refine wpAnyH_take (i := 6) (v := ?_) rfl (by kernel_rfl) (by kernel_rfl) (by kernel_rfl) (fun _ _ _ h => h) (Or.inl ⟨by rfl, ?q6⟩) HS.out ?_
    case q6 => intro w hSw; go_simp; rfl
    simp only [Act.put, List.getElem_toArray, List.getElem_cons_zero, List.getElem_cons_succ, List.setIfInBounds_toArray, List.set_cons_zero, List.set_cons_succ]
    refine wpAnyH_take (i := 7) (v := ?_) rfl (by kernel_rfl) (by kernel_rfl) (by kernel_rfl) (fun _ _ _ h => h) (Or.inl ⟨by rfl, ?q7⟩) HS.out ?_
    case q7 => intro w hSw; go_simp; rfl
    simp only [Act.put, List.getElem_toArray, List.getElem_cons_zero, List.getElem_cons_succ, List.setIfInBounds_toArray, List.set_cons_zero, List.set_cons_succ]
    refine wpAnyH_take (i := 8) (v := .bool false) rfl (by kernel_rfl) (by kernel_rfl) (by kernel_rfl) (fun _ _ _ h => h) (Or.inl ⟨by rfl, ?q8⟩) HS.out ?_
    case q8 => intro w hSw; go_simp
    simp only [Act.put, List.getElem_toArray, List.getElem_cons_zero, List.getElem_cons_succ, List.setIfInBounds_toArray, List.set_cons_zero, List.set_cons_succ]
    refine wpAnyH_take (i := 9) (v := ?_) rfl (by kernel_rfl) (by kernel_rfl) (by kernel_rfl) (fun _ _ _ h => h) (Or.inl ⟨by rfl, ?q9⟩) HS.out ?_
    case q9 => intro w hSw; go_simp; rfl
    simp only [Act.put, List.getElem_toArray, List.getElem_cons_zero, List.getElem_cons_succ, List.setIfInBounds_toArray, List.set_cons_zero, List.set_cons_succ]
    refine wpAnyH_take (i := 10) (v := ?_) rfl (by kernel_rfl) (by kernel_rfl) (by kernel_rfl) (fun _ _ _ h => h) (Or.inl ⟨by rfl, ?q10⟩) HS.out ?_
    case q10 => intro w hSw; go_simp; rfl
    simp only [Act.put, List.getElem_toArray, List.getElem_cons_zero, List.getElem_cons_succ, List.setIfInBounds_toArray, List.set_cons_zero, List.set_cons_succ]
    refine wpAnyH_take (i := 11) (v := ?_) rfl (by kernel_rfl) (by kernel_rfl) (by kernel_rfl) (fun _ _ _ h => h) (Or.inl ⟨by rfl, ?q11⟩) HS.out ?_
    case q11 => intro w hSw; go_simp; rfl
    simp only [Act.put, List.getElem_toArray, List.getElem_cons_zero, List.getElem_cons_succ, List.setIfInBounds_toArray, List.set_cons_zero, List.set_cons_succ]
    refine wpAnyH_take (i := 12) (v := .int .i64 (m : Int)) rfl (by kernel_rfl) (by kernel_rfl) (by kernel_rfl) (fun _ _ _ h => h) (Or.inl ⟨by rfl, ?q12⟩) HS.out ?_
    case q12 => intro w hSw; go_simp
    simp only [Act.put, List.getElem_toArray, List.getElem_cons_zero, List.getElem_cons_succ, List.setIfInBounds_toArray, List.set_cons_zero, List.set_cons_succ]
    refine wpAnyH_take (i := 13) (v := .bool false) rfl (by kernel_rfl) (by kernel_rfl) (by kernel_rfl) (fun _ _ _ h => h) (Or.inl ⟨by rfl, ?q13⟩) HS.out ?_
    case q13 => intro w hSw; go_simp
    simp only [Act.put, List.getElem_toArray, List.getElem_cons_zero, List.getElem_cons_succ, List.setIfInBounds_toArray, List.set_cons_zero, List.set_cons_succ]
    refine wpAnyH_take (i := 14) (v := ?_) rfl (by kernel_rfl) (by kernel_rfl) (by kernel_rfl) (fun _ _ _ h => h) (Or.inl ⟨by rfl, ?q14⟩) HS.out ?_
    case q14 => intro w hSw; go_simp; rfl
    simp only [Act.put, List.getElem_toArray, List.getElem_cons_zero, List.getElem_cons_succ, List.setIfInBounds_toArray, List.set_cons_zero, List.set_cons_succ]
    refine wpAnyH_take (i := 15) (v := ?_) rfl (by kernel_rfl) (by kernel_rfl) (by kernel_rfl) (fun _ _ _ h => h) (Or.inl ⟨by rfl, ?q15⟩) HS.out ?_
    case q15 => intro w hSw; go_simp; rfl
    simp only [Act.put, List.getElem_toArray, List.getElem_cons_zero, List.getElem_cons_succ, List.setIfInBounds_toArray, List.set_cons_zero, List.set_cons_succ]
    refine wpAnyH_take (i := 16) (v := ?_) rfl (by kernel_rfl) (by kernel_rfl) (by kernel_rfl) (fun _ _ _ h => h) (Or.inl ⟨by rfl, ?q16⟩) HS.out ?_
    case q16 => intro w hSw; go_simp; rfl
    simp only [Act.put, List.getElem_toArray, List.getElem_cons_zero, List.getElem_cons_succ, List.setIfInBounds_toArray, List.set_cons_zero, List.set_cons_succ]
    refine wpAnyH_take (i := 17) (v := .pointer (some ⟨g, 0, none⟩)) rfl (by kernel_rfl) (by kernel_rfl) (by kernel_rfl) (fun _ _ _ h => h) (Or.inl ⟨by rfl, ?q17⟩) HS.out ?_
    case q17 => intro w hSw; go_simp; intro hq; exfalso; omega
    simp only [Act.put, List.getElem_toArray, List.getElem_cons_zero, List.getElem_cons_succ, List.setIfInBounds_toArray, List.set_cons_zero, List.set_cons_succ]
    refine wpAnyH_take (i := 18) rfl (by kernel_rfl) (by kernel_rfl) (by kernel_rfl) (fun _ _ _ h => h) (yieldsIf_load_mid (by rfl) 28 _ rfl g 0 rfl (dc r) _ (fun W hW => range_below Rr0.out hW hgl) Tryd.underlying28 rfl HSr.out) HS.out ?_
    simp only [Act.put, List.getElem_toArray, List.getElem_cons_zero, List.getElem_cons_succ, List.setIfInBounds_toArray, List.set_cons_zero, List.set_cons_succ]
    refine wpAnyH_take (i := 19) rfl (by kernel_rfl) (by kernel_rfl) (by kernel_rfl) (fun _ _ _ h => h) (yieldsIf_load_mid (by rfl) 28 _ rfl w3.heap.size 0 rfl (dc r) _ (fun W hW => range_below hX6.out hW hl3) Tryd.underlying28 rfl HSr.out) HS.out ?_
    simp only [Act.put, List.getElem_toArray, List.getElem_cons_zero, List.getElem_cons_succ, List.setIfInBounds_toArray, List.set_cons_zero, List.set_cons_succ]
    rw [dc_arr]
    refine wpAnyH_take (i := 20) (v := .bool false) rfl (by kernel_rfl) (by kernel_rfl) (by kernel_rfl) (fun _ _ _ h => h) (Or.inl ⟨by rfl, ?q20⟩) HS.out ?_
    case q20 => intro w hSw; go_simp
    simp only [Act.put, List.getElem_toArray, List.getElem_cons_zero, List.getElem_cons_succ, List.setIfInBounds_toArray, List.set_cons_zero, List.set_cons_succ]
    refine wpAnyH_take (i := 21) (v := ?_) rfl (by kernel_rfl) (by kernel_rfl) (by kernel_rfl) (fun _ _ _ h => h) (Or.inl ⟨by rfl, ?q21⟩) HS.out ?_
    case q21 => intro w hSw; go_simp; rfl
    simp only [Act.put, List.getElem_toArray, List.getElem_cons_zero, List.getElem_cons_succ, List.setIfInBounds_toArray, List.set_cons_zero, List.set_cons_succ]
    refine wpAnyH_done (by kernel_rfl) ?_ _
    have BL7 := hid (BL6.out.trans (HS.out.mono BL6.out.size))
    obtain ⟨w7, HW7⟩ : ∃ w7, Hid (World.drew w6 = w7) := ⟨_, rfl⟩
    have HO7 : Hid (OD w7 g N') := HO6.out.below (by rw [← HW7.out]; exact (Below.refl _ _).drew)
    have HX7 : Hid (w7.rangeAt w3.heap.size 0 (dc r)) := by rw [← HW7.out]; exact hX6
    have HC7 : Hid (0 < cl.length → ∃ b off, pc = some ⟨b, off, none⟩ ∧ ∀ j, j < cl.length → w7.cell? ⟨b, off + j, none⟩ = some (.int .i64 ((cl.getD j 0 : Nat) : Int))) := by rw [← HW7.out]; exact HCE
    have BL7' : Hid (Below w.heap.size w w7) := by rw [← HW7.out]; exact BL7
    have hl37 : w3.heap.size < w7.heap.size := by rw [← HW7.out]; exact hl3
    clear hqr HS
    rw [HW7.out]
    go_wp2
    go_loopw [12, 13] (fun t q wr => ∃ j : Nat, j ≤ k ∧ q = .int .i64 j ∧ Hid (wr.ownsRow w7.heap.size 28 32 t ((besL N' cl).take j).length (((besL N' cl).take j).flatMap dc)) ∧ Hid (Below w7.heap.size w7 wr)) (fun _ q _ => k - (intOf q).toNat)
    case atStart => exact ⟨0, Nat.zero_le _, rfl, World.ownsRow_nil _ _ _ _, Below.refl _ _⟩
    case round =>
      obtain ⟨j, hj, rfl, HOW, HB⟩ := hrel
      have hbl : (besL N' cl).length = k := by rw [besL_length, HCN.out]
      have HBLN := hid hbl
      have HBD : Hid (∀ d ∈ besL N' cl, D32 d) := fun d hd => by
        obtain ⟨x, hx, rfl⟩ := List.mem_map.1 hd
        obtain ⟨q, hq, rfl⟩ := List.mem_iff_getElem.1 hx
        have := HIN.out q (by rw [HCN.out] at hq; exact hq)
        have e : cl.getD q 0 = cl[q] := by simp [List.getD, List.getElem?_eq_getElem hq]
        rw [e] at this
        exact getD_D HDN.out _ (by rw [HM.out]; omega)
      clear hbl
      by_cases hlt : j < k
      · obtain ⟨bb, off, rfl, hcell⟩ := HC7.out (by rw [HCN.out]; omega)
        have hcj := hcell j (by rw [HCN.out]; exact hlt)
        have hcj' : wr.cell? ⟨bb, off + j, none⟩ = some (.int .i64 ((cl.getD j 0 : Nat) : Int)) := (HB.out.cell (World.block_lt_of_cell? w7 _ hcj)).trans hcj
        obtain ⟨hy1, hy2⟩ := HIN.out j hlt
        have HEJ : Hid ((besL N' cl).getD j [] = N'.getD (cl.getD j 0 - 1) []) := by
          have hq2 : j < cl.length := by rw [HCN.out]; exact hlt
          refine hid ?_
          simp [besL, List.getD, hq2]
        have HOr := hid (HO7.out.below HB.out)
        have Ry := hid (HOr.out.2.1 (cl.getD j 0 - 1) (by rw [HM.out]; omega))
        have yD := hid (getD_D HDN.out (cl.getD j 0 - 1) (by rw [HM.out]; omega))
        have HST : Hid ((besL N' cl).take j ++ [(besL N' cl).getD j []] = (besL N' cl).take (j + 1)) := by
          have hq2 : j < (besL N' cl).length := by rw [HBLN.out]; exact hlt
          rw [List.take_succ_eq_append_getElem hq2]
          refine hid ?_
          simp [List.getD, hq2]
        rw [HEJ.out] at HST
        clear hcj hcell
        generalize N'.getD (cl.getD j 0 - 1) [] = dy at Ry yD HST HEJ
        generalize cl.getD j 0 = y at hcj' hy1 hy2 Ry HEJ
        have hy1i : ¬ (y : Int) < 1 := by omega
        have hy2i : ¬ (m : Int) < (y : Int) := by omega
        have ew : IntKind.i64.wrap ((y : Int) - 1) = (y : Int) - 1 := by rw [IntKind.wrap_i64]; omega
        have et : ((y : Int) - 1).toNat = y - 1 := by omega
        have HSy := hid (size_dig yD.out)
        have hbase := HB.out.size
        obtain ⟨cy, HCY⟩ : ∃ c, Hid (cellsB dy = c) := ⟨_, rfl⟩
        have hlit : (Instr.buildSlice 22 1 #[(0, .agg cy)]).run Tryd.prog wr = .ok (.slice (some ⟨wr.heap.size, 0, none⟩) 1 1) (wr.alloc (.cells (dc dy).toArray 28)) := by
          have := run_lit1 wr dy yD.out
          rw [HCY.out] at this
          exact this
        have HLIT := hid hlit
        clear hlit
        have HA1 : Hid (∀ q, q < [dy].length → (wr.alloc (.cells (dc dy).toArray 28)).rangeAt wr.heap.size (0 + q * 32) (dc ([dy].getD q []))) := fun q hq a b hab => by
          have hq0 : q = 0 := by simp at hq; omega
          subst hq0
          rw [Nat.zero_mul, Nat.add_zero, Nat.zero_add, cell_of_row _ wr.heap.size a _ _ _ (heap_alloc_new wr _), List.getElem?_toArray]
          exact hab
        have htl : ((besL N' cl).take j).length ≤ 10 := by rw [List.length_take]; omega
        go_wp2_with (first | (refine wpList_load_mid rfl 28 _ rfl g ((y - 1) * 32) rfl (dc dy) _ Ry.out Tryd.underlying28 rfl HSy.out ?_; rw [dc_arr, HCY.out]) | (refine wpList_lit_runD rfl 22 1 _ rfl #[(0, .agg cy)] (by go_simp) _ _ HLIT.out ?_) | (refine wpList_append_digs rfl _ _ rfl w7.heap.size _ ((besL N' cl).take j) [dy] rfl (HOW.out.alloc _) (by intro d hd; rw [List.mem_singleton.1 hd]; exact yD.out) wr.heap.size 0 1 rfl HA1.out (by simp only [List.length_cons, List.length_nil]; omega) (by simp; omega) ?_; intro v' w8 ho8 hg8))
        have HO8 : Hid (w8.ownsRow w7.heap.size 28 32 v' ((besL N' cl).take (j + 1)).length (((besL N' cl).take (j + 1)).flatMap dc)) := by rw [← HST.out]; exact ho8
        have HB8 : Hid (Below w7.heap.size w7 w8) := (HB.out.alloc HB.out.size _).grown hg8 (by simp; omega) (fun q hq => (HOW.out.lt q hq).1)
        clear ho8 hg8
        exact ⟨⟨j + 1, by omega, by go_num, HO8, HB8⟩, by simp [intOf]; omega⟩
      · have hjk : j = k := by omega
        subst hjk
        have HDC : Hid (HDs wr u12 (besL N' cl)) := by
          have := HOW.out
          rw [List.take_of_length_le (by rw [HBLN.out]; exact Nat.le_refl _)] at this
          exact HDs.of_own this HBD.out
        have BL8 := hid (BL7'.out.trans (HB.out.mono BL7'.out.size))
        have HVr := hid (HV.out.below BL8.out)
        have hiD := hid (getD_D HLS.out i (by rw [HN.out]; exact hi))
        obtain ⟨bv, ov, cv, e1, _, _, hbv, hrv⟩ := HVr.out.ne (by rw [HN.out]; omega)
        rw [HN.out] at e1
        simp only [Value.slice.injEq] at e1
        obtain ⟨rfl, -, -⟩ := e1
        have Ri := hid (hrv i (by rw [HN.out]; exact hi))
        have HSi := hid (size_dig hiD.out)
        have CCl := hid (climb_ok wr n i j (ls.getD i []) _ (besL N' cl) hiD.out HDC.out hn1 hn2 hi (by rw [HW.out]; exact HWK.out) hk9 HBLN.out (HK.out.below BL8.out))
        have HTOP : Hid (clV (besL N' cl) (wdN n + i) (ls.getD i []) = r) := by
          rw [HW.out, ← HLF.out, ← HWT.out]
          unfold clTo
          rw [List.take_of_length_le (by rw [HBLN.out]; exact Nat.le_refl _)]
          exact rfl
        rw [HTOP.out, HCR.out] at CCl
        obtain ⟨di, HDI⟩ : ∃ d, Hid (ls.getD i [] = d) := ⟨_, rfl⟩
        rw [HDI.out] at Ri HSi CCl
        obtain ⟨ci, HCI⟩ : ∃ c, Hid (cellsB di = c) := ⟨_, rfl⟩
        rw [HCI.out] at CCl
        have HXr := hid (range_below HX7.out HB.out hl37)
        have HOr := hid (HO7.out.below HB.out)
        have hlr : w3.heap.size < wr.heap.size := Nat.lt_of_lt_of_le hl37 HB.out.size
        clear hrv
        go_wp2_with (first | (refine wpList_load_mid rfl 28 _ rfl bv (ov + i * 32) rfl (dc di) _ Ri.out Tryd.underlying28 rfl HSi.out ?_; rw [dc_arr, HCI.out]) | fail)
        refine CCl.out.mono ?_
        rintro e w9 ⟨rfl, hB9⟩
        obtain ⟨W10, hW10⟩ : ∃ W10, Hid (w9.alloc (.cells cr 28) = W10) := ⟨_, rfl⟩
        have B10 : Hid (Below wr.heap.size wr W10) := by rw [← hW10.out]; exact hB9.alloc hB9.size _
        have BL10 := hid (BL8.out.trans (B10.out.mono BL8.out.size))
        have HR10 : Hid (W10.heap[w9.heap.size]? = some (.cells cr 28 (0, 0))) := by rw [← hW10.out]; exact heap_alloc_new w9 _
        have HX10 := hid (range_below HXr.out B10.out hlr)
        have HO10 := hid (HOr.out.below B10.out)
        have HD10 := hid (HO10.out.HDs (by rw [HM.out]; omega))
        rw [HM.out] at HD10
        have CLv := hid (leaves_ok W10 _ ls N' HD10.out (by rw [HN.out]; exact hn1) (by rw [HN.out]; exact hn2) (by rw [HN.out, HW.out]; exact HT.out) HLS.out (HK.out.below BL10.out))
        rw [HN.out] at CLv
        clear hB9 CCl
        go_wp2_with (first | (refine wpList_alloc_digest rfl rfl ?_; rw [HZD.out]) | (refine wpList_store_row rfl 28 _ _ rfl w9.heap.size cr rfl rfl 28 zd (heap_alloc_new w9 _) SR.out ZR.out OR.out ?_; rw [setRow_alloc_newT, hW10.out]) | fail)
        refine CLv.out.mono ?_
        rintro e w11 ⟨u, rfl, hu, hB11⟩
        have BL11 := hid (BL10.out.trans (hB11.mono BL10.out.size))
        have HR11 : Hid (w11.heap[w9.heap.size]? = some (.cells cr 28 (0, 0))) := (hB11.block _ (Array.getElem?_eq_some_iff.1 HR10.out).1).trans HR10.out
        have hl10 : w3.heap.size < W10.heap.size := Nat.lt_of_lt_of_le hlr B10.out.size
        have HX11 := hid (range_below HX10.out hB11 hl10)
        have CSm := hid (sameDigests_any w11 u _ ls ls hu (HV.out.below BL11.out))
        rw [show decide (ls = ls) = true by simp] at CSm
        have hqe := fun w => run_eql_bytes w 32 28 Tryd.underlying28 r r Dr.out.1 Dr.out.1
        rw [show decide (r = r) = true by simp, HCR.out] at hqe
        clear hB11 CLv hu
        go_wp2_with (first | (refine wpList_load_row_on rfl 28 _ rfl w9.heap.size rfl 28 cr (0, 0) _ HR11.out Tryd.underlying28 rfl SR.out ?_) | (refine wpList_load_mid_on rfl 28 _ rfl w3.heap.size 0 rfl (dc r) _ HX11.out Tryd.underlying28 rfl (size_dig Dr.out) ?_; rw [dc_arr, HCR.out]) | fail)
        refine CSm.out.mono ?_
        rintro e w12 ⟨rfl, hB12⟩
        have BL12 := hid (BL11.out.trans (hB12.mono BL11.out.size))
        clear hB12 CSm
        go_wp2
        go_ret
        exact ⟨rfl, BL12.out⟩
end Go.Proofs.YtjmlpkemjafifaaDoor
