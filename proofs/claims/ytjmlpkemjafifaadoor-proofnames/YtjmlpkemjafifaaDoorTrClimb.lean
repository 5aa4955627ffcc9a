/- tree.Climb, walked. -/
import Derived.Test.YtjmlpkemjafifaaDoorTrChain
import Derived.Test.YtjmlpkemjafifaaDoorTrOwn
set_option linter.unusedVariables false
set_option linter.unusedSimpArgs false
namespace Go.Proofs.YtjmlpkemjafifaaDoor
open Go.RowKit

set_option maxRecDepth 100000 in
set_option maxHeartbeats 1000000 in
theorem chain_bad (w : World) (n i : Int) (h : ¬ (1 ≤ n ∧ n ≤ 512 ∧ 0 ≤ i ∧ i < n)) : Calls Tryd.prog 13 #[.int .i64 n, .int .i64 i] w fun e w' => e = .returned (.tuple #[.slice none 0 0, .int .i64 (nodeE n i)]) ∧ Below w.heap.size w w' := by
  have CN := hid (node_bad w n i h)
  have hne : ¬ nodeE n i = 0 := by unfold nodeE; split <;> decide
  generalize nodeE n i = E at CN hne ⊢
  clear h
  go_enter Tryd.func13, Tryd.ntmps13
  go_wp2_with fail
  refine CN.out.mono ?_
  rintro e w1 ⟨rfl, hB⟩
  have BL := hid hB
  clear hB CN
  go_wp2
  go_ret2
  exact ⟨rfl, BL.out⟩
/-- The digest that d at node x and those beside its way up lead to. -/
def clV : List (List Int) → Nat → List Int → List Int
  | [], _, d => d
  | c :: r, x, d => clV r (x / 2) (if x % 2 = 1 then ndL c d else ndL d c)
def clTo (cs : List (List Int)) (x : Nat) (d : List Int) (j : Nat) : List Int := clV (cs.take j) x d
theorem clTo_step : ∀ (j : Nat) (cs : List (List Int)) (x : Nat) (d : List Int), j < cs.length → clTo cs x d (j + 1) = if (x / 2 ^ j) % 2 = 1 then ndL (cs.getD j []) (clTo cs x d j) else ndL (clTo cs x d j) (cs.getD j [])
  | 0, c :: r, x, d, _ => by simp [clTo, clV]
  | j + 1, c :: r, x, d, h => by
    have := clTo_step j r (x / 2) (if x % 2 = 1 then ndL c d else ndL d c) (by simpa using h)
    unfold clTo at this ⊢
    simp only [List.take_succ_cons, clV, List.getD_cons_succ]
    rw [this, Nat.div_div_eq_div_mul, ← Nat.pow_succ']
theorem clTo_D (cs : List (List Int)) (hc : ∀ c ∈ cs, D32 c) (x : Nat) (d : List Int) (hd : D32 d) : ∀ j, j ≤ cs.length → D32 (clTo cs x d j)
  | 0, _ => hd
  | j + 1, h => by
    rw [clTo_step j cs x d (by omega)]
    split
    · exact ndL_D _ _
    · exact ndL_D _ _
theorem cell_of_setRow_other (w : World) (g : Nat) (cs : Array Value) (a : Addr) (h : a.block ≠ g) : (w.setRow g cs).cell? a = w.cell? a := by
  have := setRow_other w g a.block cs h
  unfold World.cell?
  rw [this]
theorem xor1_even (y : Nat) : ((y ^^^ 1) % 2 = 0) ↔ y % 2 = 1 := by
  have h : (y ^^^ 1) % 2 = (y % 2) ^^^ 1 := by
    have := Nat.xor_mod_two_pow (a := y) (b := 1) (n := 1)
    simpa using this
  rw [h]
  rcases Nat.mod_two_eq_zero_or_one y with e | e <;> rw [e] <;> decide
/-- Climb's answer where it fails. -/
def ClBad (w : World) (e : Ending) (w' : World) : Prop := ∃ E : Int, E ≠ 0 ∧ e = .returned (.tuple #[.agg (cellsB zeros32), .int .i64 E]) ∧ Below w.heap.size w w'
set_option maxRecDepth 100000 in
set_option maxHeartbeats 2000000 in
theorem climb_bad (w : World) (n i : Int) (d : List Int) (v : Value) (cs : List (List Int)) (hd : D32 d) (hv : HDs w v cs) (h : ¬ (1 ≤ n ∧ n ≤ 512 ∧ 0 ≤ i ∧ i < n)) :
    Calls Tryd.prog 14 #[.int .i64 n, .int .i64 i, .agg (cellsB d), v] w fun e w' => ClBad w e w' := by
  obtain ⟨zd, HZD⟩ : ∃ zd, Hid (cellsB zeros32 = zd) := ⟨_, rfl⟩
  obtain ⟨cd, HCD⟩ : ∃ cd, Hid (cellsB d = cd) := ⟨_, rfl⟩
  rw [HCD.out]
  obtain ⟨W0, hW0⟩ : ∃ W0, Hid ((w.alloc (.cells cd 28)).alloc (.cells zd 28) = W0) := ⟨_, rfl⟩
  have e1 : (w.alloc (.cells cd 28)).heap.size = w.heap.size + 1 := by simp
  have HB0 : Hid (Below w.heap.size w W0) := by rw [← hW0.out]; exact ((Below.refl _ w).alloc (Nat.le_refl _) _).alloc (by simp) _
  have H1 : Hid (W0.heap[w.heap.size]? = some (.cells cd 28 (0, 0))) := by rw [← hW0.out]; exact heap_alloc2_old _ _ _
  have H2 : Hid (W0.heap[w.heap.size + 1]? = some (.cells zd 28 (0, 0))) := by rw [← hW0.out]; exact heap_alloc2_new _ _ _
  have hS0 : w.heap.size + 1 < W0.heap.size := (Array.getElem?_eq_some_iff.1 H2.out).1
  have SZ : Hid ((Tryd.prog.info? 28).map (·.size) = some zd.size) := by rw [← HZD.out]; exact size_digest
  have OZ : Hid (zd.all (·.oneCell') = true) := by rw [← HZD.out]; exact cellsB_one _
  have CC := hid (chain_bad W0 n i h)
  have hne : ¬ nodeE n i = 0 := by unfold nodeE; split <;> decide
  generalize nodeE n i = E at CC hne
  go_enter Tryd.func14, Tryd.ntmps14
  go_wp2_with (refine wpList_alloc_digest rfl rfl ?_; rw [HZD.out, e1, hW0.out])
  refine CC.out.mono ?_
  rintro e w1 ⟨rfl, hB1⟩
  have HR1 : Hid (w1.heap[w.heap.size + 1]? = some (.cells zd 28 (0, 0))) := (hB1.block _ hS0).trans H2.out
  have HBF := hid (below_setRow (HB0.out.trans (hB1.mono HB0.out.size)) (g := w.heap.size + 1) (Nat.le_succ _) zd)
  clear hB1 CC
  go_wp2_with (first
    | (refine wpList_build_digest rfl rfl ?_; rw [HZD.out])
    | (refine wpList_store_row rfl 28 _ _ rfl (w.heap.size + 1) zd rfl rfl 28 _ HR1.out SZ.out rfl OZ.out ?_))
  refine bodyPost_ret (v := .tuple #[.agg zd, .int .i64 E]) (results_cellt (p := 8) (u := 9) (ty := 28) rfl _ _ (w.heap.size + 1) 28 zd (0, 0) _ rfl (setRow_heap _ _ _ _ _ _ HR1.out) Tryd.underlying28 rfl SZ.out _ rfl) rfl ?_
  exact ⟨E, hne, by rw [HZD.out], HBF.out⟩
set_option maxRecDepth 100000 in
set_option maxHeartbeats 2000000 in
theorem climb_short (w : World) (n i k : Nat) (d : List Int) (v : Value) (cs : List (List Int)) (hd : D32 d) (hv : HDs w v cs) (h1 : 1 ≤ n) (h2 : n ≤ 512) (hi : i < n) (hk : wdN n = 2 ^ k) (hk9 : k < 10) (hl : cs.length ≠ k) :
    Calls Tryd.prog 14 #[.int .i64 (n : Int), .int .i64 (i : Int), .agg (cellsB d), v] w fun e w' => ClBad w e w' := by
  obtain ⟨zd, HZD⟩ : ∃ zd, Hid (cellsB zeros32 = zd) := ⟨_, rfl⟩
  obtain ⟨cd, HCD⟩ : ∃ cd, Hid (cellsB d = cd) := ⟨_, rfl⟩
  rw [HCD.out]
  obtain ⟨W0, hW0⟩ : ∃ W0, Hid ((w.alloc (.cells cd 28)).alloc (.cells zd 28) = W0) := ⟨_, rfl⟩
  have e1 : (w.alloc (.cells cd 28)).heap.size = w.heap.size + 1 := by simp
  have HB0 : Hid (Below w.heap.size w W0) := by rw [← hW0.out]; exact ((Below.refl _ w).alloc (Nat.le_refl _) _).alloc (by simp) _
  have H1 : Hid (W0.heap[w.heap.size]? = some (.cells cd 28 (0, 0))) := by rw [← hW0.out]; exact heap_alloc2_old _ _ _
  have H2 : Hid (W0.heap[w.heap.size + 1]? = some (.cells zd 28 (0, 0))) := by rw [← hW0.out]; exact heap_alloc2_new _ _ _
  have hS0 : w.heap.size + 1 < W0.heap.size := (Array.getElem?_eq_some_iff.1 H2.out).1
  have SZ : Hid ((Tryd.prog.info? 28).map (·.size) = some zd.size) := by rw [← HZD.out]; exact size_digest
  have OZ : Hid (zd.all (·.oneCell') = true) := by rw [← HZD.out]; exact cellsB_one _
  have CC := hid (chain_ok W0 n i k h1 h2 hi hk hk9)
  obtain ⟨pv, cv, ev, hcv, hmv⟩ := hv.open
  unfold maxLen at hmv
  obtain ⟨m, HM⟩ : ∃ m, Hid (cs.length = m) := ⟨_, rfl⟩
  rw [HM.out] at ev hcv hl
  subst ev
  clear hv
  go_enter Tryd.func14, Tryd.ntmps14
  go_wp2_with (refine wpList_alloc_digest rfl rfl ?_; rw [HZD.out, e1, hW0.out])
  refine CC.out.mono ?_
  rintro e w1 ⟨vb, rfl, ⟨pb, cb, rfl, hnb⟩, _, hB1⟩
  rw [chL_length]
  have hli : ¬ (m : Int) = (k : Int) := by omega
  have HR1 : Hid (w1.heap[w.heap.size + 1]? = some (.cells zd 28 (0, 0))) := (hB1.block _ hS0).trans H2.out
  have HBF := hid (below_setRow (HB0.out.trans (hB1.mono HB0.out.size)) (g := w.heap.size + 1) (Nat.le_succ _) zd)
  clear hB1 CC hnb
  go_wp2_with (first
    | (refine wpList_build_digest rfl rfl ?_; rw [HZD.out])
    | (refine wpList_store_row rfl 28 _ _ rfl (w.heap.size + 1) zd rfl rfl 28 _ HR1.out SZ.out rfl OZ.out ?_))
  refine bodyPost_ret (v := .tuple #[.agg zd, .int .i64 112]) (results_cellt (p := 8) (u := 9) (ty := 28) rfl _ _ (w.heap.size + 1) 28 zd (0, 0) _ rfl (setRow_heap _ _ _ _ _ _ HR1.out) Tryd.underlying28 rfl SZ.out _ rfl) rfl ?_
  exact ⟨112, by decide, by rw [HZD.out], HBF.out⟩
set_option maxRecDepth 100000 in
set_option maxHeartbeats 4000000 in
theorem climb_ok (w : World) (n i k : Nat) (d : List Int) (v : Value) (cs : List (List Int)) (hd : D32 d) (hv : HDs w v cs) (h1 : 1 ≤ n) (h2 : n ≤ 512) (hi : i < n) (hk : wdN n = 2 ^ k) (hk9 : k < 10) (hl : cs.length = k) (hkc : KC w) :
    Calls Tryd.prog 14 #[.int .i64 (n : Int), .int .i64 (i : Int), .agg (cellsB d), v] w fun e w' => e = .returned (.tuple #[.agg (cellsB (clV cs (wdN n + i) d)), .int .i64 0]) ∧ Below w.heap.size w w' := by
  obtain ⟨zd, HZD⟩ : ∃ zd, Hid (cellsB zeros32 = zd) := ⟨_, rfl⟩
  obtain ⟨cd, HCD⟩ : ∃ cd, Hid (cellsB d = cd) := ⟨_, rfl⟩
  rw [HCD.out]
  obtain ⟨W0, hW0⟩ : ∃ W0, Hid ((w.alloc (.cells cd 28)).alloc (.cells zd 28) = W0) := ⟨_, rfl⟩
  have e1 : (w.alloc (.cells cd 28)).heap.size = w.heap.size + 1 := by simp
  have HB0 : Hid (Below w.heap.size w W0) := by rw [← hW0.out]; exact ((Below.refl _ w).alloc (Nat.le_refl _) _).alloc (by simp) _
  have H1 : Hid (W0.heap[w.heap.size]? = some (.cells cd 28 (0, 0))) := by rw [← hW0.out]; exact heap_alloc2_old _ _ _
  have H2 : Hid (W0.heap[w.heap.size + 1]? = some (.cells zd 28 (0, 0))) := by rw [← hW0.out]; exact heap_alloc2_new _ _ _
  have hS0 : w.heap.size + 1 < W0.heap.size := (Array.getElem?_eq_some_iff.1 H2.out).1
  have SZ : Hid ((Tryd.prog.info? 28).map (·.size) = some zd.size) := by rw [← HZD.out]; exact size_digest
  have OZ : Hid (zd.all (·.oneCell') = true) := by rw [← HZD.out]; exact cellsB_one _
  have CC := hid (chain_ok W0 n i k h1 h2 hi hk hk9)
  have HK := hid hkc
  have hx9 : wdN n + i < 1024 := by have := wdN_le n; have := wdN_ge n h2; omega
  generalize wdN n + i = x at CC hx9 ⊢
  obtain ⟨pv, cv, ev, hcv, hmv⟩ := hv.open
  unfold maxLen at hmv
  have HV := hid hv
  rw [hl] at ev hcv
  subst ev
  clear hv hkc
  go_enter Tryd.func14, Tryd.ntmps14
  go_wp2_with (refine wpList_alloc_digest rfl rfl ?_; rw [HZD.out, e1, hW0.out])
  refine CC.out.mono ?_
  rintro e w1 ⟨vb, rfl, hnb, hnew, hB1⟩
  have HNB := hid hnb
  have HNew := hid hnew
  clear hnew
  obtain ⟨pb, cb, evb, _⟩ := hnb
  rw [chL_length] at evb
  subst evb
  have K1 : Hid (w1.heap[w.heap.size]? = some (.cells (cellsB (clTo cs x d 0)) 28 (0, 0))) := by
    refine hid ?_
    rw [hB1.block _ (by omega), H1.out, ← HCD.out]
    rfl
  have K2 : Hid (w1.heap[w.heap.size + 1]? = some (.cells zd 28 (0, 0))) := (hB1.block _ hS0).trans H2.out
  have BL1 := hid (HB0.out.trans (hB1.mono HB0.out.size))
  have hw1 : w.heap.size + 1 < w1.heap.size := (Array.getElem?_eq_some_iff.1 K2.out).1
  have HCs := hid HV.out.2
  clear hB1 CC
  go_wp2
  go_loopw [32] (fun j wr => ∃ q : Nat, q ≤ k ∧ j = .int .i64 q ∧ Hid (wr.heap[w.heap.size]? = some (.cells (cellsB (clTo cs x d q)) 28 (0, 0))) ∧ Hid (wr.heap[w.heap.size + 1]? = some (.cells zd 28 (0, 0))) ∧ Hid (Below w.heap.size w wr) ∧ Hid (HNs wr (.slice pb k cb) (chL k x))) (fun j _ => k - (intOf j).toNat)
  case atStart => exact ⟨0, Nat.zero_le _, rfl, K1, K2, BL1, HNB⟩
  case round =>
    obtain ⟨q, hq, rfl, G1, G2, HBel, HNr⟩ := hrel
    have hgs : w.heap.size + 1 < wr.heap.size := (Array.getElem?_eq_some_iff.1 G2.out).1
    by_cases hlt : q < k
    case neg =>
      have hqk : q = k := by omega
      have hfin : clTo cs x d q = clV cs x d := by unfold clTo; rw [List.take_of_length_le (by omega)]
      rw [hfin] at G1
      obtain ⟨dm, HD⟩ : ∃ dm, Hid (cellsB (clV cs x d) = dm) := ⟨_, rfl⟩
      have hdD : D32 (clV cs x d) := by rw [← hfin]; exact clTo_D cs HCs.out x d hd q (by omega)
      have hds : dm.size = 32 := by rw [← HD.out, cellsB_size, hdD.1]
      have SD : Hid ((Tryd.prog.info? 28).map (·.size) = some dm.size) := by rw [hds]; exact size_digest
      have OD : Hid (dm.all (·.oneCell') = true) := by rw [← HD.out]; exact cellsB_one _
      have ZD : Hid (zd.size = dm.size) := by rw [hds, ← HZD.out]; rfl
      rw [HD.out] at G1
      have HBF := hid (below_setRow HBel.out (g := w.heap.size + 1) (Nat.le_succ _) dm)
      clear hds
      go_wp2_with (first
        | (refine wpList_load_row rfl 28 _ rfl w.heap.size rfl 28 dm (0, 0) _ G1.out Tryd.underlying28 rfl SD.out ?_)
        | (refine wpList_store_row rfl 28 _ _ rfl (w.heap.size + 1) dm rfl rfl 28 _ G2.out SD.out ZD.out OD.out ?_))
      refine bodyPost_ret (v := .tuple #[.agg dm, .int .i64 0]) (results_cellt (p := 8) (u := 9) (ty := 28) rfl _ _ (w.heap.size + 1) 28 dm (0, 0) _ rfl (setRow_heap _ _ _ _ _ _ G2.out) Tryd.underlying28 rfl SD.out _ rfl) rfl ?_
      exact ⟨by rw [HD.out], HBF.out⟩
    case pos =>
      obtain ⟨bc, oc, cc', ec, _, _, hbc, hrc⟩ := HV.out.ne (by rw [hl]; omega)
      simp only [Value.slice.injEq] at ec
      obtain ⟨rfl, -, -⟩ := ec
      have RC := hid (hrc q (by rw [hl]; exact hlt))
      have hdc := getD_D HCs.out q (by rw [hl]; exact hlt)
      have hdj := clTo_D cs HCs.out x d hd q (by omega)
      have HST := hid (clTo_step q cs x d (by rw [hl]; exact hlt))
      generalize cs.getD q [] = c1 at hdc RC HST
      generalize clTo cs x d q = dj at hdj HST G1
      obtain ⟨pn, cn, en, hnn⟩ := HNr.out
      rw [chL_length] at hnn
      simp only [Value.slice.injEq] at en
      obtain ⟨rfl, -, -⟩ := en
      obtain ⟨bn, on, rfl, hnc⟩ := hnn (by omega)
      have hbn0 := HNew.out bn rfl
      have hcell := hnc q hlt
      have hge : (chL k x).getD q 0 = (x / 2 ^ q) ^^^ 1 := by simp [chL, List.getD, hlt]
      rw [hge] at hcell
      have hyl : x / 2 ^ q < 1024 := Nat.lt_of_le_of_lt (Nat.div_le_self _ _) hx9
      have hpar := xor1_even (x / 2 ^ q)
      generalize x / 2 ^ q = y at hcell hpar HST hyl
      have hzb : (y ^^^ 1) < 1024 := Nat.xor_lt_two_pow (n := 10) hyl (by decide)
      generalize y ^^^ 1 = z at hcell hpar hzb
      have htm : Int.tmod (z : Int) 2 = ((z % 2 : Nat) : Int) := by rw [Int.tmod_eq_emod_of_nonneg (by omega)]; omega
      have CN : Hid (∀ W', KC W' → _) := fun W' h => node_any W' c1 dj hdc hdj h
      have CN' : Hid (∀ W', KC W' → _) := fun W' h => node_any W' dj c1 hdj hdc h
      have G1r : Hid (wr.rangeAt w.heap.size 0 (dc dj)) := fun j u hj => by
        rw [cell_of_row wr _ _ _ _ _ G1.out]
        rw [Nat.zero_add, ← dc_arr, List.getElem?_toArray]
        exact hj
      have hsj : (cellsB dj).size = 32 := by rw [cellsB_size, hdj.1]
      clear hnc hnn hrc
      by_cases hod : y % 2 = 1
      · have hz0 : z % 2 = 0 := by omega
        rw [hz0] at htm
        clear hpar
        go_wp2
        refine wp_region_any (by kernel_rfl) ?_
        change wpAny _ _ _ _ _ _ _ (World.drew _)
        refine wpAny_take (i := 0) (v := ?_) rfl (by kernel_rfl) (by kernel_rfl) (by kernel_rfl) (fun _ _ _ h => h) (Or.inl ⟨by rfl, ?q0⟩) ?_
        case q0 => intro w; go_simp; rfl
        simp only [Act.put, List.getElem_toArray, List.getElem_cons_zero, List.getElem_cons_succ, List.setIfInBounds_toArray, List.set_cons_zero, List.set_cons_succ]
        refine wpAny_take (i := 1) (v := ?_) rfl (by kernel_rfl) (by kernel_rfl) (by kernel_rfl) (fun _ _ _ h => h) (Or.inl ⟨by rfl, ?q1⟩) ?_
        case q1 => intro w; go_simp; rfl
        simp only [Act.put, List.getElem_toArray, List.getElem_cons_zero, List.getElem_cons_succ, List.setIfInBounds_toArray, List.set_cons_zero, List.set_cons_succ]
        refine wpAny_take (i := 2) (v := .pointer (some ⟨bc, oc + q * 32, none⟩)) rfl (by kernel_rfl) (by kernel_rfl) (by kernel_rfl) (fun _ _ _ h => h) (Or.inl ⟨by rfl, ?q2⟩) ?_
        case q2 => intro w; go_simp
        simp only [Act.put, List.getElem_toArray, List.getElem_cons_zero, List.getElem_cons_succ, List.setIfInBounds_toArray, List.set_cons_zero, List.set_cons_succ]
        refine wpAny_ready (rs := [3, 4]) (by kernel_rfl) (by simp) ?_
        refine AllReady.cons rfl (fun K hK => ?_) (AllReady.cons rfl (fun K hK => ?_) AllReady.nil)
        · skip
          rw [if_pos (by rfl)]
          refine wp_load_mid 28 _ rfl bc (oc + q * 32) rfl (dc c1) _ (range_below RC.out HBel.out.drew hbc) Tryd.underlying28 rfl (size_dig hdc) ?_
          refine hK _ _ ?_
          clear hK K
          simp only [Act.put, List.getElem_toArray, List.getElem_cons_zero, List.getElem_cons_succ, List.setIfInBounds_toArray, List.set_cons_zero, List.set_cons_succ]
          refine wpAny_ready (rs := [4]) (by kernel_rfl) (by simp) ?_
          refine AllReady.cons rfl (fun K hK => ?_) AllReady.nil
          rw [if_pos (by rfl)]
          refine wp_load_mid 28 _ rfl w.heap.size 0 rfl (dc dj) _ G1r.out Tryd.underlying28 rfl (size_dig hdj) ?_
          refine hK _ _ ?_
          clear hK K
          simp only [Act.put, List.getElem_toArray, List.getElem_cons_zero, List.getElem_cons_succ, List.setIfInBounds_toArray, List.set_cons_zero, List.set_cons_succ]
          rw [dc_arr, dc_arr]
          refine wpAny_ready (rs := [5]) (by kernel_rfl) (by simp) ?_
          refine AllReady.cons rfl (fun K hK => ?_) AllReady.nil
          go_simp
          refine (CN.out _ (HK.out.below HBel.out.drew)).mono ?_
          rintro e w5 ⟨rfl, hB5⟩
          have HS5 : Hid (Below wr.heap.size wr w5) := (Below.refl _ wr).drew.trans hB5
          have hsz5 := hB5.size
          obtain ⟨dn, HDN⟩ : ∃ dn, Hid (ndL c1 dj = dn) := ⟨_, rfl⟩
          have hdnD : D32 dn := by rw [← HDN.out]; exact ndL_D _ _
          rw [HDN.out]
          have HST2 : Hid (clTo cs x d (q + 1) = dn) := by refine hid ?_; rw [HST.out, if_pos hod, HDN.out]
          obtain ⟨cn, HCN⟩ : ∃ cn, Hid (cellsB dn = cn) := ⟨_, rfl⟩
          have hsn : cn.size = 32 := by rw [← HCN.out, cellsB_size, hdnD.1]
          have SN : Hid ((Tryd.prog.info? 28).map (·.size) = some cn.size) := by rw [hsn]; exact size_digest
          have ON : Hid (cn.all (·.oneCell') = true) := by rw [← HCN.out]; exact cellsB_one _
          have ZN : Hid ((cellsB dj).size = cn.size) := by rw [hsn]; exact hsj
          rw [HCN.out]
          refine hK _ _ ?_
          clear hK K hB5
          refine wpAny_ready (rs := [6]) (by kernel_rfl) (by simp) ?_
          refine AllReady.cons rfl (fun K hK => ?_) AllReady.nil
          rw [if_pos (by rfl)]
          have G15 : Hid (w5.heap[w.heap.size]? = some (.cells (cellsB dj) 28 (0, 0))) := (HS5.out.block _ (by omega)).trans G1.out
          have G25 : Hid (w5.heap[w.heap.size + 1]? = some (.cells zd 28 (0, 0))) := (HS5.out.block _ hgs).trans G2.out
          have HN5 := hid (HNr.out.below HS5.out)
          refine wp_store_row 28 _ _ rfl w.heap.size cn rfl rfl 28 _ G15.out SN.out ZN.out ON.out ?_
          have B6 := hid (below_setRow (HBel.out.trans (HS5.out.mono HBel.out.size)) (g := w.heap.size) (Nat.le_refl _) cn)
          have G16 : Hid ((w5.setRow w.heap.size cn).heap[w.heap.size]? = some (.cells (cellsB (clTo cs x d (q + 1))) 28 (0, 0))) := by rw [HST2.out, HCN.out]; exact setRow_heap _ _ _ _ _ _ G15.out
          have G26 : Hid ((w5.setRow w.heap.size cn).heap[w.heap.size + 1]? = some (.cells zd 28 (0, 0))) := (setRow_other _ _ _ _ (by omega)).trans G25.out
          have HN6 : Hid (HNs (w5.setRow w.heap.size cn) (.slice (some ⟨bn, on, none⟩) k cb) (chL k x)) := by
            obtain ⟨p', c', e', h'⟩ := HN5.out
            refine ⟨p', c', e', fun h0 => ?_⟩
            obtain ⟨b', o', e2, hh⟩ := h' h0
            refine ⟨b', o', e2, fun j hj => ?_⟩
            have hbn : b' = bn := by
              have := e'
              rw [e2] at this
              simp only [Value.slice.injEq, Option.some.injEq, Addr.mk.injEq] at this
              exact this.1.1.symm
            rw [cell_of_setRow_other _ _ _ _ (show b' ≠ w.heap.size by rw [hbn]; omega)]
            exact hh j hj
          refine hK _ _ ?_
          clear hK K
          refine wpAny_done (by kernel_rfl) ?_ _
          go_wp2
          exact ⟨⟨q + 1, by omega, by go_num, G16, G26, B6, HN6⟩, by simp [intOf]; omega⟩
        · skip
          rw [if_pos (by rfl)]
          refine wp_load_mid 28 _ rfl w.heap.size 0 rfl (dc dj) _ G1r.out Tryd.underlying28 rfl (size_dig hdj) ?_
          refine hK _ _ ?_
          clear hK K
          simp only [Act.put, List.getElem_toArray, List.getElem_cons_zero, List.getElem_cons_succ, List.setIfInBounds_toArray, List.set_cons_zero, List.set_cons_succ]
          refine wpAny_ready (rs := [3]) (by kernel_rfl) (by simp) ?_
          refine AllReady.cons rfl (fun K hK => ?_) AllReady.nil
          rw [if_pos (by rfl)]
          refine wp_load_mid 28 _ rfl bc (oc + q * 32) rfl (dc c1) _ (range_below RC.out HBel.out.drew hbc) Tryd.underlying28 rfl (size_dig hdc) ?_
          refine hK _ _ ?_
          clear hK K
          simp only [Act.put, List.getElem_toArray, List.getElem_cons_zero, List.getElem_cons_succ, List.setIfInBounds_toArray, List.set_cons_zero, List.set_cons_succ]
          rw [dc_arr, dc_arr]
          refine wpAny_ready (rs := [5]) (by kernel_rfl) (by simp) ?_
          refine AllReady.cons rfl (fun K hK => ?_) AllReady.nil
          go_simp
          refine (CN.out _ (HK.out.below HBel.out.drew)).mono ?_
          rintro e w5 ⟨rfl, hB5⟩
          have HS5 : Hid (Below wr.heap.size wr w5) := (Below.refl _ wr).drew.trans hB5
          have hsz5 := hB5.size
          obtain ⟨dn, HDN⟩ : ∃ dn, Hid (ndL c1 dj = dn) := ⟨_, rfl⟩
          have hdnD : D32 dn := by rw [← HDN.out]; exact ndL_D _ _
          rw [HDN.out]
          have HST2 : Hid (clTo cs x d (q + 1) = dn) := by refine hid ?_; rw [HST.out, if_pos hod, HDN.out]
          obtain ⟨cn, HCN⟩ : ∃ cn, Hid (cellsB dn = cn) := ⟨_, rfl⟩
          have hsn : cn.size = 32 := by rw [← HCN.out, cellsB_size, hdnD.1]
          have SN : Hid ((Tryd.prog.info? 28).map (·.size) = some cn.size) := by rw [hsn]; exact size_digest
          have ON : Hid (cn.all (·.oneCell') = true) := by rw [← HCN.out]; exact cellsB_one _
          have ZN : Hid ((cellsB dj).size = cn.size) := by rw [hsn]; exact hsj
          rw [HCN.out]
          refine hK _ _ ?_
          clear hK K hB5
          refine wpAny_ready (rs := [6]) (by kernel_rfl) (by simp) ?_
          refine AllReady.cons rfl (fun K hK => ?_) AllReady.nil
          rw [if_pos (by rfl)]
          have G15 : Hid (w5.heap[w.heap.size]? = some (.cells (cellsB dj) 28 (0, 0))) := (HS5.out.block _ (by omega)).trans G1.out
          have G25 : Hid (w5.heap[w.heap.size + 1]? = some (.cells zd 28 (0, 0))) := (HS5.out.block _ hgs).trans G2.out
          have HN5 := hid (HNr.out.below HS5.out)
          refine wp_store_row 28 _ _ rfl w.heap.size cn rfl rfl 28 _ G15.out SN.out ZN.out ON.out ?_
          have B6 := hid (below_setRow (HBel.out.trans (HS5.out.mono HBel.out.size)) (g := w.heap.size) (Nat.le_refl _) cn)
          have G16 : Hid ((w5.setRow w.heap.size cn).heap[w.heap.size]? = some (.cells (cellsB (clTo cs x d (q + 1))) 28 (0, 0))) := by rw [HST2.out, HCN.out]; exact setRow_heap _ _ _ _ _ _ G15.out
          have G26 : Hid ((w5.setRow w.heap.size cn).heap[w.heap.size + 1]? = some (.cells zd 28 (0, 0))) := (setRow_other _ _ _ _ (by omega)).trans G25.out
          have HN6 : Hid (HNs (w5.setRow w.heap.size cn) (.slice (some ⟨bn, on, none⟩) k cb) (chL k x)) := by
            obtain ⟨p', c', e', h'⟩ := HN5.out
            refine ⟨p', c', e', fun h0 => ?_⟩
            obtain ⟨b', o', e2, hh⟩ := h' h0
            refine ⟨b', o', e2, fun j hj => ?_⟩
            have hbn : b' = bn := by
              have := e'
              rw [e2] at this
              simp only [Value.slice.injEq, Option.some.injEq, Addr.mk.injEq] at this
              exact this.1.1.symm
            rw [cell_of_setRow_other _ _ _ _ (show b' ≠ w.heap.size by rw [hbn]; omega)]
            exact hh j hj
          refine hK _ _ ?_
          clear hK K
          refine wpAny_done (by kernel_rfl) ?_ _
          go_wp2
          exact ⟨⟨q + 1, by omega, by go_num, G16, G26, B6, HN6⟩, by simp [intOf]; omega⟩
      · have hz0 : z % 2 = 1 := by omega
        rw [hz0] at htm
        clear hpar
        go_wp2
        refine wp_region_any (by kernel_rfl) ?_
        change wpAny _ _ _ _ _ _ _ (World.drew _)
        refine wpAny_take (i := 1) (v := ?_) rfl (by kernel_rfl) (by kernel_rfl) (by kernel_rfl) (fun _ _ _ h => h) (Or.inl ⟨by rfl, ?q1⟩) ?_
        case q1 => intro w; go_simp; rfl
        simp only [Act.put, List.getElem_toArray, List.getElem_cons_zero, List.getElem_cons_succ, List.setIfInBounds_toArray, List.set_cons_zero, List.set_cons_succ]
        refine wpAny_take (i := 2) (v := ?_) rfl (by kernel_rfl) (by kernel_rfl) (by kernel_rfl) (fun _ _ _ h => h) (Or.inl ⟨by rfl, ?q2⟩) ?_
        case q2 => intro w; go_simp; rfl
        simp only [Act.put, List.getElem_toArray, List.getElem_cons_zero, List.getElem_cons_succ, List.setIfInBounds_toArray, List.set_cons_zero, List.set_cons_succ]
        refine wpAny_take (i := 3) (v := .pointer (some ⟨bc, oc + q * 32, none⟩)) rfl (by kernel_rfl) (by kernel_rfl) (by kernel_rfl) (fun _ _ _ h => h) (Or.inl ⟨by rfl, ?q3⟩) ?_
        case q3 => intro w; go_simp
        simp only [Act.put, List.getElem_toArray, List.getElem_cons_zero, List.getElem_cons_succ, List.setIfInBounds_toArray, List.set_cons_zero, List.set_cons_succ]
        refine wpAny_ready (rs := [0, 4]) (by kernel_rfl) (by simp) ?_
        refine AllReady.cons rfl (fun K hK => ?_) (AllReady.cons rfl (fun K hK => ?_) AllReady.nil)
        · skip
          rw [if_pos (by rfl)]
          refine wp_load_mid 28 _ rfl w.heap.size 0 rfl (dc dj) _ G1r.out Tryd.underlying28 rfl (size_dig hdj) ?_
          refine hK _ _ ?_
          clear hK K
          simp only [Act.put, List.getElem_toArray, List.getElem_cons_zero, List.getElem_cons_succ, List.setIfInBounds_toArray, List.set_cons_zero, List.set_cons_succ]
          refine wpAny_ready (rs := [4]) (by kernel_rfl) (by simp) ?_
          refine AllReady.cons rfl (fun K hK => ?_) AllReady.nil
          rw [if_pos (by rfl)]
          refine wp_load_mid 28 _ rfl bc (oc + q * 32) rfl (dc c1) _ (range_below RC.out HBel.out.drew hbc) Tryd.underlying28 rfl (size_dig hdc) ?_
          refine hK _ _ ?_
          clear hK K
          simp only [Act.put, List.getElem_toArray, List.getElem_cons_zero, List.getElem_cons_succ, List.setIfInBounds_toArray, List.set_cons_zero, List.set_cons_succ]
          rw [dc_arr, dc_arr]
          refine wpAny_ready (rs := [5]) (by kernel_rfl) (by simp) ?_
          refine AllReady.cons rfl (fun K hK => ?_) AllReady.nil
          go_simp
          refine (CN'.out _ (HK.out.below HBel.out.drew)).mono ?_
          rintro e w5 ⟨rfl, hB5⟩
          have HS5 : Hid (Below wr.heap.size wr w5) := (Below.refl _ wr).drew.trans hB5
          have hsz5 := hB5.size
          obtain ⟨dn, HDN⟩ : ∃ dn, Hid (ndL dj c1 = dn) := ⟨_, rfl⟩
          have hdnD : D32 dn := by rw [← HDN.out]; exact ndL_D _ _
          rw [HDN.out]
          have HST2 : Hid (clTo cs x d (q + 1) = dn) := by refine hid ?_; rw [HST.out, if_neg hod, HDN.out]
          obtain ⟨cn, HCN⟩ : ∃ cn, Hid (cellsB dn = cn) := ⟨_, rfl⟩
          have hsn : cn.size = 32 := by rw [← HCN.out, cellsB_size, hdnD.1]
          have SN : Hid ((Tryd.prog.info? 28).map (·.size) = some cn.size) := by rw [hsn]; exact size_digest
          have ON : Hid (cn.all (·.oneCell') = true) := by rw [← HCN.out]; exact cellsB_one _
          have ZN : Hid ((cellsB dj).size = cn.size) := by rw [hsn]; exact hsj
          rw [HCN.out]
          refine hK _ _ ?_
          clear hK K hB5
          refine wpAny_ready (rs := [6]) (by kernel_rfl) (by simp) ?_
          refine AllReady.cons rfl (fun K hK => ?_) AllReady.nil
          rw [if_pos (by rfl)]
          have G15 : Hid (w5.heap[w.heap.size]? = some (.cells (cellsB dj) 28 (0, 0))) := (HS5.out.block _ (by omega)).trans G1.out
          have G25 : Hid (w5.heap[w.heap.size + 1]? = some (.cells zd 28 (0, 0))) := (HS5.out.block _ hgs).trans G2.out
          have HN5 := hid (HNr.out.below HS5.out)
          refine wp_store_row 28 _ _ rfl w.heap.size cn rfl rfl 28 _ G15.out SN.out ZN.out ON.out ?_
          have B6 := hid (below_setRow (HBel.out.trans (HS5.out.mono HBel.out.size)) (g := w.heap.size) (Nat.le_refl _) cn)
          have G16 : Hid ((w5.setRow w.heap.size cn).heap[w.heap.size]? = some (.cells (cellsB (clTo cs x d (q + 1))) 28 (0, 0))) := by rw [HST2.out, HCN.out]; exact setRow_heap _ _ _ _ _ _ G15.out
          have G26 : Hid ((w5.setRow w.heap.size cn).heap[w.heap.size + 1]? = some (.cells zd 28 (0, 0))) := (setRow_other _ _ _ _ (by omega)).trans G25.out
          have HN6 : Hid (HNs (w5.setRow w.heap.size cn) (.slice (some ⟨bn, on, none⟩) k cb) (chL k x)) := by
            obtain ⟨p', c', e', h'⟩ := HN5.out
            refine ⟨p', c', e', fun h0 => ?_⟩
            obtain ⟨b', o', e2, hh⟩ := h' h0
            refine ⟨b', o', e2, fun j hj => ?_⟩
            have hbn : b' = bn := by
              have := e'
              rw [e2] at this
              simp only [Value.slice.injEq, Option.some.injEq, Addr.mk.injEq] at this
              exact this.1.1.symm
            rw [cell_of_setRow_other _ _ _ _ (show b' ≠ w.heap.size by rw [hbn]; omega)]
            exact hh j hj
          refine hK _ _ ?_
          clear hK K
          refine wpAny_done (by kernel_rfl) ?_ _
          go_wp2
          exact ⟨⟨q + 1, by omega, by go_num, G16, G26, B6, HN6⟩, by simp [intOf]; omega⟩
        · skip
          rw [if_pos (by rfl)]
          refine wp_load_mid 28 _ rfl bc (oc + q * 32) rfl (dc c1) _ (range_below RC.out HBel.out.drew hbc) Tryd.underlying28 rfl (size_dig hdc) ?_
          refine hK _ _ ?_
          clear hK K
          simp only [Act.put, List.getElem_toArray, List.getElem_cons_zero, List.getElem_cons_succ, List.setIfInBounds_toArray, List.set_cons_zero, List.set_cons_succ]
          refine wpAny_ready (rs := [0]) (by kernel_rfl) (by simp) ?_
          refine AllReady.cons rfl (fun K hK => ?_) AllReady.nil
          rw [if_pos (by rfl)]
          refine wp_load_mid 28 _ rfl w.heap.size 0 rfl (dc dj) _ G1r.out Tryd.underlying28 rfl (size_dig hdj) ?_
          refine hK _ _ ?_
          clear hK K
          simp only [Act.put, List.getElem_toArray, List.getElem_cons_zero, List.getElem_cons_succ, List.setIfInBounds_toArray, List.set_cons_zero, List.set_cons_succ]
          rw [dc_arr, dc_arr]
          refine wpAny_ready (rs := [5]) (by kernel_rfl) (by simp) ?_
          refine AllReady.cons rfl (fun K hK => ?_) AllReady.nil
          go_simp
          refine (CN'.out _ (HK.out.below HBel.out.drew)).mono ?_
          rintro e w5 ⟨rfl, hB5⟩
          have HS5 : Hid (Below wr.heap.size wr w5) := (Below.refl _ wr).drew.trans hB5
          have hsz5 := hB5.size
          obtain ⟨dn, HDN⟩ : ∃ dn, Hid (ndL dj c1 = dn) := ⟨_, rfl⟩
          have hdnD : D32 dn := by rw [← HDN.out]; exact ndL_D _ _
          rw [HDN.out]
          have HST2 : Hid (clTo cs x d (q + 1) = dn) := by refine hid ?_; rw [HST.out, if_neg hod, HDN.out]
          obtain ⟨cn, HCN⟩ : ∃ cn, Hid (cellsB dn = cn) := ⟨_, rfl⟩
          have hsn : cn.size = 32 := by rw [← HCN.out, cellsB_size, hdnD.1]
          have SN : Hid ((Tryd.prog.info? 28).map (·.size) = some cn.size) := by rw [hsn]; exact size_digest
          have ON : Hid (cn.all (·.oneCell') = true) := by rw [← HCN.out]; exact cellsB_one _
          have ZN : Hid ((cellsB dj).size = cn.size) := by rw [hsn]; exact hsj
          rw [HCN.out]
          refine hK _ _ ?_
          clear hK K hB5
          refine wpAny_ready (rs := [6]) (by kernel_rfl) (by simp) ?_
          refine AllReady.cons rfl (fun K hK => ?_) AllReady.nil
          rw [if_pos (by rfl)]
          have G15 : Hid (w5.heap[w.heap.size]? = some (.cells (cellsB dj) 28 (0, 0))) := (HS5.out.block _ (by omega)).trans G1.out
          have G25 : Hid (w5.heap[w.heap.size + 1]? = some (.cells zd 28 (0, 0))) := (HS5.out.block _ hgs).trans G2.out
          have HN5 := hid (HNr.out.below HS5.out)
          refine wp_store_row 28 _ _ rfl w.heap.size cn rfl rfl 28 _ G15.out SN.out ZN.out ON.out ?_
          have B6 := hid (below_setRow (HBel.out.trans (HS5.out.mono HBel.out.size)) (g := w.heap.size) (Nat.le_refl _) cn)
          have G16 : Hid ((w5.setRow w.heap.size cn).heap[w.heap.size]? = some (.cells (cellsB (clTo cs x d (q + 1))) 28 (0, 0))) := by rw [HST2.out, HCN.out]; exact setRow_heap _ _ _ _ _ _ G15.out
          have G26 : Hid ((w5.setRow w.heap.size cn).heap[w.heap.size + 1]? = some (.cells zd 28 (0, 0))) := (setRow_other _ _ _ _ (by omega)).trans G25.out
          have HN6 : Hid (HNs (w5.setRow w.heap.size cn) (.slice (some ⟨bn, on, none⟩) k cb) (chL k x)) := by
            obtain ⟨p', c', e', h'⟩ := HN5.out
            refine ⟨p', c', e', fun h0 => ?_⟩
            obtain ⟨b', o', e2, hh⟩ := h' h0
            refine ⟨b', o', e2, fun j hj => ?_⟩
            have hbn : b' = bn := by
              have := e'
              rw [e2] at this
              simp only [Value.slice.injEq, Option.some.injEq, Addr.mk.injEq] at this
              exact this.1.1.symm
            rw [cell_of_setRow_other _ _ _ _ (show b' ≠ w.heap.size by rw [hbn]; omega)]
            exact hh j hj
          refine hK _ _ ?_
          clear hK K
          refine wpAny_done (by kernel_rfl) ?_ _
          go_wp2
          exact ⟨⟨q + 1, by omega, by go_num, G16, G26, B6, HN6⟩, by simp [intOf]; omega⟩
end Go.Proofs.YtjmlpkemjafifaaDoor
