/- ProofClash, walked. -/
import Derived.Test.YtjmlpkemjafifaaDoorGrPfC
import Derived.Test.YtjmlpkemjafifaaDoorTrBox
set_option linter.unusedVariables false
set_option linter.unusedSimpArgs false
namespace Go.Proofs.YtjmlpkemjafifaaDoor
open Go.RowKit

theorem Snd.fresh (W : Nat) (K : Kn) : Snd W K K := fun x d _ _ h1 h2 => by rw [h1] at h2; cases h2
theorem tdiv2 (x : Nat) : (x : Int).tdiv 2 = ((x / 2 : Nat) : Int) := by rw [Int.tdiv_eq_ediv_of_nonneg (by omega)]; omega
theorem kIs_of {K : Kn} {a : Int} {x : Nat} {d : List Int} (h : K x = some d) (ha : a = (x : Int)) : kIs K a = true := by subst ha; rw [kIs_nat, h]; rfl
set_option maxRecDepth 100000 in
set_option maxHeartbeats 16000000 in
theorem proofClash_walk (w : World) (va vb : Value) (root : List Int) (la lb : List NdT) (n : Int) (hd : D32 root) (ha : HNd w va la) (hb : HNd w vb lb) (hk : KC w) :
    Calls Tryd.prog 8 #[.int .i64 n, .agg (cellsB root), va, vb] w fun e w' => e = .returned (.bool true) ∧ Below w.heap.size w w' := by
  have HVA := hid ha
  have HVB := hid hb
  have HKC := hid hk
  have HD := hid hd
  obtain ⟨pa, ca, ea, _, _, _⟩ := ha.open
  obtain ⟨pb, cb, eb, _, _, _⟩ := hb.open
  subst ea eb
  obtain ⟨cd, HCD⟩ : ∃ c, Hid (cellsB root = c) := ⟨_, rfl⟩
  obtain ⟨W0, hW0⟩ : ∃ W0, Hid (w.alloc (.cells cd 28) = W0) := ⟨_, rfl⟩
  have HB0 : Hid (Below w.heap.size w W0) := by rw [← hW0.out]; exact (Below.refl _ w).alloc (Nat.le_refl _) _
  have HR0 : Hid (W0.heap[w.heap.size]? = some (.cells cd 28 (0, 0))) := by rw [← hW0.out]; exact heap_alloc_new w _
  have hcd : cd.size = 32 := by rw [← HCD.out, cellsB_size, hd.1]
  have SDr : Hid ((Tryd.prog.info? 28).map (·.size) = some cd.size) := by rw [hcd]; exact size_digest
  have CN1 := hid (pnew_any W0 n root hd (hk.below HB0.out))
  rw [HCD.out] at CN1
  obtain ⟨zd, HZD⟩ : ∃ zd, Hid (cellsB zeros32 = zd) := ⟨_, rfl⟩
  have hzs : zd.size = 32 := by rw [← HZD.out, cellsB_size, zeros32_length]
  have HZS := hid hzs
  rw [HCD.out]
  clear ha hb hk hd hcd hzs
  go_enter Tryd.func8, Tryd.ntmps8
  go_wp2_with (first | (rw [hW0.out]; refine wpList_load_row rfl 28 _ rfl w.heap.size rfl 28 cd (0, 0) _ HR0.out Tryd.underlying28 rfl SDr.out ?_) | fail)
  refine CN1.out.mono ?_
  rintro e u1 (⟨hbad, rfl, hB1⟩ | ⟨L, g, bm, hL, hL1, hL2, rfl, hg, hbm, hP1, hB1⟩)
  case inl =>
    have BL1 := hid (HB0.out.trans (hB1.mono HB0.out.size))
    have HR1 : Hid (u1.heap[w.heap.size]? = some (.cells cd 28 (0, 0))) := (hB1.block _ (Array.getElem?_eq_some_iff.1 HR0.out).1).trans HR0.out
    have CN2 := hid (pnew_bad u1 n root HD.out hbad)
    rw [HCD.out] at CN2
    have HBAD := hid hbad
    clear hB1 CN1 hbad
    go_wp2_with (first | (refine wpList_load_row rfl 28 _ rfl w.heap.size rfl 28 cd (0, 0) _ HR1.out Tryd.underlying28 rfl SDr.out ?_) | fail)
    refine CN2.out.mono ?_
    rintro e u2 (⟨hbad, rfl, hB2⟩ | ⟨L, g, bm, hL, hL1, hL2, rfl, hg, hbm, hP1, hB1⟩)
    case inr => exact absurd ⟨by omega, by omega⟩ HBAD.out
    have BL2 := hid (BL1.out.trans (hB2.mono BL1.out.size))
    have CA := hid (pawake_any u2 (HKC.out.below BL2.out))
    clear hB2 CN2 hbad
    go_wp2_with fail
    refine CA.out.mono ?_
    rintro e u3 ⟨rfl, hB3⟩
    have BL3 := hid (BL2.out.trans (hB3.mono BL2.out.size))
    clear hB3 CA
    go_wp2
    go_ret
    exact ⟨rfl, BL3.out⟩
  case inr =>
    have BL1 := hid (HB0.out.trans (hB1.mono HB0.out.size))
    have HR1 : Hid (u1.heap[w.heap.size]? = some (.cells cd 28 (0, 0))) := (hB1.block _ (Array.getElem?_eq_some_iff.1 HR0.out).1).trans HR0.out
    have HP1 := hid hP1
    have CN2 := hid (pnew_ok u1 L root HD.out hL1 hL2 (HKC.out.below BL1.out))
    rw [HCD.out, ← hL] at CN2
    have HL := hid hL
    clear hB1 CN1 hP1 hL
    go_wp2_with (first | (refine wpList_load_row rfl 28 _ rfl w.heap.size rfl 28 cd (0, 0) _ HR1.out Tryd.underlying28 rfl SDr.out ?_) | fail)
    refine CN2.out.mono ?_
    rintro e u2 (⟨hbad, rfl, hB2⟩ | ⟨L', g', bm', hL', _, _, rfl, hg', hbm', hP2, hB2⟩)
    case inl => exact absurd (by have := HL.out; omega) hbad
    obtain rfl : L' = L := by have := HL.out; omega
    have BL2 := hid (BL1.out.trans (hB2.mono BL1.out.size))
    have HP1' := hid (HP1.out.below hB2)
    have HP2 := hid hP2
    have hWg := wdN_ge L' hL2
    have hWl := wdN_le L'
    obtain ⟨W, HWD⟩ : ∃ W, Hid (wdN L' = W) := ⟨_, rfl⟩
    rw [HWD.out] at HP1 HP1' HP2 hWg hWl
    obtain ⟨hW5, hW1⟩ := hWl
    have hgl := HP1.out.lt
    have hbl := HP1.out.2.lt
    obtain ⟨K0, HK0⟩ : ∃ K, Hid (newF L' W root = K) := ⟨_, rfl⟩
    have HRT : Hid (K0 1 = some root) := by rw [← HK0.out]; exact new_root _ _ _
    rw [HK0.out] at HP1' HP2
    have CP1 := hid (put_any u2 g bm L' W K0 _ la HP1'.out hW5 hW1 (HVA.out.below BL2.out) (HKC.out.below BL2.out))
    have hw1 := BL1.out.size
    have hw0 := HB0.out.size
    clear hB2 CN2 hP2 hL' HP1 HR1 HR0
    go_wp2_with fail
    refine CP1.out.mono ?_
    rintro e u3 ⟨rfl, hP3, hG3⟩
    have BL3 := hid (BL2.out.trans (pgrown_below hG3 (show w.heap.size ≤ bm by omega) BL2.out.size))
    have HP3 := hid hP3
    have HQ3 : Hid (HPf u3 g' bm' L' W K0) := HP2.out.of (hG3.block g' HP2.out.lt (fun e => by cases e; omega)) (hG3.block bm' HP2.out.2.lt (fun e => by cases e; omega))
    have CP2 := hid (put_any u3 g' bm' L' W K0 _ lb HQ3.out hW5 hW1 (HVB.out.below BL3.out) (HKC.out.below BL3.out))
    have hsn1 : Snd W K0 (putF W K0 la).2 := put_sound hW1 (Sub.refl _) (by rw [HRT.out]; rfl) (Snd.fresh W K0)
    have hsb1 := put_sub W K0 la
    have hsn2 : Snd W K0 (putF W K0 lb).2 := put_sound hW1 (Sub.refl _) (by rw [HRT.out]; rfl) (Snd.fresh W K0)
    have hsb2 := put_sub W K0 lb
    clear hP3 hG3 CP1 HP1' HP2
    generalize (putF W K0 la).2 = K1 at HP3 hsn1 hsb1
    generalize (putF W K0 la).1 = er1
    go_wp2_with fail
    refine CP2.out.mono ?_
    rintro e u4 ⟨rfl, hP4, hG4⟩
    have BL4 := hid (BL3.out.trans (pgrown_below hG4 (show w.heap.size ≤ bm' by omega) BL3.out.size))
    have HQ4 := hid hP4
    have HP4 : Hid (HPf u4 g bm L' W K1) := HP3.out.of (hG4.block g HP3.out.lt (fun e => by cases e; omega)) (hG4.block bm HP3.out.2.lt (fun e => by cases e; omega))
    clear hP4 hG4 CP2 HP3 HQ3
    generalize (putF W K0 lb).2 = K2 at HQ4 hsn2 hsb2
    generalize (putF W K0 lb).1 = er2
    have HUP : Hid (∀ x, 2 ≤ x → x < 2 * W → ClD K1 K2 x → ∃ f g, K1 (x / 2) = some f ∧ K2 (x / 2) = some g ∧ (f ≠ g → ClD K1 K2 (x / 2)) ∧ (f = g → ClS K1 K2 (x / 2))) := fun x h1 h2 h3 => clash_up hsn1 hsn2 hsb1 hsb2 h1 h2 h3
    have HR1 : Hid (K1 1 = some root ∧ K2 1 = some root) := ⟨hsb1 _ _ HRT.out, hsb2 _ _ HRT.out⟩
    clear hsn1 hsn2 hsb1 hsb2 hg hbm hg' hbm'
    go_wp2
    go_loopw [13] (fun i wr => ∃ k : Nat, 1 ≤ k ∧ k ≤ 2 * W ∧ i = .int .i64 k ∧ Hid (HPf wr g bm L' W K1) ∧ Hid (HPf wr g' bm' L' W K2) ∧ Hid (Below w.heap.size w wr)) (fun i _ => 2 * W - (intOf i).toNat)
    case atStart => exact ⟨1, Nat.le_refl _, by omega, rfl, HP4, HQ4, BL4⟩
    case round =>
      clear HP4 HQ4 BL4
      obtain ⟨k, hk1, hk2, rfl, HP, HQ, HBel⟩ := hrel
      have CWd := hid (wi_any wr g bm L' W K1 HP.out)
      have ew : IntKind.i64.wrap (2 * (W : Int)) = 2 * (W : Int) := by rw [IntKind.wrap_i64]; omega
      go_wp2_with fail
      refine CWd.out.mono ?_
      rintro e wq ⟨rfl, hBq⟩
      have HPq := hid (HP.out.below hBq)
      have HQq := hid (HQ.out.below hBq)
      have BLq := hid (HBel.out.trans (hBq.mono HBel.out.size))
      clear hBq CWd HP HQ
      by_cases hlt : k < 2 * W
      case neg =>
        have hlt2 : ¬ (k : Int) < 2 * (W : Int) := by omega
        have CA := hid (pawake_any wq (HKC.out.below BLq.out))
        go_wp2_with fail
        refine CA.out.mono ?_
        rintro e u5 ⟨rfl, hB5⟩
        have BL5 := hid (BLq.out.trans (hB5.mono BLq.out.size))
        clear hB5 CA
        go_wp2
        go_ret
        exact ⟨rfl, BL5.out⟩
      case pos =>
        have hlt2 : (k : Int) < 2 * (W : Int) := by omega
        have CK1 := hid (kn_any wq g bm L' W K1 HPq.out (k : Int))
        obtain ⟨y1, HY1⟩ : ∃ y, Hid (kAt K1 (k : Int) = y) := ⟨_, rfl⟩
        obtain ⟨z1, HZ1⟩ : ∃ z, Hid (kIs K1 (k : Int) = z) := ⟨_, rfl⟩
        have D1 : Hid (D32 y1) := by rw [← HY1.out]; exact kAt_D HPq.out.2 _
        obtain ⟨c1, HC1⟩ : ∃ c, Hid (cellsB y1 = c) := ⟨_, rfl⟩
        have hcs1 : c1.size = 32 := by rw [← HC1.out, cellsB_size, D1.out.1]
        have SD1 : Hid ((Tryd.prog.info? 28).map (·.size) = some c1.size) := by rw [hcs1]; exact size_digest
        have O1 : Hid (c1.all (·.oneCell') = true) := by rw [← HC1.out]; exact cellsB_one _
        have ZC1 : Hid (zd.size = c1.size) := by refine hid ?_; rw [HZS.out, hcs1]
        rw [HY1.out, HZ1.out, HC1.out] at CK1
        clear hcs1
        go_wp2_with fail
        refine CK1.out.mono ?_
        rintro e w1 ⟨rfl, hB1⟩
        clear CK1
        obtain ⟨V1, hV1⟩ : ∃ V, Hid (w1.alloc (.cells c1 28) = V) := ⟨_, rfl⟩
        have BB1 : Hid (Below wq.heap.size wq V1) := by rw [← hV1.out]; exact hB1.alloc hB1.size _
        have HR1_1 : Hid (V1.heap[w1.heap.size]? = some (.cells c1 28 (0, 0))) := by rw [← hV1.out]; exact heap_alloc_new w1 _
        clear hB1
        have HPa1 := hid (HPq.out.below BB1.out)
        have HQa1 := hid (HQq.out.below BB1.out)
        have CK2 := hid (kn_any V1 g' bm' L' W K2 HQa1.out (k : Int))
        obtain ⟨y2, HY2⟩ : ∃ y, Hid (kAt K2 (k : Int) = y) := ⟨_, rfl⟩
        obtain ⟨z2, HZ2⟩ : ∃ z, Hid (kIs K2 (k : Int) = z) := ⟨_, rfl⟩
        have D2 : Hid (D32 y2) := by rw [← HY2.out]; exact kAt_D HQa1.out.2 _
        obtain ⟨c2, HC2⟩ : ∃ c, Hid (cellsB y2 = c) := ⟨_, rfl⟩
        have hcs2 : c2.size = 32 := by rw [← HC2.out, cellsB_size, D2.out.1]
        have SD2 : Hid ((Tryd.prog.info? 28).map (·.size) = some c2.size) := by rw [hcs2]; exact size_digest
        have O2 : Hid (c2.all (·.oneCell') = true) := by rw [← HC2.out]; exact cellsB_one _
        have ZC2 : Hid (zd.size = c2.size) := by refine hid ?_; rw [HZS.out, hcs2]
        rw [HY2.out, HZ2.out, HC2.out] at CK2
        clear hcs2
        go_wp2_with (first | (refine wpList_alloc_digest rfl rfl ?_; rw [HZD.out]) | (refine wpList_store_row rfl 28 _ _ rfl w1.heap.size c1 rfl rfl 28 zd (heap_alloc_new w1 _) SD1.out ZC1.out O1.out ?_; rw [setRow_alloc_new', hV1.out]) | fail)
        refine CK2.out.mono ?_
        rintro e w2 ⟨rfl, hB2⟩
        clear CK2
        obtain ⟨V2, hV2⟩ : ∃ V, Hid (w2.alloc (.cells c2 28) = V) := ⟨_, rfl⟩
        have BB2 : Hid (Below V1.heap.size V1 V2) := by rw [← hV2.out]; exact hB2.alloc hB2.size _
        have HR2_2 : Hid (V2.heap[w2.heap.size]? = some (.cells c2 28 (0, 0))) := by rw [← hV2.out]; exact heap_alloc_new w2 _
        clear hB2
        have HR1_2 : Hid (V2.heap[w1.heap.size]? = some (.cells c1 28 (0, 0))) := (BB2.out.block _ (Array.getElem?_eq_some_iff.1 HR1_1.out).1).trans HR1_1.out
        have HPa2 := hid (HPa1.out.below BB2.out)
        have HQa2 := hid (HQa1.out.below BB2.out)
        have BLV : Hid (Below w.heap.size w V2) := (BLq.out.trans (BB1.out.mono BLq.out.size)).trans (BB2.out.mono (Nat.le_trans BLq.out.size BB1.out.size))
        have HCONT : Hid (∃ m : Nat, 1 ≤ m ∧ m ≤ 2 * W ∧ Value.int .i64 ((k : Int) + 1) = .int .i64 m) := ⟨k + 1, by omega, by omega, by congr 1⟩
        have ewk : IntKind.i64.wrap ((k : Int) + 1) = (k : Int) + 1 := by rw [IntKind.wrap_i64]; omega
        by_cases hdif : z1 = true ∧ z2 = true ∧ y1 ≠ y2
        case neg =>
          have hq := fun w => run_eql_bytes w 32 28 Tryd.underlying28 y1 y2 D1.out.1 D2.out.1
          rw [HC1.out, HC2.out] at hq
          have hcs : z1 = false ∨ (z1 = true ∧ z2 = false) ∨ (z1 = true ∧ z2 = true ∧ y1 = y2) := by
            cases z1 <;> cases z2 <;> simp_all
          clear hdif
          rcases hcs with rfl | ⟨rfl, rfl⟩ | ⟨rfl, rfl, he⟩
          · clear hq
            go_wp2_with (first | (refine wpList_alloc_digest rfl rfl ?_; rw [HZD.out]) | (refine wpList_store_row rfl 28 _ _ rfl w2.heap.size c2 rfl rfl 28 zd (heap_alloc_new w2 _) SD2.out ZC2.out O2.out ?_; rw [setRow_alloc_new', hV2.out]) | (refine wpList_load_row_on rfl 28 _ rfl w1.heap.size rfl 28 c1 (0, 0) _ HR1_2.out Tryd.underlying28 rfl SD1.out ?_) | (refine wpList_load_row_on rfl 28 _ rfl w2.heap.size rfl 28 c2 (0, 0) _ HR2_2.out Tryd.underlying28 rfl SD2.out ?_) | fail)
            exact ⟨⟨k + 1, by omega, by omega, by go_num, HPa2, HQa2, BLV⟩, by simp [intOf]; omega⟩
          · clear hq
            go_wp2_with (first | (refine wpList_alloc_digest rfl rfl ?_; rw [HZD.out]) | (refine wpList_store_row rfl 28 _ _ rfl w2.heap.size c2 rfl rfl 28 zd (heap_alloc_new w2 _) SD2.out ZC2.out O2.out ?_; rw [setRow_alloc_new', hV2.out]) | (refine wpList_load_row_on rfl 28 _ rfl w1.heap.size rfl 28 c1 (0, 0) _ HR1_2.out Tryd.underlying28 rfl SD1.out ?_) | (refine wpList_load_row_on rfl 28 _ rfl w2.heap.size rfl 28 c2 (0, 0) _ HR2_2.out Tryd.underlying28 rfl SD2.out ?_) | fail)
            exact ⟨⟨k + 1, by omega, by omega, by go_num, HPa2, HQa2, BLV⟩, by simp [intOf]; omega⟩
          · rw [decide_eq_true he] at hq
            have HE := hid he
            clear he
            go_wp2_with (first | (refine wpList_alloc_digest rfl rfl ?_; rw [HZD.out]) | (refine wpList_store_row rfl 28 _ _ rfl w2.heap.size c2 rfl rfl 28 zd (heap_alloc_new w2 _) SD2.out ZC2.out O2.out ?_; rw [setRow_alloc_new', hV2.out]) | (refine wpList_load_row_on rfl 28 _ rfl w1.heap.size rfl 28 c1 (0, 0) _ HR1_2.out Tryd.underlying28 rfl SD1.out ?_) | (refine wpList_load_row_on rfl 28 _ rfl w2.heap.size rfl 28 c2 (0, 0) _ HR2_2.out Tryd.underlying28 rfl SD2.out ?_) | fail)
            exact ⟨⟨k + 1, by omega, by omega, by go_num, HPa2, HQa2, BLV⟩, by simp [intOf]; omega⟩
        case pos =>
          obtain ⟨rfl, rfl, hne⟩ := hdif
          have hq := fun w => run_eql_bytes w 32 28 Tryd.underlying28 y1 y2 D1.out.1 D2.out.1
          rw [HC1.out, HC2.out, decide_eq_false hne] at hq
          have HCD0 : Hid (ClD K1 K2 k) := by
            have a1 := HZ1.out
            have a2 := HZ2.out
            rw [kIs_nat] at a1 a2
            obtain ⟨d, hd⟩ := Option.isSome_iff_exists.1 a1
            obtain ⟨e, he⟩ := Option.isSome_iff_exists.1 a2
            refine ⟨d, e, hd, he, fun q => hne ?_⟩
            rw [← HY1.out, ← HY2.out, kAt_some hd rfl, kAt_some he rfl, q]
          clear hne
          go_wp2_with (first | (refine wpList_alloc_digest rfl rfl ?_; rw [HZD.out]) | (refine wpList_store_row rfl 28 _ _ rfl w2.heap.size c2 rfl rfl 28 zd (heap_alloc_new w2 _) SD2.out ZC2.out O2.out ?_; rw [setRow_alloc_new', hV2.out]) | (refine wpList_load_row_on rfl 28 _ rfl w1.heap.size rfl 28 c1 (0, 0) _ HR1_2.out Tryd.underlying28 rfl SD1.out ?_) | (refine wpList_load_row_on rfl 28 _ rfl w2.heap.size rfl 28 c2 (0, 0) _ HR2_2.out Tryd.underlying28 rfl SD2.out ?_) | fail)
          clear hq
          go_loopw [18, 19] (fun i t wr' => ∃ (x : Nat) (s : Bool), 1 ≤ x ∧ x < 2 * W ∧ i = .int .i64 x ∧ t = .bool s ∧ Hid (s = false → ClD K1 K2 x) ∧ Hid (s = true → ClS K1 K2 x) ∧ Hid (HPf wr' g bm L' W K1) ∧ Hid (HPf wr' g' bm' L' W K2) ∧ Hid (Below w.heap.size w wr')) (fun i t _ => (intOf i).toNat)
          case atStart => exact ⟨k, false, hk1, hlt, rfl, rfl, (fun _ => HCD0.out), (fun h => by cases h), HPa2, HQa2, BLV⟩
          case round =>
            clear HPa2 HQa2 BLV HPa1 HQa1
            obtain ⟨x, s, hx1, hx2, rfl, rfl, HF, HT, HPi, HQi, HBi⟩ := hrel
            cases s with
            | false =>
              have hx22 : 2 ≤ x := by
                apply Classical.byContradiction
                intro h
                obtain rfl : x = 1 := by omega
                obtain ⟨d, e, h1, h2, h3⟩ := HF.out rfl
                rw [HR1.out.1] at h1
                rw [HR1.out.2] at h2
                cases h1
                cases h2
                exact h3 rfl
              have hx22i : (1 : Int) < (x : Int) := by omega
              obtain ⟨f, g2, hf, hg2, hcd, hcs⟩ := HUP.out x hx22 hx2 (HF.out rfl)
              have HCDn := hid hcd
              have HCSn := hid hcs
              have HFK := hid hf
              have HGK := hid hg2
              clear hf hg2 hcd hcs HF HT
              have etd := tdiv2 x
              have hxx1 : Hid (1 ≤ x / 2 ∧ x / 2 < 2 * W ∧ x / 2 < x) := by refine hid ⟨?_, ?_, ?_⟩ <;> omega
              have ewd : IntKind.i64.wrap (((x / 2 : Nat) : Int)) = ((x / 2 : Nat) : Int) := by rw [IntKind.wrap_i64]; omega
              obtain ⟨x2, HX2⟩ : ∃ x2, Hid (x / 2 = x2) := ⟨_, rfl⟩
              rw [HX2.out] at etd ewd HFK HGK HCDn HCSn hxx1
              have CK3 := hid (kn_any wr g bm L' W K1 HPi.out (x2 : Int))
              obtain ⟨y3, HY3⟩ : ∃ y, Hid (kAt K1 (x2 : Int) = y) := ⟨_, rfl⟩
              obtain ⟨z3, HZ3⟩ : ∃ z, Hid (kIs K1 (x2 : Int) = z) := ⟨_, rfl⟩
              have D3 : Hid (D32 y3) := by rw [← HY3.out]; exact kAt_D HPi.out.2 _
              obtain ⟨c3, HC3⟩ : ∃ c, Hid (cellsB y3 = c) := ⟨_, rfl⟩
              have hcs3 : c3.size = 32 := by rw [← HC3.out, cellsB_size, D3.out.1]
              have SD3 : Hid ((Tryd.prog.info? 28).map (·.size) = some c3.size) := by rw [hcs3]; exact size_digest
              have O3 : Hid (c3.all (·.oneCell') = true) := by rw [← HC3.out]; exact cellsB_one _
              have ZC3 : Hid (zd.size = c3.size) := by refine hid ?_; rw [HZS.out, hcs3]
              rw [HY3.out, HZ3.out, HC3.out] at CK3
              clear hcs3
              go_wp2_with fail
              refine CK3.out.mono ?_
              rintro e w3 ⟨rfl, hB3⟩
              clear CK3
              obtain ⟨V3, hV3⟩ : ∃ V, Hid (w3.alloc (.cells c3 28) = V) := ⟨_, rfl⟩
              have BB3 : Hid (Below wr.heap.size wr V3) := by rw [← hV3.out]; exact hB3.alloc hB3.size _
              have HR3_3 : Hid (V3.heap[w3.heap.size]? = some (.cells c3 28 (0, 0))) := by rw [← hV3.out]; exact heap_alloc_new w3 _
              clear hB3
              have HPb3 := hid (HPi.out.below BB3.out)
              have HQb3 := hid (HQi.out.below BB3.out)
              have CK4 := hid (kn_any V3 g' bm' L' W K2 HQb3.out (x2 : Int))
              obtain ⟨y4, HY4⟩ : ∃ y, Hid (kAt K2 (x2 : Int) = y) := ⟨_, rfl⟩
              obtain ⟨z4, HZ4⟩ : ∃ z, Hid (kIs K2 (x2 : Int) = z) := ⟨_, rfl⟩
              have D4 : Hid (D32 y4) := by rw [← HY4.out]; exact kAt_D HQb3.out.2 _
              obtain ⟨c4, HC4⟩ : ∃ c, Hid (cellsB y4 = c) := ⟨_, rfl⟩
              have hcs4 : c4.size = 32 := by rw [← HC4.out, cellsB_size, D4.out.1]
              have SD4 : Hid ((Tryd.prog.info? 28).map (·.size) = some c4.size) := by rw [hcs4]; exact size_digest
              have O4 : Hid (c4.all (·.oneCell') = true) := by rw [← HC4.out]; exact cellsB_one _
              have ZC4 : Hid (zd.size = c4.size) := by refine hid ?_; rw [HZS.out, hcs4]
              rw [HY4.out, HZ4.out, HC4.out] at CK4
              clear hcs4
              go_wp2_with (first | (refine wpList_alloc_digest rfl rfl ?_; rw [HZD.out]) | (refine wpList_store_row rfl 28 _ _ rfl w3.heap.size c3 rfl rfl 28 zd (heap_alloc_new w3 _) SD3.out ZC3.out O3.out ?_; rw [setRow_alloc_new', hV3.out]) | fail)
              refine CK4.out.mono ?_
              rintro e w4 ⟨rfl, hB4⟩
              clear CK4
              obtain ⟨V4, hV4⟩ : ∃ V, Hid (w4.alloc (.cells c4 28) = V) := ⟨_, rfl⟩
              have BB4 : Hid (Below V3.heap.size V3 V4) := by rw [← hV4.out]; exact hB4.alloc hB4.size _
              have HR4_4 : Hid (V4.heap[w4.heap.size]? = some (.cells c4 28 (0, 0))) := by rw [← hV4.out]; exact heap_alloc_new w4 _
              clear hB4
              have HR3_4 : Hid (V4.heap[w3.heap.size]? = some (.cells c3 28 (0, 0))) := (BB4.out.block _ (Array.getElem?_eq_some_iff.1 HR3_3.out).1).trans HR3_3.out
              have HPb4 := hid (HPb3.out.below BB4.out)
              have HQb4 := hid (HQb3.out.below BB4.out)
              have BLW : Hid (Below w.heap.size w V4) := (HBi.out.trans (BB3.out.mono HBi.out.size)).trans (BB4.out.mono (Nat.le_trans HBi.out.size BB3.out.size))
              have hz3 : z3 = true := by rw [← HZ3.out]; exact kIs_of HFK.out rfl
              have hz4 : z4 = true := by rw [← HZ4.out]; exact kIs_of HGK.out rfl
              have HY3' : Hid (y3 = f) := by rw [← HY3.out]; exact kAt_some HFK.out rfl
              have HY4' : Hid (y4 = g2) := by rw [← HY4.out]; exact kAt_some HGK.out rfl
              subst hz3 hz4
              have hq := fun w => run_eql_bytes w 32 28 Tryd.underlying28 y3 y4 D3.out.1 D4.out.1
              rw [HC3.out, HC4.out] at hq
              obtain ⟨sb, HSB⟩ : ∃ sb, Hid (decide (y3 = y4) = sb) := ⟨_, rfl⟩
              rw [HSB.out] at hq
              go_wp2_with (first | (refine wpList_alloc_digest rfl rfl ?_; rw [HZD.out]) | (refine wpList_store_row rfl 28 _ _ rfl w4.heap.size c4 rfl rfl 28 zd (heap_alloc_new w4 _) SD4.out ZC4.out O4.out ?_; rw [setRow_alloc_new', hV4.out]) | (refine wpList_load_row rfl 28 _ rfl w3.heap.size rfl 28 c3 (0, 0) _ HR3_4.out Tryd.underlying28 rfl SD3.out ?_) | (refine wpList_load_row rfl 28 _ rfl w4.heap.size rfl 28 c4 (0, 0) _ HR4_4.out Tryd.underlying28 rfl SD4.out ?_) | fail)
              refine ⟨⟨x2, sb, hxx1.out.1, hxx1.out.2.1, rfl, rfl, fun h => ?_, fun h => ?_, HPb4, HQb4, BLW⟩, ?_⟩
              · have h2 := HSB.out
                rw [h, HY3'.out, HY4'.out] at h2
                exact HCDn.out (of_decide_eq_false h2)
              · have h2 := HSB.out
                rw [h, HY3'.out, HY4'.out] at h2
                exact HCSn.out (of_decide_eq_true h2)
              · simp only [intOf, Int.toNat_natCast]; exact hxx1.out.2.2
            | true =>
              obtain ⟨a, b, c, h, ka, kb, kc, kh, hnd, hno⟩ := HT.out rfl
              have HKA := hid ka
              have HKB := hid kb
              have HKCc := hid kc
              have HKH := hid kh
              have HND := hid hnd
              have HNO := hid hno
              clear ka kb kc kh hnd hno HF HT
              have ewx : IntKind.i64.wrap (2 * (x : Int)) = 2 * (x : Int) := by rw [IntKind.wrap_i64]; omega
              have ewx1 : IntKind.i64.wrap (2 * (x : Int) + 1) = 2 * (x : Int) + 1 := by rw [IntKind.wrap_i64]; omega
              by_cases hxi : (1 : Int) < (x : Int)
              all_goals
                have CK5 := hid (kn_any wr g bm L' W K1 HPi.out (2 * (x : Int)))
                obtain ⟨y5, HY5⟩ : ∃ y, Hid (kAt K1 (2 * (x : Int)) = y) := ⟨_, rfl⟩
                obtain ⟨z5, HZ5⟩ : ∃ z, Hid (kIs K1 (2 * (x : Int)) = z) := ⟨_, rfl⟩
                have D5 : Hid (D32 y5) := by rw [← HY5.out]; exact kAt_D HPi.out.2 _
                obtain ⟨c5, HC5⟩ : ∃ c, Hid (cellsB y5 = c) := ⟨_, rfl⟩
                have hcs5 : c5.size = 32 := by rw [← HC5.out, cellsB_size, D5.out.1]
                have SD5 : Hid ((Tryd.prog.info? 28).map (·.size) = some c5.size) := by rw [hcs5]; exact size_digest
                have O5 : Hid (c5.all (·.oneCell') = true) := by rw [← HC5.out]; exact cellsB_one _
                have ZC5 : Hid (zd.size = c5.size) := by refine hid ?_; rw [HZS.out, hcs5]
                rw [HY5.out, HZ5.out, HC5.out] at CK5
                clear hcs5
                go_wp2_with fail
                refine CK5.out.mono ?_
                rintro e w5 ⟨rfl, hB5⟩
                clear CK5
                obtain ⟨V5, hV5⟩ : ∃ V, Hid (w5.alloc (.cells c5 28) = V) := ⟨_, rfl⟩
                have BB5 : Hid (Below wr.heap.size wr V5) := by rw [← hV5.out]; exact hB5.alloc hB5.size _
                have HR5_5 : Hid (V5.heap[w5.heap.size]? = some (.cells c5 28 (0, 0))) := by rw [← hV5.out]; exact heap_alloc_new w5 _
                clear hB5
                have HPc5 := hid (HPi.out.below BB5.out)
                have HQc5 := hid (HQi.out.below BB5.out)
                have CK6 := hid (kn_any V5 g bm L' W K1 HPc5.out (2 * (x : Int) + 1))
                obtain ⟨y6, HY6⟩ : ∃ y, Hid (kAt K1 (2 * (x : Int) + 1) = y) := ⟨_, rfl⟩
                obtain ⟨z6, HZ6⟩ : ∃ z, Hid (kIs K1 (2 * (x : Int) + 1) = z) := ⟨_, rfl⟩
                have D6 : Hid (D32 y6) := by rw [← HY6.out]; exact kAt_D HPc5.out.2 _
                obtain ⟨c6, HC6⟩ : ∃ c, Hid (cellsB y6 = c) := ⟨_, rfl⟩
                have hcs6 : c6.size = 32 := by rw [← HC6.out, cellsB_size, D6.out.1]
                have SD6 : Hid ((Tryd.prog.info? 28).map (·.size) = some c6.size) := by rw [hcs6]; exact size_digest
                have O6 : Hid (c6.all (·.oneCell') = true) := by rw [← HC6.out]; exact cellsB_one _
                have ZC6 : Hid (zd.size = c6.size) := by refine hid ?_; rw [HZS.out, hcs6]
                rw [HY6.out, HZ6.out, HC6.out] at CK6
                clear hcs6
                go_wp2_with (first | (refine wpList_alloc_digest rfl rfl ?_; rw [HZD.out]) | (refine wpList_store_row rfl 28 _ _ rfl w5.heap.size c5 rfl rfl 28 zd (heap_alloc_new w5 _) SD5.out ZC5.out O5.out ?_; rw [setRow_alloc_new', hV5.out]) | fail)
                refine CK6.out.mono ?_
                rintro e w6 ⟨rfl, hB6⟩
                clear CK6
                obtain ⟨V6, hV6⟩ : ∃ V, Hid (w6.alloc (.cells c6 28) = V) := ⟨_, rfl⟩
                have BB6 : Hid (Below V5.heap.size V5 V6) := by rw [← hV6.out]; exact hB6.alloc hB6.size _
                have HR6_6 : Hid (V6.heap[w6.heap.size]? = some (.cells c6 28 (0, 0))) := by rw [← hV6.out]; exact heap_alloc_new w6 _
                clear hB6
                have HR5_6 : Hid (V6.heap[w5.heap.size]? = some (.cells c5 28 (0, 0))) := (BB6.out.block _ (Array.getElem?_eq_some_iff.1 HR5_5.out).1).trans HR5_5.out
                have HPc6 := hid (HPc5.out.below BB6.out)
                have HQc6 := hid (HQc5.out.below BB6.out)
                have CK7 := hid (kn_any V6 g' bm' L' W K2 HQc6.out (2 * (x : Int)))
                obtain ⟨y7, HY7⟩ : ∃ y, Hid (kAt K2 (2 * (x : Int)) = y) := ⟨_, rfl⟩
                obtain ⟨z7, HZ7⟩ : ∃ z, Hid (kIs K2 (2 * (x : Int)) = z) := ⟨_, rfl⟩
                have D7 : Hid (D32 y7) := by rw [← HY7.out]; exact kAt_D HQc6.out.2 _
                obtain ⟨c7, HC7⟩ : ∃ c, Hid (cellsB y7 = c) := ⟨_, rfl⟩
                have hcs7 : c7.size = 32 := by rw [← HC7.out, cellsB_size, D7.out.1]
                have SD7 : Hid ((Tryd.prog.info? 28).map (·.size) = some c7.size) := by rw [hcs7]; exact size_digest
                have O7 : Hid (c7.all (·.oneCell') = true) := by rw [← HC7.out]; exact cellsB_one _
                have ZC7 : Hid (zd.size = c7.size) := by refine hid ?_; rw [HZS.out, hcs7]
                rw [HY7.out, HZ7.out, HC7.out] at CK7
                clear hcs7
                go_wp2_with (first | (refine wpList_alloc_digest rfl rfl ?_; rw [HZD.out]) | (refine wpList_store_row rfl 28 _ _ rfl w6.heap.size c6 rfl rfl 28 zd (heap_alloc_new w6 _) SD6.out ZC6.out O6.out ?_; rw [setRow_alloc_new', hV6.out]) | fail)
                refine CK7.out.mono ?_
                rintro e w7 ⟨rfl, hB7⟩
                clear CK7
                obtain ⟨V7, hV7⟩ : ∃ V, Hid (w7.alloc (.cells c7 28) = V) := ⟨_, rfl⟩
                have BB7 : Hid (Below V6.heap.size V6 V7) := by rw [← hV7.out]; exact hB7.alloc hB7.size _
                have HR7_7 : Hid (V7.heap[w7.heap.size]? = some (.cells c7 28 (0, 0))) := by rw [← hV7.out]; exact heap_alloc_new w7 _
                clear hB7
                have HR5_7 : Hid (V7.heap[w5.heap.size]? = some (.cells c5 28 (0, 0))) := (BB7.out.block _ (Array.getElem?_eq_some_iff.1 HR5_6.out).1).trans HR5_6.out
                have HR6_7 : Hid (V7.heap[w6.heap.size]? = some (.cells c6 28 (0, 0))) := (BB7.out.block _ (Array.getElem?_eq_some_iff.1 HR6_6.out).1).trans HR6_6.out
                have HPc7 := hid (HPc6.out.below BB7.out)
                have HQc7 := hid (HQc6.out.below BB7.out)
                have CK8 := hid (kn_any V7 g' bm' L' W K2 HQc7.out (2 * (x : Int) + 1))
                obtain ⟨y8, HY8⟩ : ∃ y, Hid (kAt K2 (2 * (x : Int) + 1) = y) := ⟨_, rfl⟩
                obtain ⟨z8, HZ8⟩ : ∃ z, Hid (kIs K2 (2 * (x : Int) + 1) = z) := ⟨_, rfl⟩
                have D8 : Hid (D32 y8) := by rw [← HY8.out]; exact kAt_D HQc7.out.2 _
                obtain ⟨c8, HC8⟩ : ∃ c, Hid (cellsB y8 = c) := ⟨_, rfl⟩
                have hcs8 : c8.size = 32 := by rw [← HC8.out, cellsB_size, D8.out.1]
                have SD8 : Hid ((Tryd.prog.info? 28).map (·.size) = some c8.size) := by rw [hcs8]; exact size_digest
                have O8 : Hid (c8.all (·.oneCell') = true) := by rw [← HC8.out]; exact cellsB_one _
                have ZC8 : Hid (zd.size = c8.size) := by refine hid ?_; rw [HZS.out, hcs8]
                rw [HY8.out, HZ8.out, HC8.out] at CK8
                clear hcs8
                go_wp2_with (first | (refine wpList_alloc_digest rfl rfl ?_; rw [HZD.out]) | (refine wpList_store_row rfl 28 _ _ rfl w7.heap.size c7 rfl rfl 28 zd (heap_alloc_new w7 _) SD7.out ZC7.out O7.out ?_; rw [setRow_alloc_new', hV7.out]) | fail)
                refine CK8.out.mono ?_
                rintro e w8 ⟨rfl, hB8⟩
                clear CK8
                obtain ⟨V8, hV8⟩ : ∃ V, Hid (w8.alloc (.cells c8 28) = V) := ⟨_, rfl⟩
                have BB8 : Hid (Below V7.heap.size V7 V8) := by rw [← hV8.out]; exact hB8.alloc hB8.size _
                have HR8_8 : Hid (V8.heap[w8.heap.size]? = some (.cells c8 28 (0, 0))) := by rw [← hV8.out]; exact heap_alloc_new w8 _
                clear hB8
                have HR5_8 : Hid (V8.heap[w5.heap.size]? = some (.cells c5 28 (0, 0))) := (BB8.out.block _ (Array.getElem?_eq_some_iff.1 HR5_7.out).1).trans HR5_7.out
                have HR6_8 : Hid (V8.heap[w6.heap.size]? = some (.cells c6 28 (0, 0))) := (BB8.out.block _ (Array.getElem?_eq_some_iff.1 HR6_7.out).1).trans HR6_7.out
                have HR7_8 : Hid (V8.heap[w7.heap.size]? = some (.cells c7 28 (0, 0))) := (BB8.out.block _ (Array.getElem?_eq_some_iff.1 HR7_7.out).1).trans HR7_7.out
                have HPc8 := hid (HPc7.out.below BB8.out)
                have HQc8 := hid (HQc7.out.below BB8.out)
                have BLX : Hid (Below w.heap.size w V8) := (((HBi.out.trans (BB5.out.mono HBi.out.size)).trans (BB6.out.mono (Nat.le_trans HBi.out.size BB5.out.size))).trans (BB7.out.mono (Nat.le_trans HBi.out.size (Nat.le_trans BB5.out.size BB6.out.size)))).trans (BB8.out.mono (Nat.le_trans HBi.out.size (Nat.le_trans BB5.out.size (Nat.le_trans BB6.out.size BB7.out.size))))
                have hy5 : y5 = a := by rw [← HY5.out]; exact kAt_some HKA.out (by omega)
                have hy6 : y6 = b := by rw [← HY6.out]; exact kAt_some HKB.out (by omega)
                have hy7 : y7 = c := by rw [← HY7.out]; exact kAt_some HKCc.out (by omega)
                have hy8 : y8 = h := by rw [← HY8.out]; exact kAt_some HKH.out (by omega)
                have HNO2 : Hid (¬ (y5 = y7 ∧ y6 = y8)) := by rw [hy5, hy6, hy7, hy8]; exact HNO
                have HND2 : Hid (ndL y5 y6 = ndL y7 y8) := by rw [hy5, hy6, hy7, hy8]; exact HND
                clear hy5 hy6 hy7 hy8
                have HX5 : Hid (V8.rangeAt w5.heap.size 0 (dc y5)) := fun j v hj => by rw [Nat.zero_add, cell_of_row V8 _ j _ _ _ HR5_8.out, ← HC5.out, ← dc_arr, List.getElem?_toArray]; exact hj
                have HX6 : Hid (V8.rangeAt w6.heap.size 0 (dc y6)) := fun j v hj => by rw [Nat.zero_add, cell_of_row V8 _ j _ _ _ HR6_8.out, ← HC6.out, ← dc_arr, List.getElem?_toArray]; exact hj
                have HX7 : Hid (V8.rangeAt w7.heap.size 0 (dc y7)) := fun j v hj => by rw [Nat.zero_add, cell_of_row V8 _ j _ _ _ HR7_8.out, ← HC7.out, ← dc_arr, List.getElem?_toArray]; exact hj
                have HX8 : Hid (V8.rangeAt w8.heap.size 0 (dc y8)) := fun j v hj => by rw [Nat.zero_add, cell_of_row V8 _ j _ _ _ HR8_8.out, ← HC8.out, ← dc_arr, List.getElem?_toArray]; exact hj
                have HL5 := hid (Array.getElem?_eq_some_iff.1 HR5_8.out).1
                have HL6 := hid (Array.getElem?_eq_some_iff.1 HR6_8.out).1
                have HL7 := hid (Array.getElem?_eq_some_iff.1 HR7_8.out).1
                have HL8 := hid (Array.getElem?_eq_some_iff.1 HR8_8.out).1
                have hq1 := fun w => run_eql_bytes w 32 28 Tryd.underlying28 y5 y7 D5.out.1 D7.out.1
                have hq2 := fun w => run_eql_bytes w 32 28 Tryd.underlying28 y6 y8 D6.out.1 D8.out.1
                have hq3 := fun w => run_neq_bytes w 32 28 Tryd.underlying28 (ndL y5 y6) (ndL y7 y8) (ndL_D _ _).1 (ndL_D _ _).1
                rw [show decide (ndL y5 y6 = ndL y7 y8) = true from decide_eq_true HND2.out] at hq3
                have CNa := hid (fun w' => rnode_any w' y5 y6 D5.out D6.out)
                have CNb := hid (fun w' => rnode_any w' y7 y8 D7.out D8.out)
                have ewk : IntKind.i64.wrap ((k : Int) + 1) = (k : Int) + 1 := by rw [IntKind.wrap_i64]; omega
                go_wp2_with (first | (refine wpList_alloc_digest rfl rfl ?_; rw [HZD.out]) | (refine wpList_store_row rfl 28 _ _ rfl w8.heap.size c8 rfl rfl 28 zd (heap_alloc_new w8 _) SD8.out ZC8.out O8.out ?_; rw [setRow_alloc_new', hV8.out]) | fail)
                by_cases h57 : y5 = y7
                case neg =>
                  rw [decide_eq_false h57] at hq1
                  clear h57
                  refine wp_region_held_drew (S := Below V8.heap.size V8) (by kernel_rfl) (Below.refl _ _).drew (fun hHeld => ?_)
                  have HS := hid hHeld
                  clear hHeld
                  change wpAnyH _ _ _ _ _ _ _ _ (World.drew _)
                  refine wpAnyH_take (i := 0) (v := ?_) rfl (by kernel_rfl) (by kernel_rfl) (by kernel_rfl) (fun _ _ _ h => h) (Or.inl ⟨by rfl, ?q0⟩) HS.out ?_
                  case q0 => intro w hSw; go_simp; rfl
                  simp only [Act.put, List.getElem_toArray, List.getElem_cons_zero, List.getElem_cons_succ, List.setIfInBounds_toArray, List.set_cons_zero, List.set_cons_succ]
                  refine wpAnyH_take (i := 1) (v := .bool false) rfl (by kernel_rfl) (by kernel_rfl) (by kernel_rfl) (fun _ _ _ h => h) (Or.inl ⟨by rfl, ?q1⟩) HS.out ?_
                  case q1 => intro w hSw; go_simp
                  simp only [Act.put, List.getElem_toArray, List.getElem_cons_zero, List.getElem_cons_succ, List.setIfInBounds_toArray, List.set_cons_zero, List.set_cons_succ]
                  refine wpAnyH_take (i := 2) (v := ?_) rfl (by kernel_rfl) (by kernel_rfl) (by kernel_rfl) (fun _ _ _ h => h) (Or.inl ⟨by rfl, ?q2⟩) HS.out ?_
                  case q2 => intro w hSw; go_simp; rfl
                  simp only [Act.put, List.getElem_toArray, List.getElem_cons_zero, List.getElem_cons_succ, List.setIfInBounds_toArray, List.set_cons_zero, List.set_cons_succ]
                  refine wpAnyH_take (i := 3) rfl (by kernel_rfl) (by kernel_rfl) (by kernel_rfl) (fun _ _ _ h => h) (yieldsIf_load_mid (by rfl) 28 _ rfl w5.heap.size 0 rfl (dc y5) _ (fun W hW => range_below HX5.out hW HL5.out) Tryd.underlying28 rfl (size_dig D5.out)) HS.out ?_
                  simp only [Act.put, List.getElem_toArray, List.getElem_cons_zero, List.getElem_cons_succ, List.setIfInBounds_toArray, List.set_cons_zero, List.set_cons_succ]
                  refine wpAnyH_take (i := 4) rfl (by kernel_rfl) (by kernel_rfl) (by kernel_rfl) (fun _ _ _ h => h) (yieldsIf_load_mid (by rfl) 28 _ rfl w7.heap.size 0 rfl (dc y7) _ (fun W hW => range_below HX7.out hW HL7.out) Tryd.underlying28 rfl (size_dig D7.out)) HS.out ?_
                  simp only [Act.put, List.getElem_toArray, List.getElem_cons_zero, List.getElem_cons_succ, List.setIfInBounds_toArray, List.set_cons_zero, List.set_cons_succ]
                  rw [dc_arr, dc_arr]
                  refine wpAnyH_take (i := 5) (v := .bool false) rfl (by kernel_rfl) (by kernel_rfl) (by kernel_rfl) (fun _ _ _ h => h) (Or.inl ⟨by rfl, ?q5⟩) HS.out ?_
                  case q5 => intro w hSw; go_simp
                  simp only [Act.put, List.getElem_toArray, List.getElem_cons_zero, List.getElem_cons_succ, List.setIfInBounds_toArray, List.set_cons_zero, List.set_cons_succ]
                  refine wpAnyH_take (i := 6) (v := ?_) rfl (by kernel_rfl) (by kernel_rfl) (by kernel_rfl) (fun _ _ _ h => h) (Or.inl ⟨by rfl, ?q6⟩) HS.out ?_
                  case q6 => intro w hSw; go_simp; rfl
                  simp only [Act.put, List.getElem_toArray, List.getElem_cons_zero, List.getElem_cons_succ, List.setIfInBounds_toArray, List.set_cons_zero, List.set_cons_succ]
                  refine wpAnyH_take (i := 7) (v := undef) rfl (by kernel_rfl) (by kernel_rfl) (by kernel_rfl) (fun _ _ _ h => h) (Or.inr ⟨by rfl, rfl⟩) HS.out ?_
                  simp only [Act.put, List.getElem_toArray, List.getElem_cons_zero, List.getElem_cons_succ, List.setIfInBounds_toArray, List.set_cons_zero, List.set_cons_succ]
                  refine wpAnyH_take (i := 8) (v := undef) rfl (by kernel_rfl) (by kernel_rfl) (by kernel_rfl) (fun _ _ _ h => h) (Or.inr ⟨by rfl, rfl⟩) HS.out ?_
                  simp only [Act.put, List.getElem_toArray, List.getElem_cons_zero, List.getElem_cons_succ, List.setIfInBounds_toArray, List.set_cons_zero, List.set_cons_succ]
                  refine wpAnyH_take (i := 9) (v := undef) rfl (by kernel_rfl) (by kernel_rfl) (by kernel_rfl) (fun _ _ _ h => h) (Or.inr ⟨by rfl, rfl⟩) HS.out ?_
                  simp only [Act.put, List.getElem_toArray, List.getElem_cons_zero, List.getElem_cons_succ, List.setIfInBounds_toArray, List.set_cons_zero, List.set_cons_succ]
                  refine wpAnyH_take (i := 10) (v := ?_) rfl (by kernel_rfl) (by kernel_rfl) (by kernel_rfl) (fun _ _ _ h => h) (Or.inl ⟨by rfl, ?q10⟩) HS.out ?_
                  case q10 => intro w hSw; go_simp; rfl
                  simp only [Act.put, List.getElem_toArray, List.getElem_cons_zero, List.getElem_cons_succ, List.setIfInBounds_toArray, List.set_cons_zero, List.set_cons_succ]
                  refine wpAnyH_take (i := 11) (v := ?_) rfl (by kernel_rfl) (by kernel_rfl) (by kernel_rfl) (fun _ _ _ h => h) (Or.inl ⟨by rfl, ?q11⟩) HS.out ?_
                  case q11 => intro w hSw; go_simp; rfl
                  simp only [Act.put, List.getElem_toArray, List.getElem_cons_zero, List.getElem_cons_succ, List.setIfInBounds_toArray, List.set_cons_zero, List.set_cons_succ]
                  refine wpAnyH_take (i := 12) (v := ?_) rfl (by kernel_rfl) (by kernel_rfl) (by kernel_rfl) (fun _ _ _ h => h) (Or.inl ⟨by rfl, ?q12⟩) HS.out ?_
                  case q12 => intro w hSw; go_simp; rfl
                  simp only [Act.put, List.getElem_toArray, List.getElem_cons_zero, List.getElem_cons_succ, List.setIfInBounds_toArray, List.set_cons_zero, List.set_cons_succ]
                  refine wpAnyH_take (i := 13) rfl (by kernel_rfl) (by kernel_rfl) (by kernel_rfl) (fun _ _ _ h => h) (yieldsIf_load_mid (by rfl) 28 _ rfl w5.heap.size 0 rfl (dc y5) _ (fun W hW => range_below HX5.out hW HL5.out) Tryd.underlying28 rfl (size_dig D5.out)) HS.out ?_
                  simp only [Act.put, List.getElem_toArray, List.getElem_cons_zero, List.getElem_cons_succ, List.setIfInBounds_toArray, List.set_cons_zero, List.set_cons_succ]
                  refine wpAnyH_take (i := 14) rfl (by kernel_rfl) (by kernel_rfl) (by kernel_rfl) (fun _ _ _ h => h) (yieldsIf_load_mid (by rfl) 28 _ rfl w6.heap.size 0 rfl (dc y6) _ (fun W hW => range_below HX6.out hW HL6.out) Tryd.underlying28 rfl (size_dig D6.out)) HS.out ?_
                  simp only [Act.put, List.getElem_toArray, List.getElem_cons_zero, List.getElem_cons_succ, List.setIfInBounds_toArray, List.set_cons_zero, List.set_cons_succ]
                  refine wpAnyH_take (i := 16) rfl (by kernel_rfl) (by kernel_rfl) (by kernel_rfl) (fun _ _ _ h => h) (yieldsIf_load_mid (by rfl) 28 _ rfl w7.heap.size 0 rfl (dc y7) _ (fun W hW => range_below HX7.out hW HL7.out) Tryd.underlying28 rfl (size_dig D7.out)) HS.out ?_
                  simp only [Act.put, List.getElem_toArray, List.getElem_cons_zero, List.getElem_cons_succ, List.setIfInBounds_toArray, List.set_cons_zero, List.set_cons_succ]
                  refine wpAnyH_take (i := 17) rfl (by kernel_rfl) (by kernel_rfl) (by kernel_rfl) (fun _ _ _ h => h) (yieldsIf_load_mid (by rfl) 28 _ rfl w8.heap.size 0 rfl (dc y8) _ (fun W hW => range_below HX8.out hW HL8.out) Tryd.underlying28 rfl (size_dig D8.out)) HS.out ?_
                  simp only [Act.put, List.getElem_toArray, List.getElem_cons_zero, List.getElem_cons_succ, List.setIfInBounds_toArray, List.set_cons_zero, List.set_cons_succ]
                  rw [dc_arr, dc_arr, dc_arr, dc_arr]
                  refine wpAnyH_ready (rs := [15]) (by kernel_rfl) (by simp) ?_
                  refine AllReadyH.cons rfl (fun K hK => ?_) AllReadyH.nil
                  go_simp
                  refine (CNa.out _).mono ?_
                  rintro e v9 ⟨rfl, hB9⟩
                  have HS9 := hid (HS.out.trans (hB9.mono HS.out.size))
                  clear hB9
                  refine hK.out _ _ HS9.out (fun _ => ?_)
                  clear hK K
                  have HS := hid HS9.out
                  clear HS9
                  refine wpAnyH_ready (rs := [18]) (by kernel_rfl) (by simp) ?_
                  refine AllReadyH.cons rfl (fun K hK => ?_) AllReadyH.nil
                  go_simp
                  refine (CNb.out _).mono ?_
                  rintro e v10 ⟨rfl, hB10⟩
                  have HS10 := hid (HS.out.trans (hB10.mono HS.out.size))
                  clear hB10
                  refine hK.out _ _ HS10.out (fun _ => ?_)
                  clear hK K
                  have HS := hid HS10.out
                  clear HS10
                  refine wpAnyH_take (i := 19) (v := .bool false) rfl (by kernel_rfl) (by kernel_rfl) (by kernel_rfl) (fun _ _ _ h => h) (Or.inl ⟨by rfl, ?q19⟩) HS.out ?_
                  case q19 => intro w hSw; go_simp
                  simp only [Act.put, List.getElem_toArray, List.getElem_cons_zero, List.getElem_cons_succ, List.setIfInBounds_toArray, List.set_cons_zero, List.set_cons_succ]
                  refine wpAnyH_take (i := 20) (v := ?_) rfl (by kernel_rfl) (by kernel_rfl) (by kernel_rfl) (fun _ _ _ h => h) (Or.inl ⟨by rfl, ?q20⟩) HS.out ?_
                  case q20 => intro w hSw; go_simp; rfl
                  simp only [Act.put, List.getElem_toArray, List.getElem_cons_zero, List.getElem_cons_succ, List.setIfInBounds_toArray, List.set_cons_zero, List.set_cons_succ]
                  refine wpAnyH_done (by kernel_rfl) ?_ _
                  go_wp2
                  exact ⟨⟨k + 1, by omega, by omega, by go_num, hid (HPc8.out.below HS.out), hid (HQc8.out.below HS.out), hid (BLX.out.trans (HS.out.mono BLX.out.size))⟩, by simp [intOf]; omega⟩
                case pos =>
                  have h68 : ¬ y6 = y8 := fun e => HNO2.out ⟨h57, e⟩
                  rw [decide_eq_true h57] at hq1
                  rw [decide_eq_false h68] at hq2
                  clear h57 h68
                  refine wp_region_held_drew (S := Below V8.heap.size V8) (by kernel_rfl) (Below.refl _ _).drew (fun hHeld => ?_)
                  have HS := hid hHeld
                  clear hHeld
                  change wpAnyH _ _ _ _ _ _ _ _ (World.drew _)
                  refine wpAnyH_take (i := 0) (v := ?_) rfl (by kernel_rfl) (by kernel_rfl) (by kernel_rfl) (fun _ _ _ h => h) (Or.inl ⟨by rfl, ?q0⟩) HS.out ?_
                  case q0 => intro w hSw; go_simp; rfl
                  simp only [Act.put, List.getElem_toArray, List.getElem_cons_zero, List.getElem_cons_succ, List.setIfInBounds_toArray, List.set_cons_zero, List.set_cons_succ]
                  refine wpAnyH_take (i := 1) (v := .bool false) rfl (by kernel_rfl) (by kernel_rfl) (by kernel_rfl) (fun _ _ _ h => h) (Or.inl ⟨by rfl, ?q1⟩) HS.out ?_
                  case q1 => intro w hSw; go_simp
                  simp only [Act.put, List.getElem_toArray, List.getElem_cons_zero, List.getElem_cons_succ, List.setIfInBounds_toArray, List.set_cons_zero, List.set_cons_succ]
                  refine wpAnyH_take (i := 2) (v := ?_) rfl (by kernel_rfl) (by kernel_rfl) (by kernel_rfl) (fun _ _ _ h => h) (Or.inl ⟨by rfl, ?q2⟩) HS.out ?_
                  case q2 => intro w hSw; go_simp; rfl
                  simp only [Act.put, List.getElem_toArray, List.getElem_cons_zero, List.getElem_cons_succ, List.setIfInBounds_toArray, List.set_cons_zero, List.set_cons_succ]
                  refine wpAnyH_take (i := 3) rfl (by kernel_rfl) (by kernel_rfl) (by kernel_rfl) (fun _ _ _ h => h) (yieldsIf_load_mid (by rfl) 28 _ rfl w5.heap.size 0 rfl (dc y5) _ (fun W hW => range_below HX5.out hW HL5.out) Tryd.underlying28 rfl (size_dig D5.out)) HS.out ?_
                  simp only [Act.put, List.getElem_toArray, List.getElem_cons_zero, List.getElem_cons_succ, List.setIfInBounds_toArray, List.set_cons_zero, List.set_cons_succ]
                  refine wpAnyH_take (i := 4) rfl (by kernel_rfl) (by kernel_rfl) (by kernel_rfl) (fun _ _ _ h => h) (yieldsIf_load_mid (by rfl) 28 _ rfl w7.heap.size 0 rfl (dc y7) _ (fun W hW => range_below HX7.out hW HL7.out) Tryd.underlying28 rfl (size_dig D7.out)) HS.out ?_
                  simp only [Act.put, List.getElem_toArray, List.getElem_cons_zero, List.getElem_cons_succ, List.setIfInBounds_toArray, List.set_cons_zero, List.set_cons_succ]
                  rw [dc_arr, dc_arr]
                  refine wpAnyH_take (i := 5) (v := .bool true) rfl (by kernel_rfl) (by kernel_rfl) (by kernel_rfl) (fun _ _ _ h => h) (Or.inl ⟨by rfl, ?q5⟩) HS.out ?_
                  case q5 => intro w hSw; go_simp
                  simp only [Act.put, List.getElem_toArray, List.getElem_cons_zero, List.getElem_cons_succ, List.setIfInBounds_toArray, List.set_cons_zero, List.set_cons_succ]
                  refine wpAnyH_take (i := 6) (v := ?_) rfl (by kernel_rfl) (by kernel_rfl) (by kernel_rfl) (fun _ _ _ h => h) (Or.inl ⟨by rfl, ?q6⟩) HS.out ?_
                  case q6 => intro w hSw; go_simp; rfl
                  simp only [Act.put, List.getElem_toArray, List.getElem_cons_zero, List.getElem_cons_succ, List.setIfInBounds_toArray, List.set_cons_zero, List.set_cons_succ]
                  refine wpAnyH_take (i := 7) rfl (by kernel_rfl) (by kernel_rfl) (by kernel_rfl) (fun _ _ _ h => h) (yieldsIf_load_mid (by rfl) 28 _ rfl w6.heap.size 0 rfl (dc y6) _ (fun W hW => range_below HX6.out hW HL6.out) Tryd.underlying28 rfl (size_dig D6.out)) HS.out ?_
                  simp only [Act.put, List.getElem_toArray, List.getElem_cons_zero, List.getElem_cons_succ, List.setIfInBounds_toArray, List.set_cons_zero, List.set_cons_succ]
                  refine wpAnyH_take (i := 8) rfl (by kernel_rfl) (by kernel_rfl) (by kernel_rfl) (fun _ _ _ h => h) (yieldsIf_load_mid (by rfl) 28 _ rfl w8.heap.size 0 rfl (dc y8) _ (fun W hW => range_below HX8.out hW HL8.out) Tryd.underlying28 rfl (size_dig D8.out)) HS.out ?_
                  simp only [Act.put, List.getElem_toArray, List.getElem_cons_zero, List.getElem_cons_succ, List.setIfInBounds_toArray, List.set_cons_zero, List.set_cons_succ]
                  rw [dc_arr, dc_arr]
                  refine wpAnyH_take (i := 9) (v := .bool false) rfl (by kernel_rfl) (by kernel_rfl) (by kernel_rfl) (fun _ _ _ h => h) (Or.inl ⟨by rfl, ?q9⟩) HS.out ?_
                  case q9 => intro w hSw; go_simp
                  simp only [Act.put, List.getElem_toArray, List.getElem_cons_zero, List.getElem_cons_succ, List.setIfInBounds_toArray, List.set_cons_zero, List.set_cons_succ]
                  refine wpAnyH_take (i := 10) (v := ?_) rfl (by kernel_rfl) (by kernel_rfl) (by kernel_rfl) (fun _ _ _ h => h) (Or.inl ⟨by rfl, ?q10⟩) HS.out ?_
                  case q10 => intro w hSw; go_simp; rfl
                  simp only [Act.put, List.getElem_toArray, List.getElem_cons_zero, List.getElem_cons_succ, List.setIfInBounds_toArray, List.set_cons_zero, List.set_cons_succ]
                  refine wpAnyH_take (i := 11) (v := ?_) rfl (by kernel_rfl) (by kernel_rfl) (by kernel_rfl) (fun _ _ _ h => h) (Or.inl ⟨by rfl, ?q11⟩) HS.out ?_
                  case q11 => intro w hSw; go_simp; rfl
                  simp only [Act.put, List.getElem_toArray, List.getElem_cons_zero, List.getElem_cons_succ, List.setIfInBounds_toArray, List.set_cons_zero, List.set_cons_succ]
                  refine wpAnyH_take (i := 12) (v := ?_) rfl (by kernel_rfl) (by kernel_rfl) (by kernel_rfl) (fun _ _ _ h => h) (Or.inl ⟨by rfl, ?q12⟩) HS.out ?_
                  case q12 => intro w hSw; go_simp; rfl
                  simp only [Act.put, List.getElem_toArray, List.getElem_cons_zero, List.getElem_cons_succ, List.setIfInBounds_toArray, List.set_cons_zero, List.set_cons_succ]
                  refine wpAnyH_take (i := 13) rfl (by kernel_rfl) (by kernel_rfl) (by kernel_rfl) (fun _ _ _ h => h) (yieldsIf_load_mid (by rfl) 28 _ rfl w5.heap.size 0 rfl (dc y5) _ (fun W hW => range_below HX5.out hW HL5.out) Tryd.underlying28 rfl (size_dig D5.out)) HS.out ?_
                  simp only [Act.put, List.getElem_toArray, List.getElem_cons_zero, List.getElem_cons_succ, List.setIfInBounds_toArray, List.set_cons_zero, List.set_cons_succ]
                  refine wpAnyH_take (i := 14) rfl (by kernel_rfl) (by kernel_rfl) (by kernel_rfl) (fun _ _ _ h => h) (yieldsIf_load_mid (by rfl) 28 _ rfl w6.heap.size 0 rfl (dc y6) _ (fun W hW => range_below HX6.out hW HL6.out) Tryd.underlying28 rfl (size_dig D6.out)) HS.out ?_
                  simp only [Act.put, List.getElem_toArray, List.getElem_cons_zero, List.getElem_cons_succ, List.setIfInBounds_toArray, List.set_cons_zero, List.set_cons_succ]
                  refine wpAnyH_take (i := 16) rfl (by kernel_rfl) (by kernel_rfl) (by kernel_rfl) (fun _ _ _ h => h) (yieldsIf_load_mid (by rfl) 28 _ rfl w7.heap.size 0 rfl (dc y7) _ (fun W hW => range_below HX7.out hW HL7.out) Tryd.underlying28 rfl (size_dig D7.out)) HS.out ?_
                  simp only [Act.put, List.getElem_toArray, List.getElem_cons_zero, List.getElem_cons_succ, List.setIfInBounds_toArray, List.set_cons_zero, List.set_cons_succ]
                  refine wpAnyH_take (i := 17) rfl (by kernel_rfl) (by kernel_rfl) (by kernel_rfl) (fun _ _ _ h => h) (yieldsIf_load_mid (by rfl) 28 _ rfl w8.heap.size 0 rfl (dc y8) _ (fun W hW => range_below HX8.out hW HL8.out) Tryd.underlying28 rfl (size_dig D8.out)) HS.out ?_
                  simp only [Act.put, List.getElem_toArray, List.getElem_cons_zero, List.getElem_cons_succ, List.setIfInBounds_toArray, List.set_cons_zero, List.set_cons_succ]
                  rw [dc_arr, dc_arr, dc_arr, dc_arr]
                  refine wpAnyH_ready (rs := [15]) (by kernel_rfl) (by simp) ?_
                  refine AllReadyH.cons rfl (fun K hK => ?_) AllReadyH.nil
                  go_simp
                  refine (CNa.out _).mono ?_
                  rintro e v9 ⟨rfl, hB9⟩
                  have HS9 := hid (HS.out.trans (hB9.mono HS.out.size))
                  clear hB9
                  refine hK.out _ _ HS9.out (fun _ => ?_)
                  clear hK K
                  have HS := hid HS9.out
                  clear HS9
                  refine wpAnyH_ready (rs := [18]) (by kernel_rfl) (by simp) ?_
                  refine AllReadyH.cons rfl (fun K hK => ?_) AllReadyH.nil
                  go_simp
                  refine (CNb.out _).mono ?_
                  rintro e v10 ⟨rfl, hB10⟩
                  have HS10 := hid (HS.out.trans (hB10.mono HS.out.size))
                  clear hB10
                  refine hK.out _ _ HS10.out (fun _ => ?_)
                  clear hK K
                  have HS := hid HS10.out
                  clear HS10
                  refine wpAnyH_take (i := 19) (v := .bool false) rfl (by kernel_rfl) (by kernel_rfl) (by kernel_rfl) (fun _ _ _ h => h) (Or.inl ⟨by rfl, ?q19⟩) HS.out ?_
                  case q19 => intro w hSw; go_simp
                  simp only [Act.put, List.getElem_toArray, List.getElem_cons_zero, List.getElem_cons_succ, List.setIfInBounds_toArray, List.set_cons_zero, List.set_cons_succ]
                  refine wpAnyH_take (i := 20) (v := ?_) rfl (by kernel_rfl) (by kernel_rfl) (by kernel_rfl) (fun _ _ _ h => h) (Or.inl ⟨by rfl, ?q20⟩) HS.out ?_
                  case q20 => intro w hSw; go_simp; rfl
                  simp only [Act.put, List.getElem_toArray, List.getElem_cons_zero, List.getElem_cons_succ, List.setIfInBounds_toArray, List.set_cons_zero, List.set_cons_succ]
                  refine wpAnyH_done (by kernel_rfl) ?_ _
                  go_wp2
                  exact ⟨⟨k + 1, by omega, by omega, by go_num, hid (HPc8.out.below HS.out), hid (HQc8.out.below HS.out), hid (BLX.out.trans (HS.out.mono BLX.out.size))⟩, by simp [intOf]; omega⟩
end Go.Proofs.YtjmlpkemjafifaaDoor
