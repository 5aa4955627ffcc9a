/- TreeOne, walked. -/
import Derived.Test.YtjmlpkemjafifaaDoorTrOneM
import Derived.Test.YtjmlpkemjafifaaDoorTrSame
import Derived.Test.YtjmlpkemjafifaaDoorTrLives
import Derived.Test.YtjmlpkemjafifaaDoorTrBox
import Derived.Test.YtjmlpkemjafifaaDoorTgTwo
set_option linter.unusedVariables false
set_option linter.unusedSimpArgs false
namespace Go.Proofs.YtjmlpkemjafifaaDoor
open Go.RowKit

/-- Climb's answer, as a digest and a number. -/
def ClR (w : World) (n i : Int) (d : List Int) (cs : List (List Int)) (e : Ending) (w' : World) : Prop :=
  ∃ (y : List Int) (E : Int), e = .returned (.tuple #[.agg (cellsB y), .int .i64 E]) ∧ D32 y ∧ Below w.heap.size w w' ∧
    (E = 0 → ∃ n' i' k : Nat, n = (n' : Int) ∧ i = (i' : Int) ∧ 1 ≤ n' ∧ n' ≤ 512 ∧ i' < n' ∧ wdN n' = 2 ^ k ∧ k < 10 ∧ cs.length = k ∧ y = clV cs (wdN n' + i') d)
theorem climb_r (w : World) (n i : Int) (d : List Int) (v : Value) (cs : List (List Int)) (hd : D32 d) (hv : HDs w v cs) (hk : KC w) :
    Calls Tryd.prog 14 #[.int .i64 n, .int .i64 i, .agg (cellsB d), v] w fun e w' => ClR w n i d cs e w' := by
  refine (climb_any w n i d v cs hd hv hk).mono fun e w' h => ?_
  rcases h with ⟨n', i', k, h1, h2, h3, h4, h5, h6, h7, h8, h9, h10⟩ | ⟨E, hE, h1, h2⟩
  · refine ⟨_, 0, h9, ?_, h10, fun _ => ⟨n', i', k, h1, h2, h3, h4, h5, h6, h7, h8, rfl⟩⟩
    have := clTo_D cs hv.2 (wdN n' + i') d hd cs.length (Nat.le_refl _)
    unfold clTo at this
    rwa [List.take_length] at this
  · exact ⟨zeros32, E, h1, ⟨zeros32_length, fun x hx => by have := (List.mem_replicate.1 hx).2; omega⟩, h2, fun h => absurd h hE⟩
/-- Bytes that are longer than a digest do not lie in a digest's box. -/
theorem HB.keep {w : World} {v : Value} {l : List Int} (h : HB w v l) (hl : 32 < l.length) {g : Nat} {cur : Array Value} {t : TypeId} {fr : Nat × Nat} (hg : w.heap[g]? = some (.cells cur t fr)) (hs : cur.size = 32) (cs' : Array Value) : HB (w.setRow g cs') v l := by
  obtain ⟨b, off, c, hv, h1, h2, h3⟩ := h.ne (by omega)
  have hne : b ≠ g := by
    intro e
    subst e
    have := h3 (l.length - 1) (by omega)
    rw [cell_of_row w b _ _ _ _ hg, Array.getElem?_eq_none (by omega)] at this
    cases this
  have hB : ∀ a : Addr, a.block = b → (w.setRow g cs').cell? a = w.cell? a := fun a ha => cell_setRow_other w g cs' a (by rw [ha]; exact hne)
  exact ⟨⟨some ⟨b, off, none⟩, c, hv, h1, h2, (fun e => by cases e), fun _ => ⟨b, off, rfl, fun j hj => (hB _ rfl).trans (h3 j hj)⟩⟩, h.2⟩
theorem tmod2 (x : Nat) : (x : Int).tmod 2 = ((x % 2 : Nat) : Int) := by rw [Int.tmod_eq_emod_of_nonneg (by omega)]; omega
theorem tdiv2' (x : Nat) : (x : Int).tdiv 2 = ((x / 2 : Nat) : Int) := by rw [Int.tdiv_eq_ediv_of_nonneg (by omega)]; omega
theorem ndB_len {l r : List Int} (hl : D32 l) (hr : D32 r) : (ndB l r).length = 103 := by simp [ndB, num8, wNode, hl.1, hr.1]
theorem wayB_len {cs : List (List Int)} {x : Nat} {d : List Int} {q : Nat} (hc : ∀ c ∈ cs, D32 c) (hd : D32 d) (hq : q < cs.length) : (wayB cs x d q).length = 103 := by
  have h1 := getD_D hc q hq
  have h2 := clTo_D cs hc x d hd q (by omega)
  unfold wayB
  split
  · exact ndB_len h1 h2
  · exact ndB_len h2 h1
set_option maxRecDepth 100000 in
set_option maxHeartbeats 16000000 in
theorem treeOne_walk (w : World) (vc vd : Value) (a b : List Int) (cs es : List (List Int)) (n i : Int) (ha : D32 a) (hb : D32 b) (hc : HDs w vc cs) (hd : HDs w vd es) (hk : KC w) :
    Calls Tryd.prog 4 #[.int .i64 n, .int .i64 i, .agg (cellsB a), .agg (cellsB b), vc, vd] w fun e w' => e = .returned (.bool true) ∧ Below w.heap.size w w' := by
  have HC := hid hc
  have HE := hid hd
  have HK := hid hk
  have DA := hid ha
  have DB := hid hb
  have HCD := hid hc.2
  have HED := hid hd.2
  obtain ⟨pc, cc, ec, hcc, hmc⟩ := hc.open
  obtain ⟨pd, cd, ed, hcd, hmd⟩ := hd.open
  unfold maxLen at hmc hmd
  obtain ⟨lc, HLC⟩ : ∃ m, Hid (cs.length = m) := ⟨_, rfl⟩
  obtain ⟨ld, HLD⟩ : ∃ m, Hid (es.length = m) := ⟨_, rfl⟩
  rw [HLC.out] at ec hcc
  rw [HLD.out] at ed hcd
  subst ec ed
  obtain ⟨xa, HXA⟩ : ∃ c, Hid (cellsB a = c) := ⟨_, rfl⟩
  obtain ⟨xb, HXB⟩ : ∃ c, Hid (cellsB b = c) := ⟨_, rfl⟩
  rw [HXA.out, HXB.out]
  obtain ⟨W0, hW0⟩ : ∃ W0, Hid ((w.alloc (.cells xa 28)).alloc (.cells xb 28) = W0) := ⟨_, rfl⟩
  have HB0 : Hid (Below w.heap.size w W0) := by rw [← hW0.out]; exact ((Below.refl _ w).alloc (Nat.le_refl _) _).alloc (by simp) _
  have H8 : Hid (W0.heap[w.heap.size]? = some (.cells xa 28 (0, 0))) := by
    rw [← hW0.out]; refine hid ?_; rw [heap_alloc_old _ _ (by simp)]; exact heap_alloc_new w _
  have H9 : Hid (W0.heap[w.heap.size + 1]? = some (.cells xb 28 (0, 0))) := by
    rw [← hW0.out]; refine hid ?_; rw [show w.heap.size + 1 = (w.alloc (.cells xa 28)).heap.size by simp]; exact heap_alloc_new _ _
  have hsa : xa.size = 32 := by rw [← HXA.out, cellsB_size, ha.1]
  have hsb : xb.size = 32 := by rw [← HXB.out, cellsB_size, hb.1]
  have SA : Hid ((Tryd.prog.info? 28).map (·.size) = some xa.size) := by rw [hsa]; exact size_digest
  have SB : Hid ((Tryd.prog.info? 28).map (·.size) = some xb.size) := by rw [hsb]; exact size_digest
  obtain ⟨zd, HZD⟩ : ∃ zd, Hid (cellsB zeros32 = zd) := ⟨_, rfl⟩
  have hzs : zd.size = 32 := by rw [← HZD.out, cellsB_size, zeros32_length]
  have HZS := hid hzs
  have CL := hid (lives_any W0 (hk.below HB0.out))
  clear hc hd hk ha hb hsa hsb hzs
  go_enter Tryd.func4, Tryd.ntmps4
  go_wp2_with fail
  rw [hW0.out]
  refine CL.out.mono ?_
  rintro e w1 ⟨rfl, hB1⟩
  have BL1 := hid (HB0.out.trans (hB1.mono HB0.out.size))
  have H81 : Hid (w1.heap[w.heap.size]? = some (.cells xa 28 (0, 0))) := (hB1.block _ (Array.getElem?_eq_some_iff.1 H8.out).1).trans H8.out
  have H91 : Hid (w1.heap[w.heap.size + 1]? = some (.cells xb 28 (0, 0))) := (hB1.block _ (Array.getElem?_eq_some_iff.1 H9.out).1).trans H9.out
  have C1 := hid (climb_r w1 n i a _ cs DA.out (HC.out.below BL1.out) (HK.out.below BL1.out))
  rw [HXA.out] at C1
  clear hB1 CL H8 H9
  go_wp2_with (first | (refine wpList_load_row rfl 28 _ rfl w.heap.size rfl 28 xa (0, 0) _ H81.out Tryd.underlying28 rfl SA.out ?_) | fail)
  refine C1.out.mono ?_
  rintro e w2 ⟨y1, E1, rfl, hD1, hB2, hok1⟩
  have D1 := hid hD1
  have OK1 := hid hok1
  obtain ⟨c1, HC1⟩ : ∃ c, Hid (cellsB y1 = c) := ⟨_, rfl⟩
  have hs1 : c1.size = 32 := by rw [← HC1.out, cellsB_size, hD1.1]
  have SD1 : Hid ((Tryd.prog.info? 28).map (·.size) = some c1.size) := by rw [hs1]; exact size_digest
  have O1 : Hid (c1.all (·.oneCell') = true) := by rw [← HC1.out]; exact cellsB_one _
  have ZC1 : Hid (zd.size = c1.size) := by refine hid ?_; rw [HZS.out, hs1]
  rw [HC1.out]
  obtain ⟨W3, hW3⟩ : ∃ W3, Hid (w2.alloc (.cells c1 28) = W3) := ⟨_, rfl⟩
  have B3 : Hid (Below w1.heap.size w1 W3) := by rw [← hW3.out]; exact hB2.alloc hB2.size _
  have BL3 := hid (BL1.out.trans (B3.out.mono BL1.out.size))
  have HR13 : Hid (W3.heap[w2.heap.size]? = some (.cells c1 28 (0, 0))) := by rw [← hW3.out]; exact heap_alloc_new w2 _
  have H83 : Hid (W3.heap[w.heap.size]? = some (.cells xa 28 (0, 0))) := (B3.out.block _ (Array.getElem?_eq_some_iff.1 H81.out).1).trans H81.out
  have H93 : Hid (W3.heap[w.heap.size + 1]? = some (.cells xb 28 (0, 0))) := (B3.out.block _ (Array.getElem?_eq_some_iff.1 H91.out).1).trans H91.out
  have C2 := hid (climb_r W3 n i b _ es DB.out (HE.out.below BL3.out) (HK.out.below BL3.out))
  rw [HXB.out] at C2
  clear hB2 C1 hD1 hok1 hs1 H81 H91
  go_wp2_with (first | (refine wpList_alloc_digest rfl rfl ?_; rw [HZD.out]) | (refine wpList_store_row rfl 28 _ _ rfl w2.heap.size c1 rfl rfl 28 zd (heap_alloc_new w2 _) SD1.out ZC1.out O1.out ?_; rw [setRow_alloc_newT, hW3.out]) | (refine wpList_load_row rfl 28 _ rfl (w.heap.size + 1) rfl 28 xb (0, 0) _ H93.out Tryd.underlying28 rfl SB.out ?_) | fail)
  refine C2.out.mono ?_
  rintro e w4 ⟨y2, E2, rfl, hD2, hB4, hok2⟩
  have D2 := hid hD2
  have OK2 := hid hok2
  obtain ⟨c2, HC2⟩ : ∃ c, Hid (cellsB y2 = c) := ⟨_, rfl⟩
  have hs2 : c2.size = 32 := by rw [← HC2.out, cellsB_size, hD2.1]
  have SD2 : Hid ((Tryd.prog.info? 28).map (·.size) = some c2.size) := by rw [hs2]; exact size_digest
  have O2 : Hid (c2.all (·.oneCell') = true) := by rw [← HC2.out]; exact cellsB_one _
  have ZC2 : Hid (zd.size = c2.size) := by refine hid ?_; rw [HZS.out, hs2]
  rw [HC2.out]
  obtain ⟨W5, hW5⟩ : ∃ W5, Hid (w4.alloc (.cells c2 28) = W5) := ⟨_, rfl⟩
  have B5 : Hid (Below W3.heap.size W3 W5) := by rw [← hW5.out]; exact hB4.alloc hB4.size _
  have BL5 := hid (BL3.out.trans (B5.out.mono BL3.out.size))
  have HR25 : Hid (W5.heap[w4.heap.size]? = some (.cells c2 28 (0, 0))) := by rw [← hW5.out]; exact heap_alloc_new w4 _
  have HR15 : Hid (W5.heap[w2.heap.size]? = some (.cells c1 28 (0, 0))) := (B5.out.block _ (Array.getElem?_eq_some_iff.1 HR13.out).1).trans HR13.out
  have H85 : Hid (W5.heap[w.heap.size]? = some (.cells xa 28 (0, 0))) := (B5.out.block _ (Array.getElem?_eq_some_iff.1 H83.out).1).trans H83.out
  have H95 : Hid (W5.heap[w.heap.size + 1]? = some (.cells xb 28 (0, 0))) := (B5.out.block _ (Array.getElem?_eq_some_iff.1 H93.out).1).trans H93.out
  have hq := fun w => run_neq_bytes w 32 28 Tryd.underlying28 y1 y2 D1.out.1 D2.out.1
  rw [HC1.out, HC2.out] at hq
  clear hB4 C2 hD2 hok2 hs2 H83 H93
  by_cases hall : E1 = 0 ∧ E2 = 0 ∧ y1 = y2
  case neg =>
    have hcs : E1 ≠ 0 ∨ (E1 = 0 ∧ E2 ≠ 0) ∨ (E1 = 0 ∧ E2 = 0 ∧ y1 ≠ y2) := by
      by_cases h1 : E1 = 0
      · by_cases h2 : E2 = 0
        · exact Or.inr (Or.inr ⟨h1, h2, fun h3 => hall ⟨h1, h2, h3⟩⟩)
        · exact Or.inr (Or.inl ⟨h1, h2⟩)
      · exact Or.inl h1
    clear hall
    rcases hcs with h1 | ⟨rfl, h2⟩ | ⟨rfl, rfl, h3⟩
    · clear hq
      have h1b : (E1 != 0) = true := by simpa using h1
      go_wp2_with (first | (refine wpList_alloc_digest rfl rfl ?_; rw [HZD.out]) | (refine wpList_store_row rfl 28 _ _ rfl w4.heap.size c2 rfl rfl 28 zd (heap_alloc_new w4 _) SD2.out ZC2.out O2.out ?_; rw [setRow_alloc_newT, hW5.out]) | fail)
      go_ret
      exact ⟨rfl, BL5.out⟩
    · clear hq
      have h2b : (E2 != 0) = true := by simpa using h2
      go_wp2_with (first | (refine wpList_alloc_digest rfl rfl ?_; rw [HZD.out]) | (refine wpList_store_row rfl 28 _ _ rfl w4.heap.size c2 rfl rfl 28 zd (heap_alloc_new w4 _) SD2.out ZC2.out O2.out ?_; rw [setRow_alloc_newT, hW5.out]) | fail)
      go_ret
      exact ⟨rfl, BL5.out⟩
    · rw [decide_eq_false h3] at hq
      clear h3
      go_wp2_with (first | (refine wpList_alloc_digest rfl rfl ?_; rw [HZD.out]) | (refine wpList_store_row rfl 28 _ _ rfl w4.heap.size c2 rfl rfl 28 zd (heap_alloc_new w4 _) SD2.out ZC2.out O2.out ?_; rw [setRow_alloc_newT, hW5.out]) | (refine wpList_load_row_on rfl 28 _ rfl w2.heap.size rfl 28 c1 (0, 0) _ HR15.out Tryd.underlying28 rfl SD1.out ?_) | (refine wpList_load_row_on rfl 28 _ rfl w4.heap.size rfl 28 c2 (0, 0) _ HR25.out Tryd.underlying28 rfl SD2.out ?_) | fail)
      go_ret
      exact ⟨rfl, BL5.out⟩
  case pos =>
    obtain ⟨rfl, rfl, hy⟩ := hall
    rw [decide_eq_true hy] at hq
    obtain ⟨n', i', k, rfl, rfl, hn1, hn2, hin, hwk, hk9, hlc, hyc⟩ := OK1.out rfl
    obtain ⟨n2, i2, k2, e1, e2, _, _, _, hwk2, _, hld, hyd⟩ := OK2.out rfl
    obtain rfl : n2 = n' := by omega
    obtain rfl : i2 = i' := by omega
    have hpk : 2 ^ k2 = 2 ^ k := hwk2.symm.trans hwk
    obtain rfl : k2 = k := Nat.le_antisymm ((Nat.pow_le_pow_iff_right (by decide)).1 (Nat.le_of_eq hpk)) ((Nat.pow_le_pow_iff_right (by decide)).1 (Nat.le_of_eq hpk.symm))
    clear hpk
    have HTOP : Hid (clV cs (wdN n2 + i2) a = clV es (wdN n2 + i2) b) := by rw [← hyc, ← hyd]; exact hy
    have hlck : lc = k2 := by rw [← HLC.out]; exact hlc
    have hldk : ld = k2 := by rw [← HLD.out]; exact hld
    subst hlck
    have HX : Hid (wdN n2 + i2 = 2 ^ lc + i2) := by rw [hwk]; exact rfl
    obtain ⟨x, HXX⟩ : ∃ x, Hid (wdN n2 + i2 = x) := ⟨_, rfl⟩
    rw [HXX.out] at HTOP HX
    have hi5 : i2 < 512 := by omega
    clear hy hyc hyd hwk hwk2 hlc hld e1 e2 OK1 OK2
    subst hldk
    have hqe := fun w => run_eql_bytes w 32 28 Tryd.underlying28 a b DA.out.1 DB.out.1
    rw [HXA.out, HXB.out] at hqe
    have HSM : Hid (∀ w', Below w.heap.size w w' → _) := fun w' h => sameDigests_any w' _ _ cs es (HC.out.below h) (HE.out.below h)
    have hthree : (a = b ∧ cs = es) ∨ (a = b ∧ cs ≠ es) ∨ a ≠ b := by
      by_cases h1 : a = b
      · by_cases h2 : cs = es
        · exact Or.inl ⟨h1, h2⟩
        · exact Or.inr (Or.inl ⟨h1, h2⟩)
      · exact Or.inr (Or.inr h1)
    rcases hthree with ⟨h1, h2⟩ | ⟨h1, h2⟩ | h1
    · rw [decide_eq_true h1] at hqe
      have HSE : Hid (decide (cs = es) = true) := decide_eq_true h2
      clear h1 h2
      go_wp2_with (first | (refine wpList_alloc_digest rfl rfl ?_; rw [HZD.out]) | (refine wpList_store_row rfl 28 _ _ rfl w4.heap.size c2 rfl rfl 28 zd (heap_alloc_new w4 _) SD2.out ZC2.out O2.out ?_; rw [setRow_alloc_newT, hW5.out]) | (refine wpList_load_row_on rfl 28 _ rfl w2.heap.size rfl 28 c1 (0, 0) _ HR15.out Tryd.underlying28 rfl SD1.out ?_) | (refine wpList_load_row_on rfl 28 _ rfl w4.heap.size rfl 28 c2 (0, 0) _ HR25.out Tryd.underlying28 rfl SD2.out ?_) | (refine wpList_load_row rfl 28 _ rfl w.heap.size rfl 28 xa (0, 0) _ H85.out Tryd.underlying28 rfl SA.out ?_) | (refine wpList_load_row rfl 28 _ rfl (w.heap.size + 1) rfl 28 xb (0, 0) _ H95.out Tryd.underlying28 rfl SB.out ?_) | fail)
      refine (HSM.out _ BL5.out).mono ?_
      rintro e w6 ⟨rfl, hB6⟩
      rw [HSE.out]
      have BL6 := hid (BL5.out.trans (hB6.mono BL5.out.size))
      clear hB6
      go_wp2
      go_ret
      exact ⟨rfl, BL6.out⟩
    · rw [decide_eq_true h1] at hqe
      have HSE : Hid (decide (cs = es) = false) := decide_eq_false h2
      have HNE : Hid (¬ (a = b ∧ cs = es)) := fun h => h2 h.2
      clear h1 h2
      go_wp2_with (first | (refine wpList_alloc_digest rfl rfl ?_; rw [HZD.out]) | (refine wpList_store_row rfl 28 _ _ rfl w4.heap.size c2 rfl rfl 28 zd (heap_alloc_new w4 _) SD2.out ZC2.out O2.out ?_; rw [setRow_alloc_newT, hW5.out]) | (refine wpList_load_row_on rfl 28 _ rfl w2.heap.size rfl 28 c1 (0, 0) _ HR15.out Tryd.underlying28 rfl SD1.out ?_) | (refine wpList_load_row_on rfl 28 _ rfl w4.heap.size rfl 28 c2 (0, 0) _ HR25.out Tryd.underlying28 rfl SD2.out ?_) | (refine wpList_load_row rfl 28 _ rfl w.heap.size rfl 28 xa (0, 0) _ H85.out Tryd.underlying28 rfl SA.out ?_) | (refine wpList_load_row rfl 28 _ rfl (w.heap.size + 1) rfl 28 xb (0, 0) _ H95.out Tryd.underlying28 rfl SB.out ?_) | fail)
      refine (HSM.out _ BL5.out).mono ?_
      rintro e w6 ⟨rfl, hB6⟩
      rw [HSE.out]
      have ATS3 := hid (BL5.out.trans (hB6.mono BL5.out.size))
      have ATS1 : Hid (w6.heap[w.heap.size]? = some (.cells (cellsB (clTo cs x a 0)) 28 (0, 0))) := by
        rw [show clTo cs x a 0 = a from rfl, HXA.out]; exact (hB6.block _ (Array.getElem?_eq_some_iff.1 H85.out).1).trans H85.out
      have ATS2 : Hid (w6.heap[w.heap.size + 1]? = some (.cells (cellsB (clTo es x b 0)) 28 (0, 0))) := by
        rw [show clTo es x b 0 = b from rfl, HXB.out]; exact (hB6.block _ (Array.getElem?_eq_some_iff.1 H95.out).1).trans H95.out
      clear hB6 hq hqe HSM
      go_wp2
      go_loopw [17, 18] (fun pl j wr => ∃ q : Nat, q ≤ ld ∧ j = .int .i64 q ∧ pl = .int .i64 ((i2 / 2 ^ q : Nat) : Int) ∧ Hid (wr.heap[w.heap.size]? = some (.cells (cellsB (clTo cs x a q)) 28 (0, 0))) ∧ Hid (wr.heap[w.heap.size + 1]? = some (.cells (cellsB (clTo es x b q)) 28 (0, 0))) ∧ Hid (∀ p, p < q → ¬ (wayB cs x a p ≠ wayB es x b p ∧ digL (wayB cs x a p) = digL (wayB es x b p))) ∧ Hid (Below w.heap.size w wr)) (fun _ j _ => ld - (intOf j).toNat)
      case atStart => exact ⟨0, Nat.zero_le _, rfl, by rw [Nat.pow_zero, Nat.div_one], ATS1, ATS2, (fun p hp => by omega), ATS3⟩
      case round =>
        clear ATS1 ATS2 ATS3
        obtain ⟨q, hq1, rfl, rfl, HAq, HBq, HNOC, HBel⟩ := hrel
        by_cases hlt : q < ld
        case neg =>
          exfalso
          obtain rfl : q = ld := by omega
          exact HNE.out (way_one HCD.out HED.out DA.out DB.out (by rw [HLC.out, HLD.out]) (fun p hp => HNOC.out p (by rw [HLC.out] at hp; exact hp)) HTOP.out)
        case pos =>
          have hlti : (q : Int) < (ld : Int) := by omega
          obtain ⟨bc, oc, cc', e1, _, _, hbc, hrc⟩ := HC.out.ne (by rw [HLC.out]; omega)
          obtain ⟨bd, od, cd', e2, _, _, hbd, hrd⟩ := HE.out.ne (by rw [HLD.out]; omega)
          rw [HLC.out] at e1
          rw [HLD.out] at e2
          simp only [Value.slice.injEq] at e1 e2
          obtain ⟨rfl, -, -⟩ := e1
          obtain ⟨rfl, -, -⟩ := e2
          have hwr := HBel.out.size
          have Rcq := hid (range_below (hrc q (by rw [HLC.out]; exact hlt)) HBel.out hbc)
          have Rdq := hid (range_below (hrd q (by rw [HLD.out]; exact hlt)) HBel.out hbd)
          have HBBcq : Hid (bc < wr.heap.size) := by refine hid ?_; omega
          have HBBdq : Hid (bd < wr.heap.size) := by refine hid ?_; omega
          have cqD := hid (getD_D HCD.out q (by rw [HLC.out]; exact hlt))
          have dqD := hid (getD_D HED.out q (by rw [HLD.out]; exact hlt))
          have taD := hid (clTo_D cs HCD.out x a DA.out q (by rw [HLC.out]; omega))
          have tbD := hid (clTo_D es HED.out x b DB.out q (by rw [HLD.out]; omega))
          have HWL : Hid (wayB cs x a q = if (i2 / 2 ^ q) % 2 = 1 then ndB (cs.getD q []) (clTo cs x a q) else ndB (clTo cs x a q) (cs.getD q [])) := by
            unfold wayB; rw [HX.out, par_leaf ld i2 q hlt]; exact rfl
          have HWR : Hid (wayB es x b q = if (i2 / 2 ^ q) % 2 = 1 then ndB (es.getD q []) (clTo es x b q) else ndB (clTo es x b q) (es.getD q [])) := by
            unfold wayB; rw [HX.out, par_leaf ld i2 q hlt]; exact rfl
          have HSTL := hid (wayB_step cs x a q (by rw [HLC.out]; exact hlt))
          have HSTR := hid (wayB_step es x b q (by rw [HLD.out]; exact hlt))
          have HLNL := hid (wayB_len (x := x) HCD.out DA.out (show q < cs.length by rw [HLC.out]; exact hlt))
          have HLNR := hid (wayB_len (x := x) HED.out DB.out (show q < es.length by rw [HLD.out]; exact hlt))
          have HNOS : Hid (¬ (wayB cs x a q ≠ wayB es x b q ∧ digL (wayB cs x a q) = digL (wayB es x b q)) → ∀ p, p < q + 1 → ¬ (wayB cs x a p ≠ wayB es x b p ∧ digL (wayB cs x a p) = digL (wayB es x b p))) := fun h p hp => by
            by_cases e : p = q
            · subst e; exact h
            · exact HNOC.out p (by omega)
          generalize cs.getD q [] = cq at Rcq cqD HWL
          generalize es.getD q [] = dq at Rdq dqD HWR
          obtain ⟨ta, HTA⟩ : ∃ t, Hid (clTo cs x a q = t) := ⟨_, rfl⟩
          obtain ⟨tb, HTB⟩ : ∃ t, Hid (clTo es x b q = t) := ⟨_, rfl⟩
          rw [HTA.out] at HAq taD HWL
          rw [HTB.out] at HBq tbD HWR
          have Rta : Hid (wr.rangeAt w.heap.size 0 (dc ta)) := fun j v hj => by rw [Nat.zero_add, cell_of_row wr _ j _ _ _ HAq.out, ← dc_arr, List.getElem?_toArray]; exact hj
          have Rtb : Hid (wr.rangeAt (w.heap.size + 1) 0 (dc tb)) := fun j v hj => by rw [Nat.zero_add, cell_of_row wr _ j _ _ _ HBq.out, ← dc_arr, List.getElem?_toArray]; exact hj
          have hl8 : w.heap.size < wr.heap.size := (Array.getElem?_eq_some_iff.1 HAq.out).1
          have hl9 : w.heap.size + 1 < wr.heap.size := (Array.getElem?_eq_some_iff.1 HBq.out).1
          have etm := tmod2 (i2 / 2 ^ q)
          have etd := tdiv2' (i2 / 2 ^ q)
          have hdd : Hid (i2 / 2 ^ q / 2 = i2 / 2 ^ (q + 1)) := by rw [Nat.div_div_eq_div_mul, ← Nat.pow_succ]; exact rfl
          have hpl : i2 / 2 ^ q ≤ 511 := Nat.le_trans (Nat.div_le_self _ _) (by omega)
          have HBelr := hid (Below.refl wr.heap.size wr)
          obtain ⟨pl, HPL⟩ : ∃ p, Hid (i2 / 2 ^ q = p) := ⟨_, rfl⟩
          rw [HPL.out] at etm etd hdd hpl HWL HWR ⊢
          have ewq : IntKind.i64.wrap ((q : Int) + 1) = (q : Int) + 1 := by rw [IntKind.wrap_i64]; omega
          have ewd : IntKind.i64.wrap ((pl / 2 : Nat) : Int) = ((pl / 2 : Nat) : Int) := by rw [IntKind.wrap_i64]; omega
          have ewm : IntKind.i64.wrap ((pl % 2 : Nat) : Int) = ((pl % 2 : Nat) : Int) := by rw [IntKind.wrap_i64]; omega
          clear hrc hrd HNOC
          go_wp2
          refine wp_region_held_drew (S := Below wr.heap.size wr) (by kernel_rfl) HBelr.out.drew (fun hHeld => ?_)
          have HS := hid hHeld
          clear hHeld
          change wpAnyH _ _ _ _ _ _ _ _ (World.drew _)
          refine wpAnyH_take (i := 0) rfl (by kernel_rfl) (by kernel_rfl) (by kernel_rfl) (fun _ _ _ h => h) (yieldsIf_load_mid (by rfl) 28 _ rfl w.heap.size 0 rfl (dc ta) _ (fun W hW => range_below Rta.out hW hl8) Tryd.underlying28 rfl (size_dig taD.out)) HS.out ?_
          simp only [Act.put, List.getElem_toArray, List.getElem_cons_zero, List.getElem_cons_succ, List.setIfInBounds_toArray, List.set_cons_zero, List.set_cons_succ]
          refine wpAnyH_take (i := 1) (v := ?_) rfl (by kernel_rfl) (by kernel_rfl) (by kernel_rfl) (fun _ _ _ h => h) (Or.inl ⟨by rfl, ?q1⟩) HS.out ?_
          case q1 => intro w hSw; go_simp; rfl
          simp only [Act.put, List.getElem_toArray, List.getElem_cons_zero, List.getElem_cons_succ, List.setIfInBounds_toArray, List.set_cons_zero, List.set_cons_succ]
          refine wpAnyH_take (i := 2) (v := ?_) rfl (by kernel_rfl) (by kernel_rfl) (by kernel_rfl) (fun _ _ _ h => h) (Or.inl ⟨by rfl, ?q2⟩) HS.out ?_
          case q2 => intro w hSw; go_simp; rfl
          simp only [Act.put, List.getElem_toArray, List.getElem_cons_zero, List.getElem_cons_succ, List.setIfInBounds_toArray, List.set_cons_zero, List.set_cons_succ]
          refine wpAnyH_take (i := 3) (v := .pointer (some ⟨bc, oc + q * 32, none⟩)) rfl (by kernel_rfl) (by kernel_rfl) (by kernel_rfl) (fun _ _ _ h => h) (Or.inl ⟨by rfl, ?q3⟩) HS.out ?_
          case q3 => intro w hSw; go_simp
          simp only [Act.put, List.getElem_toArray, List.getElem_cons_zero, List.getElem_cons_succ, List.setIfInBounds_toArray, List.set_cons_zero, List.set_cons_succ]
          refine wpAnyH_take (i := 4) rfl (by kernel_rfl) (by kernel_rfl) (by kernel_rfl) (fun _ _ _ h => h) (yieldsIf_load_mid (by rfl) 28 _ rfl bc (oc + q * 32) rfl (dc cq) _ (fun W hW => range_below Rcq.out hW HBBcq.out) Tryd.underlying28 rfl (size_dig cqD.out)) HS.out ?_
          simp only [Act.put, List.getElem_toArray, List.getElem_cons_zero, List.getElem_cons_succ, List.setIfInBounds_toArray, List.set_cons_zero, List.set_cons_succ]
          rw [dc_arr, dc_arr]
          refine wpAnyH_ready (rs := [5]) (by kernel_rfl) (by simp) ?_
          refine AllReadyH.cons rfl (fun K hK => ?_) AllReadyH.nil
          go_simp
          refine (two_any _ ta cq taD.out cqD.out).mono ?_
          rintro e vaw ⟨va, rfl, hva, hBva⟩
          have Hva := hid hva
          have BSva := hid hBva
          have HSva := hid (HS.out.trans (hBva.mono HS.out.size))
          clear hBva hva
          refine hK.out _ _ HSva.out (fun _ => ?_)
          clear hK K
          have HS := hid HSva.out
          refine wpAnyH_take (i := 6) (v := ?_) rfl (by kernel_rfl) (by kernel_rfl) (by kernel_rfl) (fun _ _ _ h => h) (Or.inl ⟨by rfl, ?q6⟩) HS.out ?_
          case q6 => intro w hSw; go_simp; rfl
          simp only [Act.put, List.getElem_toArray, List.getElem_cons_zero, List.getElem_cons_succ, List.setIfInBounds_toArray, List.set_cons_zero, List.set_cons_succ]
          refine wpAnyH_done (by kernel_rfl) ?_ _
          go_wp2
          refine wp_region_held_drew (S := Below wr.heap.size wr) (by kernel_rfl) HSva.out.drew (fun hHeld => ?_)
          have HS := hid hHeld
          clear hHeld
          change wpAnyH _ _ _ _ _ _ _ _ (World.drew _)
          refine wpAnyH_take (i := 0) rfl (by kernel_rfl) (by kernel_rfl) (by kernel_rfl) (fun _ _ _ h => h) (yieldsIf_load_mid (by rfl) 28 _ rfl (w.heap.size + 1) 0 rfl (dc tb) _ (fun W hW => range_below Rtb.out hW hl9) Tryd.underlying28 rfl (size_dig tbD.out)) HS.out ?_
          simp only [Act.put, List.getElem_toArray, List.getElem_cons_zero, List.getElem_cons_succ, List.setIfInBounds_toArray, List.set_cons_zero, List.set_cons_succ]
          refine wpAnyH_take (i := 1) (v := ?_) rfl (by kernel_rfl) (by kernel_rfl) (by kernel_rfl) (fun _ _ _ h => h) (Or.inl ⟨by rfl, ?q1⟩) HS.out ?_
          case q1 => intro w hSw; go_simp; rfl
          simp only [Act.put, List.getElem_toArray, List.getElem_cons_zero, List.getElem_cons_succ, List.setIfInBounds_toArray, List.set_cons_zero, List.set_cons_succ]
          refine wpAnyH_take (i := 2) (v := ?_) rfl (by kernel_rfl) (by kernel_rfl) (by kernel_rfl) (fun _ _ _ h => h) (Or.inl ⟨by rfl, ?q2⟩) HS.out ?_
          case q2 => intro w hSw; go_simp; rfl
          simp only [Act.put, List.getElem_toArray, List.getElem_cons_zero, List.getElem_cons_succ, List.setIfInBounds_toArray, List.set_cons_zero, List.set_cons_succ]
          refine wpAnyH_take (i := 3) (v := .pointer (some ⟨bd, od + q * 32, none⟩)) rfl (by kernel_rfl) (by kernel_rfl) (by kernel_rfl) (fun _ _ _ h => h) (Or.inl ⟨by rfl, ?q3⟩) HS.out ?_
          case q3 => intro w hSw; go_simp
          simp only [Act.put, List.getElem_toArray, List.getElem_cons_zero, List.getElem_cons_succ, List.setIfInBounds_toArray, List.set_cons_zero, List.set_cons_succ]
          refine wpAnyH_take (i := 4) rfl (by kernel_rfl) (by kernel_rfl) (by kernel_rfl) (fun _ _ _ h => h) (yieldsIf_load_mid (by rfl) 28 _ rfl bd (od + q * 32) rfl (dc dq) _ (fun W hW => range_below Rdq.out hW HBBdq.out) Tryd.underlying28 rfl (size_dig dqD.out)) HS.out ?_
          simp only [Act.put, List.getElem_toArray, List.getElem_cons_zero, List.getElem_cons_succ, List.setIfInBounds_toArray, List.set_cons_zero, List.set_cons_succ]
          rw [dc_arr, dc_arr]
          refine wpAnyH_ready (rs := [5]) (by kernel_rfl) (by simp) ?_
          refine AllReadyH.cons rfl (fun K hK => ?_) AllReadyH.nil
          go_simp
          refine (two_any _ tb dq tbD.out dqD.out).mono ?_
          rintro e vbw ⟨vb, rfl, hvb, hBvb⟩
          have Hvb := hid hvb
          have BSvb := hid hBvb
          have HSvb := hid (HS.out.trans (hBvb.mono HS.out.size))
          clear hBvb hvb
          refine hK.out _ _ HSvb.out (fun _ => ?_)
          clear hK K
          have HS := hid HSvb.out
          refine wpAnyH_take (i := 6) (v := ?_) rfl (by kernel_rfl) (by kernel_rfl) (by kernel_rfl) (fun _ _ _ h => h) (Or.inl ⟨by rfl, ?q6⟩) HS.out ?_
          case q6 => intro w hSw; go_simp; rfl
          simp only [Act.put, List.getElem_toArray, List.getElem_cons_zero, List.getElem_cons_succ, List.setIfInBounds_toArray, List.set_cons_zero, List.set_cons_succ]
          refine wpAnyH_done (by kernel_rfl) ?_ _
          by_cases hpar : pl % 2 = 1
          case neg =>
            have hpar0 : pl % 2 = 0 := by omega
            have etm0 : ((pl % 2 : Nat) : Int) = 0 := by rw [hpar0]; rfl
            rw [etm0] at etm ewm
            rw [if_neg hpar] at HWL HWR
            clear hpar hpar0 etm0
            have HLb : Hid (HB vbw va (wayB cs x a q)) := by rw [HWL.out]; exact ((show HB vaw.drew va _ from Hva.out).below BSvb.out)
            have HRb : Hid (HB vbw vb (wayB es x b q)) := by rw [HWR.out]; exact Hvb.out
            have HA9 : Hid (vbw.heap[w.heap.size]? = some (.cells (cellsB ta) 28 (0, 0))) := (HSvb.out.block _ hl8).trans HAq.out
            have HB9 : Hid (vbw.heap[w.heap.size + 1]? = some (.cells (cellsB tb) 28 (0, 0))) := (HSvb.out.block _ hl9).trans HBq.out
            have BL9 := hid (HBel.out.trans (HSvb.out.mono hwr))
            have CC := hid (clash_any vbw _ _ _ _ HLb.out HRb.out (by rw [HLNL.out]; decide) (by rw [HLNR.out]; decide))
            obtain ⟨cl, HCL⟩ : ∃ c, Hid (decide (wayB cs x a q ≠ wayB es x b q ∧ digL (wayB cs x a q) = digL (wayB es x b q)) = c) := ⟨_, rfl⟩
            rw [HCL.out] at CC
            go_wp2_with fail
            refine CC.out.mono ?_
            rintro e x1 ⟨rfl, hBx⟩
            have HLx := hid (HLb.out.below hBx)
            have HRx := hid (HRb.out.below hBx)
            have HAx : Hid (x1.heap[w.heap.size]? = some (.cells (cellsB ta) 28 (0, 0))) := (hBx.block _ (Array.getElem?_eq_some_iff.1 HA9.out).1).trans HA9.out
            have HBx : Hid (x1.heap[w.heap.size + 1]? = some (.cells (cellsB tb) 28 (0, 0))) := (hBx.block _ (Array.getElem?_eq_some_iff.1 HB9.out).1).trans HB9.out
            have BLx := hid (BL9.out.trans (hBx.mono BL9.out.size))
            clear hBx CC
            cases cl with
            | true =>
              go_wp2
              go_ret
              exact ⟨rfl, BLx.out⟩
            | false =>
              have HNOQ := hid (HNOS.out (of_decide_eq_false HCL.out))
              have CS1 := hid (rsum_any x1 _ _ HLx.out (by rw [HLNL.out]; decide))
              rw [← HSTL.out] at CS1
              obtain ⟨na, HNA⟩ : ∃ c, Hid (cellsB (clTo cs x a (q + 1)) = c) := ⟨_, rfl⟩
              obtain ⟨nb, HNB⟩ : ∃ c, Hid (cellsB (clTo es x b (q + 1)) = c) := ⟨_, rfl⟩
              have hna : na.size = 32 := by rw [← HNA.out, cellsB_size, (clTo_D cs HCD.out x a DA.out (q + 1) (by rw [HLC.out]; omega)).1]
              have hnb : nb.size = 32 := by rw [← HNB.out, cellsB_size, (clTo_D es HED.out x b DB.out (q + 1) (by rw [HLD.out]; omega)).1]
              have SNA : Hid ((Tryd.prog.info? 28).map (·.size) = some na.size) := by rw [hna]; exact size_digest
              have SNB : Hid ((Tryd.prog.info? 28).map (·.size) = some nb.size) := by rw [hnb]; exact size_digest
              have ONA : Hid (na.all (·.oneCell') = true) := by rw [← HNA.out]; exact cellsB_one _
              have ONB : Hid (nb.all (·.oneCell') = true) := by rw [← HNB.out]; exact cellsB_one _
              have hsa : (cellsB ta).size = 32 := by rw [cellsB_size, taD.out.1]
              have hsb : (cellsB tb).size = 32 := by rw [cellsB_size, tbD.out.1]
              have ZNA : Hid ((cellsB ta).size = na.size) := by refine hid ?_; rw [hsa, hna]
              have ZNB : Hid ((cellsB tb).size = nb.size) := by refine hid ?_; rw [hsb, hnb]
              have HSA := hid hsa
              rw [HNA.out] at CS1
              clear hna hnb hsa hsb
              go_wp2_with fail
              refine CS1.out.mono ?_
              rintro e x2 ⟨rfl, hBy⟩
              have HRy := hid (HRx.out.below hBy)
              have HAy : Hid (x2.heap[w.heap.size]? = some (.cells (cellsB ta) 28 (0, 0))) := (hBy.block _ (Array.getElem?_eq_some_iff.1 HAx.out).1).trans HAx.out
              have HBy : Hid (x2.heap[w.heap.size + 1]? = some (.cells (cellsB tb) 28 (0, 0))) := (hBy.block _ (Array.getElem?_eq_some_iff.1 HBx.out).1).trans HBx.out
              have BLy := hid (BLx.out.trans (hBy.mono BLx.out.size))
              obtain ⟨x3, HX3⟩ : ∃ x3, Hid (x2.setRow w.heap.size na = x3) := ⟨_, rfl⟩
              have HRz : Hid (HB x3 vb (wayB es x b q)) := by rw [← HX3.out]; exact HRy.out.keep (by rw [HLNR.out]; decide) HAy.out HSA.out na
              have HAz : Hid (x3.heap[w.heap.size]? = some (.cells na 28 (0, 0))) := by rw [← HX3.out]; exact setRow_heap _ _ _ _ _ _ HAy.out
              have HBz : Hid (x3.heap[w.heap.size + 1]? = some (.cells (cellsB tb) 28 (0, 0))) := by rw [← HX3.out]; exact (setRow_other _ _ _ _ (by omega)).trans HBy.out
              have BLz : Hid (Below w.heap.size w x3) := by rw [← HX3.out]; exact below_setRow BLy.out (Nat.le_refl _) _
              have CS2 := hid (rsum_any x3 _ _ HRz.out (by rw [HLNR.out]; decide))
              rw [← HSTR.out, HNB.out] at CS2
              clear hBy CS1
              go_wp2_with (first | (refine wpList_store_row rfl 28 _ _ rfl w.heap.size na rfl rfl 28 (cellsB ta) HAy.out SNA.out ZNA.out ONA.out ?_; rw [HX3.out]) | fail)
              refine CS2.out.mono ?_
              rintro e x4 ⟨rfl, hBu⟩
              have HAu : Hid (x4.heap[w.heap.size]? = some (.cells na 28 (0, 0))) := (hBu.block _ (Array.getElem?_eq_some_iff.1 HAz.out).1).trans HAz.out
              have HBu : Hid (x4.heap[w.heap.size + 1]? = some (.cells (cellsB tb) 28 (0, 0))) := (hBu.block _ (Array.getElem?_eq_some_iff.1 HBz.out).1).trans HBz.out
              have BLu := hid (BLz.out.trans (hBu.mono BLz.out.size))
              obtain ⟨x5, HX5⟩ : ∃ x5, Hid (x4.setRow (w.heap.size + 1) nb = x5) := ⟨_, rfl⟩
              have HAv : Hid (x5.heap[w.heap.size]? = some (.cells (cellsB (clTo cs x a (q + 1))) 28 (0, 0))) := by rw [← HX5.out, HNA.out]; exact (setRow_other _ _ _ _ (by omega)).trans HAu.out
              have HBv : Hid (x5.heap[w.heap.size + 1]? = some (.cells (cellsB (clTo es x b (q + 1))) 28 (0, 0))) := by rw [← HX5.out, HNB.out]; exact setRow_heap _ _ _ _ _ _ HBu.out
              have BLv : Hid (Below w.heap.size w x5) := by rw [← HX5.out]; exact below_setRow BLu.out (by omega) _
              clear hBu CS2
              go_wp2_with (refine wpList_store_row rfl 28 _ _ rfl (w.heap.size + 1) nb rfl rfl 28 (cellsB tb) HBu.out SNB.out ZNB.out ONB.out ?_; rw [HX5.out])
              exact ⟨⟨q + 1, by omega, by go_num, by rw [← hdd.out]; exact congrArg (Value.int .i64) (by omega), HAv, HBv, HNOQ, BLv⟩, by simp [intOf]; omega⟩
          case pos =>
            have etm0 : ((pl % 2 : Nat) : Int) = 1 := by rw [hpar]; rfl
            rw [etm0] at etm ewm
            rw [if_pos hpar] at HWL HWR
            clear hpar etm0 Hva Hvb
            go_wp2
            refine wp_region_held_drew (S := Below wr.heap.size wr) (by kernel_rfl) HSvb.out.drew (fun hHeld => ?_)
            have HS := hid hHeld
            clear hHeld
            change wpAnyH _ _ _ _ _ _ _ _ (World.drew _)
            refine wpAnyH_take (i := 0) (v := ?_) rfl (by kernel_rfl) (by kernel_rfl) (by kernel_rfl) (fun _ _ _ h => h) (Or.inl ⟨by rfl, ?q0⟩) HS.out ?_
            case q0 => intro w hSw; go_simp; rfl
            simp only [Act.put, List.getElem_toArray, List.getElem_cons_zero, List.getElem_cons_succ, List.setIfInBounds_toArray, List.set_cons_zero, List.set_cons_succ]
            refine wpAnyH_take (i := 1) (v := ?_) rfl (by kernel_rfl) (by kernel_rfl) (by kernel_rfl) (fun _ _ _ h => h) (Or.inl ⟨by rfl, ?q1⟩) HS.out ?_
            case q1 => intro w hSw; go_simp; rfl
            simp only [Act.put, List.getElem_toArray, List.getElem_cons_zero, List.getElem_cons_succ, List.setIfInBounds_toArray, List.set_cons_zero, List.set_cons_succ]
            refine wpAnyH_take (i := 2) (v := .pointer (some ⟨bc, oc + q * 32, none⟩)) rfl (by kernel_rfl) (by kernel_rfl) (by kernel_rfl) (fun _ _ _ h => h) (Or.inl ⟨by rfl, ?q2⟩) HS.out ?_
            case q2 => intro w hSw; go_simp
            simp only [Act.put, List.getElem_toArray, List.getElem_cons_zero, List.getElem_cons_succ, List.setIfInBounds_toArray, List.set_cons_zero, List.set_cons_succ]
            refine wpAnyH_take (i := 3) rfl (by kernel_rfl) (by kernel_rfl) (by kernel_rfl) (fun _ _ _ h => h) (yieldsIf_load_mid (by rfl) 28 _ rfl bc (oc + q * 32) rfl (dc cq) _ (fun W hW => range_below Rcq.out hW HBBcq.out) Tryd.underlying28 rfl (size_dig cqD.out)) HS.out ?_
            simp only [Act.put, List.getElem_toArray, List.getElem_cons_zero, List.getElem_cons_succ, List.setIfInBounds_toArray, List.set_cons_zero, List.set_cons_succ]
            refine wpAnyH_take (i := 4) rfl (by kernel_rfl) (by kernel_rfl) (by kernel_rfl) (fun _ _ _ h => h) (yieldsIf_load_mid (by rfl) 28 _ rfl w.heap.size 0 rfl (dc ta) _ (fun W hW => range_below Rta.out hW hl8) Tryd.underlying28 rfl (size_dig taD.out)) HS.out ?_
            simp only [Act.put, List.getElem_toArray, List.getElem_cons_zero, List.getElem_cons_succ, List.setIfInBounds_toArray, List.set_cons_zero, List.set_cons_succ]
            rw [dc_arr, dc_arr]
            refine wpAnyH_ready (rs := [5]) (by kernel_rfl) (by simp) ?_
            refine AllReadyH.cons rfl (fun K hK => ?_) AllReadyH.nil
            go_simp
            refine (two_any _ cq ta cqD.out taD.out).mono ?_
            rintro e vcw ⟨vc, rfl, hvc, hBvc⟩
            have Hvc := hid hvc
            have BSvc := hid hBvc
            have HSvc := hid (HS.out.trans (hBvc.mono HS.out.size))
            clear hBvc hvc
            refine hK.out _ _ HSvc.out (fun _ => ?_)
            clear hK K
            have HS := hid HSvc.out
            refine wpAnyH_take (i := 6) (v := ?_) rfl (by kernel_rfl) (by kernel_rfl) (by kernel_rfl) (fun _ _ _ h => h) (Or.inl ⟨by rfl, ?q6⟩) HS.out ?_
            case q6 => intro w hSw; go_simp; rfl
            simp only [Act.put, List.getElem_toArray, List.getElem_cons_zero, List.getElem_cons_succ, List.setIfInBounds_toArray, List.set_cons_zero, List.set_cons_succ]
            refine wpAnyH_done (by kernel_rfl) ?_ _
            go_wp2
            refine wp_region_held_drew (S := Below wr.heap.size wr) (by kernel_rfl) HSvc.out.drew (fun hHeld => ?_)
            have HS := hid hHeld
            clear hHeld
            change wpAnyH _ _ _ _ _ _ _ _ (World.drew _)
            refine wpAnyH_take (i := 0) (v := ?_) rfl (by kernel_rfl) (by kernel_rfl) (by kernel_rfl) (fun _ _ _ h => h) (Or.inl ⟨by rfl, ?q0⟩) HS.out ?_
            case q0 => intro w hSw; go_simp; rfl
            simp only [Act.put, List.getElem_toArray, List.getElem_cons_zero, List.getElem_cons_succ, List.setIfInBounds_toArray, List.set_cons_zero, List.set_cons_succ]
            refine wpAnyH_take (i := 1) (v := ?_) rfl (by kernel_rfl) (by kernel_rfl) (by kernel_rfl) (fun _ _ _ h => h) (Or.inl ⟨by rfl, ?q1⟩) HS.out ?_
            case q1 => intro w hSw; go_simp; rfl
            simp only [Act.put, List.getElem_toArray, List.getElem_cons_zero, List.getElem_cons_succ, List.setIfInBounds_toArray, List.set_cons_zero, List.set_cons_succ]
            refine wpAnyH_take (i := 2) (v := .pointer (some ⟨bd, od + q * 32, none⟩)) rfl (by kernel_rfl) (by kernel_rfl) (by kernel_rfl) (fun _ _ _ h => h) (Or.inl ⟨by rfl, ?q2⟩) HS.out ?_
            case q2 => intro w hSw; go_simp
            simp only [Act.put, List.getElem_toArray, List.getElem_cons_zero, List.getElem_cons_succ, List.setIfInBounds_toArray, List.set_cons_zero, List.set_cons_succ]
            refine wpAnyH_take (i := 3) rfl (by kernel_rfl) (by kernel_rfl) (by kernel_rfl) (fun _ _ _ h => h) (yieldsIf_load_mid (by rfl) 28 _ rfl bd (od + q * 32) rfl (dc dq) _ (fun W hW => range_below Rdq.out hW HBBdq.out) Tryd.underlying28 rfl (size_dig dqD.out)) HS.out ?_
            simp only [Act.put, List.getElem_toArray, List.getElem_cons_zero, List.getElem_cons_succ, List.setIfInBounds_toArray, List.set_cons_zero, List.set_cons_succ]
            refine wpAnyH_take (i := 4) rfl (by kernel_rfl) (by kernel_rfl) (by kernel_rfl) (fun _ _ _ h => h) (yieldsIf_load_mid (by rfl) 28 _ rfl (w.heap.size + 1) 0 rfl (dc tb) _ (fun W hW => range_below Rtb.out hW hl9) Tryd.underlying28 rfl (size_dig tbD.out)) HS.out ?_
            simp only [Act.put, List.getElem_toArray, List.getElem_cons_zero, List.getElem_cons_succ, List.setIfInBounds_toArray, List.set_cons_zero, List.set_cons_succ]
            rw [dc_arr, dc_arr]
            refine wpAnyH_ready (rs := [5]) (by kernel_rfl) (by simp) ?_
            refine AllReadyH.cons rfl (fun K hK => ?_) AllReadyH.nil
            go_simp
            refine (two_any _ dq tb dqD.out tbD.out).mono ?_
            rintro e vdw ⟨vd, rfl, hvd, hBvd⟩
            have Hvd := hid hvd
            have BSvd := hid hBvd
            have HSvd := hid (HS.out.trans (hBvd.mono HS.out.size))
            clear hBvd hvd
            refine hK.out _ _ HSvd.out (fun _ => ?_)
            clear hK K
            have HS := hid HSvd.out
            refine wpAnyH_take (i := 6) (v := ?_) rfl (by kernel_rfl) (by kernel_rfl) (by kernel_rfl) (fun _ _ _ h => h) (Or.inl ⟨by rfl, ?q6⟩) HS.out ?_
            case q6 => intro w hSw; go_simp; rfl
            simp only [Act.put, List.getElem_toArray, List.getElem_cons_zero, List.getElem_cons_succ, List.setIfInBounds_toArray, List.set_cons_zero, List.set_cons_succ]
            refine wpAnyH_done (by kernel_rfl) ?_ _
            have HLb : Hid (HB vdw vc (wayB cs x a q)) := by rw [HWL.out]; exact ((show HB vcw.drew vc _ from Hvc.out).below BSvd.out)
            have HRb : Hid (HB vdw vd (wayB es x b q)) := by rw [HWR.out]; exact Hvd.out
            have HA9 : Hid (vdw.heap[w.heap.size]? = some (.cells (cellsB ta) 28 (0, 0))) := (HSvd.out.block _ hl8).trans HAq.out
            have HB9 : Hid (vdw.heap[w.heap.size + 1]? = some (.cells (cellsB tb) 28 (0, 0))) := (HSvd.out.block _ hl9).trans HBq.out
            have BL9 := hid (HBel.out.trans (HSvd.out.mono hwr))
            have CC := hid (clash_any vdw _ _ _ _ HLb.out HRb.out (by rw [HLNL.out]; decide) (by rw [HLNR.out]; decide))
            obtain ⟨cl, HCL⟩ : ∃ c, Hid (decide (wayB cs x a q ≠ wayB es x b q ∧ digL (wayB cs x a q) = digL (wayB es x b q)) = c) := ⟨_, rfl⟩
            rw [HCL.out] at CC
            go_wp2_with fail
            refine CC.out.mono ?_
            rintro e x1 ⟨rfl, hBx⟩
            have HLx := hid (HLb.out.below hBx)
            have HRx := hid (HRb.out.below hBx)
            have HAx : Hid (x1.heap[w.heap.size]? = some (.cells (cellsB ta) 28 (0, 0))) := (hBx.block _ (Array.getElem?_eq_some_iff.1 HA9.out).1).trans HA9.out
            have HBx : Hid (x1.heap[w.heap.size + 1]? = some (.cells (cellsB tb) 28 (0, 0))) := (hBx.block _ (Array.getElem?_eq_some_iff.1 HB9.out).1).trans HB9.out
            have BLx := hid (BL9.out.trans (hBx.mono BL9.out.size))
            clear hBx CC
            cases cl with
            | true =>
              go_wp2
              go_ret
              exact ⟨rfl, BLx.out⟩
            | false =>
              have HNOQ := hid (HNOS.out (of_decide_eq_false HCL.out))
              have CS1 := hid (rsum_any x1 _ _ HLx.out (by rw [HLNL.out]; decide))
              rw [← HSTL.out] at CS1
              obtain ⟨na, HNA⟩ : ∃ c, Hid (cellsB (clTo cs x a (q + 1)) = c) := ⟨_, rfl⟩
              obtain ⟨nb, HNB⟩ : ∃ c, Hid (cellsB (clTo es x b (q + 1)) = c) := ⟨_, rfl⟩
              have hna : na.size = 32 := by rw [← HNA.out, cellsB_size, (clTo_D cs HCD.out x a DA.out (q + 1) (by rw [HLC.out]; omega)).1]
              have hnb : nb.size = 32 := by rw [← HNB.out, cellsB_size, (clTo_D es HED.out x b DB.out (q + 1) (by rw [HLD.out]; omega)).1]
              have SNA : Hid ((Tryd.prog.info? 28).map (·.size) = some na.size) := by rw [hna]; exact size_digest
              have SNB : Hid ((Tryd.prog.info? 28).map (·.size) = some nb.size) := by rw [hnb]; exact size_digest
              have ONA : Hid (na.all (·.oneCell') = true) := by rw [← HNA.out]; exact cellsB_one _
              have ONB : Hid (nb.all (·.oneCell') = true) := by rw [← HNB.out]; exact cellsB_one _
              have hsa : (cellsB ta).size = 32 := by rw [cellsB_size, taD.out.1]
              have hsb : (cellsB tb).size = 32 := by rw [cellsB_size, tbD.out.1]
              have ZNA : Hid ((cellsB ta).size = na.size) := by refine hid ?_; rw [hsa, hna]
              have ZNB : Hid ((cellsB tb).size = nb.size) := by refine hid ?_; rw [hsb, hnb]
              have HSA := hid hsa
              rw [HNA.out] at CS1
              clear hna hnb hsa hsb
              go_wp2_with fail
              refine CS1.out.mono ?_
              rintro e x2 ⟨rfl, hBy⟩
              have HRy := hid (HRx.out.below hBy)
              have HAy : Hid (x2.heap[w.heap.size]? = some (.cells (cellsB ta) 28 (0, 0))) := (hBy.block _ (Array.getElem?_eq_some_iff.1 HAx.out).1).trans HAx.out
              have HBy : Hid (x2.heap[w.heap.size + 1]? = some (.cells (cellsB tb) 28 (0, 0))) := (hBy.block _ (Array.getElem?_eq_some_iff.1 HBx.out).1).trans HBx.out
              have BLy := hid (BLx.out.trans (hBy.mono BLx.out.size))
              obtain ⟨x3, HX3⟩ : ∃ x3, Hid (x2.setRow w.heap.size na = x3) := ⟨_, rfl⟩
              have HRz : Hid (HB x3 vd (wayB es x b q)) := by rw [← HX3.out]; exact HRy.out.keep (by rw [HLNR.out]; decide) HAy.out HSA.out na
              have HAz : Hid (x3.heap[w.heap.size]? = some (.cells na 28 (0, 0))) := by rw [← HX3.out]; exact setRow_heap _ _ _ _ _ _ HAy.out
              have HBz : Hid (x3.heap[w.heap.size + 1]? = some (.cells (cellsB tb) 28 (0, 0))) := by rw [← HX3.out]; exact (setRow_other _ _ _ _ (by omega)).trans HBy.out
              have BLz : Hid (Below w.heap.size w x3) := by rw [← HX3.out]; exact below_setRow BLy.out (Nat.le_refl _) _
              have CS2 := hid (rsum_any x3 _ _ HRz.out (by rw [HLNR.out]; decide))
              rw [← HSTR.out, HNB.out] at CS2
              clear hBy CS1
              go_wp2_with (first | (refine wpList_store_row rfl 28 _ _ rfl w.heap.size na rfl rfl 28 (cellsB ta) HAy.out SNA.out ZNA.out ONA.out ?_; rw [HX3.out]) | fail)
              refine CS2.out.mono ?_
              rintro e x4 ⟨rfl, hBu⟩
              have HAu : Hid (x4.heap[w.heap.size]? = some (.cells na 28 (0, 0))) := (hBu.block _ (Array.getElem?_eq_some_iff.1 HAz.out).1).trans HAz.out
              have HBu : Hid (x4.heap[w.heap.size + 1]? = some (.cells (cellsB tb) 28 (0, 0))) := (hBu.block _ (Array.getElem?_eq_some_iff.1 HBz.out).1).trans HBz.out
              have BLu := hid (BLz.out.trans (hBu.mono BLz.out.size))
              obtain ⟨x5, HX5⟩ : ∃ x5, Hid (x4.setRow (w.heap.size + 1) nb = x5) := ⟨_, rfl⟩
              have HAv : Hid (x5.heap[w.heap.size]? = some (.cells (cellsB (clTo cs x a (q + 1))) 28 (0, 0))) := by rw [← HX5.out, HNA.out]; exact (setRow_other _ _ _ _ (by omega)).trans HAu.out
              have HBv : Hid (x5.heap[w.heap.size + 1]? = some (.cells (cellsB (clTo es x b (q + 1))) 28 (0, 0))) := by rw [← HX5.out, HNB.out]; exact setRow_heap _ _ _ _ _ _ HBu.out
              have BLv : Hid (Below w.heap.size w x5) := by rw [← HX5.out]; exact below_setRow BLu.out (by omega) _
              clear hBu CS2
              go_wp2_with (refine wpList_store_row rfl 28 _ _ rfl (w.heap.size + 1) nb rfl rfl 28 (cellsB tb) HBu.out SNB.out ZNB.out ONB.out ?_; rw [HX5.out])
              exact ⟨⟨q + 1, by omega, by go_num, by rw [← hdd.out]; exact congrArg (Value.int .i64) (by omega), HAv, HBv, HNOQ, BLv⟩, by simp [intOf]; omega⟩
    · rw [decide_eq_false h1] at hqe
      have HNE : Hid (¬ (a = b ∧ cs = es)) := fun h => h1 h.1
      clear h1
      have ATS3 := hid BL5.out
      have ATS1 : Hid (W5.heap[w.heap.size]? = some (.cells (cellsB (clTo cs x a 0)) 28 (0, 0))) := by
        rw [show clTo cs x a 0 = a from rfl, HXA.out]; exact H85
      have ATS2 : Hid (W5.heap[w.heap.size + 1]? = some (.cells (cellsB (clTo es x b 0)) 28 (0, 0))) := by
        rw [show clTo es x b 0 = b from rfl, HXB.out]; exact H95
      go_wp2_with (first | (refine wpList_alloc_digest rfl rfl ?_; rw [HZD.out]) | (refine wpList_store_row rfl 28 _ _ rfl w4.heap.size c2 rfl rfl 28 zd (heap_alloc_new w4 _) SD2.out ZC2.out O2.out ?_; rw [setRow_alloc_newT, hW5.out]) | (refine wpList_load_row_on rfl 28 _ rfl w2.heap.size rfl 28 c1 (0, 0) _ HR15.out Tryd.underlying28 rfl SD1.out ?_) | (refine wpList_load_row_on rfl 28 _ rfl w4.heap.size rfl 28 c2 (0, 0) _ HR25.out Tryd.underlying28 rfl SD2.out ?_) | (refine wpList_load_row rfl 28 _ rfl w.heap.size rfl 28 xa (0, 0) _ H85.out Tryd.underlying28 rfl SA.out ?_) | (refine wpList_load_row rfl 28 _ rfl (w.heap.size + 1) rfl 28 xb (0, 0) _ H95.out Tryd.underlying28 rfl SB.out ?_) | fail)
      clear hq hqe HSM
      go_loopw [17, 18] (fun pl j wr => ∃ q : Nat, q ≤ ld ∧ j = .int .i64 q ∧ pl = .int .i64 ((i2 / 2 ^ q : Nat) : Int) ∧ Hid (wr.heap[w.heap.size]? = some (.cells (cellsB (clTo cs x a q)) 28 (0, 0))) ∧ Hid (wr.heap[w.heap.size + 1]? = some (.cells (cellsB (clTo es x b q)) 28 (0, 0))) ∧ Hid (∀ p, p < q → ¬ (wayB cs x a p ≠ wayB es x b p ∧ digL (wayB cs x a p) = digL (wayB es x b p))) ∧ Hid (Below w.heap.size w wr)) (fun _ j _ => ld - (intOf j).toNat)
      case atStart => exact ⟨0, Nat.zero_le _, rfl, by rw [Nat.pow_zero, Nat.div_one], ATS1, ATS2, (fun p hp => by omega), ATS3⟩
      case round =>
        clear ATS1 ATS2 ATS3
        obtain ⟨q, hq1, rfl, rfl, HAq, HBq, HNOC, HBel⟩ := hrel
        by_cases hlt : q < ld
        case neg =>
          exfalso
          obtain rfl : q = ld := by omega
          exact HNE.out (way_one HCD.out HED.out DA.out DB.out (by rw [HLC.out, HLD.out]) (fun p hp => HNOC.out p (by rw [HLC.out] at hp; exact hp)) HTOP.out)
        case pos =>
          have hlti : (q : Int) < (ld : Int) := by omega
          obtain ⟨bc, oc, cc', e1, _, _, hbc, hrc⟩ := HC.out.ne (by rw [HLC.out]; omega)
          obtain ⟨bd, od, cd', e2, _, _, hbd, hrd⟩ := HE.out.ne (by rw [HLD.out]; omega)
          rw [HLC.out] at e1
          rw [HLD.out] at e2
          simp only [Value.slice.injEq] at e1 e2
          obtain ⟨rfl, -, -⟩ := e1
          obtain ⟨rfl, -, -⟩ := e2
          have hwr := HBel.out.size
          have Rcq := hid (range_below (hrc q (by rw [HLC.out]; exact hlt)) HBel.out hbc)
          have Rdq := hid (range_below (hrd q (by rw [HLD.out]; exact hlt)) HBel.out hbd)
          have HBBcq : Hid (bc < wr.heap.size) := by refine hid ?_; omega
          have HBBdq : Hid (bd < wr.heap.size) := by refine hid ?_; omega
          have cqD := hid (getD_D HCD.out q (by rw [HLC.out]; exact hlt))
          have dqD := hid (getD_D HED.out q (by rw [HLD.out]; exact hlt))
          have taD := hid (clTo_D cs HCD.out x a DA.out q (by rw [HLC.out]; omega))
          have tbD := hid (clTo_D es HED.out x b DB.out q (by rw [HLD.out]; omega))
          have HWL : Hid (wayB cs x a q = if (i2 / 2 ^ q) % 2 = 1 then ndB (cs.getD q []) (clTo cs x a q) else ndB (clTo cs x a q) (cs.getD q [])) := by
            unfold wayB; rw [HX.out, par_leaf ld i2 q hlt]; exact rfl
          have HWR : Hid (wayB es x b q = if (i2 / 2 ^ q) % 2 = 1 then ndB (es.getD q []) (clTo es x b q) else ndB (clTo es x b q) (es.getD q [])) := by
            unfold wayB; rw [HX.out, par_leaf ld i2 q hlt]; exact rfl
          have HSTL := hid (wayB_step cs x a q (by rw [HLC.out]; exact hlt))
          have HSTR := hid (wayB_step es x b q (by rw [HLD.out]; exact hlt))
          have HLNL := hid (wayB_len (x := x) HCD.out DA.out (show q < cs.length by rw [HLC.out]; exact hlt))
          have HLNR := hid (wayB_len (x := x) HED.out DB.out (show q < es.length by rw [HLD.out]; exact hlt))
          have HNOS : Hid (¬ (wayB cs x a q ≠ wayB es x b q ∧ digL (wayB cs x a q) = digL (wayB es x b q)) → ∀ p, p < q + 1 → ¬ (wayB cs x a p ≠ wayB es x b p ∧ digL (wayB cs x a p) = digL (wayB es x b p))) := fun h p hp => by
            by_cases e : p = q
            · subst e; exact h
            · exact HNOC.out p (by omega)
          generalize cs.getD q [] = cq at Rcq cqD HWL
          generalize es.getD q [] = dq at Rdq dqD HWR
          obtain ⟨ta, HTA⟩ : ∃ t, Hid (clTo cs x a q = t) := ⟨_, rfl⟩
          obtain ⟨tb, HTB⟩ : ∃ t, Hid (clTo es x b q = t) := ⟨_, rfl⟩
          rw [HTA.out] at HAq taD HWL
          rw [HTB.out] at HBq tbD HWR
          have Rta : Hid (wr.rangeAt w.heap.size 0 (dc ta)) := fun j v hj => by rw [Nat.zero_add, cell_of_row wr _ j _ _ _ HAq.out, ← dc_arr, List.getElem?_toArray]; exact hj
          have Rtb : Hid (wr.rangeAt (w.heap.size + 1) 0 (dc tb)) := fun j v hj => by rw [Nat.zero_add, cell_of_row wr _ j _ _ _ HBq.out, ← dc_arr, List.getElem?_toArray]; exact hj
          have hl8 : w.heap.size < wr.heap.size := (Array.getElem?_eq_some_iff.1 HAq.out).1
          have hl9 : w.heap.size + 1 < wr.heap.size := (Array.getElem?_eq_some_iff.1 HBq.out).1
          have etm := tmod2 (i2 / 2 ^ q)
          have etd := tdiv2' (i2 / 2 ^ q)
          have hdd : Hid (i2 / 2 ^ q / 2 = i2 / 2 ^ (q + 1)) := by rw [Nat.div_div_eq_div_mul, ← Nat.pow_succ]; exact rfl
          have hpl : i2 / 2 ^ q ≤ 511 := Nat.le_trans (Nat.div_le_self _ _) (by omega)
          have HBelr := hid (Below.refl wr.heap.size wr)
          obtain ⟨pl, HPL⟩ : ∃ p, Hid (i2 / 2 ^ q = p) := ⟨_, rfl⟩
          rw [HPL.out] at etm etd hdd hpl HWL HWR ⊢
          have ewq : IntKind.i64.wrap ((q : Int) + 1) = (q : Int) + 1 := by rw [IntKind.wrap_i64]; omega
          have ewd : IntKind.i64.wrap ((pl / 2 : Nat) : Int) = ((pl / 2 : Nat) : Int) := by rw [IntKind.wrap_i64]; omega
          have ewm : IntKind.i64.wrap ((pl % 2 : Nat) : Int) = ((pl % 2 : Nat) : Int) := by rw [IntKind.wrap_i64]; omega
          clear hrc hrd HNOC
          go_wp2
          refine wp_region_held_drew (S := Below wr.heap.size wr) (by kernel_rfl) HBelr.out.drew (fun hHeld => ?_)
          have HS := hid hHeld
          clear hHeld
          change wpAnyH _ _ _ _ _ _ _ _ (World.drew _)
          refine wpAnyH_take (i := 0) rfl (by kernel_rfl) (by kernel_rfl) (by kernel_rfl) (fun _ _ _ h => h) (yieldsIf_load_mid (by rfl) 28 _ rfl w.heap.size 0 rfl (dc ta) _ (fun W hW => range_below Rta.out hW hl8) Tryd.underlying28 rfl (size_dig taD.out)) HS.out ?_
          simp only [Act.put, List.getElem_toArray, List.getElem_cons_zero, List.getElem_cons_succ, List.setIfInBounds_toArray, List.set_cons_zero, List.set_cons_succ]
          refine wpAnyH_take (i := 1) (v := ?_) rfl (by kernel_rfl) (by kernel_rfl) (by kernel_rfl) (fun _ _ _ h => h) (Or.inl ⟨by rfl, ?q1⟩) HS.out ?_
          case q1 => intro w hSw; go_simp; rfl
          simp only [Act.put, List.getElem_toArray, List.getElem_cons_zero, List.getElem_cons_succ, List.setIfInBounds_toArray, List.set_cons_zero, List.set_cons_succ]
          refine wpAnyH_take (i := 2) (v := ?_) rfl (by kernel_rfl) (by kernel_rfl) (by kernel_rfl) (fun _ _ _ h => h) (Or.inl ⟨by rfl, ?q2⟩) HS.out ?_
          case q2 => intro w hSw; go_simp; rfl
          simp only [Act.put, List.getElem_toArray, List.getElem_cons_zero, List.getElem_cons_succ, List.setIfInBounds_toArray, List.set_cons_zero, List.set_cons_succ]
          refine wpAnyH_take (i := 3) (v := .pointer (some ⟨bc, oc + q * 32, none⟩)) rfl (by kernel_rfl) (by kernel_rfl) (by kernel_rfl) (fun _ _ _ h => h) (Or.inl ⟨by rfl, ?q3⟩) HS.out ?_
          case q3 => intro w hSw; go_simp
          simp only [Act.put, List.getElem_toArray, List.getElem_cons_zero, List.getElem_cons_succ, List.setIfInBounds_toArray, List.set_cons_zero, List.set_cons_succ]
          refine wpAnyH_take (i := 4) rfl (by kernel_rfl) (by kernel_rfl) (by kernel_rfl) (fun _ _ _ h => h) (yieldsIf_load_mid (by rfl) 28 _ rfl bc (oc + q * 32) rfl (dc cq) _ (fun W hW => range_below Rcq.out hW HBBcq.out) Tryd.underlying28 rfl (size_dig cqD.out)) HS.out ?_
          simp only [Act.put, List.getElem_toArray, List.getElem_cons_zero, List.getElem_cons_succ, List.setIfInBounds_toArray, List.set_cons_zero, List.set_cons_succ]
          rw [dc_arr, dc_arr]
          refine wpAnyH_ready (rs := [5]) (by kernel_rfl) (by simp) ?_
          refine AllReadyH.cons rfl (fun K hK => ?_) AllReadyH.nil
          go_simp
          refine (two_any _ ta cq taD.out cqD.out).mono ?_
          rintro e vaw ⟨va, rfl, hva, hBva⟩
          have Hva := hid hva
          have BSva := hid hBva
          have HSva := hid (HS.out.trans (hBva.mono HS.out.size))
          clear hBva hva
          refine hK.out _ _ HSva.out (fun _ => ?_)
          clear hK K
          have HS := hid HSva.out
          refine wpAnyH_take (i := 6) (v := ?_) rfl (by kernel_rfl) (by kernel_rfl) (by kernel_rfl) (fun _ _ _ h => h) (Or.inl ⟨by rfl, ?q6⟩) HS.out ?_
          case q6 => intro w hSw; go_simp; rfl
          simp only [Act.put, List.getElem_toArray, List.getElem_cons_zero, List.getElem_cons_succ, List.setIfInBounds_toArray, List.set_cons_zero, List.set_cons_succ]
          refine wpAnyH_done (by kernel_rfl) ?_ _
          go_wp2
          refine wp_region_held_drew (S := Below wr.heap.size wr) (by kernel_rfl) HSva.out.drew (fun hHeld => ?_)
          have HS := hid hHeld
          clear hHeld
          change wpAnyH _ _ _ _ _ _ _ _ (World.drew _)
          refine wpAnyH_take (i := 0) rfl (by kernel_rfl) (by kernel_rfl) (by kernel_rfl) (fun _ _ _ h => h) (yieldsIf_load_mid (by rfl) 28 _ rfl (w.heap.size + 1) 0 rfl (dc tb) _ (fun W hW => range_below Rtb.out hW hl9) Tryd.underlying28 rfl (size_dig tbD.out)) HS.out ?_
          simp only [Act.put, List.getElem_toArray, List.getElem_cons_zero, List.getElem_cons_succ, List.setIfInBounds_toArray, List.set_cons_zero, List.set_cons_succ]
          refine wpAnyH_take (i := 1) (v := ?_) rfl (by kernel_rfl) (by kernel_rfl) (by kernel_rfl) (fun _ _ _ h => h) (Or.inl ⟨by rfl, ?q1⟩) HS.out ?_
          case q1 => intro w hSw; go_simp; rfl
          simp only [Act.put, List.getElem_toArray, List.getElem_cons_zero, List.getElem_cons_succ, List.setIfInBounds_toArray, List.set_cons_zero, List.set_cons_succ]
          refine wpAnyH_take (i := 2) (v := ?_) rfl (by kernel_rfl) (by kernel_rfl) (by kernel_rfl) (fun _ _ _ h => h) (Or.inl ⟨by rfl, ?q2⟩) HS.out ?_
          case q2 => intro w hSw; go_simp; rfl
          simp only [Act.put, List.getElem_toArray, List.getElem_cons_zero, List.getElem_cons_succ, List.setIfInBounds_toArray, List.set_cons_zero, List.set_cons_succ]
          refine wpAnyH_take (i := 3) (v := .pointer (some ⟨bd, od + q * 32, none⟩)) rfl (by kernel_rfl) (by kernel_rfl) (by kernel_rfl) (fun _ _ _ h => h) (Or.inl ⟨by rfl, ?q3⟩) HS.out ?_
          case q3 => intro w hSw; go_simp
          simp only [Act.put, List.getElem_toArray, List.getElem_cons_zero, List.getElem_cons_succ, List.setIfInBounds_toArray, List.set_cons_zero, List.set_cons_succ]
          refine wpAnyH_take (i := 4) rfl (by kernel_rfl) (by kernel_rfl) (by kernel_rfl) (fun _ _ _ h => h) (yieldsIf_load_mid (by rfl) 28 _ rfl bd (od + q * 32) rfl (dc dq) _ (fun W hW => range_below Rdq.out hW HBBdq.out) Tryd.underlying28 rfl (size_dig dqD.out)) HS.out ?_
          simp only [Act.put, List.getElem_toArray, List.getElem_cons_zero, List.getElem_cons_succ, List.setIfInBounds_toArray, List.set_cons_zero, List.set_cons_succ]
          rw [dc_arr, dc_arr]
          refine wpAnyH_ready (rs := [5]) (by kernel_rfl) (by simp) ?_
          refine AllReadyH.cons rfl (fun K hK => ?_) AllReadyH.nil
          go_simp
          refine (two_any _ tb dq tbD.out dqD.out).mono ?_
          rintro e vbw ⟨vb, rfl, hvb, hBvb⟩
          have Hvb := hid hvb
          have BSvb := hid hBvb
          have HSvb := hid (HS.out.trans (hBvb.mono HS.out.size))
          clear hBvb hvb
          refine hK.out _ _ HSvb.out (fun _ => ?_)
          clear hK K
          have HS := hid HSvb.out
          refine wpAnyH_take (i := 6) (v := ?_) rfl (by kernel_rfl) (by kernel_rfl) (by kernel_rfl) (fun _ _ _ h => h) (Or.inl ⟨by rfl, ?q6⟩) HS.out ?_
          case q6 => intro w hSw; go_simp; rfl
          simp only [Act.put, List.getElem_toArray, List.getElem_cons_zero, List.getElem_cons_succ, List.setIfInBounds_toArray, List.set_cons_zero, List.set_cons_succ]
          refine wpAnyH_done (by kernel_rfl) ?_ _
          by_cases hpar : pl % 2 = 1
          case neg =>
            have hpar0 : pl % 2 = 0 := by omega
            have etm0 : ((pl % 2 : Nat) : Int) = 0 := by rw [hpar0]; rfl
            rw [etm0] at etm ewm
            rw [if_neg hpar] at HWL HWR
            clear hpar hpar0 etm0
            have HLb : Hid (HB vbw va (wayB cs x a q)) := by rw [HWL.out]; exact ((show HB vaw.drew va _ from Hva.out).below BSvb.out)
            have HRb : Hid (HB vbw vb (wayB es x b q)) := by rw [HWR.out]; exact Hvb.out
            have HA9 : Hid (vbw.heap[w.heap.size]? = some (.cells (cellsB ta) 28 (0, 0))) := (HSvb.out.block _ hl8).trans HAq.out
            have HB9 : Hid (vbw.heap[w.heap.size + 1]? = some (.cells (cellsB tb) 28 (0, 0))) := (HSvb.out.block _ hl9).trans HBq.out
            have BL9 := hid (HBel.out.trans (HSvb.out.mono hwr))
            have CC := hid (clash_any vbw _ _ _ _ HLb.out HRb.out (by rw [HLNL.out]; decide) (by rw [HLNR.out]; decide))
            obtain ⟨cl, HCL⟩ : ∃ c, Hid (decide (wayB cs x a q ≠ wayB es x b q ∧ digL (wayB cs x a q) = digL (wayB es x b q)) = c) := ⟨_, rfl⟩
            rw [HCL.out] at CC
            go_wp2_with fail
            refine CC.out.mono ?_
            rintro e x1 ⟨rfl, hBx⟩
            have HLx := hid (HLb.out.below hBx)
            have HRx := hid (HRb.out.below hBx)
            have HAx : Hid (x1.heap[w.heap.size]? = some (.cells (cellsB ta) 28 (0, 0))) := (hBx.block _ (Array.getElem?_eq_some_iff.1 HA9.out).1).trans HA9.out
            have HBx : Hid (x1.heap[w.heap.size + 1]? = some (.cells (cellsB tb) 28 (0, 0))) := (hBx.block _ (Array.getElem?_eq_some_iff.1 HB9.out).1).trans HB9.out
            have BLx := hid (BL9.out.trans (hBx.mono BL9.out.size))
            clear hBx CC
            cases cl with
            | true =>
              go_wp2
              go_ret
              exact ⟨rfl, BLx.out⟩
            | false =>
              have HNOQ := hid (HNOS.out (of_decide_eq_false HCL.out))
              have CS1 := hid (rsum_any x1 _ _ HLx.out (by rw [HLNL.out]; decide))
              rw [← HSTL.out] at CS1
              obtain ⟨na, HNA⟩ : ∃ c, Hid (cellsB (clTo cs x a (q + 1)) = c) := ⟨_, rfl⟩
              obtain ⟨nb, HNB⟩ : ∃ c, Hid (cellsB (clTo es x b (q + 1)) = c) := ⟨_, rfl⟩
              have hna : na.size = 32 := by rw [← HNA.out, cellsB_size, (clTo_D cs HCD.out x a DA.out (q + 1) (by rw [HLC.out]; omega)).1]
              have hnb : nb.size = 32 := by rw [← HNB.out, cellsB_size, (clTo_D es HED.out x b DB.out (q + 1) (by rw [HLD.out]; omega)).1]
              have SNA : Hid ((Tryd.prog.info? 28).map (·.size) = some na.size) := by rw [hna]; exact size_digest
              have SNB : Hid ((Tryd.prog.info? 28).map (·.size) = some nb.size) := by rw [hnb]; exact size_digest
              have ONA : Hid (na.all (·.oneCell') = true) := by rw [← HNA.out]; exact cellsB_one _
              have ONB : Hid (nb.all (·.oneCell') = true) := by rw [← HNB.out]; exact cellsB_one _
              have hsa : (cellsB ta).size = 32 := by rw [cellsB_size, taD.out.1]
              have hsb : (cellsB tb).size = 32 := by rw [cellsB_size, tbD.out.1]
              have ZNA : Hid ((cellsB ta).size = na.size) := by refine hid ?_; rw [hsa, hna]
              have ZNB : Hid ((cellsB tb).size = nb.size) := by refine hid ?_; rw [hsb, hnb]
              have HSA := hid hsa
              rw [HNA.out] at CS1
              clear hna hnb hsa hsb
              go_wp2_with fail
              refine CS1.out.mono ?_
              rintro e x2 ⟨rfl, hBy⟩
              have HRy := hid (HRx.out.below hBy)
              have HAy : Hid (x2.heap[w.heap.size]? = some (.cells (cellsB ta) 28 (0, 0))) := (hBy.block _ (Array.getElem?_eq_some_iff.1 HAx.out).1).trans HAx.out
              have HBy : Hid (x2.heap[w.heap.size + 1]? = some (.cells (cellsB tb) 28 (0, 0))) := (hBy.block _ (Array.getElem?_eq_some_iff.1 HBx.out).1).trans HBx.out
              have BLy := hid (BLx.out.trans (hBy.mono BLx.out.size))
              obtain ⟨x3, HX3⟩ : ∃ x3, Hid (x2.setRow w.heap.size na = x3) := ⟨_, rfl⟩
              have HRz : Hid (HB x3 vb (wayB es x b q)) := by rw [← HX3.out]; exact HRy.out.keep (by rw [HLNR.out]; decide) HAy.out HSA.out na
              have HAz : Hid (x3.heap[w.heap.size]? = some (.cells na 28 (0, 0))) := by rw [← HX3.out]; exact setRow_heap _ _ _ _ _ _ HAy.out
              have HBz : Hid (x3.heap[w.heap.size + 1]? = some (.cells (cellsB tb) 28 (0, 0))) := by rw [← HX3.out]; exact (setRow_other _ _ _ _ (by omega)).trans HBy.out
              have BLz : Hid (Below w.heap.size w x3) := by rw [← HX3.out]; exact below_setRow BLy.out (Nat.le_refl _) _
              have CS2 := hid (rsum_any x3 _ _ HRz.out (by rw [HLNR.out]; decide))
              rw [← HSTR.out, HNB.out] at CS2
              clear hBy CS1
              go_wp2_with (first | (refine wpList_store_row rfl 28 _ _ rfl w.heap.size na rfl rfl 28 (cellsB ta) HAy.out SNA.out ZNA.out ONA.out ?_; rw [HX3.out]) | fail)
              refine CS2.out.mono ?_
              rintro e x4 ⟨rfl, hBu⟩
              have HAu : Hid (x4.heap[w.heap.size]? = some (.cells na 28 (0, 0))) := (hBu.block _ (Array.getElem?_eq_some_iff.1 HAz.out).1).trans HAz.out
              have HBu : Hid (x4.heap[w.heap.size + 1]? = some (.cells (cellsB tb) 28 (0, 0))) := (hBu.block _ (Array.getElem?_eq_some_iff.1 HBz.out).1).trans HBz.out
              have BLu := hid (BLz.out.trans (hBu.mono BLz.out.size))
              obtain ⟨x5, HX5⟩ : ∃ x5, Hid (x4.setRow (w.heap.size + 1) nb = x5) := ⟨_, rfl⟩
              have HAv : Hid (x5.heap[w.heap.size]? = some (.cells (cellsB (clTo cs x a (q + 1))) 28 (0, 0))) := by rw [← HX5.out, HNA.out]; exact (setRow_other _ _ _ _ (by omega)).trans HAu.out
              have HBv : Hid (x5.heap[w.heap.size + 1]? = some (.cells (cellsB (clTo es x b (q + 1))) 28 (0, 0))) := by rw [← HX5.out, HNB.out]; exact setRow_heap _ _ _ _ _ _ HBu.out
              have BLv : Hid (Below w.heap.size w x5) := by rw [← HX5.out]; exact below_setRow BLu.out (by omega) _
              clear hBu CS2
              go_wp2_with (refine wpList_store_row rfl 28 _ _ rfl (w.heap.size + 1) nb rfl rfl 28 (cellsB tb) HBu.out SNB.out ZNB.out ONB.out ?_; rw [HX5.out])
              exact ⟨⟨q + 1, by omega, by go_num, by rw [← hdd.out]; exact congrArg (Value.int .i64) (by omega), HAv, HBv, HNOQ, BLv⟩, by simp [intOf]; omega⟩
          case pos =>
            have etm0 : ((pl % 2 : Nat) : Int) = 1 := by rw [hpar]; rfl
            rw [etm0] at etm ewm
            rw [if_pos hpar] at HWL HWR
            clear hpar etm0 Hva Hvb
            go_wp2
            refine wp_region_held_drew (S := Below wr.heap.size wr) (by kernel_rfl) HSvb.out.drew (fun hHeld => ?_)
            have HS := hid hHeld
            clear hHeld
            change wpAnyH _ _ _ _ _ _ _ _ (World.drew _)
            refine wpAnyH_take (i := 0) (v := ?_) rfl (by kernel_rfl) (by kernel_rfl) (by kernel_rfl) (fun _ _ _ h => h) (Or.inl ⟨by rfl, ?q0⟩) HS.out ?_
            case q0 => intro w hSw; go_simp; rfl
            simp only [Act.put, List.getElem_toArray, List.getElem_cons_zero, List.getElem_cons_succ, List.setIfInBounds_toArray, List.set_cons_zero, List.set_cons_succ]
            refine wpAnyH_take (i := 1) (v := ?_) rfl (by kernel_rfl) (by kernel_rfl) (by kernel_rfl) (fun _ _ _ h => h) (Or.inl ⟨by rfl, ?q1⟩) HS.out ?_
            case q1 => intro w hSw; go_simp; rfl
            simp only [Act.put, List.getElem_toArray, List.getElem_cons_zero, List.getElem_cons_succ, List.setIfInBounds_toArray, List.set_cons_zero, List.set_cons_succ]
            refine wpAnyH_take (i := 2) (v := .pointer (some ⟨bc, oc + q * 32, none⟩)) rfl (by kernel_rfl) (by kernel_rfl) (by kernel_rfl) (fun _ _ _ h => h) (Or.inl ⟨by rfl, ?q2⟩) HS.out ?_
            case q2 => intro w hSw; go_simp
            simp only [Act.put, List.getElem_toArray, List.getElem_cons_zero, List.getElem_cons_succ, List.setIfInBounds_toArray, List.set_cons_zero, List.set_cons_succ]
            refine wpAnyH_take (i := 3) rfl (by kernel_rfl) (by kernel_rfl) (by kernel_rfl) (fun _ _ _ h => h) (yieldsIf_load_mid (by rfl) 28 _ rfl bc (oc + q * 32) rfl (dc cq) _ (fun W hW => range_below Rcq.out hW HBBcq.out) Tryd.underlying28 rfl (size_dig cqD.out)) HS.out ?_
            simp only [Act.put, List.getElem_toArray, List.getElem_cons_zero, List.getElem_cons_succ, List.setIfInBounds_toArray, List.set_cons_zero, List.set_cons_succ]
            refine wpAnyH_take (i := 4) rfl (by kernel_rfl) (by kernel_rfl) (by kernel_rfl) (fun _ _ _ h => h) (yieldsIf_load_mid (by rfl) 28 _ rfl w.heap.size 0 rfl (dc ta) _ (fun W hW => range_below Rta.out hW hl8) Tryd.underlying28 rfl (size_dig taD.out)) HS.out ?_
            simp only [Act.put, List.getElem_toArray, List.getElem_cons_zero, List.getElem_cons_succ, List.setIfInBounds_toArray, List.set_cons_zero, List.set_cons_succ]
            rw [dc_arr, dc_arr]
            refine wpAnyH_ready (rs := [5]) (by kernel_rfl) (by simp) ?_
            refine AllReadyH.cons rfl (fun K hK => ?_) AllReadyH.nil
            go_simp
            refine (two_any _ cq ta cqD.out taD.out).mono ?_
            rintro e vcw ⟨vc, rfl, hvc, hBvc⟩
            have Hvc := hid hvc
            have BSvc := hid hBvc
            have HSvc := hid (HS.out.trans (hBvc.mono HS.out.size))
            clear hBvc hvc
            refine hK.out _ _ HSvc.out (fun _ => ?_)
            clear hK K
            have HS := hid HSvc.out
            refine wpAnyH_take (i := 6) (v := ?_) rfl (by kernel_rfl) (by kernel_rfl) (by kernel_rfl) (fun _ _ _ h => h) (Or.inl ⟨by rfl, ?q6⟩) HS.out ?_
            case q6 => intro w hSw; go_simp; rfl
            simp only [Act.put, List.getElem_toArray, List.getElem_cons_zero, List.getElem_cons_succ, List.setIfInBounds_toArray, List.set_cons_zero, List.set_cons_succ]
            refine wpAnyH_done (by kernel_rfl) ?_ _
            go_wp2
            refine wp_region_held_drew (S := Below wr.heap.size wr) (by kernel_rfl) HSvc.out.drew (fun hHeld => ?_)
            have HS := hid hHeld
            clear hHeld
            change wpAnyH _ _ _ _ _ _ _ _ (World.drew _)
            refine wpAnyH_take (i := 0) (v := ?_) rfl (by kernel_rfl) (by kernel_rfl) (by kernel_rfl) (fun _ _ _ h => h) (Or.inl ⟨by rfl, ?q0⟩) HS.out ?_
            case q0 => intro w hSw; go_simp; rfl
            simp only [Act.put, List.getElem_toArray, List.getElem_cons_zero, List.getElem_cons_succ, List.setIfInBounds_toArray, List.set_cons_zero, List.set_cons_succ]
            refine wpAnyH_take (i := 1) (v := ?_) rfl (by kernel_rfl) (by kernel_rfl) (by kernel_rfl) (fun _ _ _ h => h) (Or.inl ⟨by rfl, ?q1⟩) HS.out ?_
            case q1 => intro w hSw; go_simp; rfl
            simp only [Act.put, List.getElem_toArray, List.getElem_cons_zero, List.getElem_cons_succ, List.setIfInBounds_toArray, List.set_cons_zero, List.set_cons_succ]
            refine wpAnyH_take (i := 2) (v := .pointer (some ⟨bd, od + q * 32, none⟩)) rfl (by kernel_rfl) (by kernel_rfl) (by kernel_rfl) (fun _ _ _ h => h) (Or.inl ⟨by rfl, ?q2⟩) HS.out ?_
            case q2 => intro w hSw; go_simp
            simp only [Act.put, List.getElem_toArray, List.getElem_cons_zero, List.getElem_cons_succ, List.setIfInBounds_toArray, List.set_cons_zero, List.set_cons_succ]
            refine wpAnyH_take (i := 3) rfl (by kernel_rfl) (by kernel_rfl) (by kernel_rfl) (fun _ _ _ h => h) (yieldsIf_load_mid (by rfl) 28 _ rfl bd (od + q * 32) rfl (dc dq) _ (fun W hW => range_below Rdq.out hW HBBdq.out) Tryd.underlying28 rfl (size_dig dqD.out)) HS.out ?_
            simp only [Act.put, List.getElem_toArray, List.getElem_cons_zero, List.getElem_cons_succ, List.setIfInBounds_toArray, List.set_cons_zero, List.set_cons_succ]
            refine wpAnyH_take (i := 4) rfl (by kernel_rfl) (by kernel_rfl) (by kernel_rfl) (fun _ _ _ h => h) (yieldsIf_load_mid (by rfl) 28 _ rfl (w.heap.size + 1) 0 rfl (dc tb) _ (fun W hW => range_below Rtb.out hW hl9) Tryd.underlying28 rfl (size_dig tbD.out)) HS.out ?_
            simp only [Act.put, List.getElem_toArray, List.getElem_cons_zero, List.getElem_cons_succ, List.setIfInBounds_toArray, List.set_cons_zero, List.set_cons_succ]
            rw [dc_arr, dc_arr]
            refine wpAnyH_ready (rs := [5]) (by kernel_rfl) (by simp) ?_
            refine AllReadyH.cons rfl (fun K hK => ?_) AllReadyH.nil
            go_simp
            refine (two_any _ dq tb dqD.out tbD.out).mono ?_
            rintro e vdw ⟨vd, rfl, hvd, hBvd⟩
            have Hvd := hid hvd
            have BSvd := hid hBvd
            have HSvd := hid (HS.out.trans (hBvd.mono HS.out.size))
            clear hBvd hvd
            refine hK.out _ _ HSvd.out (fun _ => ?_)
            clear hK K
            have HS := hid HSvd.out
            refine wpAnyH_take (i := 6) (v := ?_) rfl (by kernel_rfl) (by kernel_rfl) (by kernel_rfl) (fun _ _ _ h => h) (Or.inl ⟨by rfl, ?q6⟩) HS.out ?_
            case q6 => intro w hSw; go_simp; rfl
            simp only [Act.put, List.getElem_toArray, List.getElem_cons_zero, List.getElem_cons_succ, List.setIfInBounds_toArray, List.set_cons_zero, List.set_cons_succ]
            refine wpAnyH_done (by kernel_rfl) ?_ _
            have HLb : Hid (HB vdw vc (wayB cs x a q)) := by rw [HWL.out]; exact ((show HB vcw.drew vc _ from Hvc.out).below BSvd.out)
            have HRb : Hid (HB vdw vd (wayB es x b q)) := by rw [HWR.out]; exact Hvd.out
            have HA9 : Hid (vdw.heap[w.heap.size]? = some (.cells (cellsB ta) 28 (0, 0))) := (HSvd.out.block _ hl8).trans HAq.out
            have HB9 : Hid (vdw.heap[w.heap.size + 1]? = some (.cells (cellsB tb) 28 (0, 0))) := (HSvd.out.block _ hl9).trans HBq.out
            have BL9 := hid (HBel.out.trans (HSvd.out.mono hwr))
            have CC := hid (clash_any vdw _ _ _ _ HLb.out HRb.out (by rw [HLNL.out]; decide) (by rw [HLNR.out]; decide))
            obtain ⟨cl, HCL⟩ : ∃ c, Hid (decide (wayB cs x a q ≠ wayB es x b q ∧ digL (wayB cs x a q) = digL (wayB es x b q)) = c) := ⟨_, rfl⟩
            rw [HCL.out] at CC
            go_wp2_with fail
            refine CC.out.mono ?_
            rintro e x1 ⟨rfl, hBx⟩
            have HLx := hid (HLb.out.below hBx)
            have HRx := hid (HRb.out.below hBx)
            have HAx : Hid (x1.heap[w.heap.size]? = some (.cells (cellsB ta) 28 (0, 0))) := (hBx.block _ (Array.getElem?_eq_some_iff.1 HA9.out).1).trans HA9.out
            have HBx : Hid (x1.heap[w.heap.size + 1]? = some (.cells (cellsB tb) 28 (0, 0))) := (hBx.block _ (Array.getElem?_eq_some_iff.1 HB9.out).1).trans HB9.out
            have BLx := hid (BL9.out.trans (hBx.mono BL9.out.size))
            clear hBx CC
            cases cl with
            | true =>
              go_wp2
              go_ret
              exact ⟨rfl, BLx.out⟩
            | false =>
              have HNOQ := hid (HNOS.out (of_decide_eq_false HCL.out))
              have CS1 := hid (rsum_any x1 _ _ HLx.out (by rw [HLNL.out]; decide))
              rw [← HSTL.out] at CS1
              obtain ⟨na, HNA⟩ : ∃ c, Hid (cellsB (clTo cs x a (q + 1)) = c) := ⟨_, rfl⟩
              obtain ⟨nb, HNB⟩ : ∃ c, Hid (cellsB (clTo es x b (q + 1)) = c) := ⟨_, rfl⟩
              have hna : na.size = 32 := by rw [← HNA.out, cellsB_size, (clTo_D cs HCD.out x a DA.out (q + 1) (by rw [HLC.out]; omega)).1]
              have hnb : nb.size = 32 := by rw [← HNB.out, cellsB_size, (clTo_D es HED.out x b DB.out (q + 1) (by rw [HLD.out]; omega)).1]
              have SNA : Hid ((Tryd.prog.info? 28).map (·.size) = some na.size) := by rw [hna]; exact size_digest
              have SNB : Hid ((Tryd.prog.info? 28).map (·.size) = some nb.size) := by rw [hnb]; exact size_digest
              have ONA : Hid (na.all (·.oneCell') = true) := by rw [← HNA.out]; exact cellsB_one _
              have ONB : Hid (nb.all (·.oneCell') = true) := by rw [← HNB.out]; exact cellsB_one _
              have hsa : (cellsB ta).size = 32 := by rw [cellsB_size, taD.out.1]
              have hsb : (cellsB tb).size = 32 := by rw [cellsB_size, tbD.out.1]
              have ZNA : Hid ((cellsB ta).size = na.size) := by refine hid ?_; rw [hsa, hna]
              have ZNB : Hid ((cellsB tb).size = nb.size) := by refine hid ?_; rw [hsb, hnb]
              have HSA := hid hsa
              rw [HNA.out] at CS1
              clear hna hnb hsa hsb
              go_wp2_with fail
              refine CS1.out.mono ?_
              rintro e x2 ⟨rfl, hBy⟩
              have HRy := hid (HRx.out.below hBy)
              have HAy : Hid (x2.heap[w.heap.size]? = some (.cells (cellsB ta) 28 (0, 0))) := (hBy.block _ (Array.getElem?_eq_some_iff.1 HAx.out).1).trans HAx.out
              have HBy : Hid (x2.heap[w.heap.size + 1]? = some (.cells (cellsB tb) 28 (0, 0))) := (hBy.block _ (Array.getElem?_eq_some_iff.1 HBx.out).1).trans HBx.out
              have BLy := hid (BLx.out.trans (hBy.mono BLx.out.size))
              obtain ⟨x3, HX3⟩ : ∃ x3, Hid (x2.setRow w.heap.size na = x3) := ⟨_, rfl⟩
              have HRz : Hid (HB x3 vd (wayB es x b q)) := by rw [← HX3.out]; exact HRy.out.keep (by rw [HLNR.out]; decide) HAy.out HSA.out na
              have HAz : Hid (x3.heap[w.heap.size]? = some (.cells na 28 (0, 0))) := by rw [← HX3.out]; exact setRow_heap _ _ _ _ _ _ HAy.out
              have HBz : Hid (x3.heap[w.heap.size + 1]? = some (.cells (cellsB tb) 28 (0, 0))) := by rw [← HX3.out]; exact (setRow_other _ _ _ _ (by omega)).trans HBy.out
              have BLz : Hid (Below w.heap.size w x3) := by rw [← HX3.out]; exact below_setRow BLy.out (Nat.le_refl _) _
              have CS2 := hid (rsum_any x3 _ _ HRz.out (by rw [HLNR.out]; decide))
              rw [← HSTR.out, HNB.out] at CS2
              clear hBy CS1
              go_wp2_with (first | (refine wpList_store_row rfl 28 _ _ rfl w.heap.size na rfl rfl 28 (cellsB ta) HAy.out SNA.out ZNA.out ONA.out ?_; rw [HX3.out]) | fail)
              refine CS2.out.mono ?_
              rintro e x4 ⟨rfl, hBu⟩
              have HAu : Hid (x4.heap[w.heap.size]? = some (.cells na 28 (0, 0))) := (hBu.block _ (Array.getElem?_eq_some_iff.1 HAz.out).1).trans HAz.out
              have HBu : Hid (x4.heap[w.heap.size + 1]? = some (.cells (cellsB tb) 28 (0, 0))) := (hBu.block _ (Array.getElem?_eq_some_iff.1 HBz.out).1).trans HBz.out
              have BLu := hid (BLz.out.trans (hBu.mono BLz.out.size))
              obtain ⟨x5, HX5⟩ : ∃ x5, Hid (x4.setRow (w.heap.size + 1) nb = x5) := ⟨_, rfl⟩
              have HAv : Hid (x5.heap[w.heap.size]? = some (.cells (cellsB (clTo cs x a (q + 1))) 28 (0, 0))) := by rw [← HX5.out, HNA.out]; exact (setRow_other _ _ _ _ (by omega)).trans HAu.out
              have HBv : Hid (x5.heap[w.heap.size + 1]? = some (.cells (cellsB (clTo es x b (q + 1))) 28 (0, 0))) := by rw [← HX5.out, HNB.out]; exact setRow_heap _ _ _ _ _ _ HBu.out
              have BLv : Hid (Below w.heap.size w x5) := by rw [← HX5.out]; exact below_setRow BLu.out (by omega) _
              clear hBu CS2
              go_wp2_with (refine wpList_store_row rfl 28 _ _ rfl (w.heap.size + 1) nb rfl rfl 28 (cellsB tb) HBu.out SNB.out ZNB.out ONB.out ?_; rw [HX5.out])
              exact ⟨⟨q + 1, by omega, by go_num, by rw [← hdd.out]; exact congrArg (Value.int .i64) (by omega), HAv, HBv, HNOQ, BLv⟩, by simp [intOf]; omega⟩
end Go.Proofs.YtjmlpkemjafifaaDoor
