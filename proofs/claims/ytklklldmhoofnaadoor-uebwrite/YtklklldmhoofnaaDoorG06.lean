/- Of the road to uebWriteCard_holds: UbRAgn, UbRChk, BsRNum. -/
import Derived.Test.YtklklldmhoofnaaDoorG05
import Derived.Test.YtklklldmhoofnaaDoorG01
set_option linter.unusedVariables false
set_option linter.unusedSimpArgs false
namespace Go.Proofs.YtklklldmhoofnaaDoor
open Go Go.RowKit
theorem Bk.setRow9 {w : World} {x y : Nat} {cs m : Array Value} {T : TypeId} (h : Bk w y cs T) (hxy : x ≠ y) : Bk (w.setRow x m) y cs T := by
  show (w.setRow x m).heap[y]? = _
  rw [setRow_other w x y m (by omega)]
  exact h
set_option maxRecDepth 100000 in
set_option maxHeartbeats 16000000 in
theorem ragain_hand (wz : World) (k n g z : Int) : Calls Tryd.prog 30 #[.int .i64 k, .int .i64 n, .int .i64 g, .int .i64 z] wz fun e w' => ∃ cs, e = .returned (.tuple #[.agg cs, .int .i64 (agE k n g z)]) ∧ cs.size = 8 ∧ cs.all (·.oneCell') = true ∧ Below wz.heap.size wz w' := by
  have CS := hid fun (A : Int) w => rshape_hand w k n A z
  unfold prV at CS
  have HI0 : Hid ((Tryd.prog.info? 51).map (·.size) = some (shA sh0).size) := size_shape
  have HIF := hid (again_iff k n g z)
  have HY : Hid (OkS k n g z → agE k n g z = 0) := hid fun h => by unfold agE; rw [if_pos h]
  have HX : Hid (¬ OkS k n g z → agE k n g z = 92) := hid fun h => by unfold agE; rw [if_neg h]
  go_enter Tryd.func30, Tryd.ntmps30
  go_wp2_with fail
  go_loopw [10] (fun i wr => ∃ q : Nat, q ≤ 2 ∧ i = .int .i64 (q : Int) ∧ Hid (1 ≤ q → ¬ (shpE k n g 0 z = 0 ∧ k * upI g k = g)) ∧ Hid (2 ≤ q → ¬ (shpE k n 65536 0 z = 0 ∧ k * upI 65536 k = g)) ∧ Hid (Below wz.heap.size wz wr) ∧ Hid (Bk wr wz.heap.size (shA sh0) 51)) (fun i _ => 2 - (intOf i).toNat)
  case atStart => exact ⟨0, by omega, rfl, hid (fun h => by omega), hid (fun h => by omega), hid (below_alloc _ _), hid (heap_alloc_new wz _)⟩
  case round =>
    obtain ⟨q, hq, rfl, H1, H2, HB, HK⟩ := hrel
    have h3 : q = 0 ∨ q = 1 ∨ q = 2 := by omega
    rcases h3 with rfl | rfl | rfl
    · go_wp2_with fail
      refine (CS.out g _).mono ?_
      rintro e w1 ⟨cs, rfl, hs, ho, hv, hb⟩
      have HB1 := hid (HB.out.trans (hb.mono HB.out.size))
      have HK1 := hid (HK.out.below hb)
      have HI8 : Hid ((Tryd.prog.info? 51).map (·.size) = some cs.size) := by refine hid ?_; rw [hs]; exact size_shape
      have HZ8 : Hid ((shA sh0).size = cs.size) := by refine hid ?_; rw [hs]; rfl
      have HO := hid ho
      have HV := hid hv
      have HS := hid hs
      clear hb ho hv hs
      obtain ⟨E, HE⟩ : ∃ x, Hid (shpE k n g 0 z = x) := ⟨_, rfl⟩
      rw [HE.out] at HV ⊢
      obtain ⟨G, HGG⟩ : ∃ x, Hid (k * upI g k = x) := ⟨_, rfl⟩
      rw [HGG.out] at HV
      have HKN : Hid ((w1.alloc (.cells #[.int .i64 0, .int .i64 0, .int .i64 0, .int .i64 0, .int .i64 0, .int .i64 0, .int .i64 0, .int .i64 0] 51)).heap[w1.heap.size]? = some (.cells (shA sh0) 51 (0, 0))) := by exact heap_alloc_new w1 _
      have HGE : Hid (wz.heap.size < w1.heap.size) := by exact (Array.getElem?_eq_some_iff.1 HK1.out).1
      have HK2 : Hid (Bk ((w1.alloc (.cells #[.int .i64 0, .int .i64 0, .int .i64 0, .int .i64 0, .int .i64 0, .int .i64 0, .int .i64 0, .int .i64 0] 51)).setRow w1.heap.size cs) wz.heap.size (shA sh0) 51) := by
        refine hid (Bk.setRow9 ?_ (by have := HGE.out; omega))
        show (w1.alloc _).heap[wz.heap.size]? = _
        rw [heap_alloc_old _ _ HGE.out]
        exact HK1.out
      have HKX : Hid (Bk ((w1.alloc (.cells #[.int .i64 0, .int .i64 0, .int .i64 0, .int .i64 0, .int .i64 0, .int .i64 0, .int .i64 0, .int .i64 0] 51)).setRow w1.heap.size cs) w1.heap.size cs 51) := hid (setRow_heap _ _ _ _ _ _ HKN.out)
      have HB2 : Hid (Below wz.heap.size wz ((w1.alloc (.cells #[.int .i64 0, .int .i64 0, .int .i64 0, .int .i64 0, .int .i64 0, .int .i64 0, .int .i64 0, .int .i64 0] 51)).setRow w1.heap.size cs)) := hid (bel_setRow (HB1.out.alloc HB1.out.size _) (by have := HGE.out; omega) _)
      by_cases he : E = 0
      · have hc := HV.out he
        have c2 := HKX.out.cell 2 (.int .i64 G) (by rw [hc]; rfl)
        rw [he] at HE ⊢
        have HE2 := hid he
        clear he hc
        by_cases hg : G = g
        · have F := hid (HY.out (HIF.out.2 (Or.inl ⟨HE.out, HGG.out.trans hg⟩)))
          rw [hg] at c2
          go_wp2_with (first | (refine wpList_store_row rfl 51 _ _ rfl w1.heap.size cs rfl rfl 51 (shA sh0) HKN.out HI8.out HZ8.out HO.out ?_) | (refine wpList_load_row rfl 51 _ rfl w1.heap.size rfl 51 cs (0, 0) _ HKX.out Tryd.underlying51 rfl HI8.out ?_) | (refine wpList_store_row rfl 51 _ _ rfl wz.heap.size cs rfl rfl 51 (shA sh0) HK2.out HI8.out HZ8.out HO.out ?_))
          refine bodyPost_ret (v := .tuple #[.agg cs, .int .i64 0]) (results_cellT (p := 8) (u := 9) (ty := 51) rfl _ _ wz.heap.size 51 cs (0, 0) _ rfl (setRow_heap _ _ _ _ _ _ HK2.out) Tryd.underlying51 rfl HI8.out _ rfl) rfl ?_
          exact ⟨cs, by rw [F.out], HS.out, HO.out, bel_setRow HB2.out (Nat.le_refl _) _⟩
        · have NO := hid (p := ¬ (shpE k n g 0 z = 0 ∧ k * upI g k = g)) (fun h => hg (HGG.out.symm.trans h.2))
          have hgb : (G == g) = false := by simpa using hg
          go_wp2_with (first | (refine wpList_store_row rfl 51 _ _ rfl w1.heap.size cs rfl rfl 51 (shA sh0) HKN.out HI8.out HZ8.out HO.out ?_))
          exact ⟨⟨1, by omega, rfl, hid (fun _ => NO.out), hid (fun h => by omega), HB2, HK2⟩, by simp [intOf]⟩
      · have NO := hid (p := ¬ (shpE k n g 0 z = 0 ∧ k * upI g k = g)) (fun h => he (HE.out.symm.trans h.1))
        have heb : (E == 0) = false := by simpa using he
        go_wp2_with (first | (refine wpList_store_row rfl 51 _ _ rfl w1.heap.size cs rfl rfl 51 (shA sh0) HKN.out HI8.out HZ8.out HO.out ?_))
        exact ⟨⟨1, by omega, rfl, hid (fun _ => NO.out), hid (fun h => by omega), HB2, HK2⟩, by simp [intOf]⟩
    · go_wp2_with fail
      refine (CS.out 65536 _).mono ?_
      rintro e w1 ⟨cs, rfl, hs, ho, hv, hb⟩
      have HB1 := hid (HB.out.trans (hb.mono HB.out.size))
      have HK1 := hid (HK.out.below hb)
      have HI8 : Hid ((Tryd.prog.info? 51).map (·.size) = some cs.size) := by refine hid ?_; rw [hs]; exact size_shape
      have HZ8 : Hid ((shA sh0).size = cs.size) := by refine hid ?_; rw [hs]; rfl
      have HO := hid ho
      have HV := hid hv
      have HS := hid hs
      clear hb ho hv hs
      obtain ⟨E, HE⟩ : ∃ x, Hid (shpE k n 65536 0 z = x) := ⟨_, rfl⟩
      rw [HE.out] at HV ⊢
      obtain ⟨G, HGG⟩ : ∃ x, Hid (k * upI 65536 k = x) := ⟨_, rfl⟩
      rw [HGG.out] at HV
      have HKN : Hid ((w1.alloc (.cells #[.int .i64 0, .int .i64 0, .int .i64 0, .int .i64 0, .int .i64 0, .int .i64 0, .int .i64 0, .int .i64 0] 51)).heap[w1.heap.size]? = some (.cells (shA sh0) 51 (0, 0))) := by exact heap_alloc_new w1 _
      have HGE : Hid (wz.heap.size < w1.heap.size) := by exact (Array.getElem?_eq_some_iff.1 HK1.out).1
      have HK2 : Hid (Bk ((w1.alloc (.cells #[.int .i64 0, .int .i64 0, .int .i64 0, .int .i64 0, .int .i64 0, .int .i64 0, .int .i64 0, .int .i64 0] 51)).setRow w1.heap.size cs) wz.heap.size (shA sh0) 51) := by
        refine hid (Bk.setRow9 ?_ (by have := HGE.out; omega))
        show (w1.alloc _).heap[wz.heap.size]? = _
        rw [heap_alloc_old _ _ HGE.out]
        exact HK1.out
      have HKX : Hid (Bk ((w1.alloc (.cells #[.int .i64 0, .int .i64 0, .int .i64 0, .int .i64 0, .int .i64 0, .int .i64 0, .int .i64 0, .int .i64 0] 51)).setRow w1.heap.size cs) w1.heap.size cs 51) := hid (setRow_heap _ _ _ _ _ _ HKN.out)
      have HB2 : Hid (Below wz.heap.size wz ((w1.alloc (.cells #[.int .i64 0, .int .i64 0, .int .i64 0, .int .i64 0, .int .i64 0, .int .i64 0, .int .i64 0, .int .i64 0] 51)).setRow w1.heap.size cs)) := hid (bel_setRow (HB1.out.alloc HB1.out.size _) (by have := HGE.out; omega) _)
      by_cases he : E = 0
      · have hc := HV.out he
        have c2 := HKX.out.cell 2 (.int .i64 G) (by rw [hc]; rfl)
        rw [he] at HE ⊢
        have HE2 := hid he
        clear he hc
        by_cases hg : G = g
        · have F := hid (HY.out (HIF.out.2 (Or.inr ⟨HE.out, HGG.out.trans hg⟩)))
          rw [hg] at c2
          go_wp2_with (first | (refine wpList_store_row rfl 51 _ _ rfl w1.heap.size cs rfl rfl 51 (shA sh0) HKN.out HI8.out HZ8.out HO.out ?_) | (refine wpList_load_row rfl 51 _ rfl w1.heap.size rfl 51 cs (0, 0) _ HKX.out Tryd.underlying51 rfl HI8.out ?_) | (refine wpList_store_row rfl 51 _ _ rfl wz.heap.size cs rfl rfl 51 (shA sh0) HK2.out HI8.out HZ8.out HO.out ?_))
          refine bodyPost_ret (v := .tuple #[.agg cs, .int .i64 0]) (results_cellT (p := 8) (u := 9) (ty := 51) rfl _ _ wz.heap.size 51 cs (0, 0) _ rfl (setRow_heap _ _ _ _ _ _ HK2.out) Tryd.underlying51 rfl HI8.out _ rfl) rfl ?_
          exact ⟨cs, by rw [F.out], HS.out, HO.out, bel_setRow HB2.out (Nat.le_refl _) _⟩
        · have NO := hid (p := ¬ (shpE k n 65536 0 z = 0 ∧ k * upI 65536 k = g)) (fun h => hg (HGG.out.symm.trans h.2))
          have hgb : (G == g) = false := by simpa using hg
          go_wp2_with (first | (refine wpList_store_row rfl 51 _ _ rfl w1.heap.size cs rfl rfl 51 (shA sh0) HKN.out HI8.out HZ8.out HO.out ?_))
          exact ⟨⟨2, by omega, rfl, hid (fun _ => H1.out (by omega)), hid (fun _ => NO.out), HB2, HK2⟩, by simp [intOf]⟩
      · have NO := hid (p := ¬ (shpE k n 65536 0 z = 0 ∧ k * upI 65536 k = g)) (fun h => he (HE.out.symm.trans h.1))
        have heb : (E == 0) = false := by simpa using he
        go_wp2_with (first | (refine wpList_store_row rfl 51 _ _ rfl w1.heap.size cs rfl rfl 51 (shA sh0) HKN.out HI8.out HZ8.out HO.out ?_))
        exact ⟨⟨2, by omega, rfl, hid (fun _ => H1.out (by omega)), hid (fun _ => NO.out), HB2, HK2⟩, by simp [intOf]⟩
    · have F := hid (HX.out fun h => (HIF.out.1 h).elim (H1.out (by omega)) (H2.out (by omega)))
      go_wp2_with (refine wpList_store_row rfl 51 _ _ rfl wz.heap.size (shA sh0) rfl rfl 51 (shA sh0) HK.out HI0.out rfl sh0_one ?_)
      refine bodyPost_ret (v := .tuple #[.agg (shA sh0), .int .i64 92]) (results_cellT (p := 8) (u := 9) (ty := 51) rfl _ _ wz.heap.size 51 (shA sh0) (0, 0) _ rfl (setRow_heap _ _ _ _ _ _ HK.out) Tryd.underlying51 rfl size_shape _ rfl) rfl ?_
      exact ⟨shA sh0, by rw [F.out], rfl, sh0_one, bel_setRow HB.out (Nat.le_refl _) _⟩
set_option maxRecDepth 100000 in
set_option maxHeartbeats 4000000 in
theorem rcheck13_any (w : World) (u : Ub) (hu : u.ok) : Calls Tryd.prog 17 #[.agg (ubA u)] w fun e w' => e = .returned (.int .i64 (chE u)) ∧ Below w.heap.size w w' := by
  have C := hid fun w => ragain_hand w u.k u.n u.g u.z
  have HS := hid (size_ub hu)
  have H1 := hid (ubA_one u)
  have q0 : (ubA u)[0]? = some (.int .i64 u.k) := rfl
  have q1 : (ubA u)[1]? = some (.int .i64 u.n) := rfl
  have q2 : (ubA u)[2]? = some (.int .i64 u.g) := rfl
  have q3 : (ubA u)[3]? = some (.int .i64 u.z) := rfl
  obtain ⟨m, HM⟩ : ∃ x, Hid (ubA u = x) := ⟨_, rfl⟩
  obtain ⟨k, Hk⟩ : ∃ x, Hid (u.k = x) := ⟨_, rfl⟩
  obtain ⟨n, Hn⟩ : ∃ x, Hid (u.n = x) := ⟨_, rfl⟩
  obtain ⟨g, Hg⟩ : ∃ x, Hid (u.g = x) := ⟨_, rfl⟩
  obtain ⟨z, Hz⟩ : ∃ x, Hid (u.z = x) := ⟨_, rfl⟩
  rw [Hk.out, Hn.out, Hg.out, Hz.out] at C
  rw [Hk.out] at q0
  rw [Hn.out] at q1
  rw [Hg.out] at q2
  rw [Hz.out] at q3
  rw [HM.out] at HS H1 q0 q1 q2 q3 ⊢
  have E : Hid (chE u = if OkS k n g z then 0 else 133) := by unfold chE; rw [Hk.out, Hn.out, Hg.out, Hz.out]; exact rfl
  rw [E.out]
  by_cases hok : OkS k n g z
  · have e1 : agE k n g z = 0 := by unfold agE; rw [if_pos hok]
    rw [if_pos hok]
    have C : Hid (∀ w, Calls Tryd.prog 30 #[.int .i64 k, .int .i64 n, .int .i64 g, .int .i64 z] w fun e w' => ∃ cs, e = .returned (.tuple #[.agg cs, .int .i64 0]) ∧ cs.size = 8 ∧ cs.all (·.oneCell') = true ∧ Below w.heap.size w w') := by
      rw [← e1]
      exact C.out
    clear e1 hok
    go_enter Tryd.func17, Tryd.ntmps17
    go_wp2_with fail
    refine (C.out _).mono ?_
    rintro e w1 ⟨cs, rfl, hcs, hone, hb1⟩
    have B1 := hid ((((Below.refl _ w).alloc (Nat.le_refl _) _)).trans (hb1.mono (by simp)))
    have hsz := B1.out.size
    have HC1 : Hid ((Tryd.prog.info? 51).map (·.size) = some cs.size) := by refine hid ?_; rw [hcs]; exact size_shape
    have HC2 : Hid ((shA sh0).size = cs.size) := by refine hid ?_; rw [hcs]; exact rfl
    have HC3 := hid hone
    clear hb1 hcs hone
    go_wp2_with (refine wpList_store_row rfl 51 _ _ rfl w1.heap.size cs rfl rfl 51 (shA sh0) (heap_alloc_new w1 _) HC1.out HC2.out HC3.out ?_)
    go_ret
    exact ⟨rfl, bel_setRow (B1.out.alloc hsz _) (by omega) _⟩
  · have e1 : agE k n g z = 92 := by unfold agE; rw [if_neg hok]
    rw [if_neg hok]
    have C : Hid (∀ w, Calls Tryd.prog 30 #[.int .i64 k, .int .i64 n, .int .i64 g, .int .i64 z] w fun e w' => ∃ cs, e = .returned (.tuple #[.agg cs, .int .i64 92]) ∧ cs.size = 8 ∧ cs.all (·.oneCell') = true ∧ Below w.heap.size w w') := by
      rw [← e1]
      exact C.out
    clear e1 hok
    go_enter Tryd.func17, Tryd.ntmps17
    go_wp2_with fail
    refine (C.out _).mono ?_
    rintro e w1 ⟨cs, rfl, hcs, hone, hb1⟩
    have B1 := hid ((((Below.refl _ w).alloc (Nat.le_refl _) _)).trans (hb1.mono (by simp)))
    have hsz := B1.out.size
    have HC1 : Hid ((Tryd.prog.info? 51).map (·.size) = some cs.size) := by refine hid ?_; rw [hcs]; exact size_shape
    have HC2 : Hid ((shA sh0).size = cs.size) := by refine hid ?_; rw [hcs]; exact rfl
    have HC3 := hid hone
    clear hb1 hcs hone
    go_wp2_with (refine wpList_store_row rfl 51 _ _ rfl w1.heap.size cs rfl rfl 51 (shA sh0) (heap_alloc_new w1 _) HC1.out HC2.out HC3.out ?_)
    go_ret
    exact ⟨rfl, bel_setRow (B1.out.alloc hsz _) (by omega) _⟩
theorem canon_len {l : List UInt8} (h : Canon l) (hn : valD l < 10000000000000000000) : l.length ≤ 19 := by
  by_cases hl : 1 < l.length
  · have h3 := valD_pos h (Or.inl hl)
    apply Classical.byContradiction
    intro hc
    have h4 : (10 : Nat) ^ 19 ≤ 10 ^ (l.length - 1) := Nat.pow_le_pow_right (by decide) (by omega)
    have h5 : (10 : Nat) ^ 19 = 10000000000000000000 := by decide
    omega
  · omega
theorem dec_len (n : Nat) (hn : n < 10000000000000000000) : (Lib.decDigits n).length ≤ 19 := by
  obtain ⟨h1, h2, _⟩ := dec_canon n
  exact canon_len h1 (by omega)
theorem conv_one (w : World) (c : Int) (hc : 0 ≤ c ∧ c < 256) : (convert 26 9 (.slice (some ⟨w.heap.size, 0, none⟩) 1 1)).run Tryd.prog (w.alloc (.cells #[.int .u8 c] 5)) = .ok (.string (bS [c])) (w.alloc (.cells #[.int .u8 c] 5)) := by
  apply conv_str (l := [c])
  refine ⟨⟨_, 1, rfl, by simp, by decide, (fun e => by cases e), fun _ => ⟨w.heap.size, 0, rfl, fun j hj => ?_⟩⟩, by intro x hx; simp at hx; subst hx; exact hc⟩
  simp at hj
  subst hj
  simp
set_option maxRecDepth 100000 in
set_option maxHeartbeats 2000000 in
theorem rnumber_any (w : World) (x : Int) (h0 : -9223372036854775808 ≤ x) (h1 : x ≤ 9223372036854775807) :
    Calls Tryd.prog 48 #[.int .i64 x] w fun e w' => e = .returned (.tuple #[.string (nS x), .int .i64 (nE x)]) ∧ Below w.heap.size w w' := by
  by_cases h : x < 0
  · have e1 := hid (show nS x = ⟨#[]⟩ by unfold nS; rw [if_pos h])
    have e2 := hid (show nE x = 102 by unfold nE; rw [if_pos h])
    go_enter Tryd.func48, Tryd.ntmps48
    go_wp2
    go_ret2
    exact ⟨by rw [e1.out, e2.out]; rfl, Below.refl _ _⟩
  · have e1 := hid (show nS x = ⟨(Lib.decDigits x.toNat).toArray⟩ by unfold nS; rw [if_neg h])
    have e2 := hid (show nE x = 0 by unfold nE; rw [if_neg h])
    obtain ⟨n, rfl⟩ := Int.eq_ofNat_of_zero_le (show 0 ≤ x by omega)
    rw [Int.toNat_natCast] at e1
    have hdl := dec_len n (by omega)
    obtain ⟨D, HD⟩ : ∃ D, Hid (Lib.decDigits n = D) := ⟨_, rfl⟩
    rw [HD.out] at e1 hdl
    go_enter Tryd.func48, Tryd.ntmps48
    go_wp2
    go_loopw [0, 4] (fun x t wr => ∃ X : Nat, ∃ T : ByteArray, x = .int .i64 (X : Int) ∧ t = .string T ∧ X ≤ n ∧ Hid (Lib.decDigits X ++ T.data.toList = D) ∧ Hid (Below w.heap.size w wr)) (fun x _ _ => (intOf x).toNat)
    case atStart => exact ⟨n, ⟨#[]⟩, rfl, rfl, Nat.le_refl _, hid (by rw [HD.out]; simp), Below.refl _ _⟩
    case round =>
      obtain ⟨X, T, rfl, rfl, hX, HE, B⟩ := hrel
      have hTs : T.size ≤ 19 := by
        have e := congrArg List.length HE.out
        rw [List.length_append, ← Lib.size_eq] at e
        have h2 : 0 < (Lib.decDigits X).length := by
          rcases Nat.eq_zero_or_pos (Lib.decDigits X).length with q | q
          · exact absurd (List.length_eq_zero_iff.1 q) (dec_canon X).1.1
          · exact q
        omega
      by_cases h10 : X < 10
      · have hcv := conv_one wr (48 + (X : Int)) (by omega)
        have h2 : (bS [48 + (X : Int)]).size = 1 := by rw [bS_size]; rfl
        have n1 : ¬ (9223372036854775807 < (bS [48 + (X : Int)]).size + T.size) := by rw [h2]; omega
        have hfin : Hid (bS [48 + (X : Int)] ++ T = ⟨D.toArray⟩) := by
          refine hid (ByteArray.ext ?_)
          rw [← HE.out, Lib.decDigits, dif_pos h10]
          have : (bS [48 + (X : Int)]) = ⟨#[UInt8.ofNat (48 + X)]⟩ := by
            unfold bS
            simp only [List.map_cons, List.map_nil]
            congr 3
          rw [this]
          simp
        obtain ⟨O, HO⟩ : ∃ O, Hid (bS [48 + (X : Int)] = O) := ⟨_, rfl⟩
        rw [HO.out] at hcv h2 n1 hfin
        go_wp2
        go_ret2
        exact ⟨by rw [e1.out, e2.out, ← hfin.out]; rfl, B.out.trans ((Below.refl _ wr).alloc (Nat.le_refl _) _ |>.mono B.out.size)⟩
      · have hcv := conv_one wr (48 + (X : Int) % 10) (by omega)
        have h2 : (bS [48 + (X : Int) % 10]).size = 1 := by rw [bS_size]; rfl
        have n1 : ¬ (9223372036854775807 < (bS [48 + (X : Int) % 10]).size + T.size) := by rw [h2]; omega
        have hfin : Hid (Lib.decDigits (X / 10) ++ (bS [48 + (X : Int) % 10] ++ T).data.toList = D) := by
          refine hid ?_
          have : (bS [48 + (X : Int) % 10]) = ⟨#[UInt8.ofNat (48 + X % 10)]⟩ := by
            unfold bS
            simp only [List.map_cons, List.map_nil]
            rw [show (48 + (X : Int) % 10).toNat = 48 + X % 10 by omega]
          rw [← HE.out, this, Lib.decDigits.eq_def X, dif_neg h10]
          simp
        obtain ⟨O, HO⟩ : ∃ O, Hid (bS [48 + (X : Int) % 10] = O) := ⟨_, rfl⟩
        rw [HO.out] at hcv h2 n1 hfin
        have hdv := hid (show (X : Int) / 10 = ((X / 10 : Nat) : Int) by omega)
        go_wp2
        exact ⟨⟨X / 10, O ++ T, by rw [hdv.out], rfl, by omega, hfin, B.out.trans ((Below.refl _ wr).alloc (Nat.le_refl _) _ |>.mono B.out.size)⟩, by simp [intOf]; omega⟩
theorem idx_u8 (w : World) (s : ByteArray) (i : Nat) (h : i < s.size) : (Instr.index 9 (.string s) (.int .i64 (i : Int))).run Tryd.prog w = .ok (.int .u8 ((s.data.toList.getD i 0).toNat : Int)) w := by
  rw [idx_str w s i h]
  congr 2
  have h2 : i < s.data.toList.length := by rw [← Lib.size_eq]; exact h
  unfold sB
  simp [List.getD, List.getElem?_eq_getElem h2]
theorem rd_len {l : List UInt8} {most : Int} (h : rdOk l most) (hm : most ≤ 9223372036854775807) : l.length ≤ 19 := canon_len h.1 (by have := h.2; omega)
theorem getD_u8 {l : List UInt8} {k : Nat} (h : k < l.length) : l.getD k 0 = l[k] := by simp [List.getD, List.getElem?_eq_getElem h]
set_option maxRecDepth 100000 in
set_option maxHeartbeats 4000000 in
theorem rread_any (w : World) (s : ByteArray) (most : Int) (hs : s.size ≤ 281474976710656) (hm0 : -9223372036854775808 ≤ most) (hm1 : most ≤ 9223372036854775807) :
    Calls Tryd.prog 46 #[.string s, .int .i64 most] w fun e w' => e = .returned (.tuple #[.int .i64 (rdV s.data.toList most), .int .i64 (rdE s.data.toList most)]) ∧ Below w.heap.size w w' := by
  have HI : Hid (∀ W i, i < s.size → (Instr.index 9 (.string s) (.int .i64 (i : Int))).run Tryd.prog W = .ok (.int .u8 ((s.data.toList.getD i 0).toNat : Int)) W) := hid fun W i h => idx_u8 W s i h
  have hll : s.data.toList.length = s.size := (Lib.size_eq s).symm
  obtain ⟨l, Hl⟩ : ∃ l, Hid (s.data.toList = l) := ⟨_, rfl⟩
  rw [Hl.out] at HI hll
  rw [Hl.out]
  have HLL := hid hll
  clear hll
  have NO : Hid (¬ rdOk l most → rdV l most = 0 ∧ rdE l most = 102) := hid rd_no
  by_cases h0 : s.size = 0
  · have E := hid (NO.out fun h => h.1.1 (List.length_eq_zero_iff.1 (by rw [HLL.out]; exact h0)))
    go_enter Tryd.func46, Tryd.ntmps46
    go_wp2
    go_ret2
    exact ⟨by rw [E.out.1, E.out.2]; rfl, Below.refl _ _⟩
  by_cases h19 : 19 < s.size
  · have E := hid (NO.out fun h => by have := rd_len h hm1; rw [HLL.out] at this; omega)
    go_enter Tryd.func46, Tryd.ntmps46
    go_wp2
    go_ret2
    exact ⟨by rw [E.out.1, E.out.2]; rfl, Below.refl _ _⟩
  have hx0 := HI.out w 0 (by omega)
  obtain ⟨c0, Hc0⟩ : ∃ c : Int, Hid (((l.getD 0 0).toNat : Int) = c) := ⟨_, rfl⟩
  rw [Hc0.out] at hx0
  have hx0' : (Instr.index 9 (.string s) (.int .i64 0)).run Tryd.prog w = .ok (.int .u8 c0) w := hx0
  clear hx0
  have Hhead : Hid (c0 = 48 ↔ l.head? = some 48) := by
    refine hid ?_
    have h1 : 0 < l.length := by rw [HLL.out]; omega
    have hg := getD_u8 h1
    have hh : l.head? = some (l.getD 0 0) := by rw [hg, List.head?_eq_getElem?, List.getElem?_eq_getElem h1]
    rw [hh, ← Hc0.out, Option.some.injEq]
    constructor
    · intro e
      apply UInt8.toNat_inj.1
      have : (48 : UInt8).toNat = 48 := rfl
      omega
    · intro e
      rw [e]
      rfl
  by_cases hz : 1 < s.size ∧ c0 = 48
  · have E := hid (NO.out fun h => h.1.2.2 (by rw [HLL.out]; exact hz.1) (Hhead.out.1 hz.2))
    obtain ⟨hz1, rfl⟩ := hz
    go_enter Tryd.func46, Tryd.ntmps46
    go_wp2
    go_ret2
    exact ⟨by rw [E.out.1, E.out.2]; rfl, Below.refl _ _⟩
  have HCN : Hid ((∀ c ∈ l, dig c) → Canon l) := by
    refine hid fun hd => ⟨fun e => h0 (by rw [← HLL.out, e]; rfl), hd, fun h1 e => hz ⟨by rw [← HLL.out]; exact h1, Hhead.out.2 e⟩⟩
  have b0 : ((s.size : Int) == 0) = false := by
    rw [beq_eq_false_iff_ne]
    omega
  have i19 : ¬ (19 < (s.size : Int)) := by omega
  have HZ : Hid (¬ (1 < s.size ∧ c0 = 48)) := hz
  clear hz
  by_cases h1s : 1 < s.size
  · have hc48 : (c0 == 48) = false := by
      rw [beq_eq_false_iff_ne]
      exact fun e => HZ.out ⟨h1s, e⟩
    have i1 : 1 < (s.size : Int) := by omega
    go_enter Tryd.func46, Tryd.ntmps46
    go_wp2
    go_loopw [6, 7] (fun x i wr => ∃ I : Nat, I ≤ s.size ∧ x = .int .u64 ((fD 0 (l.take I) : Nat) : Int) ∧ i = .int .i64 (I : Int) ∧ Hid (∀ c ∈ l.take I, dig c) ∧ wr = w) (fun _ i _ => s.size - (intOf i).toNat)
    case atStart => exact ⟨0, Nat.zero_le _, rfl, rfl, hid (by simp), rfl⟩
    case round =>
      obtain ⟨I, hI, rfl, rfl, HG, rfl⟩ := hrel
      by_cases hlt : I < s.size
      · have q1 := HI.out wr I hlt
        have hIl : I < l.length := by rw [HLL.out]; exact hlt
        have htk : l.take (I + 1) = l.take I ++ [l.getD I 0] := by rw [List.take_succ_eq_append_getElem hIl, getD_u8 hIl]
        have hF := fD_lt (l.take I) HG.out 0
        rw [List.length_take, Nat.min_eq_left (Nat.le_of_lt hIl), Nat.zero_add, Nat.one_mul] at hF
        have hP : (10 : Nat) ^ I ≤ 10 ^ 18 := Nat.pow_le_pow_right (by decide) (by omega)
        have hP2 : (10 : Nat) ^ 18 = 1000000000000000000 := by decide
        have hFb : fD 0 (l.take I) < 1000000000000000000 := by omega
        have hmem : l.getD I 0 ∈ l := by rw [getD_u8 hIl]; exact List.getElem_mem hIl
        have HNX : Hid (fD 0 (l.take (I + 1)) = fD 0 (l.take I) * 10 + ((l.getD I 0).toNat - 48)) := by rw [htk, fD_snoc]; exact rfl
        have hcl := (l.getD I 0).toNat_lt
        have HDG : Hid (dig (l.getD I 0) → ∀ c ∈ l.take (I + 1), dig c) := by
          refine hid fun hd c hc => ?_
          rw [htk] at hc
          rcases List.mem_append.1 hc with hc | hc
          · exact HG.out c hc
          · rw [List.mem_singleton.1 hc]; exact hd
        have HBD : Hid (¬ dig (l.getD I 0) → rdV l most = 0 ∧ rdE l most = 102) := hid fun hd => NO.out fun h => hd (h.1.2.1 _ hmem)
        obtain ⟨F, HF⟩ : ∃ F, Hid (fD 0 (l.take I) = F) := ⟨_, rfl⟩
        obtain ⟨G, HGG⟩ : ∃ G, Hid (fD 0 (l.take (I + 1)) = G) := ⟨_, rfl⟩
        rw [HF.out] at hFb HNX
        rw [HGG.out] at HNX
        rw [HF.out]
        unfold dig at HBD
        have HDG2 : Hid ((48 ≤ (l.getD I 0).toNat ∧ (l.getD I 0).toNat ≤ 57) → ∀ c ∈ l.take (I + 1), dig c) := hid fun h => HDG.out h
        obtain ⟨C, HC⟩ : ∃ C, Hid ((l.getD I 0).toNat = C) := ⟨_, rfl⟩
        rw [HC.out] at q1 HNX hcl HBD HDG2
        clear htk hF hP hP2 hmem hIl HDG
        by_cases hlo : C < 48
        · have E := hid (HBD.out (by omega))
          have hlo' : (C : Int) < 48 := by omega
          go_wp2
          go_ret2
          exact ⟨by rw [E.out.1, E.out.2]; rfl, Below.refl _ _⟩
        · by_cases hhi : 57 < C
          · have E := hid (HBD.out (by omega))
            have hlo' : ¬ (C : Int) < 48 := by omega
            have hhi' : (57 : Int) < C := by omega
            go_wp2
            go_ret2
            exact ⟨by rw [E.out.1, E.out.2]; rfl, Below.refl _ _⟩
          · have hlo' : ¬ (C : Int) < 48 := by omega
            have hhi' : ¬ (57 : Int) < C := by omega
            have HX : Hid (10 * (F : Int) + ((C : Int) - 48) = (G : Int)) := by
              refine hid ?_
              have := HNX.out
              omega
            have HG2 := hid (HDG2.out (by omega))
            go_wp2
            exact ⟨⟨I + 1, by omega, by rw [HGG.out, ← HX.out], by go_num, HG2, trivial⟩, by simp [intOf]; omega⟩
      · have htl : l.take I = l := List.take_of_length_le (by rw [HLL.out]; omega)
        have HCC : Hid (Canon l) := by
          refine hid (HCN.out ?_)
          have := HG.out
          rwa [htl] at this
        have hF := fD_lt l HCC.out.2.1 0
        have hP : (10 : Nat) ^ l.length ≤ 10 ^ 19 := Nat.pow_le_pow_right (by decide) (by rw [HLL.out]; omega)
        have hP2 : (10 : Nat) ^ 19 = 10000000000000000000 := by decide
        rw [Nat.zero_add, Nat.one_mul] at hF
        have hFb : fD 0 l < 10000000000000000000 := by omega
        rw [htl]
        have HOK : Hid (∀ v : Nat, fD 0 l = v → (v : Int) ≤ most → rdV l most = v ∧ rdE l most = 0) := by
          refine hid fun v hv h => ?_
          have hok : rdOk l most := ⟨HCC.out, by unfold valD; omega⟩
          obtain ⟨e1, e2⟩ := rd_ok hok
          exact ⟨by rw [e1]; unfold valD; rw [hv], e2⟩
        have HBD : Hid (∀ v : Nat, fD 0 l = v → ¬ (v : Int) ≤ most → rdV l most = 0 ∧ rdE l most = 102) := by
          refine hid fun v hv h => NO.out fun hr => h ?_
          have := hr.2
          unfold valD at this
          omega
        obtain ⟨F, HF⟩ : ∃ F, Hid (fD 0 l = F) := ⟨_, rfl⟩
        rw [HF.out] at hFb
        rw [HF.out]
        clear htl hF hP hP2
        by_cases hmn : most < 0
        · have E := hid (HBD.out F HF.out (by omega))
          go_wp2
          go_ret2
          exact ⟨by rw [E.out.1, E.out.2]; rfl, Below.refl _ _⟩
        · by_cases hle : (F : Int) ≤ most
          · have E := hid (HOK.out F HF.out hle)
            have hgt : ¬ most < (F : Int) := by omega
            go_wp2
            go_ret2
            exact ⟨by rw [E.out.1, E.out.2]; rfl, Below.refl _ _⟩
          · have E := hid (HBD.out F HF.out hle)
            have hgt : most < (F : Int) := by omega
            go_wp2
            go_ret2
            exact ⟨by rw [E.out.1, E.out.2]; rfl, Below.refl _ _⟩
  · have i1 : ¬ 1 < (s.size : Int) := by omega
    go_enter Tryd.func46, Tryd.ntmps46
    go_wp2
    go_loopw [6, 7] (fun x i wr => ∃ I : Nat, I ≤ s.size ∧ x = .int .u64 ((fD 0 (l.take I) : Nat) : Int) ∧ i = .int .i64 (I : Int) ∧ Hid (∀ c ∈ l.take I, dig c) ∧ wr = w) (fun _ i _ => s.size - (intOf i).toNat)
    case atStart => exact ⟨0, Nat.zero_le _, rfl, rfl, hid (by simp), rfl⟩
    case round =>
      obtain ⟨I, hI, rfl, rfl, HG, rfl⟩ := hrel
      by_cases hlt : I < s.size
      · have q1 := HI.out wr I hlt
        have hIl : I < l.length := by rw [HLL.out]; exact hlt
        have htk : l.take (I + 1) = l.take I ++ [l.getD I 0] := by rw [List.take_succ_eq_append_getElem hIl, getD_u8 hIl]
        have hF := fD_lt (l.take I) HG.out 0
        rw [List.length_take, Nat.min_eq_left (Nat.le_of_lt hIl), Nat.zero_add, Nat.one_mul] at hF
        have hP : (10 : Nat) ^ I ≤ 10 ^ 18 := Nat.pow_le_pow_right (by decide) (by omega)
        have hP2 : (10 : Nat) ^ 18 = 1000000000000000000 := by decide
        have hFb : fD 0 (l.take I) < 1000000000000000000 := by omega
        have hmem : l.getD I 0 ∈ l := by rw [getD_u8 hIl]; exact List.getElem_mem hIl
        have HNX : Hid (fD 0 (l.take (I + 1)) = fD 0 (l.take I) * 10 + ((l.getD I 0).toNat - 48)) := by rw [htk, fD_snoc]; exact rfl
        have hcl := (l.getD I 0).toNat_lt
        have HDG : Hid (dig (l.getD I 0) → ∀ c ∈ l.take (I + 1), dig c) := by
          refine hid fun hd c hc => ?_
          rw [htk] at hc
          rcases List.mem_append.1 hc with hc | hc
          · exact HG.out c hc
          · rw [List.mem_singleton.1 hc]; exact hd
        have HBD : Hid (¬ dig (l.getD I 0) → rdV l most = 0 ∧ rdE l most = 102) := hid fun hd => NO.out fun h => hd (h.1.2.1 _ hmem)
        obtain ⟨F, HF⟩ : ∃ F, Hid (fD 0 (l.take I) = F) := ⟨_, rfl⟩
        obtain ⟨G, HGG⟩ : ∃ G, Hid (fD 0 (l.take (I + 1)) = G) := ⟨_, rfl⟩
        rw [HF.out] at hFb HNX
        rw [HGG.out] at HNX
        rw [HF.out]
        unfold dig at HBD
        have HDG2 : Hid ((48 ≤ (l.getD I 0).toNat ∧ (l.getD I 0).toNat ≤ 57) → ∀ c ∈ l.take (I + 1), dig c) := hid fun h => HDG.out h
        obtain ⟨C, HC⟩ : ∃ C, Hid ((l.getD I 0).toNat = C) := ⟨_, rfl⟩
        rw [HC.out] at q1 HNX hcl HBD HDG2
        clear htk hF hP hP2 hmem hIl HDG
        by_cases hlo : C < 48
        · have E := hid (HBD.out (by omega))
          have hlo' : (C : Int) < 48 := by omega
          go_wp2
          go_ret2
          exact ⟨by rw [E.out.1, E.out.2]; rfl, Below.refl _ _⟩
        · by_cases hhi : 57 < C
          · have E := hid (HBD.out (by omega))
            have hlo' : ¬ (C : Int) < 48 := by omega
            have hhi' : (57 : Int) < C := by omega
            go_wp2
            go_ret2
            exact ⟨by rw [E.out.1, E.out.2]; rfl, Below.refl _ _⟩
          · have hlo' : ¬ (C : Int) < 48 := by omega
            have hhi' : ¬ (57 : Int) < C := by omega
            have HX : Hid (10 * (F : Int) + ((C : Int) - 48) = (G : Int)) := by
              refine hid ?_
              have := HNX.out
              omega
            have HG2 := hid (HDG2.out (by omega))
            go_wp2
            exact ⟨⟨I + 1, by omega, by rw [HGG.out, ← HX.out], by go_num, HG2, trivial⟩, by simp [intOf]; omega⟩
      · have htl : l.take I = l := List.take_of_length_le (by rw [HLL.out]; omega)
        have HCC : Hid (Canon l) := by
          refine hid (HCN.out ?_)
          have := HG.out
          rwa [htl] at this
        have hF := fD_lt l HCC.out.2.1 0
        have hP : (10 : Nat) ^ l.length ≤ 10 ^ 19 := Nat.pow_le_pow_right (by decide) (by rw [HLL.out]; omega)
        have hP2 : (10 : Nat) ^ 19 = 10000000000000000000 := by decide
        rw [Nat.zero_add, Nat.one_mul] at hF
        have hFb : fD 0 l < 10000000000000000000 := by omega
        rw [htl]
        have HOK : Hid (∀ v : Nat, fD 0 l = v → (v : Int) ≤ most → rdV l most = v ∧ rdE l most = 0) := by
          refine hid fun v hv h => ?_
          have hok : rdOk l most := ⟨HCC.out, by unfold valD; omega⟩
          obtain ⟨e1, e2⟩ := rd_ok hok
          exact ⟨by rw [e1]; unfold valD; rw [hv], e2⟩
        have HBD : Hid (∀ v : Nat, fD 0 l = v → ¬ (v : Int) ≤ most → rdV l most = 0 ∧ rdE l most = 102) := by
          refine hid fun v hv h => NO.out fun hr => h ?_
          have := hr.2
          unfold valD at this
          omega
        obtain ⟨F, HF⟩ : ∃ F, Hid (fD 0 l = F) := ⟨_, rfl⟩
        rw [HF.out] at hFb
        rw [HF.out]
        clear htl hF hP hP2
        by_cases hmn : most < 0
        · have E := hid (HBD.out F HF.out (by omega))
          go_wp2
          go_ret2
          exact ⟨by rw [E.out.1, E.out.2]; rfl, Below.refl _ _⟩
        · by_cases hle : (F : Int) ≤ most
          · have E := hid (HOK.out F HF.out hle)
            have hgt : ¬ most < (F : Int) := by omega
            go_wp2
            go_ret2
            exact ⟨by rw [E.out.1, E.out.2]; rfl, Below.refl _ _⟩
          · have E := hid (HBD.out F HF.out hle)
            have hgt : most < (F : Int) := by omega
            go_wp2
            go_ret2
            exact ⟨by rw [E.out.1, E.out.2]; rfl, Below.refl _ _⟩
end Go.Proofs.YtklklldmhoofnaaDoor
