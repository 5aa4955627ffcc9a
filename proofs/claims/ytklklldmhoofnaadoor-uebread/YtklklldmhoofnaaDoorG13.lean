/- Of the road to uebReadCard_holds: UbRAgn, UbRChk, UbRNo, ShaTurn, ShaWords. -/
import Derived.Test.YtklklldmhoofnaaDoorG12
import Derived.Test.YtklklldmhoofnaaDoorG08
import Derived.Test.YtklklldmhoofnaaDoorG09
import Derived.Test.YtklklldmhoofnaaDoorG01
import Derived.Laws.BitsAllLaws
import Derived.Test.YtklklldmhoofnaaDoorG02
import Derived.BigRegion
set_option linter.unusedVariables false
set_option linter.unusedSimpArgs false
namespace Go.Proofs.YtklklldmhoofnaaDoor
open Go Go.RowKit
theorem Bk.setRow9 {w : World} {x y : Nat} {cs m : Array Value} {T : TypeId} (h : Bk w y cs T) (hxy : x ≠ y) : Bk (w.setRow x m) y cs T := by
  show (w.setRow x m).heap[y]? = _
  rw [setRow_other w x y m (by omega)]
  exact h
set_option maxRecDepth 100000 in
set_option maxHeartbeats 16000000 in
theorem ragain_hand (wz : World) (k n g z : Int) : Calls Tryd.prog 30 #[.int .i64 k, .int .i64 n, .int .i64 g, .int .i64 z] wz fun e w' => ∃ cs, e = .returned (.tuple #[.agg cs, .int .i64 (agE k n g z)]) ∧ cs.size = 8 ∧ cs.all (·.oneCell') = true ∧ Below wz.heap.size wz w' := by
  have CS := hid fun (A : Int) w => rshape_hand w k n A z
  unfold prV at CS
  have HI0 : Hid ((Tryd.prog.info? 51).map (·.size) = some (shA sh0).size) := size_shape
  have HIF := hid (again_iff k n g z)
  have HY : Hid (OkS k n g z → agE k n g z = 0) := hid fun h => by unfold agE; rw [if_pos h]
  have HX : Hid (¬ OkS k n g z → agE k n g z = 92) := hid fun h => by unfold agE; rw [if_neg h]
  go_enter Tryd.func30, Tryd.ntmps30
  go_wp2_with fail
  go_loopw [10] (fun i wr => ∃ q : Nat, q ≤ 2 ∧ i = .int .i64 (q : Int) ∧ Hid (1 ≤ q → ¬ (shpE k n g 0 z = 0 ∧ k * upI g k = g)) ∧ Hid (2 ≤ q → ¬ (shpE k n 65536 0 z = 0 ∧ k * upI 65536 k = g)) ∧ Hid (Below wz.heap.size wz wr) ∧ Hid (Bk wr wz.heap.size (shA sh0) 51)) (fun i _ => 2 - (intOf i).toNat)
  case atStart => exact ⟨0, by omega, rfl, hid (fun h => by omega), hid (fun h => by omega), hid (below_alloc _ _), hid (heap_alloc_new wz _)⟩
  case round =>
    obtain ⟨q, hq, rfl, H1, H2, HB, HK⟩ := hrel
    have h3 : q = 0 ∨ q = 1 ∨ q = 2 := by omega
    rcases h3 with rfl | rfl | rfl
    · go_wp2_with fail
      refine (CS.out g _).mono ?_
      rintro e w1 ⟨cs, rfl, hs, ho, hv, hb⟩
      have HB1 := hid (HB.out.trans (hb.mono HB.out.size))
      have HK1 := hid (HK.out.below hb)
      have HI8 : Hid ((Tryd.prog.info? 51).map (·.size) = some cs.size) := by refine hid ?_; rw [hs]; exact size_shape
      have HZ8 : Hid ((shA sh0).size = cs.size) := by refine hid ?_; rw [hs]; rfl
      have HO := hid ho
      have HV := hid hv
      have HS := hid hs
      clear hb ho hv hs
      obtain ⟨E, HE⟩ : ∃ x, Hid (shpE k n g 0 z = x) := ⟨_, rfl⟩
      rw [HE.out] at HV ⊢
      obtain ⟨G, HGG⟩ : ∃ x, Hid (k * upI g k = x) := ⟨_, rfl⟩
      rw [HGG.out] at HV
      have HKN : Hid ((w1.alloc (.cells #[.int .i64 0, .int .i64 0, .int .i64 0, .int .i64 0, .int .i64 0, .int .i64 0, .int .i64 0, .int .i64 0] 51)).heap[w1.heap.size]? = some (.cells (shA sh0) 51 (0, 0))) := by exact heap_alloc_new w1 _
      have HGE : Hid (wz.heap.size < w1.heap.size) := by exact (Array.getElem?_eq_some_iff.1 HK1.out).1
      have HK2 : Hid (Bk ((w1.alloc (.cells #[.int .i64 0, .int .i64 0, .int .i64 0, .int .i64 0, .int .i64 0, .int .i64 0, .int .i64 0, .int .i64 0] 51)).setRow w1.heap.size cs) wz.heap.size (shA sh0) 51) := by
        refine hid (Bk.setRow9 ?_ (by have := HGE.out; omega))
        show (w1.alloc _).heap[wz.heap.size]? = _
        rw [heap_alloc_old _ _ HGE.out]
        exact HK1.out
      have HKX : Hid (Bk ((w1.alloc (.cells #[.int .i64 0, .int .i64 0, .int .i64 0, .int .i64 0, .int .i64 0, .int .i64 0, .int .i64 0, .int .i64 0] 51)).setRow w1.heap.size cs) w1.heap.size cs 51) := hid (setRow_heap _ _ _ _ _ _ HKN.out)
      have HB2 : Hid (Below wz.heap.size wz ((w1.alloc (.cells #[.int .i64 0, .int .i64 0, .int .i64 0, .int .i64 0, .int .i64 0, .int .i64 0, .int .i64 0, .int .i64 0] 51)).setRow w1.heap.size cs)) := hid (bel_setRow (HB1.out.alloc HB1.out.size _) (by have := HGE.out; omega) _)
      by_cases he : E = 0
      · have hc := HV.out he
        have c2 := HKX.out.cell 2 (.int .i64 G) (by rw [hc]; rfl)
        rw [he] at HE ⊢
        have HE2 := hid he
        clear he hc
        by_cases hg : G = g
        · have F := hid (HY.out (HIF.out.2 (Or.inl ⟨HE.out, HGG.out.trans hg⟩)))
          rw [hg] at c2
          go_wp2_with (first | (refine wpList_store_row rfl 51 _ _ rfl w1.heap.size cs rfl rfl 51 (shA sh0) HKN.out HI8.out HZ8.out HO.out ?_) | (refine wpList_load_row rfl 51 _ rfl w1.heap.size rfl 51 cs (0, 0) _ HKX.out Tryd.underlying51 rfl HI8.out ?_) | (refine wpList_store_row rfl 51 _ _ rfl wz.heap.size cs rfl rfl 51 (shA sh0) HK2.out HI8.out HZ8.out HO.out ?_))
          refine bodyPost_ret (v := .tuple #[.agg cs, .int .i64 0]) (results_cellT (p := 8) (u := 9) (ty := 51) rfl _ _ wz.heap.size 51 cs (0, 0) _ rfl (setRow_heap _ _ _ _ _ _ HK2.out) Tryd.underlying51 rfl HI8.out _ rfl) rfl ?_
          exact ⟨cs, by rw [F.out], HS.out, HO.out, bel_setRow HB2.out (Nat.le_refl _) _⟩
        · have NO := hid (p := ¬ (shpE k n g 0 z = 0 ∧ k * upI g k = g)) (fun h => hg (HGG.out.symm.trans h.2))
          have hgb : (G == g) = false := by simpa using hg
          go_wp2_with (first | (refine wpList_store_row rfl 51 _ _ rfl w1.heap.size cs rfl rfl 51 (shA sh0) HKN.out HI8.out HZ8.out HO.out ?_))
          exact ⟨⟨1, by omega, rfl, hid (fun _ => NO.out), hid (fun h => by omega), HB2, HK2⟩, by simp [intOf]⟩
      · have NO := hid (p := ¬ (shpE k n g 0 z = 0 ∧ k * upI g k = g)) (fun h => he (HE.out.symm.trans h.1))
        have heb : (E == 0) = false := by simpa using he
        go_wp2_with (first | (refine wpList_store_row rfl 51 _ _ rfl w1.heap.size cs rfl rfl 51 (shA sh0) HKN.out HI8.out HZ8.out HO.out ?_))
        exact ⟨⟨1, by omega, rfl, hid (fun _ => NO.out), hid (fun h => by omega), HB2, HK2⟩, by simp [intOf]⟩
    · go_wp2_with fail
      refine (CS.out 65536 _).mono ?_
      rintro e w1 ⟨cs, rfl, hs, ho, hv, hb⟩
      have HB1 := hid (HB.out.trans (hb.mono HB.out.size))
      have HK1 := hid (HK.out.below hb)
      have HI8 : Hid ((Tryd.prog.info? 51).map (·.size) = some cs.size) := by refine hid ?_; rw [hs]; exact size_shape
      have HZ8 : Hid ((shA sh0).size = cs.size) := by refine hid ?_; rw [hs]; rfl
      have HO := hid ho
      have HV := hid hv
      have HS := hid hs
      clear hb ho hv hs
      obtain ⟨E, HE⟩ : ∃ x, Hid (shpE k n 65536 0 z = x) := ⟨_, rfl⟩
      rw [HE.out] at HV ⊢
      obtain ⟨G, HGG⟩ : ∃ x, Hid (k * upI 65536 k = x) := ⟨_, rfl⟩
      rw [HGG.out] at HV
      have HKN : Hid ((w1.alloc (.cells #[.int .i64 0, .int .i64 0, .int .i64 0, .int .i64 0, .int .i64 0, .int .i64 0, .int .i64 0, .int .i64 0] 51)).heap[w1.heap.size]? = some (.cells (shA sh0) 51 (0, 0))) := by exact heap_alloc_new w1 _
      have HGE : Hid (wz.heap.size < w1.heap.size) := by exact (Array.getElem?_eq_some_iff.1 HK1.out).1
      have HK2 : Hid (Bk ((w1.alloc (.cells #[.int .i64 0, .int .i64 0, .int .i64 0, .int .i64 0, .int .i64 0, .int .i64 0, .int .i64 0, .int .i64 0] 51)).setRow w1.heap.size cs) wz.heap.size (shA sh0) 51) := by
        refine hid (Bk.setRow9 ?_ (by have := HGE.out; omega))
        show (w1.alloc _).heap[wz.heap.size]? = _
        rw [heap_alloc_old _ _ HGE.out]
        exact HK1.out
      have HKX : Hid (Bk ((w1.alloc (.cells #[.int .i64 0, .int .i64 0, .int .i64 0, .int .i64 0, .int .i64 0, .int .i64 0, .int .i64 0, .int .i64 0] 51)).setRow w1.heap.size cs) w1.heap.size cs 51) := hid (setRow_heap _ _ _ _ _ _ HKN.out)
      have HB2 : Hid (Below wz.heap.size wz ((w1.alloc (.cells #[.int .i64 0, .int .i64 0, .int .i64 0, .int .i64 0, .int .i64 0, .int .i64 0, .int .i64 0, .int .i64 0] 51)).setRow w1.heap.size cs)) := hid (bel_setRow (HB1.out.alloc HB1.out.size _) (by have := HGE.out; omega) _)
      by_cases he : E = 0
      · have hc := HV.out he
        have c2 := HKX.out.cell 2 (.int .i64 G) (by rw [hc]; rfl)
        rw [he] at HE ⊢
        have HE2 := hid he
        clear he hc
        by_cases hg : G = g
        · have F := hid (HY.out (HIF.out.2 (Or.inr ⟨HE.out, HGG.out.trans hg⟩)))
          rw [hg] at c2
          go_wp2_with (first | (refine wpList_store_row rfl 51 _ _ rfl w1.heap.size cs rfl rfl 51 (shA sh0) HKN.out HI8.out HZ8.out HO.out ?_) | (refine wpList_load_row rfl 51 _ rfl w1.heap.size rfl 51 cs (0, 0) _ HKX.out Tryd.underlying51 rfl HI8.out ?_) | (refine wpList_store_row rfl 51 _ _ rfl wz.heap.size cs rfl rfl 51 (shA sh0) HK2.out HI8.out HZ8.out HO.out ?_))
          refine bodyPost_ret (v := .tuple #[.agg cs, .int .i64 0]) (results_cellT (p := 8) (u := 9) (ty := 51) rfl _ _ wz.heap.size 51 cs (0, 0) _ rfl (setRow_heap _ _ _ _ _ _ HK2.out) Tryd.underlying51 rfl HI8.out _ rfl) rfl ?_
          exact ⟨cs, by rw [F.out], HS.out, HO.out, bel_setRow HB2.out (Nat.le_refl _) _⟩
        · have NO := hid (p := ¬ (shpE k n 65536 0 z = 0 ∧ k * upI 65536 k = g)) (fun h => hg (HGG.out.symm.trans h.2))
          have hgb : (G == g) = false := by simpa using hg
          go_wp2_with (first | (refine wpList_store_row rfl 51 _ _ rfl w1.heap.size cs rfl rfl 51 (shA sh0) HKN.out HI8.out HZ8.out HO.out ?_))
          exact ⟨⟨2, by omega, rfl, hid (fun _ => H1.out (by omega)), hid (fun _ => NO.out), HB2, HK2⟩, by simp [intOf]⟩
      · have NO := hid (p := ¬ (shpE k n 65536 0 z = 0 ∧ k * upI 65536 k = g)) (fun h => he (HE.out.symm.trans h.1))
        have heb : (E == 0) = false := by simpa using he
        go_wp2_with (first | (refine wpList_store_row rfl 51 _ _ rfl w1.heap.size cs rfl rfl 51 (shA sh0) HKN.out HI8.out HZ8.out HO.out ?_))
        exact ⟨⟨2, by omega, rfl, hid (fun _ => H1.out (by omega)), hid (fun _ => NO.out), HB2, HK2⟩, by simp [intOf]⟩
    · have F := hid (HX.out fun h => (HIF.out.1 h).elim (H1.out (by omega)) (H2.out (by omega)))
      go_wp2_with (refine wpList_store_row rfl 51 _ _ rfl wz.heap.size (shA sh0) rfl rfl 51 (shA sh0) HK.out HI0.out rfl sh0_one ?_)
      refine bodyPost_ret (v := .tuple #[.agg (shA sh0), .int .i64 92]) (results_cellT (p := 8) (u := 9) (ty := 51) rfl _ _ wz.heap.size 51 (shA sh0) (0, 0) _ rfl (setRow_heap _ _ _ _ _ _ HK.out) Tryd.underlying51 rfl size_shape _ rfl) rfl ?_
      exact ⟨shA sh0, by rw [F.out], rfl, sh0_one, bel_setRow HB.out (Nat.le_refl _) _⟩
set_option maxRecDepth 100000 in
set_option maxHeartbeats 4000000 in
theorem rcheck13_any (w : World) (u : Ub) (hu : u.ok) : Calls Tryd.prog 17 #[.agg (ubA u)] w fun e w' => e = .returned (.int .i64 (chE u)) ∧ Below w.heap.size w w' := by
  have C := hid fun w => ragain_hand w u.k u.n u.g u.z
  have HS := hid (size_ub hu)
  have H1 := hid (ubA_one u)
  have q0 : (ubA u)[0]? = some (.int .i64 u.k) := rfl
  have q1 : (ubA u)[1]? = some (.int .i64 u.n) := rfl
  have q2 : (ubA u)[2]? = some (.int .i64 u.g) := rfl
  have q3 : (ubA u)[3]? = some (.int .i64 u.z) := rfl
  obtain ⟨m, HM⟩ : ∃ x, Hid (ubA u = x) := ⟨_, rfl⟩
  obtain ⟨k, Hk⟩ : ∃ x, Hid (u.k = x) := ⟨_, rfl⟩
  obtain ⟨n, Hn⟩ : ∃ x, Hid (u.n = x) := ⟨_, rfl⟩
  obtain ⟨g, Hg⟩ : ∃ x, Hid (u.g = x) := ⟨_, rfl⟩
  obtain ⟨z, Hz⟩ : ∃ x, Hid (u.z = x) := ⟨_, rfl⟩
  rw [Hk.out, Hn.out, Hg.out, Hz.out] at C
  rw [Hk.out] at q0
  rw [Hn.out] at q1
  rw [Hg.out] at q2
  rw [Hz.out] at q3
  rw [HM.out] at HS H1 q0 q1 q2 q3 ⊢
  have E : Hid (chE u = if OkS k n g z then 0 else 133) := by unfold chE; rw [Hk.out, Hn.out, Hg.out, Hz.out]; exact rfl
  rw [E.out]
  by_cases hok : OkS k n g z
  · have e1 : agE k n g z = 0 := by unfold agE; rw [if_pos hok]
    rw [if_pos hok]
    have C : Hid (∀ w, Calls Tryd.prog 30 #[.int .i64 k, .int .i64 n, .int .i64 g, .int .i64 z] w fun e w' => ∃ cs, e = .returned (.tuple #[.agg cs, .int .i64 0]) ∧ cs.size = 8 ∧ cs.all (·.oneCell') = true ∧ Below w.heap.size w w') := by
      rw [← e1]
      exact C.out
    clear e1 hok
    go_enter Tryd.func17, Tryd.ntmps17
    go_wp2_with fail
    refine (C.out _).mono ?_
    rintro e w1 ⟨cs, rfl, hcs, hone, hb1⟩
    have B1 := hid ((((Below.refl _ w).alloc (Nat.le_refl _) _)).trans (hb1.mono (by simp)))
    have hsz := B1.out.size
    have HC1 : Hid ((Tryd.prog.info? 51).map (·.size) = some cs.size) := by refine hid ?_; rw [hcs]; exact size_shape
    have HC2 : Hid ((shA sh0).size = cs.size) := by refine hid ?_; rw [hcs]; exact rfl
    have HC3 := hid hone
    clear hb1 hcs hone
    go_wp2_with (refine wpList_store_row rfl 51 _ _ rfl w1.heap.size cs rfl rfl 51 (shA sh0) (heap_alloc_new w1 _) HC1.out HC2.out HC3.out ?_)
    go_ret
    exact ⟨rfl, bel_setRow (B1.out.alloc hsz _) (by omega) _⟩
  · have e1 : agE k n g z = 92 := by unfold agE; rw [if_neg hok]
    rw [if_neg hok]
    have C : Hid (∀ w, Calls Tryd.prog 30 #[.int .i64 k, .int .i64 n, .int .i64 g, .int .i64 z] w fun e w' => ∃ cs, e = .returned (.tuple #[.agg cs, .int .i64 92]) ∧ cs.size = 8 ∧ cs.all (·.oneCell') = true ∧ Below w.heap.size w w') := by
      rw [← e1]
      exact C.out
    clear e1 hok
    go_enter Tryd.func17, Tryd.ntmps17
    go_wp2_with fail
    refine (C.out _).mono ?_
    rintro e w1 ⟨cs, rfl, hcs, hone, hb1⟩
    have B1 := hid ((((Below.refl _ w).alloc (Nat.le_refl _) _)).trans (hb1.mono (by simp)))
    have hsz := B1.out.size
    have HC1 : Hid ((Tryd.prog.info? 51).map (·.size) = some cs.size) := by refine hid ?_; rw [hcs]; exact size_shape
    have HC2 : Hid ((shA sh0).size = cs.size) := by refine hid ?_; rw [hcs]; exact rfl
    have HC3 := hid hone
    clear hb1 hcs hone
    go_wp2_with (refine wpList_store_row rfl 51 _ _ rfl w1.heap.size cs rfl rfl 51 (shA sh0) (heap_alloc_new w1 _) HC1.out HC2.out HC3.out ?_)
    go_ret
    exact ⟨rfl, bel_setRow (B1.out.alloc hsz _) (by omega) _⟩
set_option maxRecDepth 100000 in
set_option maxHeartbeats 4000000 in
theorem rno13_any (w : World) (s : ByteArray) (vv : Value) (x : List Int) (hx : HB w vv x) (hl : x.length ≤ 65536) : Calls Tryd.prog 29 #[.agg #[.string s, vv]] w fun e w' => e = .returned (.tuple #[.int .i64 (rdV (Lib.bytesOf x) 2147483647), .bool (decide (rdE (Lib.bytesOf x) 2147483647 = 0))]) ∧ Below w.heap.size w w' := by
  obtain ⟨p, c, rfl, hlc, hcm⟩ := hx.open
  have hW := hx.below (below_alloc w (.cells #[.string s, .slice p x.length c] 49))
  have qc := conv_str hW
  have C := hid (rread_any (w.alloc (.cells #[.string s, .slice p x.length c] 49)) (bS x) 2147483647 (by rw [bS_size]; omega) (by omega) (by omega))
  rw [bS_bytes] at C
  obtain ⟨R, HR⟩ : ∃ y, Hid (rdV (Lib.bytesOf x) 2147483647 = y) := ⟨_, rfl⟩
  obtain ⟨E, HE⟩ : ∃ y, Hid (rdE (Lib.bytesOf x) 2147483647 = y) := ⟨_, rfl⟩
  rw [HR.out, HE.out] at C ⊢
  obtain ⟨n, HN⟩ : ∃ y, Hid (x.length = y) := ⟨_, rfl⟩
  rw [HN.out] at C qc ⊢
  clear hW hx hl hlc hcm
  go_enter Tryd.func29, Tryd.ntmps29
  go_wp2_with fail
  refine C.out.mono ?_
  rintro e w2 ⟨rfl, hb2⟩
  have B2 := hid ((below_alloc w (.cells #[.string s, .slice p n c] 49)).trans (hb2.mono (by simp)))
  clear hb2 qc C
  by_cases hE : E = 0
  · subst hE
    go_wp2
    go_ret2
    exact ⟨rfl, B2.out⟩
  · have hE2 : (E == 0) = false := by simpa using hE
    have hE3 : decide (E = 0) = false := by simpa using hE
    go_wp2
    go_ret2
    exact ⟨by rw [hE3]; rfl, B2.out⟩
set_option maxRecDepth 100000 in
set_option maxHeartbeats 4000000 in
theorem rdigits13_any (w : World) (x : Int) (h0 : -9223372036854775808 ≤ x) (h1 : x ≤ 9223372036854775807) : Calls Tryd.prog 32 #[.int .i64 x] w fun e w' => e = .returned (.string (nS x)) ∧ Below w.heap.size w w' := by
  have C := hid (rnumber_any w x h0 h1)
  obtain ⟨s, HS⟩ : ∃ y, Hid (nS x = y) := ⟨_, rfl⟩
  rw [HS.out] at C ⊢
  clear h0 h1
  go_enter Tryd.func32, Tryd.ntmps32
  go_wp2_with fail
  refine C.out.mono ?_
  rintro e w2 ⟨rfl, hb2⟩
  have B2 := hid hb2
  clear hb2 C
  go_wp2
  go_ret
  exact ⟨rfl, B2.out⟩
end Go.Proofs.YtklklldmhoofnaaDoor
namespace Go.Proofs.YtklklldmhoofnaaDoor
open Go.RowKit
def rot (x n : Nat) : Nat := x * 2 ^ (32 - n) % 4294967296 ||| x / 2 ^ n
theorem rot_lt {x n : Nat} (hx : x < 4294967296) : rot x n < 4294967296 := by
  unfold rot
  have h1 : x * 2 ^ (32 - n) % 4294967296 < 2 ^ 32 := Nat.mod_lt _ (by decide)
  have h2 : x / 2 ^ n < 2 ^ 32 := Nat.lt_of_le_of_lt (Nat.div_le_self _ _) hx
  exact Nat.or_lt_two_pow h1 h2
theorem rot_bits (x n : Nat) (hx : x < 4294967296) : bits .or .u32 (IntKind.u32.wrap ((x : Int) * 2 ^ (32 - n))) ((x : Int) / 2 ^ n) = ((rot x n : Nat) : Int) := by
  have e1 : IntKind.u32.wrap ((x : Int) * 2 ^ (32 - n)) = ((x * 2 ^ (32 - n) % 4294967296 : Nat) : Int) := by
    rw [IntKind.wrap_u32, Int.natCast_emod, Int.natCast_mul, Int.natCast_pow]
    rfl
  have e2 : (x : Int) / 2 ^ n = ((x / 2 ^ n : Nat) : Int) := by rw [Int.natCast_ediv, Int.natCast_pow]; rfl
  rw [e1, e2, u32_or_nat _ _ (Nat.mod_lt _ (by decide)) (Nat.lt_of_le_of_lt (Nat.div_le_self _ _) hx)]
  rfl
set_option maxRecDepth 100000 in
set_option maxHeartbeats 1000000 in
theorem turn_6 (w : World) (x : Nat) (hx : x < 4294967296) : Calls Tryd.prog 114 #[.int .u32 (x : Int), .int .i64 6] w fun e w' => e = .returned (.int .u32 ((rot x 6 : Nat) : Int)) ∧ w' = w := by
  have h1 : bits .and .u64 (IntKind.u64.wrap (-6)) 31 = 26 := by decide
  have HR := hid (rot_bits x 6 hx)
  go_enter Tryd.func114, Tryd.ntmps114
  go_wp2
  go_ret
  refine ⟨?_, rfl⟩
  rw [← HR.out]
  rfl
set_option maxRecDepth 100000 in
set_option maxHeartbeats 1000000 in
theorem turn_11 (w : World) (x : Nat) (hx : x < 4294967296) : Calls Tryd.prog 114 #[.int .u32 (x : Int), .int .i64 11] w fun e w' => e = .returned (.int .u32 ((rot x 11 : Nat) : Int)) ∧ w' = w := by
  have h1 : bits .and .u64 (IntKind.u64.wrap (-11)) 31 = 21 := by decide
  have HR := hid (rot_bits x 11 hx)
  go_enter Tryd.func114, Tryd.ntmps114
  go_wp2
  go_ret
  refine ⟨?_, rfl⟩
  rw [← HR.out]
  rfl
set_option maxRecDepth 100000 in
set_option maxHeartbeats 1000000 in
theorem turn_25 (w : World) (x : Nat) (hx : x < 4294967296) : Calls Tryd.prog 114 #[.int .u32 (x : Int), .int .i64 25] w fun e w' => e = .returned (.int .u32 ((rot x 25 : Nat) : Int)) ∧ w' = w := by
  have h1 : bits .and .u64 (IntKind.u64.wrap (-25)) 31 = 7 := by decide
  have HR := hid (rot_bits x 25 hx)
  go_enter Tryd.func114, Tryd.ntmps114
  go_wp2
  go_ret
  refine ⟨?_, rfl⟩
  rw [← HR.out]
  rfl
set_option maxRecDepth 100000 in
set_option maxHeartbeats 1000000 in
theorem turn_2 (w : World) (x : Nat) (hx : x < 4294967296) : Calls Tryd.prog 114 #[.int .u32 (x : Int), .int .i64 2] w fun e w' => e = .returned (.int .u32 ((rot x 2 : Nat) : Int)) ∧ w' = w := by
  have h1 : bits .and .u64 (IntKind.u64.wrap (-2)) 31 = 30 := by decide
  have HR := hid (rot_bits x 2 hx)
  go_enter Tryd.func114, Tryd.ntmps114
  go_wp2
  go_ret
  refine ⟨?_, rfl⟩
  rw [← HR.out]
  rfl
set_option maxRecDepth 100000 in
set_option maxHeartbeats 1000000 in
theorem turn_13 (w : World) (x : Nat) (hx : x < 4294967296) : Calls Tryd.prog 114 #[.int .u32 (x : Int), .int .i64 13] w fun e w' => e = .returned (.int .u32 ((rot x 13 : Nat) : Int)) ∧ w' = w := by
  have h1 : bits .and .u64 (IntKind.u64.wrap (-13)) 31 = 19 := by decide
  have HR := hid (rot_bits x 13 hx)
  go_enter Tryd.func114, Tryd.ntmps114
  go_wp2
  go_ret
  refine ⟨?_, rfl⟩
  rw [← HR.out]
  rfl
set_option maxRecDepth 100000 in
set_option maxHeartbeats 1000000 in
theorem turn_22 (w : World) (x : Nat) (hx : x < 4294967296) : Calls Tryd.prog 114 #[.int .u32 (x : Int), .int .i64 22] w fun e w' => e = .returned (.int .u32 ((rot x 22 : Nat) : Int)) ∧ w' = w := by
  have h1 : bits .and .u64 (IntKind.u64.wrap (-22)) 31 = 10 := by decide
  have HR := hid (rot_bits x 22 hx)
  go_enter Tryd.func114, Tryd.ntmps114
  go_wp2
  go_ret
  refine ⟨?_, rfl⟩
  rw [← HR.out]
  rfl
set_option maxRecDepth 100000 in
set_option maxHeartbeats 1000000 in
theorem turn_7 (w : World) (x : Nat) (hx : x < 4294967296) : Calls Tryd.prog 114 #[.int .u32 (x : Int), .int .i64 7] w fun e w' => e = .returned (.int .u32 ((rot x 7 : Nat) : Int)) ∧ w' = w := by
  have h1 : bits .and .u64 (IntKind.u64.wrap (-7)) 31 = 25 := by decide
  have HR := hid (rot_bits x 7 hx)
  go_enter Tryd.func114, Tryd.ntmps114
  go_wp2
  go_ret
  refine ⟨?_, rfl⟩
  rw [← HR.out]
  rfl
set_option maxRecDepth 100000 in
set_option maxHeartbeats 1000000 in
theorem turn_18 (w : World) (x : Nat) (hx : x < 4294967296) : Calls Tryd.prog 114 #[.int .u32 (x : Int), .int .i64 18] w fun e w' => e = .returned (.int .u32 ((rot x 18 : Nat) : Int)) ∧ w' = w := by
  have h1 : bits .and .u64 (IntKind.u64.wrap (-18)) 31 = 14 := by decide
  have HR := hid (rot_bits x 18 hx)
  go_enter Tryd.func114, Tryd.ntmps114
  go_wp2
  go_ret
  refine ⟨?_, rfl⟩
  rw [← HR.out]
  rfl
set_option maxRecDepth 100000 in
set_option maxHeartbeats 1000000 in
theorem turn_17 (w : World) (x : Nat) (hx : x < 4294967296) : Calls Tryd.prog 114 #[.int .u32 (x : Int), .int .i64 17] w fun e w' => e = .returned (.int .u32 ((rot x 17 : Nat) : Int)) ∧ w' = w := by
  have h1 : bits .and .u64 (IntKind.u64.wrap (-17)) 31 = 15 := by decide
  have HR := hid (rot_bits x 17 hx)
  go_enter Tryd.func114, Tryd.ntmps114
  go_wp2
  go_ret
  refine ⟨?_, rfl⟩
  rw [← HR.out]
  rfl
set_option maxRecDepth 100000 in
set_option maxHeartbeats 1000000 in
theorem turn_19 (w : World) (x : Nat) (hx : x < 4294967296) : Calls Tryd.prog 114 #[.int .u32 (x : Int), .int .i64 19] w fun e w' => e = .returned (.int .u32 ((rot x 19 : Nat) : Int)) ∧ w' = w := by
  have h1 : bits .and .u64 (IntKind.u64.wrap (-19)) 31 = 13 := by decide
  have HR := hid (rot_bits x 19 hx)
  go_enter Tryd.func114, Tryd.ntmps114
  go_wp2
  go_ret
  refine ⟨?_, rfl⟩
  rw [← HR.out]
  rfl
def cellsW (l : List Nat) : Array Value := (l.map (fun x : Nat => Value.int .u32 (x : Int))).toArray
theorem cellsW_size (l : List Nat) : (cellsW l).size = l.length := by simp [cellsW]
theorem cellsW_one (l : List Nat) : (cellsW l).all (·.oneCell') = true := all_oneCell_toArray (fun v hv => by obtain ⟨x, _, rfl⟩ := List.mem_map.1 hv; rfl)
theorem cellsW_get {l : List Nat} {i : Nat} (h : i < l.length) : (cellsW l)[i]? = some (.int .u32 ((l.getD i 0 : Nat) : Int)) := by
  simp [cellsW, List.getD, List.getElem?_eq_getElem h]
theorem cellsW_set (l : List Nat) (i x : Nat) : (cellsW l).setIfInBounds i (.int .u32 (x : Int)) = cellsW (l.set i x) := by
  unfold cellsW
  rw [List.map_set]
  simp
def zerosW (n : Nat) : List Nat := List.replicate n 0
theorem zerosW_length (n : Nat) : (zerosW n).length = n := by simp [zerosW]
theorem wpList_alloc_agg {T : TypeId} {cs : Array Value} (hz : (Tryd.prog.info? T).map (·.zero) = some (some (.agg cs))) {ops : Array Oper} {rest : List Oper} {o : Oper} {a : Act} {w : World} {Q : Exit → Act → World → Prop} (hgd : o.guard = none) (ho : o.op = .alloc T)
    (h : wpList Tryd.prog ops Q rest (a.put o.dst (.pointer (some ⟨w.heap.size, 0, none⟩))) (w.alloc (.cells cs T))) : wpList Tryd.prog ops Q (o :: rest) a w :=
  wpList_plain hgd fun _ hK => by
    have hr : (Instr.alloc T true (.tuple #[])).run Tryd.prog w = .ok (.pointer (some ⟨w.heap.size, 0, none⟩)) (w.alloc (.cells cs T)) := by
      cases hi : Tryd.prog.info? T with
      | none => simp [hi] at hz
      | some i0 =>
        simp [hi] at hz
        simp [Instr.alloc, zeroValue, typeInfo, hi, hz, newVar, newRow, Value.cells]
    unfold Oper.wp
    simp only [execOp, ho, Sem.run_bind, hr, Result.andThen_ok]
    exact hK _ _ h
theorem zero_w64 : (Tryd.prog.info? 113).map (·.zero) = some (some (.agg (cellsW (zerosW 64)))) := by kernel_rfl
theorem zero_w8 : (Tryd.prog.info? 101).map (·.zero) = some (some (.agg (cellsW (zerosW 8)))) := by kernel_rfl
theorem size_w64 : (Tryd.prog.info? 113).map (·.size) = some 64 := by kernel_rfl
theorem size_w8 : (Tryd.prog.info? 101).map (·.size) = some 8 := by kernel_rfl
theorem size_b64 : (Tryd.prog.info? 103).map (·.size) = some 64 := by kernel_rfl
def beW (l : List Int) (t : Nat) : Nat := (l.getD (4 * t) 0).toNat * 16777216 + (l.getD (4 * t + 1) 0).toNat * 65536 + (l.getD (4 * t + 2) 0).toNat * 256 + (l.getD (4 * t + 3) 0).toNat
def add32 (x y : Nat) : Nat := (x + y) % 4294967296
def sig0 (x : Nat) : Nat := rot x 7 ^^^ rot x 18 ^^^ x / 8
def sig1 (x : Nat) : Nat := rot x 17 ^^^ rot x 19 ^^^ x / 1024
def nextW (l : List Int) (ws : List Nat) (t : Nat) : Nat :=
  if t < 16 then beW l t else add32 (add32 (add32 (sig1 (ws.getD (t - 2) 0)) (ws.getD (t - 7) 0)) (sig0 (ws.getD (t - 15) 0))) (ws.getD (t - 16) 0)
def wordsTo (l : List Int) : Nat → List Nat
  | 0 => []
  | t + 1 => wordsTo l t ++ [nextW l (wordsTo l t) t]
theorem wordsTo_length (l : List Int) : ∀ t, (wordsTo l t).length = t
  | 0 => rfl
  | t + 1 => by simp [wordsTo, wordsTo_length l t]
def curWs (l : List Int) (t : Nat) : List Nat := wordsTo l t ++ List.replicate (64 - t) 0
theorem curWs_length (l : List Int) (t : Nat) (h : t ≤ 64) : (curWs l t).length = 64 := by simp [curWs, wordsTo_length]; omega
theorem curWs_step (l : List Int) (t : Nat) (h : t < 64) : (curWs l t).set t (nextW l (wordsTo l t) t) = curWs l (t + 1) := by
  unfold curWs
  rw [List.set_append_right _ _ (by rw [wordsTo_length]; exact Nat.le_refl _), wordsTo_length, Nat.sub_self, show 64 - t = (64 - (t + 1)) + 1 by omega, List.replicate_succ, List.set_cons_zero]
  simp [wordsTo]
theorem curWs_get (l : List Int) (t i : Nat) (h : i < t) : (curWs l t).getD i 0 = (wordsTo l t).getD i 0 := by
  unfold curWs
  simp [List.getD, List.getElem?_append, wordsTo_length, h]
theorem byte_nat {l : List Int} (h : ∀ x ∈ l, 0 ≤ x ∧ x < 256) (i : Nat) : (l.getD i 0).toNat < 256 := by
  by_cases hj : i < l.length
  · rw [getD_of_lt hj]
    have := h _ (List.getElem_mem hj)
    omega
  · have e : l.getD i 0 = 0 := by simp [List.getD, List.getElem?_eq_none (by omega : l.length ≤ i)]
    rw [e]; decide
theorem beW_lt {l : List Int} (h : ∀ x ∈ l, 0 ≤ x ∧ x < 256) (t : Nat) : beW l t < 4294967296 := by
  unfold beW
  have h0 := byte_nat h (4 * t)
  have h1 := byte_nat h (4 * t + 1)
  have h2 := byte_nat h (4 * t + 2)
  have h3 := byte_nat h (4 * t + 3)
  omega
theorem nextW_lt {l : List Int} (h : ∀ x ∈ l, 0 ≤ x ∧ x < 256) (ws : List Nat) (t : Nat) : nextW l ws t < 4294967296 := by
  unfold nextW
  split
  · exact beW_lt h t
  · exact Nat.mod_lt _ (by decide)
theorem wordsTo_lt {l : List Int} (h : ∀ x ∈ l, 0 ≤ x ∧ x < 256) : ∀ t, ∀ x ∈ wordsTo l t, x < 4294967296
  | 0 => by simp [wordsTo]
  | t + 1 => by
    intro x hx
    rcases List.mem_append.1 hx with h1 | h1
    · exact wordsTo_lt h t x h1
    · have : x = nextW l (wordsTo l t) t := by simpa using h1
      rw [this]
      exact nextW_lt h _ _
theorem getW_lt {ws : List Nat} (h : ∀ x ∈ ws, x < 4294967296) (i : Nat) : ws.getD i 0 < 4294967296 := by
  by_cases hj : i < ws.length
  · rw [show ws.getD i 0 = ws[i] by simp [List.getD, List.getElem?_eq_getElem hj]]
    exact h _ (List.getElem_mem hj)
  · rw [show ws.getD i 0 = 0 by simp [List.getD, List.getElem?_eq_none (by omega : ws.length ≤ i)]]
    decide
theorem or_four (a b c d : Nat) (ha : a < 256) (hb : b < 256) (hc : c < 256) (hd : d < 256) :
    bits .or .u32 (bits .or .u32 (bits .or .u32 ((a : Int) * 16777216) ((b : Int) * 65536)) ((c : Int) * 256)) (d : Int) = ((a * 16777216 + b * 65536 + c * 256 + d : Nat) : Int) := by
  have e1 : bits .or .u32 ((a : Int) * 16777216) ((b : Int) * 65536) = ((a * 16777216 + b * 65536 : Nat) : Int) := by
    have := u32_or_nat (a * 16777216) (b * 65536) (by omega) (by omega)
    rw [Int.natCast_mul, Int.natCast_mul] at this
    rw [show ((a : Int) * 16777216) = (a : Int) * ((16777216 : Nat) : Int) from rfl, show ((b : Int) * 65536) = (b : Int) * ((65536 : Nat) : Int) from rfl, this]
    congr 1
    have := Nat.two_pow_add_eq_or_of_lt (i := 24) (b := b * 65536) (by omega) a
    rw [show 2 ^ 24 * a = a * 16777216 by omega] at this
    omega
  have e2 : bits .or .u32 ((a * 16777216 + b * 65536 : Nat) : Int) ((c : Int) * 256) = ((a * 16777216 + b * 65536 + c * 256 : Nat) : Int) := by
    have := u32_or_nat (a * 16777216 + b * 65536) (c * 256) (by omega) (by omega)
    rw [show ((c : Int) * 256) = ((c * 256 : Nat) : Int) by rw [Int.natCast_mul]; rfl, this]
    congr 1
    have := Nat.two_pow_add_eq_or_of_lt (i := 16) (b := c * 256) (by omega) (a * 256 + b)
    rw [show 2 ^ 16 * (a * 256 + b) = a * 16777216 + b * 65536 by omega] at this
    omega
  rw [e1, e2, u32_or_nat _ _ (by omega) (by omega)]
  congr 1
  have := Nat.two_pow_add_eq_or_of_lt (i := 8) (b := d) (by omega) (a * 65536 + b * 256 + c)
  rw [show 2 ^ 8 * (a * 65536 + b * 256 + c) = a * 16777216 + b * 65536 + c * 256 by omega] at this
  omega
theorem grown_setd (w : World) (g o : Nat) (u : Value) : w.grownBy (w.setCell ⟨g, o, none⟩ u).drew (some g) :=
  ⟨rfl, rfl, rfl, by show w.heap.size ≤ (w.setCell ⟨g, o, none⟩ u).heap.size; simp, fun k _ hk => heap_setCell_other w ⟨g, o, none⟩ k u (fun e => hk (by simp [e]))⟩
theorem grown_sets (w : World) (g o : Nat) (u : Value) : w.grownBy (w.setCell ⟨g, o, none⟩ u) (some g) :=
  ⟨rfl, rfl, rfl, by simp, fun k _ hk => heap_setCell_other w ⟨g, o, none⟩ k u (fun e => hk (by simp [e]))⟩
theorem grown_tr {a b c : World} {r : Option Nat} (h : a.grownBy b r) (k : b.grownBy c r) : a.grownBy c r :=
  ⟨k.os.trans h.os, k.tape.trans h.tape, k.output.trans h.output, Nat.le_trans h.size k.size, fun i hi hr => (k.block i (Nat.lt_of_lt_of_le hi h.size) hr).trans (h.block i hi hr)⟩
theorem sig0_bits (x : Nat) (hx : x < 4294967296) : bits .xor .u32 (bits .xor .u32 ((rot x 7 : Nat) : Int) ((rot x 18 : Nat) : Int)) ((x : Int) / 8) = ((sig0 x : Nat) : Int) := by
  have h1 : rot x 7 ^^^ rot x 18 < 2 ^ 32 := Nat.xor_lt_two_pow (rot_lt hx) (rot_lt hx)
  rw [u32_xor_nat _ _ (rot_lt hx) (rot_lt hx), show (x : Int) / 8 = ((x / 8 : Nat) : Int) by omega, u32_xor_nat _ _ h1 (by omega)]
  rfl
theorem sig1_bits (x : Nat) (hx : x < 4294967296) : bits .xor .u32 (bits .xor .u32 ((rot x 17 : Nat) : Int) ((rot x 19 : Nat) : Int)) ((x : Int) / 1024) = ((sig1 x : Nat) : Int) := by
  have h1 : rot x 17 ^^^ rot x 19 < 2 ^ 32 := Nat.xor_lt_two_pow (rot_lt hx) (rot_lt hx)
  rw [u32_xor_nat _ _ (rot_lt hx) (rot_lt hx), show (x : Int) / 1024 = ((x / 1024 : Nat) : Int) by omega, u32_xor_nat _ _ h1 (by omega)]
  rfl
theorem wrap_add32 (x y : Nat) : IntKind.u32.wrap ((x : Int) + (y : Int)) = ((add32 x y : Nat) : Int) := by
  rw [IntKind.wrap_u32]
  unfold add32
  omega
theorem add32_lt (x y : Nat) : add32 x y < 4294967296 := Nat.mod_lt _ (by decide)
theorem sig0_lt {x : Nat} (hx : x < 4294967296) : sig0 x < 4294967296 := by
  unfold sig0
  exact Nat.xor_lt_two_pow (n := 32) (Nat.xor_lt_two_pow (rot_lt hx) (rot_lt hx)) (by omega)
theorem sig1_lt {x : Nat} (hx : x < 4294967296) : sig1 x < 4294967296 := by
  unfold sig1
  exact Nat.xor_lt_two_pow (n := 32) (Nat.xor_lt_two_pow (rot_lt hx) (rot_lt hx)) (by omega)
end Go.Proofs.YtklklldmhoofnaaDoor
