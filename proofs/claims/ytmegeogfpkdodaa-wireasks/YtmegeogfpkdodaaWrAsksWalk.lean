/- WireAsks, walked. -/
import Derived.Test.YtmegeogfpkdodaaWrSame
set_option linter.unusedVariables false
set_option linter.unusedSimpArgs false
namespace Go.Proofs.Ytmegeogfpkdodaa
open Go Go.RowKit

theorem layQ_len (r : Rq) (b : List Int) (hr : r.ok) (hm : mayB r b.length = true) : (layQ r b).length ≤ 33554500 := by
  have hb : b.length ≤ 33554432 := by
    unfold mayB at hm
    (repeat' split at hm) <;> simp only [Bool.and_eq_true, decide_eq_true_eq, Bool.false_eq_true] at hm <;> omega
  have h16 := hr.1
  unfold layQ
  (repeat' split) <;> simp [bigL_length, h16] <;> omega
theorem layQ_byt {r : Rq} {b : List Int} (hr : r.ok) (hk : 0 ≤ r.k ∧ r.k < 256) (hb : ∀ x ∈ b, 0 ≤ x ∧ x < 256) : ∀ x ∈ layQ r b, 0 ≤ x ∧ x < 256 := by
  intro x hx
  unfold layQ at hx
  rcases List.mem_cons.1 hx with rfl | hx
  · exact hk
  · rcases List.mem_append.1 hx with h | h
    · exact hr.2 x h
    · (repeat' split at h) <;> (try simp only [List.mem_append, List.not_mem_nil] at h)
      · rcases h with h | h | h | h | h
        · exact bigL_byt _ _ x h
        · exact bigL_byt _ _ x h
        · exact bigL_byt _ _ x h
        · exact bigL_byt _ _ x h
        · exact hb x h
      · rcases h with h | h | h <;> exact bigL_byt _ _ x h
      · rcases h with h | h <;> exact bigL_byt _ _ x h
      · exact bigL_byt _ _ x h
set_option maxRecDepth 100000 in
set_option maxHeartbeats 32000000 in
theorem wasks_walk (w : World) (r : Rq) (hr : r.ok) (hk : 0 ≤ r.k ∧ r.k < 256) (hwho : 0 ≤ r.who ∧ r.who < 4294967296) (va : Value) (la : List Int) (ha : HB w va la) (vb : Value) (lb : List Int) (hb : HB w vb lb) (hbig : lb.length ≤ 140737488351232) :
    Calls Try.prog 4 #[.agg (rqA r va), vb] w fun e w' => e = .returned (.bool true) ∧ Below w.heap.size w w' := by
  have hone : Hid ((rqA r va).all (·.oneCell') = true) := hid (rqA_one _ _ ha.one)
  have hmsz : Hid ((rqA r va).size = 23) := hid (rqA_size hr va)
  have SR : Hid ((Try.prog.info? 38).map (·.size) = some 23) := hid (by kernel_rfl)
  obtain ⟨m, HM⟩ : ∃ m, Hid (rqA r va = m) := ⟨_, hid rfl⟩
  obtain ⟨ml, HMM, HML⟩ : ∃ ml : List Value, Hid (ml.toArray = m) ∧ Hid (m.toList = ml) := ⟨m.toList, hid (by simp), hid rfl⟩
  obtain ⟨W1, HW1⟩ : ∃ W : World, Hid (w.alloc (.cells m 38) = W) := ⟨_, hid rfl⟩
  have B1 : Hid (Below w.heap.size w W1) := by rw [← HW1.out]; exact hid ((Below.refl _ w).alloc (Nat.le_refl _) _)
  have Z1 : Hid (W1.heap.size = w.heap.size + 1) := hid (by rw [← HW1.out]; simp)
  have hbx : Hid (W1.heap[w.heap.size]? = some (.cells m 38 (0, 0))) := hid (by rw [← HW1.out]; exact heap_alloc_new w _)
  have BX : Hid (∀ W, Below W1.heap.size W1 W → W.rangeAt w.heap.size 0 ml) := hid (fun W hW j u hj => by
    rw [← HML.out] at hj
    have h1 := (hW.block w.heap.size (by have := Z1.out; omega)).trans hbx.out
    rw [cell_of_row _ _ _ _ _ _ h1, Nat.zero_add, ← Array.getElem?_toList]
    exact hj)
  have SL : Hid ((Try.prog.info? 38).map (·.size) = some ml.length) := hid (by rw [← HML.out, show m.toList.length = 23 by rw [← HM.out]; exact hmsz.out]; exact SR.out)
  have VA : Hid (∀ W, Below w.heap.size w W → HB W va la) := hid (fun W hW => ha.below hW)
  have VB : Hid (∀ W, Below w.heap.size w W → HB W vb lb) := hid (fun W hW => hb.below hW)
  have HLB := hid hb.2
  have HLA := hid ha.2
  have C0 := hid (lives_any W1)
  obtain ⟨pb, cb, ebv, -, -⟩ := hb.open
  have hlbI : (lb.length : Int) ≤ 140737488351232 := by omega
  rw [HM.out]
  subst ebv
  go_enter Try.func4, Try.ntmps4
  refine wp_seq_k fun K70 h70 => ?_
  have H70 := hid h70
  clear h70
  go_wp2
  rw [HW1.out]
  refine H70.out _ _ ?_
  clear H70 K70
  refine wp_seq_k fun K71 h71 => ?_
  have H71 := hid h71
  clear h71
  go_wp2_with fail
  refine C0.out.mono ?_
  rintro e w2 ⟨rfl, hb2⟩
  have B12 := hid hb2
  have B2 : Hid (Below w.heap.size w w2) := hid (B1.out.trans (hb2.mono B1.out.size))
  clear hb2 C0
  have C2 := hid (putReq_any w2 r hr hk hwho va la (VA.out w2 B2.out))
  rw [HM.out] at C2
  have RX2 := hid (BX.out w2 B12.out)
  go_wp2_with fail
  refine H71.out _ _ ?_
  clear H71 K71
  refine wp_seq_k fun K72 h72 => ?_
  have H72 := hid h72
  clear h72
  go_wp2_with (first | (refine wpList_load_mid rfl 38 _ rfl w.heap.size 0 rfl ml _ RX2.out Try.underlying38 rfl SL.out ?_; rw [HMM.out]) | fail)
  refine C2.out.mono ?_
  rintro e w3 ⟨q3, hb3⟩
  have B3 : Hid (Below w.heap.size w w3) := hid (B2.out.trans (hb3.mono B2.out.size))
  have B13 : Hid (Below W1.heap.size W1 w3) := hid (B12.out.trans (hb3.mono B12.out.size))
  clear hb3 C2
  rcases q3 with ⟨hmay, rfl⟩ | ⟨hmay, v3, rfl, ho3⟩
  ·
    have Ca4 := hid (request_any w3 _ lb (VB.out w3 B3.out) (by omega))
    go_wp2_with fail
    refine H72.out _ _ ?_
    clear H72 K72
    refine wp_seq_k fun K73 h73 => ?_
    have H73 := hid h73
    clear h73
    go_wp2_with fail
    refine H73.out _ _ ?_
    clear H73 K73
    refine wp_seq_k fun K74 h74 => ?_
    have H74 := hid h74
    clear h74
    go_wp2_with fail
    refine Ca4.out.mono ?_
    rintro e wa4 ⟨q4, hb4⟩
    have BTa4 : Hid (Below w.heap.size w wa4) := hid (B3.out.trans (hb4.mono B3.out.size))
    clear hb4 Ca4
    rcases q4 with ⟨p, qb, rfl⟩ | ⟨r2, b2, v2, Bx, qg, hr2, rfl, ho2, _, hby2⟩
    · obtain ⟨hp0, hp1⟩ := bad_le qb
      obtain ⟨Wa5, HWa5⟩ : ∃ W : World, Hid (wa4.alloc (.cells zreq 38) = W) := ⟨_, hid rfl⟩
      have Ba5 : Hid (Below w.heap.size w Wa5) := hid (by rw [← HWa5.out]; exact BTa4.out.alloc BTa4.out.size _)
      have hz5 : Hid (Wa5.heap[wa4.heap.size]? = some (.cells zreq 38 (0, 0))) := hid (by rw [← HWa5.out]; exact heap_alloc_new wa4 _)
      have hzo : Hid (zreq.all (·.oneCell') = true) := hid (rqA_one rq0 _ rfl)
      have k0 : Wa5.cell? ⟨wa4.heap.size, 0, none⟩ = some (.int .u8 0) := by rw [cell_of_row _ _ _ _ _ _ hz5.out]; rfl
      have hzq : Hid ((rqA rq0 (.slice none 0 0) : Array Value) = zreq) := hid rq0_z
      rw [hzq.out]
      go_wp2_with (first | (refine wpList_store_row rfl 38 _ _ rfl wa4.heap.size zreq rfl rfl 38 zreq (heap_alloc_new wa4 _) SR.out rfl hzo.out ?_; rw [setRow_new, HWa5.out]) | fail)
      refine H74.out _ _ ?_
      clear H74 K74
      go_wp2_with fail
      go_ret
      exact ⟨by simp [hp0, hp1], Ba5.out⟩
    · obtain ⟨y1, y2, y3, y4, y5, y6, y7⟩ := lay_read HLB.out qg
      obtain ⟨m2, HM2⟩ : ∃ m, Hid (rqA r2 v2 = m) := ⟨_, hid rfl⟩
      obtain ⟨ml2, HMM2, HML2⟩ : ∃ ml : List Value, Hid (ml.toArray = m2) ∧ Hid (m2.toList = ml) := ⟨m2.toList, hid (by simp), hid rfl⟩
      have hs2 : Hid (m2.size = 23) := hid (by rw [← HM2.out]; exact rqA_size hr2 v2)
      have ho2' : Hid (m2.all (·.oneCell') = true) := hid (by rw [← HM2.out]; exact rqA_one _ _ (by obtain ⟨p, c, rfl⟩ := own_slice ho2; rfl))
      obtain ⟨Wa5, HWa5⟩ : ∃ W : World, Hid (wa4.alloc (.cells m2 38) = W) := ⟨_, hid rfl⟩
      have BBa5 : Hid (Below wa4.heap.size wa4 Wa5) := hid (by rw [← HWa5.out]; exact (Below.refl _ _).alloc (Nat.le_refl _) _)
      have Ba5 : Hid (Below w.heap.size w Wa5) := hid (BTa4.out.trans (BBa5.out.mono BTa4.out.size))
      have RX5 : Hid (Wa5.rangeAt wa4.heap.size 0 ml2) := hid (fun j u hj => by
        rw [← HML2.out] at hj
        have h1 : Wa5.heap[wa4.heap.size]? = some (.cells m2 38 (0, 0)) := by rw [← HWa5.out]; exact heap_alloc_new wa4 _
        rw [cell_of_row _ _ _ _ _ _ h1, Nat.zero_add, ← Array.getElem?_toList]
        exact hj)
      have SL2 : Hid ((Try.prog.info? 38).map (·.size) = some ml2.length) := hid (by rw [← HML2.out, show m2.toList.length = 23 from hs2.out]; exact SR.out)
      have Ca6 := hid (putReq_any Wa5 r2 hr2 ⟨y6, y7⟩ ⟨y4, y5⟩ v2 b2 ((HB.of_own ho2 hby2).below BBa5.out))
      rw [HM2.out, y1, ← y2] at Ca6
      have VB5 := hid (VB.out)
      rw [HM2.out]
      clear ho2 qg y1 y2
      go_wp2_with (first | (refine wpList_store_row rfl 38 _ _ rfl wa4.heap.size m2 rfl rfl 38 zreq (heap_alloc_new wa4 _) (by rw [hs2.out]; exact SR.out) (by rw [hs2.out]; rfl) ho2'.out ?_; rw [setRow_new, HWa5.out]) | fail)
      refine H74.out _ _ ?_
      clear H74 K74
      refine wp_seq_k fun K75 h75 => ?_
      have H75 := hid h75
      clear h75
      go_wp2_with fail
      refine H75.out _ _ ?_
      clear H75 K75
      go_wp2_with (first | (refine wpList_load_mid rfl 38 _ rfl wa4.heap.size 0 rfl ml2 _ RX5.out Try.underlying38 rfl SL2.out ?_; rw [HMM2.out]) | fail)
      refine Ca6.out.mono ?_
      rintro e wa7 ⟨q7, hb7⟩
      have Ba7 : Hid (Below w.heap.size w wa7) := hid (Ba5.out.trans (hb7.mono Ba5.out.size))
      rcases q7 with ⟨q7, -⟩ | ⟨-, v7, rfl, ho7⟩
      · cases q7
      have Ca8 := hid (sameBytes_any wa7 v7 _ lb lb (HB.of_own ho7 HLB.out) (VB.out wa7 Ba7.out))
      obtain ⟨p7, c7, e7⟩ := own_slice ho7
      clear ho7 hb7 Ca6
      subst e7
      go_wp2_with fail
      refine Ca8.out.mono ?_
      rintro e wa9 ⟨rfl, d9⟩
      have Ba9 : Hid (Below w.heap.size w wa9) := hid (Ba7.out.trans (d9.below _))
      clear Ca8
      simp only [decide_true]
      go_wp2_with fail
      go_ret
      exact ⟨rfl, Ba9.out⟩
  ·
    have GL := hid (good_lay r la hr hwho hmay)
    have H3 : HB w3 v3 (layQ r la) := HB.of_own ho3 (layQ_byt hr hk HLA.out)
    have C3 := hid (request_any w3 v3 _ H3 (by have := layQ_len r la hr hmay; omega))
    obtain ⟨p3, c3, e3⟩ := own_slice ho3
    clear ho3 H3
    subst e3
    go_wp2_with fail
    refine H72.out _ _ ?_
    clear H72 K72
    refine wp_seq_k fun K73 h73 => ?_
    have H73 := hid h73
    clear h73
    go_wp2_with fail
    refine C3.out.mono ?_
    rintro e w4 ⟨q4, hb4⟩
    have B4 : Hid (Below w.heap.size w w4) := hid (B3.out.trans (hb4.mono B3.out.size))
    have B14 : Hid (Below W1.heap.size W1 w4) := hid (B13.out.trans (hb4.mono B13.out.size))
    rcases q4 with ⟨p, qb, -⟩ | ⟨r4, b4, v4, Bx, qg, hr4, rfl, ho4, _, hby4⟩
    · exact absurd GL.out (fun g => bad_good qb g)
    obtain ⟨e4, e5⟩ := good_one qg GL.out
    subst e4 e5
    obtain ⟨m4, HM4⟩ : ∃ m, Hid (rqA r4 v4 = m) := ⟨_, hid rfl⟩
    obtain ⟨ml4, HMM4, HML4⟩ : ∃ ml : List Value, Hid (ml.toArray = m4) ∧ Hid (m4.toList = ml) := ⟨m4.toList, hid (by simp), hid rfl⟩
    have hs4 : Hid (m4.size = 23) := hid (by rw [← HM4.out]; exact rqA_size hr4 v4)
    have ho4' : Hid (m4.all (·.oneCell') = true) := hid (by rw [← HM4.out]; exact rqA_one _ _ (by obtain ⟨p, c, rfl⟩ := own_slice ho4; rfl))
    obtain ⟨W5, HW5⟩ : ∃ W : World, Hid (w4.alloc (.cells m4 38) = W) := ⟨_, hid rfl⟩
    have BB5 : Hid (Below w4.heap.size w4 W5) := hid (by rw [← HW5.out]; exact (Below.refl _ _).alloc (Nat.le_refl _) _)
    have B5 : Hid (Below w.heap.size w W5) := hid (B4.out.trans (BB5.out.mono B4.out.size))
    have B15 : Hid (Below W1.heap.size W1 W5) := hid (B14.out.trans (BB5.out.mono B14.out.size))
    have RX5 : Hid (W5.rangeAt w4.heap.size 0 ml4) := hid (fun j u hj => by
      rw [← HML4.out] at hj
      have h1 : W5.heap[w4.heap.size]? = some (.cells m4 38 (0, 0)) := by rw [← HW5.out]; exact heap_alloc_new w4 _
      rw [cell_of_row _ _ _ _ _ _ h1, Nat.zero_add, ← Array.getElem?_toList]
      exact hj)
    have RY5 := hid (BX.out W5 B15.out)
    have SL4 : Hid ((Try.prog.info? 38).map (·.size) = some ml4.length) := hid (by rw [← HML4.out, show m4.toList.length = 23 from hs4.out]; exact SR.out)
    have CS := hid (sameReq_ok W5 r4 hr4 v4 va b4 ((HB.of_own ho4 hby4).below BB5.out) (VA.out W5 B5.out))
    rw [HM4.out, HM.out] at CS
    rw [HM4.out]
    clear ho4 qg hb4 C3
    go_wp2_with (first | (refine wpList_store_row rfl 38 _ _ rfl w4.heap.size m4 rfl rfl 38 zreq (heap_alloc_new w4 _) (by rw [hs4.out]; exact SR.out) (by rw [hs4.out]; rfl) ho4'.out ?_; rw [setRow_new, HW5.out]) | (refine wpList_load_mid rfl 38 _ rfl w4.heap.size 0 rfl ml4 _ RX5.out Try.underlying38 rfl SL4.out ?_; rw [HMM4.out]) | (refine wpList_load_midW (by rfl) 38 _ rfl w4.heap.size 0 rfl ml4 _ RX5.out Try.underlying38 rfl SL4.out ?_; rw [HMM4.out]) | (refine wpList_load_mid rfl 38 _ rfl w.heap.size 0 rfl ml _ RY5.out Try.underlying38 rfl SL.out ?_; rw [HMM.out]) | (refine wpList_load_midW (by rfl) 38 _ rfl w.heap.size 0 rfl ml _ RY5.out Try.underlying38 rfl SL.out ?_; rw [HMM.out]) | fail)
    refine CS.out.mono ?_
    rintro e w6 ⟨rfl, hb6⟩
    have B6 : Hid (Below w.heap.size w w6) := hid (B5.out.trans (hb6.mono B5.out.size))
    clear hb6 CS
    have Cb4 := hid (request_any w6 _ lb (VB.out w6 B6.out) (by omega))
    go_wp2_with fail
    refine H73.out _ _ ?_
    clear H73 K73
    refine wp_seq_k fun K74 h74 => ?_
    have H74 := hid h74
    clear h74
    go_wp2_with fail
    refine Cb4.out.mono ?_
    rintro e wb4 ⟨q4, hb4⟩
    have BTb4 : Hid (Below w.heap.size w wb4) := hid (B6.out.trans (hb4.mono B6.out.size))
    clear hb4 Cb4
    rcases q4 with ⟨p, qb, rfl⟩ | ⟨r2, b2, v2, Bx, qg, hr2, rfl, ho2, _, hby2⟩
    · obtain ⟨hp0, hp1⟩ := bad_le qb
      obtain ⟨Wb5, HWb5⟩ : ∃ W : World, Hid (wb4.alloc (.cells zreq 38) = W) := ⟨_, hid rfl⟩
      have Bb5 : Hid (Below w.heap.size w Wb5) := hid (by rw [← HWb5.out]; exact BTb4.out.alloc BTb4.out.size _)
      have hz5 : Hid (Wb5.heap[wb4.heap.size]? = some (.cells zreq 38 (0, 0))) := hid (by rw [← HWb5.out]; exact heap_alloc_new wb4 _)
      have hzo : Hid (zreq.all (·.oneCell') = true) := hid (rqA_one rq0 _ rfl)
      have k0 : Wb5.cell? ⟨wb4.heap.size, 0, none⟩ = some (.int .u8 0) := by rw [cell_of_row _ _ _ _ _ _ hz5.out]; rfl
      have hzq : Hid ((rqA rq0 (.slice none 0 0) : Array Value) = zreq) := hid rq0_z
      rw [hzq.out]
      go_wp2_with (first | (refine wpList_store_row rfl 38 _ _ rfl wb4.heap.size zreq rfl rfl 38 zreq (heap_alloc_new wb4 _) SR.out rfl hzo.out ?_; rw [setRow_new, HWb5.out]) | fail)
      refine H74.out _ _ ?_
      clear H74 K74
      go_wp2_with fail
      go_ret
      exact ⟨by simp [hp0, hp1], Bb5.out⟩
    · obtain ⟨y1, y2, y3, y4, y5, y6, y7⟩ := lay_read HLB.out qg
      obtain ⟨m2, HM2⟩ : ∃ m, Hid (rqA r2 v2 = m) := ⟨_, hid rfl⟩
      obtain ⟨ml2, HMM2, HML2⟩ : ∃ ml : List Value, Hid (ml.toArray = m2) ∧ Hid (m2.toList = ml) := ⟨m2.toList, hid (by simp), hid rfl⟩
      have hs2 : Hid (m2.size = 23) := hid (by rw [← HM2.out]; exact rqA_size hr2 v2)
      have ho2' : Hid (m2.all (·.oneCell') = true) := hid (by rw [← HM2.out]; exact rqA_one _ _ (by obtain ⟨p, c, rfl⟩ := own_slice ho2; rfl))
      obtain ⟨Wb5, HWb5⟩ : ∃ W : World, Hid (wb4.alloc (.cells m2 38) = W) := ⟨_, hid rfl⟩
      have BBb5 : Hid (Below wb4.heap.size wb4 Wb5) := hid (by rw [← HWb5.out]; exact (Below.refl _ _).alloc (Nat.le_refl _) _)
      have Bb5 : Hid (Below w.heap.size w Wb5) := hid (BTb4.out.trans (BBb5.out.mono BTb4.out.size))
      have RX5 : Hid (Wb5.rangeAt wb4.heap.size 0 ml2) := hid (fun j u hj => by
        rw [← HML2.out] at hj
        have h1 : Wb5.heap[wb4.heap.size]? = some (.cells m2 38 (0, 0)) := by rw [← HWb5.out]; exact heap_alloc_new wb4 _
        rw [cell_of_row _ _ _ _ _ _ h1, Nat.zero_add, ← Array.getElem?_toList]
        exact hj)
      have SL2 : Hid ((Try.prog.info? 38).map (·.size) = some ml2.length) := hid (by rw [← HML2.out, show m2.toList.length = 23 from hs2.out]; exact SR.out)
      have Cb6 := hid (putReq_any Wb5 r2 hr2 ⟨y6, y7⟩ ⟨y4, y5⟩ v2 b2 ((HB.of_own ho2 hby2).below BBb5.out))
      rw [HM2.out, y1, ← y2] at Cb6
      have VB5 := hid (VB.out)
      rw [HM2.out]
      clear ho2 qg y1 y2
      go_wp2_with (first | (refine wpList_store_row rfl 38 _ _ rfl wb4.heap.size m2 rfl rfl 38 zreq (heap_alloc_new wb4 _) (by rw [hs2.out]; exact SR.out) (by rw [hs2.out]; rfl) ho2'.out ?_; rw [setRow_new, HWb5.out]) | fail)
      refine H74.out _ _ ?_
      clear H74 K74
      refine wp_seq_k fun K75 h75 => ?_
      have H75 := hid h75
      clear h75
      go_wp2_with fail
      refine H75.out _ _ ?_
      clear H75 K75
      go_wp2_with (first | (refine wpList_load_mid rfl 38 _ rfl wb4.heap.size 0 rfl ml2 _ RX5.out Try.underlying38 rfl SL2.out ?_; rw [HMM2.out]) | fail)
      refine Cb6.out.mono ?_
      rintro e wb7 ⟨q7, hb7⟩
      have Bb7 : Hid (Below w.heap.size w wb7) := hid (Bb5.out.trans (hb7.mono Bb5.out.size))
      rcases q7 with ⟨q7, -⟩ | ⟨-, v7, rfl, ho7⟩
      · cases q7
      have Cb8 := hid (sameBytes_any wb7 v7 _ lb lb (HB.of_own ho7 HLB.out) (VB.out wb7 Bb7.out))
      obtain ⟨p7, c7, e7⟩ := own_slice ho7
      clear ho7 hb7 Cb6
      subst e7
      go_wp2_with fail
      refine Cb8.out.mono ?_
      rintro e wb9 ⟨rfl, d9⟩
      have Bb9 : Hid (Below w.heap.size w wb9) := hid (Bb7.out.trans (d9.below _))
      clear Cb8
      simp only [decide_true]
      go_wp2_with fail
      go_ret
      exact ⟨rfl, Bb9.out⟩
end Go.Proofs.Ytmegeogfpkdodaa
