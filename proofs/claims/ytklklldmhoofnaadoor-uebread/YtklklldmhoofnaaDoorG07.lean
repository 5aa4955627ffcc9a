/- Of the road to uebReadCard_holds: UbFrom. -/
import Derived.Test.YtklklldmhoofnaaDoorG05
import Derived.Test.YtklklldmhoofnaaDoorG06
set_option linter.unusedVariables false
set_option linter.unusedSimpArgs false
namespace Go.Proofs.YtklklldmhoofnaaDoor
open Go Go.RowKit
theorem grown_setCellsU (b : Nat) : ∀ (vs : List Value) (w : World) (o : Nat), w.grownBy (w.setCells b o vs) (some b)
  | [], w, o => ⟨rfl, rfl, rfl, Nat.le_refl _, fun _ _ _ => rfl⟩
  | v :: vs, w, o => grown_trans (grown_set w b o v) (grown_setCellsU b vs _ (o + 1))
theorem UB.ne {w : World} {b x : Nat} {u : Ub} {q : Value} {T : TypeId} (h : UB w b u) (hu : u.ok) (hx : w.heap[x]? = some (.cells #[q] T (0, 0))) : x ≠ b := by
  rintro rfl
  have h1 : w.heap[x]? = some (.cells (ubA u) 25 (0, 0)) := h
  rw [hx] at h1
  have h2 := ubA_size hu
  simp only [Option.some.injEq, Obj.cells.injEq] at h1
  rw [← h1.1] at h2
  simp at h2
def FtQ (w : World) (rs : List Rw) (e : Ending) (w' : World) : Prop := ∃ u is, e = .returned (.tuple #[.agg (ubA u), .bool is]) ∧ TabQ rs u is ∧ Below w.heap.size w w'
theorem run_lenm {w : World} {b n : Nat} {K : Km} (h : HMm w b K n) (ty : TypeId) : (Builtin.len_ #[77] ty #[.map (some b)]).run Tryd.prog w = .ok (.int .i64 (n : Int)) w := by
  obtain ⟨es, c, hb, _, hs⟩ := h
  rw [← hs]
  simp [Builtin.len_, run_underlying Tryd.underlying77, MapKept.run_getObj_map hb, goInt]
set_option maxRecDepth 100000 in
set_option maxHeartbeats 8000000 in
theorem fromTable_any (w : World) (v : Value) (rs : List Rw) (h : HRw w v rs) (hok : okRows noS rs) (hl : ∀ r ∈ rs, r.2.length ≤ 65536) (hk : KD w) :
    Calls Tryd.prog 27 #[v] w fun e w' => FtQ w rs e w' := by
  have HK := hid hk
  have HH := hid h
  have HOK := hid hok
  have HLL := hid hl
  have HBY := hid h.byt
  obtain ⟨p, c, rfl, hlc, hcm, hrow⟩ := h.open
  have HR := hid hrow
  obtain ⟨n, HN⟩ : ∃ n, Hid (rs.length = n) := ⟨_, rfl⟩
  rw [HN.out] at hlc
  rw [HN.out]
  have hm63 : n ≤ 9223372036854775807 := by unfold maxLen at hcm; omega
  have hz := zc_ueb
  have HZS : Hid (Tryd.zeroCells25.size = 68) := by refine hid ?_; rw [hz]; exact ubA_size ub0_ok
  obtain ⟨zc, HZC⟩ : ∃ x, Hid (Tryd.zeroCells25 = x) := ⟨_, rfl⟩
  rw [HZC.out] at hz HZS
  have HZ := hid hz
  have C := hid fun w b => layers_any w b
  clear hrow h hok hl hk hz
  go_enter Tryd.func27, Tryd.ntmps27
  go_wp2_with fail
  rw [HZC.out]
  refine (C.out _ _).mono ?_
  rintro e w3 ⟨L, a3, M, bx, hLI, hall, rfl⟩
  have hs2 : ((w.alloc (.cells zc 25)).alloc (.cells zc 25)).heap.size = w.heap.size + 2 := by simp
  obtain ⟨w2, HW2⟩ : ∃ x, Hid ((w.alloc (.cells zc 25)).alloc (.cells zc 25) = x) := ⟨_, rfl⟩
  have hb02 : Below w.heap.size w w2 := by rw [← HW2.out]; exact ((Below.refl _ w).alloc (Nat.le_refl _) _).alloc (by simp) _
  have k1 : w2.heap[w.heap.size + 1]? = some (.cells zc 25 (0, 0)) := by
    rw [← HW2.out]
    have := heap_alloc_new (w.alloc (.cells zc 25)) (.cells zc 25)
    simpa using this
  have k0 : w2.heap[w.heap.size]? = some (.cells zc 25 (0, 0)) := by
    rw [← HW2.out, heap_alloc_old _ _ (by simp)]
    exact heap_alloc_new w _
  rw [HW2.out] at hLI hs2
  have B23 := hLI.bel
  have B3 := hid (hb02.trans (B23.mono (by omega)))
  have hcnt : cntL L = 6 := by
    have e6 := hall 6 (by omega); have e12 := hall 12 (by omega); have e18 := hall 18 (by omega); have e24 := hall 24 (by omega); have e30 := hall 30 (by omega); have e36 := hall 36 (by omega)
    simp [cntL, e6, e12, e18, e24, e30, e36]
  obtain ⟨hM1, hM2⟩ := hLI.map (hall 0 (by omega))
  rw [hcnt] at hM2
  have HMP := hid hM2
  have HBX : Hid (∀ j, j < 6 → w3.heap[bx j]? = some (.cells #[.pointer (some ⟨w.heap.size + 1, offJ j, none⟩)] (tyJ j) (0, 0))) := hid fun j hj => (hLI.box j hj (hall _ (by omega))).2
  have HU3 : Hid (UB w3 (w.heap.size + 1) ub0) := by
    refine hid ?_
    show w3.heap[w.heap.size + 1]? = some (.cells (ubA ub0) _ (0, 0))
    rw [B23.block _ (by omega), k1, HZ.out]
  have BK0 : Hid (w3.heap[w.heap.size]? = some (.cells zc 25 (0, 0))) := (B23.block _ (by omega)).trans k0
  have hs3 : w.heap.size + 2 ≤ w3.heap.size := by have := B23.size; omega
  have HKM := hid (kmL_at (bx := bx) hall)
  have HKN := hid (fun s => kmL_no (L := L) (bx := bx) (s := s))
  obtain ⟨Kf, HKF⟩ : ∃ x, Hid (kmL L bx = x) := ⟨_, rfl⟩
  rw [HKF.out] at HMP HKM HKN
  have hlen := run_lenm HMP.out 3
  have HIZ : Hid ((Tryd.prog.info? 25).map (·.size) = some zc.size) := by refine hid ?_; rw [HZS.out]; exact size_ueb
  have HZ1 : Hid (zc.all (·.oneCell') = true) := by refine hid ?_; rw [HZ.out]; exact ubA_one _
  clear hLI hall hM1 hM2 hcnt k0 k1 hb02 B23 hs2 C
  by_cases hn6 : (n : Int) = 6
  · have hq : ((n : Int) != 6) = false := by rw [bne_eq_false_iff_eq]; exact hn6
    have hn : n = 6 := by omega
    subst hn
    go_wp2
    go_loopw [19] (fun i wr => ∃ k : Nat, k ≤ 6 ∧ i = .int .i64 (k : Int) ∧ Hid (∃ u, FrI rs k u ∧ UB wr (w.heap.size + 1) u) ∧ Hid (w3.grownBy wr (some (w.heap.size + 1)))) (fun i _ => 6 - (intOf i).toNat)
    case atStart => exact ⟨0, Nat.zero_le _, rfl, hid ⟨ub0, FrI.zero rs, HU3.out⟩, hid ⟨rfl, rfl, rfl, Nat.le_refl _, fun _ _ _ => rfl⟩⟩
    case round =>
      obtain ⟨k, hk6, rfl, HF, HG⟩ := hrel
      obtain ⟨u, hfi, hub⟩ := HF.out
      have HFI := hid hfi
      have HUB := hid hub
      have BW := hid (B3.out.grown HG.out (by omega) (fun q e => by injection e with e; omega))
      have BK : Hid (wr.heap[w.heap.size]? = some (.cells zc 25 (0, 0))) := (HG.out.block _ (by omega) (fun e => by injection e with e; omega)).trans BK0.out
      have hsr := HG.out.size
      clear hfi hub HF
      by_cases hlt : k < 6
      · obtain ⟨b, off, rfl, hbl, hcell⟩ := HR.out (by have := HN.out; omega)
        obtain ⟨x, hu, hv⟩ := hcell k (by have := HN.out; omega)
        have hmem : rs.getD k rw0 ∈ rs := by rw [getD_get (by have := HN.out; omega)]; exact List.getElem_mem _
        have hbyt := HBY.out _ hmem
        have hlen5 := HLL.out _ hmem
        have STEP := fun i hi hn hv => HFI.out.step HOK.out (k := k) (i := i) hlt (by have := HN.out; omega) hi hn hv hbyt
        have MISS := tab_miss (rs := rs) hlt
        have BAD := fun i hi => tab_bad (rs := rs) (i := i) hlt hi
        obtain ⟨⟨s, l⟩, Hx⟩ : ∃ x, Hid (rs.getD k rw0 = x) := ⟨_, rfl⟩
        rw [Hx.out] at hu hv hbyt hlen5 STEP MISS BAD
        have hlen5 : l.length ≤ 65536 := hlen5
        have HU := hid (range_below2 hu BW.out hbl)
        obtain ⟨pu, cu, rfl, hlu, hcu⟩ := hv.open
        have HV0 := hid hv
        have HSTEP := hid STEP
        have HBAD := hid BAD
        have HMISS := hid MISS
        clear hu hv hcell hmem STEP MISS BAD
        have HSZ := hid size_row
        obtain ⟨wq, HWQ⟩ : ∃ x, Hid (wr.alloc (.cells #[.string s, .slice pu l.length cu] 49) = x) := ⟨_, rfl⟩
        have hbq : Below wr.heap.size wr wq := by rw [← HWQ.out]; exact (Below.refl _ wr).alloc (Nat.le_refl _) _
        have GQ := hid (grown_trU HG.out (bel_grown hbq none) (fun q e _ => by cases e))
        have BWQ := hid (BW.out.trans (hbq.mono BW.out.size))
        have HMQ : Hid (HMm wq M Kf 6) := by
          refine hid (HMP.out.of ?_)
          refine GQ.out.block _ HMP.out.lt (fun e => ?_)
          injection e with e
          obtain ⟨es, c, q1, _⟩ := HMP.out
          have q2 : w3.heap[w.heap.size + 1]? = some (.cells (ubA ub0) _ (0, 0)) := HU3.out
          rw [← e, q1] at q2
          cases q2
        have HUQ := hid (HUB.out.below hbq)
        have hlook := run_lookm HMQ.out s
        have hkq : wq.heap[wr.heap.size]? = some (.cells #[.string s, .slice pu l.length cu] 49 (0, 0)) := by rw [← HWQ.out]; exact heap_alloc_new wr _
        have hcq0 : wq.cell? ⟨wr.heap.size, 0, none⟩ = some (.string s) := cell_of_row _ _ 0 _ _ _ hkq
        have hcq1 : wq.cell? ⟨wr.heap.size, 1, none⟩ = some (.slice pu l.length cu) := cell_of_row _ _ 1 _ _ _ hkq
        rw [← HWQ.out] at hlook
        by_cases hkey : ∃ j, j < 6 ∧ s = nmJ j
        · obtain ⟨j, hj, rfl⟩ := hkey
          have hjj : j = 0 ∨ j = 1 ∨ j = 2 ∨ j = 3 ∨ j = 4 ∨ j = 5 := by omega
          clear hj hkq
          rcases hjj with rfl | rfl | rfl | rfl | rfl | rfl
          · have hxq : wq.heap[bx 0]? = some (.cells #[.pointer (some ⟨w.heap.size + 1, 0, none⟩)] 91 (0, 0)) := by
              have q := HBX.out 0 (by omega)
              exact (GQ.out.block _ (Array.getElem?_eq_some_iff.1 q).1 (fun e => by injection e with e; exact HU3.out.ne ub0_ok q e)).trans q
            have HVQ := hid (HV0.out.below BWQ.out)
            have CL := hid (clN_any wq (bx 0) (w.heap.size + 1) 0 u (.slice pu l.length cu) l (.int .i64 u.k) hxq HUQ.out rfl HVQ.out (by omega) (HK.out.below BWQ.out))
            have hlk := HKM.out 0 (by omega)
            rw [hlk] at hlook
            have hSt := HSTEP.out 0 (by omega) rfl
            have hBd := HBAD.out 0 (by omega) rfl
            have hv2 : vld 0 l ↔ rdOk (Lib.bytesOf l) 2147483647 := Iff.rfl
            have hclo : (some (cloJ 0 (bx 0))).getD .nilFunc = .func (.func 57) #[] #[.pointer (some ⟨bx 0, 0, none⟩)] := rfl
            rw [hclo] at hlook
            obtain ⟨s, HSN⟩ : ∃ x, Hid (nmJ 0 = x) := ⟨_, rfl⟩
            rw [HSN.out] at hlook HWQ HU hcq0
            clear hlk hclo hxq
            by_cases hr : rdOk (Lib.bytesOf l) 2147483647
            · have HST := hid (hSt (hv2.2 hr))
              rw [decide_eq_true hr] at CL
              have hrv := (rd_ok hr).1
              rw [hrv] at CL
              clear hrv
              have HR2 := hid hr
              clear hSt hBd hv2 hr
              go_wp2_with (first | (refine wpList_load_mid rfl 49 _ rfl b (off + k * 2) rfl [.string s, .slice pu l.length cu] _ HU.out Tryd.underlying49 rfl HSZ.out ?_) | fail)
              rw [HWQ.out]
              refine CL.out.mono ?_
              rintro e w5 ⟨rfl, w4, hb4, rfl⟩
              have HUN : Hid (UB (w4.setCell ⟨w.heap.size + 1, 0, none⟩ (.int .i64 (valD (Lib.bytesOf l) : Nat))) (w.heap.size + 1) (updJ u 0 l)) := by
                have := (HUQ.out.below hb4).set 0 (.int .i64 (valD (Lib.bytesOf l) : Nat))
                rw [(set_i u _).1] at this
                exact this
              have GN := hid (grown_trans (grown_trU GQ.out (bel_grown hb4 none) (fun q e _ => by cases e)) (grown_set w4 (w.heap.size + 1) 0 (.int .i64 (valD (Lib.bytesOf l) : Nat))))
              obtain ⟨w6, HW6⟩ : ∃ x, Hid ((w4.setCell ⟨w.heap.size + 1, 0, none⟩ (.int .i64 (valD (Lib.bytesOf l) : Nat))) = x) := ⟨_, rfl⟩
              rw [HW6.out] at HUN GN
              rw [HW6.out]
              clear hb4 CL hlook
              go_wp2
              exact ⟨⟨k + 1, by omega, by go_num, hid ⟨_, HST.out, HUN.out⟩, GN⟩, by simp [intOf]; omega⟩
            · have TQ := hid (hBd (fun q => hr (hv2.1 q)))
              rw [decide_eq_false hr] at CL
              have HR2 := hid hr
              clear hSt hBd hv2 hr
              go_wp2_with (first | (refine wpList_load_mid rfl 49 _ rfl b (off + k * 2) rfl [.string s, .slice pu l.length cu] _ HU.out Tryd.underlying49 rfl HSZ.out ?_) | fail)
              rw [HWQ.out]
              refine CL.out.mono ?_
              rintro e w5 ⟨rfl, w4, hb4, rfl⟩
              have GN := hid (grown_trans (grown_trU GQ.out (bel_grown hb4 none) (fun q e _ => by cases e)) (grown_set w4 (w.heap.size + 1) 0 (.int .i64 (rdV (Lib.bytesOf l) 2147483647))))
              obtain ⟨w6, HW6⟩ : ∃ x, Hid (w4.setCell ⟨w.heap.size + 1, 0, none⟩ (.int .i64 (rdV (Lib.bytesOf l) 2147483647)) = x) := ⟨_, rfl⟩
              rw [HW6.out] at GN
              rw [HW6.out]
              clear hb4
              have BK : Hid (w6.heap[w.heap.size]? = some (.cells zc 25 (0, 0))) := (GN.out.block _ (by omega) (fun e => by injection e with e; omega)).trans BK0.out
              have BW := hid (B3.out.grown GN.out (by omega) (fun q e => by injection e with e; omega))
              clear CL hlook
              go_wp2_with (refine wpList_store_row rfl 25 _ _ rfl w.heap.size zc rfl (congrArg Value.agg HZC.out) 25 zc BK.out HIZ.out rfl HZ1.out ?_)
              refine bodyPost_ret (v := .tuple #[.agg zc, .bool false]) (results_cellT (p := 2) (u := 3) (ty := 25) rfl _ _ w.heap.size 25 zc (0, 0) _ rfl (setRow_heap _ _ _ _ _ _ BK.out) Tryd.underlying25 rfl HIZ.out _ rfl) rfl ?_
              exact ⟨ub0, false, by rw [HZ.out], TQ.out, bel_setRow BW.out (Nat.le_refl _) _⟩
          · have hxq : wq.heap[bx 1]? = some (.cells #[.pointer (some ⟨w.heap.size + 1, 1, none⟩)] 91 (0, 0)) := by
              have q := HBX.out 1 (by omega)
              exact (GQ.out.block _ (Array.getElem?_eq_some_iff.1 q).1 (fun e => by injection e with e; exact HU3.out.ne ub0_ok q e)).trans q
            have HVQ := hid (HV0.out.below BWQ.out)
            have CL := hid (clN_any wq (bx 1) (w.heap.size + 1) 1 u (.slice pu l.length cu) l (.int .i64 u.n) hxq HUQ.out rfl HVQ.out (by omega) (HK.out.below BWQ.out))
            have hlk := HKM.out 1 (by omega)
            rw [hlk] at hlook
            have hSt := HSTEP.out 1 (by omega) rfl
            have hBd := HBAD.out 1 (by omega) rfl
            have hv2 : vld 1 l ↔ rdOk (Lib.bytesOf l) 2147483647 := Iff.rfl
            have hclo : (some (cloJ 1 (bx 1))).getD .nilFunc = .func (.func 57) #[] #[.pointer (some ⟨bx 1, 0, none⟩)] := rfl
            rw [hclo] at hlook
            obtain ⟨s, HSN⟩ : ∃ x, Hid (nmJ 1 = x) := ⟨_, rfl⟩
            rw [HSN.out] at hlook HWQ HU hcq0
            clear hlk hclo hxq
            by_cases hr : rdOk (Lib.bytesOf l) 2147483647
            · have HST := hid (hSt (hv2.2 hr))
              rw [decide_eq_true hr] at CL
              have hrv := (rd_ok hr).1
              rw [hrv] at CL
              clear hrv
              have HR2 := hid hr
              clear hSt hBd hv2 hr
              go_wp2_with (first | (refine wpList_load_mid rfl 49 _ rfl b (off + k * 2) rfl [.string s, .slice pu l.length cu] _ HU.out Tryd.underlying49 rfl HSZ.out ?_) | fail)
              rw [HWQ.out]
              refine CL.out.mono ?_
              rintro e w5 ⟨rfl, w4, hb4, rfl⟩
              have HUN : Hid (UB (w4.setCell ⟨w.heap.size + 1, 1, none⟩ (.int .i64 (valD (Lib.bytesOf l) : Nat))) (w.heap.size + 1) (updJ u 1 l)) := by
                have := (HUQ.out.below hb4).set 1 (.int .i64 (valD (Lib.bytesOf l) : Nat))
                rw [(set_i u _).2.1] at this
                exact this
              have GN := hid (grown_trans (grown_trU GQ.out (bel_grown hb4 none) (fun q e _ => by cases e)) (grown_set w4 (w.heap.size + 1) 1 (.int .i64 (valD (Lib.bytesOf l) : Nat))))
              obtain ⟨w6, HW6⟩ : ∃ x, Hid ((w4.setCell ⟨w.heap.size + 1, 1, none⟩ (.int .i64 (valD (Lib.bytesOf l) : Nat))) = x) := ⟨_, rfl⟩
              rw [HW6.out] at HUN GN
              rw [HW6.out]
              clear hb4 CL hlook
              go_wp2
              exact ⟨⟨k + 1, by omega, by go_num, hid ⟨_, HST.out, HUN.out⟩, GN⟩, by simp [intOf]; omega⟩
            · have TQ := hid (hBd (fun q => hr (hv2.1 q)))
              rw [decide_eq_false hr] at CL
              have HR2 := hid hr
              clear hSt hBd hv2 hr
              go_wp2_with (first | (refine wpList_load_mid rfl 49 _ rfl b (off + k * 2) rfl [.string s, .slice pu l.length cu] _ HU.out Tryd.underlying49 rfl HSZ.out ?_) | fail)
              rw [HWQ.out]
              refine CL.out.mono ?_
              rintro e w5 ⟨rfl, w4, hb4, rfl⟩
              have GN := hid (grown_trans (grown_trU GQ.out (bel_grown hb4 none) (fun q e _ => by cases e)) (grown_set w4 (w.heap.size + 1) 1 (.int .i64 (rdV (Lib.bytesOf l) 2147483647))))
              obtain ⟨w6, HW6⟩ : ∃ x, Hid (w4.setCell ⟨w.heap.size + 1, 1, none⟩ (.int .i64 (rdV (Lib.bytesOf l) 2147483647)) = x) := ⟨_, rfl⟩
              rw [HW6.out] at GN
              rw [HW6.out]
              clear hb4
              have BK : Hid (w6.heap[w.heap.size]? = some (.cells zc 25 (0, 0))) := (GN.out.block _ (by omega) (fun e => by injection e with e; omega)).trans BK0.out
              have BW := hid (B3.out.grown GN.out (by omega) (fun q e => by injection e with e; omega))
              clear CL hlook
              go_wp2_with (refine wpList_store_row rfl 25 _ _ rfl w.heap.size zc rfl (congrArg Value.agg HZC.out) 25 zc BK.out HIZ.out rfl HZ1.out ?_)
              refine bodyPost_ret (v := .tuple #[.agg zc, .bool false]) (results_cellT (p := 2) (u := 3) (ty := 25) rfl _ _ w.heap.size 25 zc (0, 0) _ rfl (setRow_heap _ _ _ _ _ _ BK.out) Tryd.underlying25 rfl HIZ.out _ rfl) rfl ?_
              exact ⟨ub0, false, by rw [HZ.out], TQ.out, bel_setRow BW.out (Nat.le_refl _) _⟩
          · have hxq : wq.heap[bx 2]? = some (.cells #[.pointer (some ⟨w.heap.size + 1, 2, none⟩)] 91 (0, 0)) := by
              have q := HBX.out 2 (by omega)
              exact (GQ.out.block _ (Array.getElem?_eq_some_iff.1 q).1 (fun e => by injection e with e; exact HU3.out.ne ub0_ok q e)).trans q
            have HVQ := hid (HV0.out.below BWQ.out)
            have CL := hid (clN_any wq (bx 2) (w.heap.size + 1) 2 u (.slice pu l.length cu) l (.int .i64 u.g) hxq HUQ.out rfl HVQ.out (by omega) (HK.out.below BWQ.out))
            have hlk := HKM.out 2 (by omega)
            rw [hlk] at hlook
            have hSt := HSTEP.out 2 (by omega) rfl
            have hBd := HBAD.out 2 (by omega) rfl
            have hv2 : vld 2 l ↔ rdOk (Lib.bytesOf l) 2147483647 := Iff.rfl
            have hclo : (some (cloJ 2 (bx 2))).getD .nilFunc = .func (.func 57) #[] #[.pointer (some ⟨bx 2, 0, none⟩)] := rfl
            rw [hclo] at hlook
            obtain ⟨s, HSN⟩ : ∃ x, Hid (nmJ 2 = x) := ⟨_, rfl⟩
            rw [HSN.out] at hlook HWQ HU hcq0
            clear hlk hclo hxq
            by_cases hr : rdOk (Lib.bytesOf l) 2147483647
            · have HST := hid (hSt (hv2.2 hr))
              rw [decide_eq_true hr] at CL
              have hrv := (rd_ok hr).1
              rw [hrv] at CL
              clear hrv
              have HR2 := hid hr
              clear hSt hBd hv2 hr
              go_wp2_with (first | (refine wpList_load_mid rfl 49 _ rfl b (off + k * 2) rfl [.string s, .slice pu l.length cu] _ HU.out Tryd.underlying49 rfl HSZ.out ?_) | fail)
              rw [HWQ.out]
              refine CL.out.mono ?_
              rintro e w5 ⟨rfl, w4, hb4, rfl⟩
              have HUN : Hid (UB (w4.setCell ⟨w.heap.size + 1, 2, none⟩ (.int .i64 (valD (Lib.bytesOf l) : Nat))) (w.heap.size + 1) (updJ u 2 l)) := by
                have := (HUQ.out.below hb4).set 2 (.int .i64 (valD (Lib.bytesOf l) : Nat))
                rw [(set_i u _).2.2.1] at this
                exact this
              have GN := hid (grown_trans (grown_trU GQ.out (bel_grown hb4 none) (fun q e _ => by cases e)) (grown_set w4 (w.heap.size + 1) 2 (.int .i64 (valD (Lib.bytesOf l) : Nat))))
              obtain ⟨w6, HW6⟩ : ∃ x, Hid ((w4.setCell ⟨w.heap.size + 1, 2, none⟩ (.int .i64 (valD (Lib.bytesOf l) : Nat))) = x) := ⟨_, rfl⟩
              rw [HW6.out] at HUN GN
              rw [HW6.out]
              clear hb4 CL hlook
              go_wp2
              exact ⟨⟨k + 1, by omega, by go_num, hid ⟨_, HST.out, HUN.out⟩, GN⟩, by simp [intOf]; omega⟩
            · have TQ := hid (hBd (fun q => hr (hv2.1 q)))
              rw [decide_eq_false hr] at CL
              have HR2 := hid hr
              clear hSt hBd hv2 hr
              go_wp2_with (first | (refine wpList_load_mid rfl 49 _ rfl b (off + k * 2) rfl [.string s, .slice pu l.length cu] _ HU.out Tryd.underlying49 rfl HSZ.out ?_) | fail)
              rw [HWQ.out]
              refine CL.out.mono ?_
              rintro e w5 ⟨rfl, w4, hb4, rfl⟩
              have GN := hid (grown_trans (grown_trU GQ.out (bel_grown hb4 none) (fun q e _ => by cases e)) (grown_set w4 (w.heap.size + 1) 2 (.int .i64 (rdV (Lib.bytesOf l) 2147483647))))
              obtain ⟨w6, HW6⟩ : ∃ x, Hid (w4.setCell ⟨w.heap.size + 1, 2, none⟩ (.int .i64 (rdV (Lib.bytesOf l) 2147483647)) = x) := ⟨_, rfl⟩
              rw [HW6.out] at GN
              rw [HW6.out]
              clear hb4
              have BK : Hid (w6.heap[w.heap.size]? = some (.cells zc 25 (0, 0))) := (GN.out.block _ (by omega) (fun e => by injection e with e; omega)).trans BK0.out
              have BW := hid (B3.out.grown GN.out (by omega) (fun q e => by injection e with e; omega))
              clear CL hlook
              go_wp2_with (refine wpList_store_row rfl 25 _ _ rfl w.heap.size zc rfl (congrArg Value.agg HZC.out) 25 zc BK.out HIZ.out rfl HZ1.out ?_)
              refine bodyPost_ret (v := .tuple #[.agg zc, .bool false]) (results_cellT (p := 2) (u := 3) (ty := 25) rfl _ _ w.heap.size 25 zc (0, 0) _ rfl (setRow_heap _ _ _ _ _ _ BK.out) Tryd.underlying25 rfl HIZ.out _ rfl) rfl ?_
              exact ⟨ub0, false, by rw [HZ.out], TQ.out, bel_setRow BW.out (Nat.le_refl _) _⟩
          · have hxq : wq.heap[bx 3]? = some (.cells #[.pointer (some ⟨w.heap.size + 1, 36, none⟩)] 93 (0, 0)) := by
              have q := HBX.out 3 (by omega)
              exact (GQ.out.block _ (Array.getElem?_eq_some_iff.1 q).1 (fun e => by injection e with e; exact HU3.out.ne ub0_ok q e)).trans q
            have HVQ := hid (HV0.out.below BWQ.out)
            have CL := hid (clD_any wq (bx 3) (w.heap.size + 1) 36 u (.slice pu l.length cu) l hxq HUQ.out HFI.out.1 (by omega) HVQ.out (by
              intro bb o' n' c' hv' h0 e
              have := HV0.out.lt h0 hv'
              omega))
            have hlk := HKM.out 3 (by omega)
            rw [hlk] at hlook
            have hSt := HSTEP.out 3 (by omega) rfl
            have hBd := HBAD.out 3 (by omega) rfl
            have hv2 : vld 3 l ↔ l.length = 32 := Iff.rfl
            have hclo : (some (cloJ 3 (bx 3))).getD .nilFunc = .func (.func 59) #[] #[.pointer (some ⟨bx 3, 0, none⟩)] := rfl
            rw [hclo] at hlook
            obtain ⟨s, HSN⟩ : ∃ x, Hid (nmJ 3 = x) := ⟨_, rfl⟩
            rw [HSN.out] at hlook HWQ HU hcq0
            clear hlk hclo hxq
            by_cases hr : l.length = 32
            · have HST := hid (hSt (hv2.2 hr))
              rw [decide_eq_true hr] at CL
              have HR2 := hid hr
              clear hSt hBd hv2 hr
              go_wp2_with (first | (refine wpList_load_mid rfl 49 _ rfl b (off + k * 2) rfl [.string s, .slice pu l.length cu] _ HU.out Tryd.underlying49 rfl HSZ.out ?_) | fail)
              rw [HWQ.out]
              refine CL.out.mono ?_
              rintro e w5 ⟨rfl, hw5, _⟩
              obtain ⟨w4, hb4, rfl⟩ := hw5 HR2.out
              have HUN : Hid (UB (w4.setCells (w.heap.size + 1) 36 (l.map (Value.int .u8))) (w.heap.size + 1) (updJ u 3 l)) := by
                have := Bk.setCells (l.map (Value.int .u8)) _ _ 36 (HUQ.out.below hb4)
                rw [setA_b HFI.out.1 HR2.out] at this
                exact this
              have GN := hid (grown_trans (grown_trU GQ.out (bel_grown hb4 none) (fun q e _ => by cases e)) (grown_setCellsU (w.heap.size + 1) (l.map (Value.int .u8)) w4 36))
              clear hw5
              obtain ⟨w6, HW6⟩ : ∃ x, Hid ((w4.setCells (w.heap.size + 1) 36 (l.map (Value.int .u8))) = x) := ⟨_, rfl⟩
              rw [HW6.out] at HUN GN
              rw [HW6.out]
              clear hb4 CL hlook
              go_wp2
              exact ⟨⟨k + 1, by omega, by go_num, hid ⟨_, HST.out, HUN.out⟩, GN⟩, by simp [intOf]; omega⟩
            · have TQ := hid (hBd (fun q => hr (hv2.1 q)))
              rw [decide_eq_false hr] at CL
              have HR2 := hid hr
              clear hSt hBd hv2 hr
              go_wp2_with (first | (refine wpList_load_mid rfl 49 _ rfl b (off + k * 2) rfl [.string s, .slice pu l.length cu] _ HU.out Tryd.underlying49 rfl HSZ.out ?_) | fail)
              rw [HWQ.out]
              refine CL.out.mono ?_
              rintro e w6 ⟨rfl, _, hw5⟩
              have GN := hid (grown_trU GQ.out (bel_grown (hw5 HR2.out) none) (fun q e _ => by cases e))
              clear hw5
              have BK : Hid (w6.heap[w.heap.size]? = some (.cells zc 25 (0, 0))) := (GN.out.block _ (by omega) (fun e => by injection e with e; omega)).trans BK0.out
              have BW := hid (B3.out.grown GN.out (by omega) (fun q e => by injection e with e; omega))
              clear CL hlook
              go_wp2_with (refine wpList_store_row rfl 25 _ _ rfl w.heap.size zc rfl (congrArg Value.agg HZC.out) 25 zc BK.out HIZ.out rfl HZ1.out ?_)
              refine bodyPost_ret (v := .tuple #[.agg zc, .bool false]) (results_cellT (p := 2) (u := 3) (ty := 25) rfl _ _ w.heap.size 25 zc (0, 0) _ rfl (setRow_heap _ _ _ _ _ _ BK.out) Tryd.underlying25 rfl HIZ.out _ rfl) rfl ?_
              exact ⟨ub0, false, by rw [HZ.out], TQ.out, bel_setRow BW.out (Nat.le_refl _) _⟩
          · have hxq : wq.heap[bx 4]? = some (.cells #[.pointer (some ⟨w.heap.size + 1, 4, none⟩)] 93 (0, 0)) := by
              have q := HBX.out 4 (by omega)
              exact (GQ.out.block _ (Array.getElem?_eq_some_iff.1 q).1 (fun e => by injection e with e; exact HU3.out.ne ub0_ok q e)).trans q
            have HVQ := hid (HV0.out.below BWQ.out)
            have CL := hid (clD_any wq (bx 4) (w.heap.size + 1) 4 u (.slice pu l.length cu) l hxq HUQ.out HFI.out.1 (by omega) HVQ.out (by
              intro bb o' n' c' hv' h0 e
              have := HV0.out.lt h0 hv'
              omega))
            have hlk := HKM.out 4 (by omega)
            rw [hlk] at hlook
            have hSt := HSTEP.out 4 (by omega) rfl
            have hBd := HBAD.out 4 (by omega) rfl
            have hv2 : vld 4 l ↔ l.length = 32 := Iff.rfl
            have hclo : (some (cloJ 4 (bx 4))).getD .nilFunc = .func (.func 59) #[] #[.pointer (some ⟨bx 4, 0, none⟩)] := rfl
            rw [hclo] at hlook
            obtain ⟨s, HSN⟩ : ∃ x, Hid (nmJ 4 = x) := ⟨_, rfl⟩
            rw [HSN.out] at hlook HWQ HU hcq0
            clear hlk hclo hxq
            by_cases hr : l.length = 32
            · have HST := hid (hSt (hv2.2 hr))
              rw [decide_eq_true hr] at CL
              have HR2 := hid hr
              clear hSt hBd hv2 hr
              go_wp2_with (first | (refine wpList_load_mid rfl 49 _ rfl b (off + k * 2) rfl [.string s, .slice pu l.length cu] _ HU.out Tryd.underlying49 rfl HSZ.out ?_) | fail)
              rw [HWQ.out]
              refine CL.out.mono ?_
              rintro e w5 ⟨rfl, hw5, _⟩
              obtain ⟨w4, hb4, rfl⟩ := hw5 HR2.out
              have HUN : Hid (UB (w4.setCells (w.heap.size + 1) 4 (l.map (Value.int .u8))) (w.heap.size + 1) (updJ u 4 l)) := by
                have := Bk.setCells (l.map (Value.int .u8)) _ _ 4 (HUQ.out.below hb4)
                rw [setA_a HFI.out.1 HR2.out] at this
                exact this
              have GN := hid (grown_trans (grown_trU GQ.out (bel_grown hb4 none) (fun q e _ => by cases e)) (grown_setCellsU (w.heap.size + 1) (l.map (Value.int .u8)) w4 4))
              clear hw5
              obtain ⟨w6, HW6⟩ : ∃ x, Hid ((w4.setCells (w.heap.size + 1) 4 (l.map (Value.int .u8))) = x) := ⟨_, rfl⟩
              rw [HW6.out] at HUN GN
              rw [HW6.out]
              clear hb4 CL hlook
              go_wp2
              exact ⟨⟨k + 1, by omega, by go_num, hid ⟨_, HST.out, HUN.out⟩, GN⟩, by simp [intOf]; omega⟩
            · have TQ := hid (hBd (fun q => hr (hv2.1 q)))
              rw [decide_eq_false hr] at CL
              have HR2 := hid hr
              clear hSt hBd hv2 hr
              go_wp2_with (first | (refine wpList_load_mid rfl 49 _ rfl b (off + k * 2) rfl [.string s, .slice pu l.length cu] _ HU.out Tryd.underlying49 rfl HSZ.out ?_) | fail)
              rw [HWQ.out]
              refine CL.out.mono ?_
              rintro e w6 ⟨rfl, _, hw5⟩
              have GN := hid (grown_trU GQ.out (bel_grown (hw5 HR2.out) none) (fun q e _ => by cases e))
              clear hw5
              have BK : Hid (w6.heap[w.heap.size]? = some (.cells zc 25 (0, 0))) := (GN.out.block _ (by omega) (fun e => by injection e with e; omega)).trans BK0.out
              have BW := hid (B3.out.grown GN.out (by omega) (fun q e => by injection e with e; omega))
              clear CL hlook
              go_wp2_with (refine wpList_store_row rfl 25 _ _ rfl w.heap.size zc rfl (congrArg Value.agg HZC.out) 25 zc BK.out HIZ.out rfl HZ1.out ?_)
              refine bodyPost_ret (v := .tuple #[.agg zc, .bool false]) (results_cellT (p := 2) (u := 3) (ty := 25) rfl _ _ w.heap.size 25 zc (0, 0) _ rfl (setRow_heap _ _ _ _ _ _ BK.out) Tryd.underlying25 rfl HIZ.out _ rfl) rfl ?_
              exact ⟨ub0, false, by rw [HZ.out], TQ.out, bel_setRow BW.out (Nat.le_refl _) _⟩
          · have hxq : wq.heap[bx 5]? = some (.cells #[.pointer (some ⟨w.heap.size + 1, 3, none⟩)] 91 (0, 0)) := by
              have q := HBX.out 5 (by omega)
              exact (GQ.out.block _ (Array.getElem?_eq_some_iff.1 q).1 (fun e => by injection e with e; exact HU3.out.ne ub0_ok q e)).trans q
            have HVQ := hid (HV0.out.below BWQ.out)
            have CL := hid (clN_any wq (bx 5) (w.heap.size + 1) 3 u (.slice pu l.length cu) l (.int .i64 u.z) hxq HUQ.out rfl HVQ.out (by omega) (HK.out.below BWQ.out))
            have hlk := HKM.out 5 (by omega)
            rw [hlk] at hlook
            have hSt := HSTEP.out 5 (by omega) rfl
            have hBd := HBAD.out 5 (by omega) rfl
            have hv2 : vld 5 l ↔ rdOk (Lib.bytesOf l) 2147483647 := Iff.rfl
            have hclo : (some (cloJ 5 (bx 5))).getD .nilFunc = .func (.func 57) #[] #[.pointer (some ⟨bx 5, 0, none⟩)] := rfl
            rw [hclo] at hlook
            obtain ⟨s, HSN⟩ : ∃ x, Hid (nmJ 5 = x) := ⟨_, rfl⟩
            rw [HSN.out] at hlook HWQ HU hcq0
            clear hlk hclo hxq
            by_cases hr : rdOk (Lib.bytesOf l) 2147483647
            · have HST := hid (hSt (hv2.2 hr))
              rw [decide_eq_true hr] at CL
              have hrv := (rd_ok hr).1
              rw [hrv] at CL
              clear hrv
              have HR2 := hid hr
              clear hSt hBd hv2 hr
              go_wp2_with (first | (refine wpList_load_mid rfl 49 _ rfl b (off + k * 2) rfl [.string s, .slice pu l.length cu] _ HU.out Tryd.underlying49 rfl HSZ.out ?_) | fail)
              rw [HWQ.out]
              refine CL.out.mono ?_
              rintro e w5 ⟨rfl, w4, hb4, rfl⟩
              have HUN : Hid (UB (w4.setCell ⟨w.heap.size + 1, 3, none⟩ (.int .i64 (valD (Lib.bytesOf l) : Nat))) (w.heap.size + 1) (updJ u 5 l)) := by
                have := (HUQ.out.below hb4).set 3 (.int .i64 (valD (Lib.bytesOf l) : Nat))
                rw [(set_i u _).2.2.2] at this
                exact this
              have GN := hid (grown_trans (grown_trU GQ.out (bel_grown hb4 none) (fun q e _ => by cases e)) (grown_set w4 (w.heap.size + 1) 3 (.int .i64 (valD (Lib.bytesOf l) : Nat))))
              obtain ⟨w6, HW6⟩ : ∃ x, Hid ((w4.setCell ⟨w.heap.size + 1, 3, none⟩ (.int .i64 (valD (Lib.bytesOf l) : Nat))) = x) := ⟨_, rfl⟩
              rw [HW6.out] at HUN GN
              rw [HW6.out]
              clear hb4 CL hlook
              go_wp2
              exact ⟨⟨k + 1, by omega, by go_num, hid ⟨_, HST.out, HUN.out⟩, GN⟩, by simp [intOf]; omega⟩
            · have TQ := hid (hBd (fun q => hr (hv2.1 q)))
              rw [decide_eq_false hr] at CL
              have HR2 := hid hr
              clear hSt hBd hv2 hr
              go_wp2_with (first | (refine wpList_load_mid rfl 49 _ rfl b (off + k * 2) rfl [.string s, .slice pu l.length cu] _ HU.out Tryd.underlying49 rfl HSZ.out ?_) | fail)
              rw [HWQ.out]
              refine CL.out.mono ?_
              rintro e w5 ⟨rfl, w4, hb4, rfl⟩
              have GN := hid (grown_trans (grown_trU GQ.out (bel_grown hb4 none) (fun q e _ => by cases e)) (grown_set w4 (w.heap.size + 1) 3 (.int .i64 (rdV (Lib.bytesOf l) 2147483647))))
              obtain ⟨w6, HW6⟩ : ∃ x, Hid (w4.setCell ⟨w.heap.size + 1, 3, none⟩ (.int .i64 (rdV (Lib.bytesOf l) 2147483647)) = x) := ⟨_, rfl⟩
              rw [HW6.out] at GN
              rw [HW6.out]
              clear hb4
              have BK : Hid (w6.heap[w.heap.size]? = some (.cells zc 25 (0, 0))) := (GN.out.block _ (by omega) (fun e => by injection e with e; omega)).trans BK0.out
              have BW := hid (B3.out.grown GN.out (by omega) (fun q e => by injection e with e; omega))
              clear CL hlook
              go_wp2_with (refine wpList_store_row rfl 25 _ _ rfl w.heap.size zc rfl (congrArg Value.agg HZC.out) 25 zc BK.out HIZ.out rfl HZ1.out ?_)
              refine bodyPost_ret (v := .tuple #[.agg zc, .bool false]) (results_cellT (p := 2) (u := 3) (ty := 25) rfl _ _ w.heap.size 25 zc (0, 0) _ rfl (setRow_heap _ _ _ _ _ _ BK.out) Tryd.underlying25 rfl HIZ.out _ rfl) rfl ?_
              exact ⟨ub0, false, by rw [HZ.out], TQ.out, bel_setRow BW.out (Nat.le_refl _) _⟩
        · have hKs : Kf s = none := HKN.out s (fun j hj e => hkey ⟨j, hj, e⟩)
          rw [hKs] at hlook
          have TQ := hid (HMISS.out (fun j hj e => hkey ⟨j, hj, e⟩))
          clear hkey hKs hcq0 hcq1
          have BW := hid (BW.out.trans (((Below.refl _ wr).alloc (Nat.le_refl _) (.cells #[.string s, .slice pu l.length cu] 49)).mono BW.out.size))
          have BK : Hid ((wr.alloc (.cells #[.string s, .slice pu l.length cu] 49)).heap[w.heap.size]? = some (.cells zc 25 (0, 0))) := by refine hid ?_; rw [heap_alloc_old _ _ (by omega)]; exact BK.out
          go_wp2_with (first | (refine wpList_load_mid rfl 49 _ rfl b (off + k * 2) rfl [.string s, .slice pu l.length cu] _ HU.out Tryd.underlying49 rfl HSZ.out ?_) | (refine wpList_store_row rfl 25 _ _ rfl w.heap.size zc rfl (congrArg Value.agg HZC.out) 25 zc BK.out HIZ.out rfl HZ1.out ?_))
          refine bodyPost_ret (v := .tuple #[.agg zc, .bool false]) (results_cellT (p := 2) (u := 3) (ty := 25) rfl _ _ w.heap.size 25 zc (0, 0) _ rfl (setRow_heap _ _ _ _ _ _ BK.out) Tryd.underlying25 rfl HIZ.out _ rfl) rfl ?_
          exact ⟨ub0, false, by rw [HZ.out], TQ.out, bel_setRow BW.out (Nat.le_refl _) _⟩
      · have hk : k = 6 := by omega
        subst hk
        have TQ := hid (HFI.out.done HOK.out HN.out)
        have HLK : Hid (wr.heap[w.heap.size + 1]? = some (.cells (ubA u) 25 (0, 0))) := HUB.out
        have HS := hid (size_ub HFI.out.1)
        have HS68 : Hid (zc.size = (ubA u).size) := by refine hid ?_; rw [HZS.out, ubA_size HFI.out.1]
        have H1 := hid (ubA_one u)
        obtain ⟨m, HM⟩ : ∃ x, Hid (ubA u = x) := ⟨_, rfl⟩
        rw [HM.out] at HLK HS HS68 H1
        go_wp2_with (first | (refine wpList_load_row rfl 25 _ rfl (w.heap.size + 1) rfl 25 m (0, 0) _ HLK.out Tryd.underlying25 rfl HS.out ?_) | (refine wpList_store_row rfl 25 _ _ rfl w.heap.size m rfl rfl 25 zc BK.out HS.out HS68.out H1.out ?_))
        refine bodyPost_ret (v := .tuple #[.agg m, .bool true]) (results_cellT (p := 2) (u := 3) (ty := 25) rfl _ _ w.heap.size 25 m (0, 0) _ rfl (setRow_heap _ _ _ _ _ _ BK.out) Tryd.underlying25 rfl HS.out _ rfl) rfl ?_
        exact ⟨u, true, by rw [HM.out], TQ.out, bel_setRow BW.out (Nat.le_refl _) _⟩
  · have hq : ((n : Int) != 6) = true := by rw [bne_iff_ne]; exact hn6
    have TQ := hid (tab_short (rs := rs) (by have := HN.out; omega))
    have BW := B3
    have BK := BK0
    clear hn6
    go_wp2_with (refine wpList_store_row rfl 25 _ _ rfl w.heap.size zc rfl (congrArg Value.agg HZC.out) 25 zc BK.out HIZ.out rfl HZ1.out ?_)
    refine bodyPost_ret (v := .tuple #[.agg zc, .bool false]) (results_cellT (p := 2) (u := 3) (ty := 25) rfl _ _ w.heap.size 25 zc (0, 0) _ rfl (setRow_heap _ _ _ _ _ _ BK.out) Tryd.underlying25 rfl HIZ.out _ rfl) rfl ?_
    exact ⟨ub0, false, by rw [HZ.out], TQ.out, bel_setRow BW.out (Nat.le_refl _) _⟩
end Go.Proofs.YtklklldmhoofnaaDoor
