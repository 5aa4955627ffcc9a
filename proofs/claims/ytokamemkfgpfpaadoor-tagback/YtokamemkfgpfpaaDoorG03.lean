/- Of the road to tagBackUptoCard_holds: RefShaWords, RefShaConst. -/
import Derived.Test.YtokamemkfgpfpaaDoorG02
set_option linter.unusedVariables false
set_option linter.unusedSimpArgs false
namespace Go.Proofs.YtokamemkfgpfpaaDoor
open Go.RowKit
def partW (l : List Int) (I : Nat) : Nat → Nat
  | 0 => 0
  | J + 1 => partW l I J * 256 + (l.getD (4 * I + J) 0).toNat
theorem partW_four (l : List Int) (I : Nat) : partW l I 4 = beW l I := by
  simp only [partW, beW, Nat.add_zero]
  omega
theorem partW_lt {l : List Int} (h : ∀ x ∈ l, 0 ≤ x ∧ x < 256) (I : Nat) : ∀ J, partW l I J < 256 ^ J
  | 0 => by simp [partW]
  | J + 1 => by
    have h1 := partW_lt h I J
    have h2 := byte_nat h (4 * I + J)
    simp only [partW, Nat.pow_succ]
    omega
theorem curWs_zero (l : List Int) (I : Nat) (hI : I < 64) : (curWs l I).set I 0 = curWs l I := by
  unfold curWs
  have hl : (wordsTo l I).length = I := wordsTo_length l I
  rw [List.set_append_right _ _ (by omega), hl, Nat.sub_self, show 64 - I = (63 - I) + 1 by omega, List.replicate_succ, List.set_cons_zero]
set_option maxRecDepth 100000 in
set_option maxHeartbeats 4000000 in
theorem rwords_any (w : World) (l : List Int) (hl : l.length = 64) (hby : ∀ x ∈ l, 0 ≤ x ∧ x < 256) :
    Calls Tryd.prog 68 #[.agg (cellsB l)] w fun e w' => e = .returned (.agg (cellsW (wordsTo l 64))) ∧ Below w.heap.size w w' := by
  obtain ⟨z, HZ⟩ : ∃ z, Hid (cellsW (zerosW 64) = z) := ⟨_, rfl⟩
  have hz := zero_w64
  rw [HZ.out] at hz
  have HZ0 := hid hz
  obtain ⟨bl, HBL⟩ : ∃ bl, Hid (cellsB l = bl) := ⟨_, rfl⟩
  rw [HBL.out]
  clear hz
  go_enter Tryd.func68, Tryd.ntmps68
  go_wp2_with (refine wpList_alloc_agg HZ0.out rfl rfl ?_)
  obtain ⟨W0, hW0⟩ : ∃ W0, Hid (((w.alloc (.cells bl 76)).alloc (.cells z 101)).alloc (.cells z 101) = W0) := ⟨_, rfl⟩
  rw [hW0.out]
  have HB0 : Hid (Below w.heap.size w W0) := by rw [← hW0.out]; exact (((Below.refl _ w).alloc (Nat.le_refl _) _).alloc (by simp) _).alloc (by simp; omega) _
  have HS0 : Hid (W0.heap.size = w.heap.size + 3) := by rw [← hW0.out]; show _ = _; simp
  have H0 : Hid (W0.heap[w.heap.size]? = some (.cells bl 76 (0, 0))) := by
    rw [← hW0.out]
    exact (Below.heap_alloc _ _ _ (by simp; omega)).trans ((Below.heap_alloc _ _ _ (by simp)).trans (heap_alloc_new w _))
  have H1 : Hid (W0.heap[w.heap.size + 1]? = some (.cells z 101 (0, 0))) := by
    rw [← hW0.out]
    refine (Below.heap_alloc _ _ _ (by simp)).trans ?_
    have := heap_alloc_new (w.alloc (.cells bl 76)) (.cells z 101)
    rwa [World.size_alloc] at this
  have H2 : Hid (W0.heap[w.heap.size + 2]? = some (.cells (cellsW (curWs l 0)) 101 (0, 0))) := by
    have := heap_alloc_new ((w.alloc (.cells bl 76)).alloc (.cells z 101)) (.cells z 101)
    rw [World.size_alloc, World.size_alloc, hW0.out, ← HZ.out] at this
    exact this
  clear hW0
  go_loopw [4] (fun i wr => ∃ I : Nat, I ≤ 16 ∧ i = .int .i64 I ∧ Hid (wr.heap[w.heap.size + 2]? = some (.cells (cellsW (curWs l I)) 101 (0, 0))) ∧ Hid (W0.grownBy wr (some (w.heap.size + 2)))) (fun i _ => 16 - (intOf i).toNat)
  case atStart => exact ⟨0, Nat.zero_le _, rfl, H2, ⟨rfl, rfl, rfl, Nat.le_refl _, fun _ _ _ => rfl⟩⟩
  case round =>
    obtain ⟨I, hI, rfl, HF, HG⟩ := hrel
    obtain ⟨wo, rfl⟩ : ∃ wo, wo = wr := ⟨_, rfl⟩
    by_cases hlt : I < 16
    · have HF0 : Hid (wo.heap[w.heap.size + 2]? = some (.cells (cellsW ((curWs l I).set I (partW l I 0))) 101 (0, 0))) := by
        rw [show partW l I 0 = 0 from rfl, curWs_zero l I (by omega)]
        exact HF
      go_wp2
      go_loopw [5] (fun i wq => ∃ J : Nat, J ≤ 4 ∧ i = .int .i64 J ∧ Hid (wq.heap[w.heap.size + 2]? = some (.cells (cellsW ((curWs l I).set I (partW l I J))) 101 (0, 0))) ∧ Hid (W0.grownBy wq (some (w.heap.size + 2)))) (fun i _ => 4 - (intOf i).toNat)
      case atStart => exact ⟨0, Nat.zero_le _, rfl, HF0, HG⟩
      case round =>
        clear HF HG HF0
        obtain ⟨J, hJ, rfl, HF, HG⟩ := hrel
        by_cases hlj : J < 4
        · have hb := (HG.out.block w.heap.size (by rw [HS0.out]; omega) (by simp)).trans H0.out
          have hlj2 : 4 * I + J < l.length := by omega
          obtain ⟨a, HA⟩ : ∃ a, Hid ((l.getD (4 * I + J) 0).toNat = a) := ⟨_, rfl⟩
          have ha : a < 256 := by rw [← HA.out]; exact byte_nat hby _
          have ca : wr.cell? ⟨w.heap.size, 4 * I + J, none⟩ = some (.int .u8 (a : Int)) := by
            rw [cell_of_row wr w.heap.size _ _ _ _ hb, ← HBL.out, ← HA.out]
            have := hby _ (List.getElem_mem hlj2)
            simp only [cellsB, List.getElem?_toArray, List.getElem?_map, List.getElem?_eq_getElem hlj2, Option.map_some, getD_of_lt hlj2]
            congr 2
            omega
          obtain ⟨x, HX⟩ : ∃ x, Hid (partW l I J = x) := ⟨_, rfl⟩
          have hx : x < 16777216 := by
            rw [← HX.out]
            exact Nat.lt_of_lt_of_le (partW_lt hby I J) (Nat.pow_le_pow_right (by decide) (show J ≤ 3 by omega))
          rw [HX.out] at HF
          have HN : Hid (partW l I (J + 1) = x * 256 + a) := by show _ = _; simp only [partW]; rw [HX.out, HA.out]
          have hcx : wr.cell? ⟨w.heap.size + 2, I, none⟩ = some (.int .u32 (x : Int)) := by
            rw [cell_of_row wr (w.heap.size + 2) I _ _ _ HF.out, cellsW_get (by rw [List.length_set, curWs_length l I (by omega)]; omega)]
            simp [List.getD, curWs_length l I (show I ≤ 64 by omega), show I < 64 by omega]
          have hfz : wr.frozen? ⟨w.heap.size + 2, I, none⟩ = false := by simp [World.frozen?, HF.out]
          clear hb
          go_wp2
          go_region
          all_goals go_wp2
          refine ⟨⟨J + 1, by omega, by go_num, ?_, grown_tr HG.out (grown_setd _ _ _ _)⟩, by simp [intOf]; omega⟩
          show _ = _
          rw [HN.out, ← List.set_set (a := x), ← cellsW_set _ I (x * 256 + a)]
          rw [show ((x * 256 + a : Nat) : Int) = (x : Int) * 256 + (a : Int) by omega]
          exact heap_setCell_same _ (w.heap.size + 2) I _ _ _ HF.out
        · have hJ4 : J = 4 := by omega
          subst hJ4
          have HST : Hid ((curWs l I).set I (partW l I 4) = curWs l (I + 1)) := by
            show _ = _
            rw [partW_four, ← curWs_step l I (by omega)]
            unfold nextW
            rw [if_pos hlt]
          rw [HST.out] at HF
          go_wp2
          exact ⟨⟨I + 1, by omega, by go_num, HF, HG⟩, by simp [intOf]; omega⟩
    · have hI16 : I = 16 := by omega
      rw [hI16] at HF
      clear hI16
      go_wp2
      clear hlt
      go_loopw [6] (fun i wq => ∃ I : Nat, 16 ≤ I ∧ I ≤ 64 ∧ i = .int .i64 I ∧ Hid (wq.heap[w.heap.size + 2]? = some (.cells (cellsW (curWs l I)) 101 (0, 0))) ∧ Hid (W0.grownBy wq (some (w.heap.size + 2)))) (fun i _ => 64 - (intOf i).toNat)
      case atStart => exact ⟨16, Nat.le_refl _, by decide, rfl, HF, HG⟩
      case round =>
        clear HF HG hI
        obtain ⟨I, hI16, hI, rfl, HF, HG⟩ := hrel
        by_cases hlt : I < 64
        · have cell : ∀ j, j < I → ∃ a : Nat, a < 4294967296 ∧ wr.cell? ⟨w.heap.size + 2, j, none⟩ = some (.int .u32 (a : Int)) ∧ (wordsTo l I).getD j 0 = a := fun j hj => by
            refine ⟨_, getW_lt (wordsTo_lt hby I) j, ?_, rfl⟩
            rw [cell_of_row wr (w.heap.size + 2) j _ _ _ HF.out, cellsW_get (by rw [curWs_length l I hI]; omega), curWs_get l I j hj]
          obtain ⟨a2, ha2, c2, e2⟩ := cell (I - 2) (by omega)
          obtain ⟨a7, ha7, c7, e7⟩ := cell (I - 7) (by omega)
          obtain ⟨a15, ha15, c15, e15⟩ := cell (I - 15) (by omega)
          obtain ⟨a16, ha16, c16, e16⟩ := cell (I - 16) (by omega)
          have HV : Hid (nextW l (wordsTo l I) I = add32 (add32 (add32 (sig1 a2) a7) (sig0 a15)) a16) := by
            show _ = _
            unfold nextW
            rw [if_neg (by omega), e2, e7, e15, e16]
          have hci : wr.cell? ⟨w.heap.size + 2, I, none⟩ = some (.int .u32 (((curWs l I).getD I 0 : Nat) : Int)) := by
            rw [cell_of_row wr (w.heap.size + 2) I _ _ _ HF.out]
            exact cellsW_get (by rw [curWs_length l I (by omega)]; omega)
          obtain ⟨old, HOLD⟩ : ∃ old, Hid ((curWs l I).getD I 0 = old) := ⟨_, rfl⟩
          rw [HOLD.out] at hci
          have hfz : wr.frozen? ⟨w.heap.size + 2, I, none⟩ = false := by simp [World.frozen?, HF.out]
          have n2 : ((I : Int) - 2) = ((I - 2 : Nat) : Int) := by omega
          have n7 : ((I : Int) - 7) = ((I - 7 : Nat) : Int) := by omega
          have n15 : ((I : Int) - 15) = ((I - 15 : Nat) : Int) := by omega
          have n16 : ((I : Int) - 16) = ((I - 16 : Nat) : Int) := by omega
          clear cell e2 e7 e15 e16
          have HS0 := hid (sig0_bits a15 ha15)
          have HS1 := hid (sig1_bits a2 ha2)
          go_wp2_with fail
          refine (rturn_7 _ a15 ha15).mono ?_
          rintro e w' ⟨rfl, hw⟩
          subst hw
          go_wp2_with fail
          refine (rturn_18 _ a15 ha15).mono ?_
          rintro e w' ⟨rfl, hw⟩
          subst hw
          go_wp2_with fail
          rw [HS0.out]
          refine (rturn_17 _ a2 ha2).mono ?_
          rintro e w' ⟨rfl, hw⟩
          subst hw
          go_wp2_with fail
          refine (rturn_19 _ a2 ha2).mono ?_
          rintro e w' ⟨rfl, hw⟩
          subst hw
          go_wp2_with fail
          rw [HS1.out]
          go_region
          all_goals go_wp2
          have HADD : Hid ((((sig1 a2 : Nat) : Int) + (a7 : Int) + ((sig0 a15 : Nat) : Int) + (a16 : Int)) % 4294967296 = ((add32 (add32 (add32 (sig1 a2) a7) (sig0 a15)) a16 : Nat) : Int)) := by
            show _ = _
            unfold add32
            omega
          refine ⟨⟨I + 1, by omega, by omega, by go_num, ?_, grown_tr HG.out (grown_setd _ _ _ _)⟩, by simp [intOf]; omega⟩
          show _ = _
          rw [← curWs_step l I (by omega), HV.out, ← cellsW_set, HADD.out]
          exact heap_setCell_same _ (w.heap.size + 2) I _ _ _ HF.out
        · have hI64 : I = 64 := by omega
          subst hI64
          have HWW : Hid (curWs l 64 = wordsTo l 64) := by show _ = _; simp [curWs]
          rw [HWW.out] at HF
          obtain ⟨y, HY⟩ : ∃ y, Hid (cellsW (wordsTo l 64) = y) := ⟨_, rfl⟩
          rw [HY.out] at HF
          have hys : y.size = 64 := by rw [← HY.out, cellsW_size, wordsTo_length]
          have HIy : Hid ((Tryd.prog.info? 101).map (·.size) = some y.size) := by rw [hys]; exact size_w64
          have H1y : Hid (y.all (·.oneCell') = true) := by rw [← HY.out]; exact cellsW_one _
          have HF1c : Hid (wr.heap[w.heap.size + 1]? = some (.cells z 101 (0, 0))) := by
            rw [HG.out.block (w.heap.size + 1) (by rw [HS0.out]; omega) (by simp)]
            exact H1
          have HZY : Hid (z.size = y.size) := by rw [hys, ← HZ.out, cellsW_size, zerosW_length]; exact rfl
          have HB1 := hid (below_setRow (HB0.out.grown HG.out (by rw [HS0.out]; omega) (fun k e => by cases e; omega)) (g := w.heap.size + 1) (by omega) y)
          clear hys hlt
          go_wp2_with (first | (refine wpList_load_row rfl 101 _ rfl (w.heap.size + 2) rfl 101 y (0, 0) _ HF.out Tryd.underlying101 rfl HIy.out ?_) | (refine wpList_store_row rfl 101 _ _ rfl (w.heap.size + 1) y rfl rfl 101 _ HF1c.out HIy.out HZY.out H1y.out ?_))
          refine bodyPost_ret (v := .agg y) (results_cell_row (p := 2) (ty := 101) rfl _ _ (w.heap.size + 1) 101 y (0, 0) _ rfl (setRow_heap _ _ _ _ _ _ HF1c.out) Tryd.underlying101 rfl HIy.out) rfl ?_
          rw [HY.out]
          exact ⟨rfl, HB1.out⟩
set_option maxRecDepth 100000 in
set_option maxHeartbeats 1000000 in
theorem rinitial_any (w : World) : Calls Tryd.prog 37 #[] w fun e w' => e = .returned (.agg (cellsW iv)) ∧ Below w.heap.size w w' := by
  obtain ⟨z8, HZ8⟩ : ∃ z8, Hid (cellsW (zerosW 8) = z8) := ⟨_, rfl⟩
  have hz8 := zero_w8
  rw [HZ8.out] at hz8
  have HZ1 := hid hz8
  have HIm : Hid ((Tryd.prog.info? 74).map (·.size) = some (cellsW iv).size) := size_w8
  have H1m : Hid ((cellsW iv).all (·.oneCell') = true) := cellsW_one _
  have HZM : Hid (z8.size = (cellsW iv).size) := by rw [← HZ8.out, cellsW_size, zerosW_length]; exact rfl
  have HR : Hid ((w.alloc (.cells z8 74)).heap[w.heap.size]? = some (.cells z8 74 (0, 0))) := heap_alloc_new w _
  have HB := hid (below_setRow ((Below.refl _ w).alloc (Nat.le_refl _) (.cells z8 74)) (g := w.heap.size) (Nat.le_refl _) (cellsW iv))
  clear hz8
  go_enter Tryd.func37, Tryd.ntmps37
  go_wp2_with (first | (refine wpList_alloc_agg HZ1.out rfl rfl ?_) | (refine wpList_store_row rfl 74 _ _ rfl w.heap.size (cellsW iv) rfl rfl 74 _ HR.out HIm.out HZM.out H1m.out ?_))
  refine bodyPost_ret (v := .agg (cellsW iv)) (results_cell_row (p := 0) (ty := 74) rfl _ _ w.heap.size 74 (cellsW iv) (0, 0) _ rfl (setRow_heap _ _ _ _ _ _ HR.out) Tryd.underlying74 rfl HIm.out) rfl ?_
  exact ⟨rfl, HB.out⟩
set_option maxRecDepth 100000 in
set_option maxHeartbeats 1000000 in
theorem rconst_any (w : World) : Calls Tryd.prog 69 #[] w fun e w' => e = .returned (.agg (cellsW kW)) ∧ Below w.heap.size w w' := by
  obtain ⟨z8, HZ8⟩ : ∃ z8, Hid (cellsW (zerosW 64) = z8) := ⟨_, rfl⟩
  have hz8 := zero_w64
  rw [HZ8.out] at hz8
  have HZ1 := hid hz8
  have HIm : Hid ((Tryd.prog.info? 101).map (·.size) = some (cellsW kW).size) := size_w64
  have H1m : Hid ((cellsW kW).all (·.oneCell') = true) := cellsW_one _
  have HZM : Hid (z8.size = (cellsW kW).size) := by rw [← HZ8.out, cellsW_size, zerosW_length]; exact rfl
  have HR : Hid ((w.alloc (.cells z8 101)).heap[w.heap.size]? = some (.cells z8 101 (0, 0))) := heap_alloc_new w _
  have HB := hid (below_setRow ((Below.refl _ w).alloc (Nat.le_refl _) (.cells z8 101)) (g := w.heap.size) (Nat.le_refl _) (cellsW kW))
  clear hz8
  go_enter Tryd.func69, Tryd.ntmps69
  go_wp2_with (first | (refine wpList_alloc_agg HZ1.out rfl rfl ?_) | (refine wpList_store_row rfl 101 _ _ rfl w.heap.size (cellsW kW) rfl rfl 101 _ HR.out HIm.out HZM.out H1m.out ?_))
  refine bodyPost_ret (v := .agg (cellsW kW)) (results_cell_row (p := 0) (ty := 101) rfl _ _ w.heap.size 101 (cellsW kW) (0, 0) _ rfl (setRow_heap _ _ _ _ _ _ HR.out) Tryd.underlying101 rfl HIm.out) rfl ?_
  exact ⟨rfl, HB.out⟩
theorem rturn_i (w : World) (x : Nat) (i : Int) (hx : x < 4294967296) (hi : i = 6 ∨ i = 11 ∨ i = 25 ∨ i = 2 ∨ i = 13 ∨ i = 22) : Calls Tryd.prog 70 #[.int .u32 (x : Int), .int .u64 i] w fun e w' => e = .returned (.int .u32 ((rot x i.toNat : Nat) : Int)) ∧ w' = w := by
  rcases hi with rfl | rfl | rfl | rfl | rfl | rfl
  · exact rturn_6 w x hx
  · exact rturn_11 w x hx
  · exact rturn_25 w x hx
  · exact rturn_2 w x hx
  · exact rturn_13 w x hx
  · exact rturn_22 w x hx
end Go.Proofs.YtokamemkfgpfpaaDoor
