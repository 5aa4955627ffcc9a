/- Of the road to ringRoundCard_holds: RefShaWords, RefShaConst, RefShaMix, RefShaPad, ShaPiecesLaw, ShaMixesLaw, RefShaSum, AppB, FrameMath, TgRef, TgRefA, RgRef. -/
import Derived.Test.YtjdfclbjmmmcfaaDoorG07
import Derived.Test.YtjdfclbjmmmcfaaDoorG05
import Derived.Test.YtjdfclbjmmmcfaaDoorG00
import Derived.Laws.AppendOwn
import Derived.Test.YtjdfclbjmmmcfaaDoorG01
import Derived.Test.YtjdfclbjmmmcfaaDoorG06
import Derived.Laws.IdiomStrings
set_option linter.unusedVariables false
set_option linter.unusedSimpArgs false
namespace Go.Proofs.YtjdfclbjmmmcfaaDoor
open Go.RowKit
def partW (l : List Int) (I : Nat) : Nat → Nat
  | 0 => 0
  | J + 1 => partW l I J * 256 + (l.getD (4 * I + J) 0).toNat
theorem partW_four (l : List Int) (I : Nat) : partW l I 4 = beW l I := by
  simp only [partW, beW, Nat.add_zero]
  omega
theorem partW_lt {l : List Int} (h : ∀ x ∈ l, 0 ≤ x ∧ x < 256) (I : Nat) : ∀ J, partW l I J < 256 ^ J
  | 0 => by simp [partW]
  | J + 1 => by
    have h1 := partW_lt h I J
    have h2 := byte_nat h (4 * I + J)
    simp only [partW, Nat.pow_succ]
    omega
theorem curWs_zero (l : List Int) (I : Nat) (hI : I < 64) : (curWs l I).set I 0 = curWs l I := by
  unfold curWs
  have hl : (wordsTo l I).length = I := wordsTo_length l I
  rw [List.set_append_right _ _ (by omega), hl, Nat.sub_self, show 64 - I = (63 - I) + 1 by omega, List.replicate_succ, List.set_cons_zero]
set_option maxRecDepth 100000 in
set_option maxHeartbeats 4000000 in
theorem rwords_any (w : World) (l : List Int) (hl : l.length = 64) (hby : ∀ x ∈ l, 0 ≤ x ∧ x < 256) :
    Calls Tryd.prog 81 #[.agg (cellsB l)] w fun e w' => e = .returned (.agg (cellsW (wordsTo l 64))) ∧ Below w.heap.size w w' := by
  obtain ⟨z, HZ⟩ : ∃ z, Hid (cellsW (zerosW 64) = z) := ⟨_, rfl⟩
  have hz := zero_w64
  rw [HZ.out] at hz
  have HZ0 := hid hz
  obtain ⟨bl, HBL⟩ : ∃ bl, Hid (cellsB l = bl) := ⟨_, rfl⟩
  rw [HBL.out]
  clear hz
  go_enter Tryd.func81, Tryd.ntmps81
  go_wp2_with (refine wpList_alloc_agg HZ0.out rfl rfl ?_)
  obtain ⟨W0, hW0⟩ : ∃ W0, Hid (((w.alloc (.cells bl 104)).alloc (.cells z 115)).alloc (.cells z 115) = W0) := ⟨_, rfl⟩
  rw [hW0.out]
  have HB0 : Hid (Below w.heap.size w W0) := by rw [← hW0.out]; exact (((Below.refl _ w).alloc (Nat.le_refl _) _).alloc (by simp) _).alloc (by simp; omega) _
  have HS0 : Hid (W0.heap.size = w.heap.size + 3) := by rw [← hW0.out]; show _ = _; simp
  have H0 : Hid (W0.heap[w.heap.size]? = some (.cells bl 104 (0, 0))) := by
    rw [← hW0.out]
    exact (Below.heap_alloc _ _ _ (by simp; omega)).trans ((Below.heap_alloc _ _ _ (by simp)).trans (heap_alloc_new w _))
  have H1 : Hid (W0.heap[w.heap.size + 1]? = some (.cells z 115 (0, 0))) := by
    rw [← hW0.out]
    refine (Below.heap_alloc _ _ _ (by simp)).trans ?_
    have := heap_alloc_new (w.alloc (.cells bl 104)) (.cells z 115)
    rwa [World.size_alloc] at this
  have H2 : Hid (W0.heap[w.heap.size + 2]? = some (.cells (cellsW (curWs l 0)) 115 (0, 0))) := by
    have := heap_alloc_new ((w.alloc (.cells bl 104)).alloc (.cells z 115)) (.cells z 115)
    rw [World.size_alloc, World.size_alloc, hW0.out, ← HZ.out] at this
    exact this
  clear hW0
  go_loopw [4] (fun i wr => ∃ I : Nat, I ≤ 16 ∧ i = .int .i64 I ∧ Hid (wr.heap[w.heap.size + 2]? = some (.cells (cellsW (curWs l I)) 115 (0, 0))) ∧ Hid (W0.grownBy wr (some (w.heap.size + 2)))) (fun i _ => 16 - (intOf i).toNat)
  case atStart => exact ⟨0, Nat.zero_le _, rfl, H2, ⟨rfl, rfl, rfl, Nat.le_refl _, fun _ _ _ => rfl⟩⟩
  case round =>
    obtain ⟨I, hI, rfl, HF, HG⟩ := hrel
    obtain ⟨wo, rfl⟩ : ∃ wo, wo = wr := ⟨_, rfl⟩
    by_cases hlt : I < 16
    · have HF0 : Hid (wo.heap[w.heap.size + 2]? = some (.cells (cellsW ((curWs l I).set I (partW l I 0))) 115 (0, 0))) := by
        rw [show partW l I 0 = 0 from rfl, curWs_zero l I (by omega)]
        exact HF
      go_wp2
      go_loopw [5] (fun i wq => ∃ J : Nat, J ≤ 4 ∧ i = .int .i64 J ∧ Hid (wq.heap[w.heap.size + 2]? = some (.cells (cellsW ((curWs l I).set I (partW l I J))) 115 (0, 0))) ∧ Hid (W0.grownBy wq (some (w.heap.size + 2)))) (fun i _ => 4 - (intOf i).toNat)
      case atStart => exact ⟨0, Nat.zero_le _, rfl, HF0, HG⟩
      case round =>
        clear HF HG HF0
        obtain ⟨J, hJ, rfl, HF, HG⟩ := hrel
        by_cases hlj : J < 4
        · have hb := (HG.out.block w.heap.size (by rw [HS0.out]; omega) (by simp)).trans H0.out
          have hlj2 : 4 * I + J < l.length := by omega
          obtain ⟨a, HA⟩ : ∃ a, Hid ((l.getD (4 * I + J) 0).toNat = a) := ⟨_, rfl⟩
          have ha : a < 256 := by rw [← HA.out]; exact byte_nat hby _
          have ca : wr.cell? ⟨w.heap.size, 4 * I + J, none⟩ = some (.int .u8 (a : Int)) := by
            rw [cell_of_row wr w.heap.size _ _ _ _ hb, ← HBL.out, ← HA.out]
            have := hby _ (List.getElem_mem hlj2)
            simp only [cellsB, List.getElem?_toArray, List.getElem?_map, List.getElem?_eq_getElem hlj2, Option.map_some, getD_of_lt hlj2]
            congr 2
            omega
          obtain ⟨x, HX⟩ : ∃ x, Hid (partW l I J = x) := ⟨_, rfl⟩
          have hx : x < 16777216 := by
            rw [← HX.out]
            exact Nat.lt_of_lt_of_le (partW_lt hby I J) (Nat.pow_le_pow_right (by decide) (show J ≤ 3 by omega))
          rw [HX.out] at HF
          have HN : Hid (partW l I (J + 1) = x * 256 + a) := by show _ = _; simp only [partW]; rw [HX.out, HA.out]
          have hcx : wr.cell? ⟨w.heap.size + 2, I, none⟩ = some (.int .u32 (x : Int)) := by
            rw [cell_of_row wr (w.heap.size + 2) I _ _ _ HF.out, cellsW_get (by rw [List.length_set, curWs_length l I (by omega)]; omega)]
            simp [List.getD, curWs_length l I (show I ≤ 64 by omega), show I < 64 by omega]
          have hfz : wr.frozen? ⟨w.heap.size + 2, I, none⟩ = false := by simp [World.frozen?, HF.out]
          clear hb
          go_wp2
          go_region
          all_goals go_wp2
          refine ⟨⟨J + 1, by omega, by go_num, ?_, grown_tr HG.out (grown_setd _ _ _ _)⟩, by simp [intOf]; omega⟩
          show _ = _
          rw [HN.out, ← List.set_set (a := x), ← cellsW_set _ I (x * 256 + a)]
          rw [show ((x * 256 + a : Nat) : Int) = (x : Int) * 256 + (a : Int) by omega]
          exact heap_setCell_same _ (w.heap.size + 2) I _ _ _ HF.out
        · have hJ4 : J = 4 := by omega
          subst hJ4
          have HST : Hid ((curWs l I).set I (partW l I 4) = curWs l (I + 1)) := by
            show _ = _
            rw [partW_four, ← curWs_step l I (by omega)]
            unfold nextW
            rw [if_pos hlt]
          rw [HST.out] at HF
          go_wp2
          exact ⟨⟨I + 1, by omega, by go_num, HF, HG⟩, by simp [intOf]; omega⟩
    · have hI16 : I = 16 := by omega
      rw [hI16] at HF
      clear hI16
      go_wp2
      clear hlt
      go_loopw [6] (fun i wq => ∃ I : Nat, 16 ≤ I ∧ I ≤ 64 ∧ i = .int .i64 I ∧ Hid (wq.heap[w.heap.size + 2]? = some (.cells (cellsW (curWs l I)) 115 (0, 0))) ∧ Hid (W0.grownBy wq (some (w.heap.size + 2)))) (fun i _ => 64 - (intOf i).toNat)
      case atStart => exact ⟨16, Nat.le_refl _, by decide, rfl, HF, HG⟩
      case round =>
        clear HF HG hI
        obtain ⟨I, hI16, hI, rfl, HF, HG⟩ := hrel
        by_cases hlt : I < 64
        · have cell : ∀ j, j < I → ∃ a : Nat, a < 4294967296 ∧ wr.cell? ⟨w.heap.size + 2, j, none⟩ = some (.int .u32 (a : Int)) ∧ (wordsTo l I).getD j 0 = a := fun j hj => by
            refine ⟨_, getW_lt (wordsTo_lt hby I) j, ?_, rfl⟩
            rw [cell_of_row wr (w.heap.size + 2) j _ _ _ HF.out, cellsW_get (by rw [curWs_length l I hI]; omega), curWs_get l I j hj]
          obtain ⟨a2, ha2, c2, e2⟩ := cell (I - 2) (by omega)
          obtain ⟨a7, ha7, c7, e7⟩ := cell (I - 7) (by omega)
          obtain ⟨a15, ha15, c15, e15⟩ := cell (I - 15) (by omega)
          obtain ⟨a16, ha16, c16, e16⟩ := cell (I - 16) (by omega)
          have HV : Hid (nextW l (wordsTo l I) I = add32 (add32 (add32 (sig1 a2) a7) (sig0 a15)) a16) := by
            show _ = _
            unfold nextW
            rw [if_neg (by omega), e2, e7, e15, e16]
          have hci : wr.cell? ⟨w.heap.size + 2, I, none⟩ = some (.int .u32 (((curWs l I).getD I 0 : Nat) : Int)) := by
            rw [cell_of_row wr (w.heap.size + 2) I _ _ _ HF.out]
            exact cellsW_get (by rw [curWs_length l I (by omega)]; omega)
          obtain ⟨old, HOLD⟩ : ∃ old, Hid ((curWs l I).getD I 0 = old) := ⟨_, rfl⟩
          rw [HOLD.out] at hci
          have hfz : wr.frozen? ⟨w.heap.size + 2, I, none⟩ = false := by simp [World.frozen?, HF.out]
          have n2 : ((I : Int) - 2) = ((I - 2 : Nat) : Int) := by omega
          have n7 : ((I : Int) - 7) = ((I - 7 : Nat) : Int) := by omega
          have n15 : ((I : Int) - 15) = ((I - 15 : Nat) : Int) := by omega
          have n16 : ((I : Int) - 16) = ((I - 16 : Nat) : Int) := by omega
          clear cell e2 e7 e15 e16
          have HS0 := hid (sig0_bits a15 ha15)
          have HS1 := hid (sig1_bits a2 ha2)
          go_wp2_with fail
          refine (rturn_7 _ a15 ha15).mono ?_
          rintro e w' ⟨rfl, hw⟩
          subst hw
          go_wp2_with fail
          refine (rturn_18 _ a15 ha15).mono ?_
          rintro e w' ⟨rfl, hw⟩
          subst hw
          go_wp2_with fail
          rw [HS0.out]
          refine (rturn_17 _ a2 ha2).mono ?_
          rintro e w' ⟨rfl, hw⟩
          subst hw
          go_wp2_with fail
          refine (rturn_19 _ a2 ha2).mono ?_
          rintro e w' ⟨rfl, hw⟩
          subst hw
          go_wp2_with fail
          rw [HS1.out]
          go_region
          all_goals go_wp2
          have HADD : Hid ((((sig1 a2 : Nat) : Int) + (a7 : Int) + ((sig0 a15 : Nat) : Int) + (a16 : Int)) % 4294967296 = ((add32 (add32 (add32 (sig1 a2) a7) (sig0 a15)) a16 : Nat) : Int)) := by
            show _ = _
            unfold add32
            omega
          refine ⟨⟨I + 1, by omega, by omega, by go_num, ?_, grown_tr HG.out (grown_setd _ _ _ _)⟩, by simp [intOf]; omega⟩
          show _ = _
          rw [← curWs_step l I (by omega), HV.out, ← cellsW_set, HADD.out]
          exact heap_setCell_same _ (w.heap.size + 2) I _ _ _ HF.out
        · have hI64 : I = 64 := by omega
          subst hI64
          have HWW : Hid (curWs l 64 = wordsTo l 64) := by show _ = _; simp [curWs]
          rw [HWW.out] at HF
          obtain ⟨y, HY⟩ : ∃ y, Hid (cellsW (wordsTo l 64) = y) := ⟨_, rfl⟩
          rw [HY.out] at HF
          have hys : y.size = 64 := by rw [← HY.out, cellsW_size, wordsTo_length]
          have HIy : Hid ((Tryd.prog.info? 115).map (·.size) = some y.size) := by rw [hys]; exact size_w64
          have H1y : Hid (y.all (·.oneCell') = true) := by rw [← HY.out]; exact cellsW_one _
          have HF1c : Hid (wr.heap[w.heap.size + 1]? = some (.cells z 115 (0, 0))) := by
            rw [HG.out.block (w.heap.size + 1) (by rw [HS0.out]; omega) (by simp)]
            exact H1
          have HZY : Hid (z.size = y.size) := by rw [hys, ← HZ.out, cellsW_size, zerosW_length]; exact rfl
          have HB1 := hid (below_setRow (HB0.out.grown HG.out (by rw [HS0.out]; omega) (fun k e => by cases e; omega)) (g := w.heap.size + 1) (by omega) y)
          clear hys hlt
          go_wp2_with (first | (refine wpList_load_row rfl 115 _ rfl (w.heap.size + 2) rfl 115 y (0, 0) _ HF.out Tryd.underlying115 rfl HIy.out ?_) | (refine wpList_store_row rfl 115 _ _ rfl (w.heap.size + 1) y rfl rfl 115 _ HF1c.out HIy.out HZY.out H1y.out ?_))
          refine bodyPost_ret (v := .agg y) (results_cell_row (p := 2) (ty := 115) rfl _ _ (w.heap.size + 1) 115 y (0, 0) _ rfl (setRow_heap _ _ _ _ _ _ HF1c.out) Tryd.underlying115 rfl HIy.out) rfl ?_
          rw [HY.out]
          exact ⟨rfl, HB1.out⟩
set_option maxRecDepth 100000 in
set_option maxHeartbeats 1000000 in
theorem rinitial_any (w : World) : Calls Tryd.prog 71 #[] w fun e w' => e = .returned (.agg (cellsW iv)) ∧ Below w.heap.size w w' := by
  obtain ⟨z8, HZ8⟩ : ∃ z8, Hid (cellsW (zerosW 8) = z8) := ⟨_, rfl⟩
  have hz8 := zero_w8
  rw [HZ8.out] at hz8
  have HZ1 := hid hz8
  have HIm : Hid ((Tryd.prog.info? 102).map (·.size) = some (cellsW iv).size) := size_w8
  have H1m : Hid ((cellsW iv).all (·.oneCell') = true) := cellsW_one _
  have HZM : Hid (z8.size = (cellsW iv).size) := by rw [← HZ8.out, cellsW_size, zerosW_length]; exact rfl
  have HR : Hid ((w.alloc (.cells z8 102)).heap[w.heap.size]? = some (.cells z8 102 (0, 0))) := heap_alloc_new w _
  have HB := hid (below_setRow ((Below.refl _ w).alloc (Nat.le_refl _) (.cells z8 102)) (g := w.heap.size) (Nat.le_refl _) (cellsW iv))
  clear hz8
  go_enter Tryd.func71, Tryd.ntmps71
  go_wp2_with (first | (refine wpList_alloc_agg HZ1.out rfl rfl ?_) | (refine wpList_store_row rfl 102 _ _ rfl w.heap.size (cellsW iv) rfl rfl 102 _ HR.out HIm.out HZM.out H1m.out ?_))
  refine bodyPost_ret (v := .agg (cellsW iv)) (results_cell_row (p := 0) (ty := 102) rfl _ _ w.heap.size 102 (cellsW iv) (0, 0) _ rfl (setRow_heap _ _ _ _ _ _ HR.out) Tryd.underlying102 rfl HIm.out) rfl ?_
  exact ⟨rfl, HB.out⟩
set_option maxRecDepth 100000 in
set_option maxHeartbeats 1000000 in
theorem rconst_any (w : World) : Calls Tryd.prog 82 #[] w fun e w' => e = .returned (.agg (cellsW kW)) ∧ Below w.heap.size w w' := by
  obtain ⟨z8, HZ8⟩ : ∃ z8, Hid (cellsW (zerosW 64) = z8) := ⟨_, rfl⟩
  have hz8 := zero_w64
  rw [HZ8.out] at hz8
  have HZ1 := hid hz8
  have HIm : Hid ((Tryd.prog.info? 115).map (·.size) = some (cellsW kW).size) := size_w64
  have H1m : Hid ((cellsW kW).all (·.oneCell') = true) := cellsW_one _
  have HZM : Hid (z8.size = (cellsW kW).size) := by rw [← HZ8.out, cellsW_size, zerosW_length]; exact rfl
  have HR : Hid ((w.alloc (.cells z8 115)).heap[w.heap.size]? = some (.cells z8 115 (0, 0))) := heap_alloc_new w _
  have HB := hid (below_setRow ((Below.refl _ w).alloc (Nat.le_refl _) (.cells z8 115)) (g := w.heap.size) (Nat.le_refl _) (cellsW kW))
  clear hz8
  go_enter Tryd.func82, Tryd.ntmps82
  go_wp2_with (first | (refine wpList_alloc_agg HZ1.out rfl rfl ?_) | (refine wpList_store_row rfl 115 _ _ rfl w.heap.size (cellsW kW) rfl rfl 115 _ HR.out HIm.out HZM.out H1m.out ?_))
  refine bodyPost_ret (v := .agg (cellsW kW)) (results_cell_row (p := 0) (ty := 115) rfl _ _ w.heap.size 115 (cellsW kW) (0, 0) _ rfl (setRow_heap _ _ _ _ _ _ HR.out) Tryd.underlying115 rfl HIm.out) rfl ?_
  exact ⟨rfl, HB.out⟩
theorem rturn_i (w : World) (x : Nat) (i : Int) (hx : x < 4294967296) (hi : i = 6 ∨ i = 11 ∨ i = 25 ∨ i = 2 ∨ i = 13 ∨ i = 22) : Calls Tryd.prog 83 #[.int .u32 (x : Int), .int .u64 i] w fun e w' => e = .returned (.int .u32 ((rot x i.toNat : Nat) : Int)) ∧ w' = w := by
  rcases hi with rfl | rfl | rfl | rfl | rfl | rfl
  · exact rturn_6 w x hx
  · exact rturn_11 w x hx
  · exact rturn_25 w x hx
  · exact rturn_2 w x hx
  · exact rturn_13 w x hx
  · exact rturn_22 w x hx
theorem grown_setRow2 (w : World) (g : Nat) (cs : Array Value) : w.grownBy (w.setRow g cs) (some g) :=
  ⟨rfl, rfl, rfl, by simp [World.setRow], fun i _ hne => by
    have h1 : g ≠ i := fun e => hne (by rw [e])
    simp [World.setRow, Array.getElem?_modify, h1]⟩
theorem rnd_open {k x a b c d e f g h : Nat} : rnd k x [a, b, c, d, e, f, g, h] = [((h + bs1 e + chW e f g + k + x) % 4294967296 + (bs0 a + majW a b c) % 4294967296) % 4294967296, a, b, c, (d + (h + bs1 e + chW e f g + k + x) % 4294967296) % 4294967296, e, f, g] := rfl
set_option maxRecDepth 100000 in
set_option maxHeartbeats 4000000 in
theorem rmix_core (w : World) (hs ws : List Nat) (l : List Int) (h8 : W8 hs) (hl : l.length = 64) (hwl : ws.length = 64) (hwb : ∀ x ∈ ws, x < 4294967296)
    (hS : ∀ W, Calls Tryd.prog 81 #[.agg (cellsB l)] W fun e w' => e = .returned (.agg (cellsW ws)) ∧ Below W.heap.size W w') :
    Calls Tryd.prog 72 #[.agg (cellsW hs), .agg (cellsB l)] w fun e w' => e = .returned (.agg (cellsW (List.zipWith add32 hs (rnds hs ws 64)))) ∧ Below w.heap.size w w' := by
  obtain ⟨z, HZ⟩ : ∃ z, Hid (cellsW (zerosW 64) = z) := ⟨_, rfl⟩
  obtain ⟨z8, HZ8⟩ : ∃ z8, Hid (cellsW (zerosW 8) = z8) := ⟨_, rfl⟩
  have hz := zero_w64
  rw [HZ.out] at hz
  have HZ0 := hid hz
  have hz8 := zero_w8
  rw [HZ8.out] at hz8
  have HZ1 := hid hz8
  obtain ⟨bl, HBL⟩ : ∃ bl, Hid (cellsB l = bl) := ⟨_, rfl⟩
  obtain ⟨hw, HHW⟩ : ∃ hw, Hid (cellsW hs = hw) := ⟨_, rfl⟩
  obtain ⟨kc, HKC⟩ : ∃ kc, Hid (cellsW kW = kc) := ⟨_, rfl⟩
  rw [HBL.out, HHW.out]
  have HWB := hid hwb
  clear hz hz8 hwb
  obtain ⟨W0, hW0⟩ : ∃ W0, Hid (((w.alloc (.cells hw 102)).alloc (.cells bl 104)).alloc (.cells z8 102) = W0) := ⟨_, rfl⟩
  have HB0 : Hid (Below w.heap.size w W0) := by rw [← hW0.out]; exact (((Below.refl _ w).alloc (Nat.le_refl _) _).alloc (by simp) _).alloc (by simp; omega) _
  have hS0 : W0.heap.size = w.heap.size + 3 := by rw [← hW0.out]; simp
  have H0 : Hid (W0.heap[w.heap.size]? = some (.cells hw 102 (0, 0))) := by
    rw [← hW0.out]
    exact (Below.heap_alloc _ _ _ (by simp; omega)).trans ((Below.heap_alloc _ _ _ (by simp)).trans (heap_alloc_new w _))
  have H1 : Hid (W0.heap[w.heap.size + 1]? = some (.cells bl 104 (0, 0))) := by
    rw [← hW0.out]
    refine (Below.heap_alloc _ _ _ (by simp)).trans ?_
    have := heap_alloc_new (w.alloc (.cells hw 102)) (.cells bl 104)
    rwa [World.size_alloc] at this
  have H2 : Hid (W0.heap[w.heap.size + 2]? = some (.cells z8 102 (0, 0))) := by
    have := heap_alloc_new ((w.alloc (.cells hw 102)).alloc (.cells bl 104)) (.cells z8 102)
    rw [World.size_alloc, World.size_alloc, hW0.out] at this
    exact this
  have hbs : bl.size = 64 := by rw [← HBL.out, cellsB_size, hl]
  have HIb : Hid ((Tryd.prog.info? 104).map (·.size) = some bl.size) := by rw [hbs]; exact size_b64
  have CS := hS W0
  clear hS
  rw [HBL.out] at CS
  obtain ⟨y, HY⟩ : ∃ y, Hid (cellsW ws = y) := ⟨_, rfl⟩
  rw [HY.out] at CS
  have C1 := hid CS
  have hys : y.size = 64 := by rw [← HY.out, cellsW_size, hwl]
  have HIy : Hid ((Tryd.prog.info? 115).map (·.size) = some y.size) := by rw [hys]; exact size_w64
  have H1y : Hid (y.all (·.oneCell') = true) := by rw [← HY.out]; exact cellsW_one _
  have HZY : Hid (z.size = y.size) := by rw [hys, ← HZ.out, cellsW_size, zerosW_length]; exact rfl
  have hks : kc.size = 64 := by rw [← HKC.out, cellsW_size]; rfl
  have HIk : Hid ((Tryd.prog.info? 115).map (·.size) = some kc.size) := by rw [hks]; exact size_w64
  have H1k : Hid (kc.all (·.oneCell') = true) := by rw [← HKC.out]; exact cellsW_one _
  have HZK : Hid (z.size = kc.size) := by rw [hks, ← HZ.out, cellsW_size, zerosW_length]; exact rfl
  have hhs : hw.size = 8 := by rw [← HHW.out, cellsW_size, h8.1]
  have HIh : Hid ((Tryd.prog.info? 102).map (·.size) = some hw.size) := by rw [hhs]; exact size_w8
  have H1h : Hid (hw.all (·.oneCell') = true) := by rw [← HHW.out]; exact cellsW_one _
  have HZH : Hid (z8.size = hw.size) := by rw [hhs, ← HZ8.out, cellsW_size, zerosW_length]; exact rfl
  clear CS hbs hys hks hhs
  go_enter Tryd.func72, Tryd.ntmps72
  go_wp2_with (first | (refine wpList_alloc_agg HZ1.out rfl rfl ?_; rw [hW0.out]) | refine wpList_load_row rfl 104 _ rfl (w.heap.size + 1) rfl 104 bl (0, 0) _ H1.out Tryd.underlying104 rfl HIb.out ?_)
  refine C1.out.mono ?_
  rintro e w1 ⟨rfl, hB1⟩
  have HF1 : Hid ((w1.alloc (.cells z 115)).heap[w1.heap.size]? = some (.cells z 115 (0, 0))) := heap_alloc_new w1 _
  have HB1 := hid hB1
  have hs1 := hB1.size
  clear hB1 C1
  obtain ⟨W2, hW2⟩ : ∃ W2, Hid ((w1.alloc (.cells z 115)).setRow w1.heap.size y = W2) := ⟨_, rfl⟩
  have HB2 : Hid (Below W0.heap.size W0 W2) := by
    rw [← hW2.out]
    exact below_setRow (HB1.out.alloc hs1 _) hs1 y
  have HY2 : Hid (W2.heap[w1.heap.size]? = some (.cells y 115 (0, 0))) := by
    rw [← hW2.out]
    exact setRow_heap _ _ _ _ _ _ HF1.out
  have hS2 : W2.heap.size = w1.heap.size + 1 := by rw [← hW2.out]; simp [World.setRow]
  have CK := hid (rconst_any W2)
  rw [HKC.out] at CK
  go_wp2_with (first | (refine wpList_alloc_agg HZ0.out rfl rfl ?_) | (refine wpList_store_row rfl 115 _ _ rfl w1.heap.size y rfl rfl 115 _ HF1.out HIy.out HZY.out H1y.out ?_; rw [hW2.out]))
  refine CK.out.mono ?_
  rintro e w3 ⟨rfl, hB3⟩
  have hs3 := hB3.size
  have HB3 : Hid (Below W0.heap.size W0 w3) := HB2.out.trans (hB3.mono HB2.out.size)
  have HY3 : Hid (w3.heap[w1.heap.size]? = some (.cells y 115 (0, 0))) := (hB3.block _ (by omega)).trans HY2.out
  have HF3 : Hid ((w3.alloc (.cells z 115)).heap[w3.heap.size]? = some (.cells z 115 (0, 0))) := heap_alloc_new w3 _
  obtain ⟨W4, hW4⟩ : ∃ W4, Hid ((w3.alloc (.cells z 115)).setRow w3.heap.size kc = W4) := ⟨_, rfl⟩
  have HB34 : Hid (Below w3.heap.size w3 W4) := by rw [← hW4.out]; exact below_setRow ((Below.refl _ w3).alloc (Nat.le_refl _) _) (Nat.le_refl _) kc
  have HB4 : Hid (Below W0.heap.size W0 W4) := HB3.out.trans (HB34.out.mono HB3.out.size)
  have HK4 : Hid (W4.heap[w3.heap.size]? = some (.cells kc 115 (0, 0))) := by rw [← hW4.out]; exact setRow_heap _ _ _ _ _ _ HF3.out
  have HY4 : Hid (W4.heap[w1.heap.size]? = some (.cells y 115 (0, 0))) := (HB34.out.block _ (by omega)).trans HY3.out
  have hS4 : W4.heap.size = w3.heap.size + 1 := by rw [← hW4.out]; simp [World.setRow]
  have HH4 : Hid (W4.heap[w.heap.size]? = some (.cells hw 102 (0, 0))) := (HB4.out.block w.heap.size (by omega)).trans H0.out
  have HR4 : Hid (W4.heap[w.heap.size + 2]? = some (.cells z8 102 (0, 0))) := (HB4.out.block (w.heap.size + 2) (by omega)).trans H2.out
  have HF5 : Hid ((W4.alloc (.cells z8 102)).heap[W4.heap.size]? = some (.cells z8 102 (0, 0))) := heap_alloc_new W4 _
  obtain ⟨W6, hW6⟩ : ∃ W6, Hid ((W4.alloc (.cells z8 102)).setRow W4.heap.size hw = W6) := ⟨_, rfl⟩
  have HB46 : Hid (Below W4.heap.size W4 W6) := by rw [← hW6.out]; exact below_setRow ((Below.refl _ W4).alloc (Nat.le_refl _) _) (Nat.le_refl _) hw
  have HS6 : Hid (W6.heap[W4.heap.size]? = some (.cells (cellsW (rnds hs ws 0)) 102 (0, 0))) := by
    rw [← hW6.out, show cellsW (rnds hs ws 0) = hw from HHW.out]
    exact setRow_heap _ _ _ _ _ _ HF5.out
  have hS6 : W6.heap.size = W4.heap.size + 1 := by rw [← hW6.out]; simp [World.setRow]
  clear hB3 CK hW2 HF1
  go_wp2_with (first | (refine wpList_alloc_agg HZ0.out rfl rfl ?_) | (refine wpList_alloc_agg HZ1.out rfl rfl ?_) | (refine wpList_store_row rfl 115 _ _ rfl w3.heap.size kc rfl rfl 115 _ HF3.out HIk.out HZK.out H1k.out ?_; rw [hW4.out]) | (refine wpList_load_row rfl 102 _ rfl w.heap.size rfl 102 hw (0, 0) _ HH4.out Tryd.underlying102 rfl HIh.out ?_) | (refine wpList_store_row rfl 102 _ _ rfl W4.heap.size hw rfl rfl 102 _ HF5.out HIh.out HZH.out H1h.out ?_; rw [hW6.out]))
  clear hW4 hW6 HF3 HF5
  rw [hS4] at HS6 hS6 HB46
  have HH6 : Hid (W6.heap[w.heap.size]? = some (.cells hw 102 (0, 0))) := (HB46.out.block _ (by omega)).trans HH4.out
  have HR6 : Hid (W6.heap[w.heap.size + 2]? = some (.cells z8 102 (0, 0))) := (HB46.out.block _ (by omega)).trans HR4.out
  have HY6 : Hid (W6.heap[w1.heap.size]? = some (.cells y 115 (0, 0))) := (HB46.out.block _ (by omega)).trans HY4.out
  have HK6 : Hid (W6.heap[w3.heap.size]? = some (.cells kc 115 (0, 0))) := (HB46.out.block _ (by omega)).trans HK4.out
  have HB6 : Hid (Below w.heap.size w W6) := HB0.out.trans ((HB4.out.trans (HB46.out.mono (by omega))).mono (by omega))
  have H8 := hid h8
  clear h8 HH4 HR4 HY4 HK4 H0 H1 H2 HIb HB34 HB4 HB3 HY3 HY2 HB2 HB1
  go_loopw [8] (fun i wr => ∃ t : Nat, t ≤ 64 ∧ i = .int .i64 t ∧ Hid (wr.heap[w3.heap.size + 1]? = some (.cells (cellsW (rnds hs ws t)) 102 (0, 0))) ∧ Hid (W6.grownBy wr (some (w3.heap.size + 1)))) (fun i _ => 64 - (intOf i).toNat)
  case atStart => exact ⟨0, by decide, rfl, HS6, ⟨rfl, rfl, rfl, Nat.le_refl _, fun _ _ _ => rfl⟩⟩
  case round =>
    obtain ⟨t, ht, rfl, HF, HG⟩ := hrel
    obtain ⟨a, b, c, d, e, f, g, h, ers, ha, hb, hc, hd, he, hf, hg, hh⟩ := (W8.rnds (ws := ws) H8.out t).open
    have HRS := hid ers
    rw [ers] at HF
    clear ers
    by_cases hlt : t < 64
    · obtain ⟨k, HK⟩ : ∃ k, Hid (kW.getD t 0 = k) := ⟨_, rfl⟩
      obtain ⟨x, HX⟩ : ∃ x, Hid (ws.getD t 0 = x) := ⟨_, rfl⟩
      have ck : wr.cell? ⟨w3.heap.size, t, none⟩ = some (.int .u32 (k : Int)) := by
        rw [cell_of_row wr w3.heap.size t _ _ _ ((HG.out.block w3.heap.size (by omega) (by simp)).trans HK6.out), ← HKC.out, cellsW_get (by rw [kW_length]; exact hlt), HK.out]
      have cx : wr.cell? ⟨w1.heap.size, t, none⟩ = some (.int .u32 (x : Int)) := by
        rw [cell_of_row wr w1.heap.size t _ _ _ ((HG.out.block w1.heap.size (by omega) (by simp; omega)).trans HY6.out), ← HY.out, cellsW_get (by rw [hwl]; exact hlt), HX.out]
      have hkl : k < 4294967296 := by rw [← HK.out]; exact getW_lt kW_lt t
      have hxl : x < 4294967296 := by rw [← HX.out]; exact getW_lt HWB.out t
      have cs : ∀ j, j < 8 → wr.cell? ⟨w3.heap.size + 1, j, none⟩ = some (.int .u32 ((([a, b, c, d, e, f, g, h] : List Nat).getD j 0 : Nat) : Int)) := fun j hj => by
        rw [cell_of_row wr (w3.heap.size + 1) j _ _ _ HF.out]
        exact cellsW_get hj
      have s0 := cs 0 (by decide)
      have s1 := cs 1 (by decide)
      have s2 := cs 2 (by decide)
      have s3 := cs 3 (by decide)
      have s4 := cs 4 (by decide)
      have s5 := cs 5 (by decide)
      have s6 := cs 6 (by decide)
      have s7 := cs 7 (by decide)
      simp only [List.getD_cons_zero, List.getD_cons_succ] at s0 s1 s2 s3 s4 s5 s6 s7
      clear cs
      have B1 := hid (bs1_bits e he)
      have B0 := hid (bs0_bits a ha)
      have BC := hid (ch_bits e f g he hf hg)
      have BM := hid (maj_bits a b c ha hb hc)
      go_wp2
      go_quiet ((go_at_call 83; exact Calls.quiet_of_same (rturn_i _ _ _ (by assumption) (by decide))))
      rw [B1.out, BC.out]
      obtain ⟨u, HU⟩ : ∃ u : Nat, Hid ((((h : Int) + ((bs1 e : Nat) : Int) + ((chW e f g : Nat) : Int) + (k : Int)) % 4294967296 + (x : Int)) % 4294967296 = (u : Int)) := ⟨((h + bs1 e + chW e f g + k) % 4294967296 + x) % 4294967296, by show _ = _; omega⟩
      rw [HU.out]
      have hu : u < 4294967296 := by have := HU.out; omega
      obtain ⟨wa, Hq1, Hd1⟩ : ∃ wa, Hid (wr.drewN nq = wa) ∧ Hid (Dr wr wa) := ⟨_, rfl, Dr.one _ _⟩
      rw [Hq1.out]
      clear Hq1 nq
      replace s0 := (Hd1.out.cell _).trans s0
      replace s1 := (Hd1.out.cell _).trans s1
      replace s2 := (Hd1.out.cell _).trans s2
      replace s3 := (Hd1.out.cell _).trans s3
      replace s4 := (Hd1.out.cell _).trans s4
      replace s5 := (Hd1.out.cell _).trans s5
      replace s6 := (Hd1.out.cell _).trans s6
      replace s7 := (Hd1.out.cell _).trans s7
      go_wp2
      go_quiet ((go_at_call 83; exact Calls.quiet_of_same (rturn_i _ _ _ (by assumption) (by decide))))
      rw [B0.out, BM.out]
      obtain ⟨v, HV⟩ : ∃ v : Nat, Hid ((((bs0 a : Nat) : Int) + ((majW a b c : Nat) : Int)) % 4294967296 = (v : Int)) := ⟨(bs0 a + majW a b c) % 4294967296, by show _ = _; omega⟩
      rw [HV.out]
      have hv : v < 4294967296 := by have := HV.out; omega
      obtain ⟨p, hp⟩ : ∃ p : Nat, ((u : Int) + (v : Int)) % 4294967296 = (p : Int) := ⟨(u + v) % 4294967296, by omega⟩
      obtain ⟨q, hq⟩ : ∃ q : Nat, ((d : Int) + (u : Int)) % 4294967296 = (q : Int) := ⟨(d + u) % 4294967296, by omega⟩
      have HN : Hid (rnds hs ws (t + 1) = [p, a, b, c, q, e, f, g]) := by
        show rnd (kW.getD t 0) (ws.getD t 0) (rnds hs ws t) = _
        rw [HRS.out, HK.out, HX.out, rnd_open]
        have h1 := HU.out
        have h2 := HV.out
        have e1 : (h + bs1 e + chW e f g + k + x) % 4294967296 = u := by omega
        have e2 : (bs0 a + majW a b c) % 4294967296 = v := by omega
        rw [e1, e2, show (u + v) % 4294967296 = p by omega, show (d + u) % 4294967296 = q by omega]
      have HIm : Hid ((Tryd.prog.info? 102).map (·.size) = some (cellsW [p, a, b, c, q, e, f, g]).size) := size_w8
      have H1m : Hid ((cellsW [p, a, b, c, q, e, f, g]).all (·.oneCell') = true) := cellsW_one _
      have HZM : Hid ((cellsW [a, b, c, d, e, f, g, h]).size = (cellsW [p, a, b, c, q, e, f, g]).size) := rfl
      obtain ⟨wb, Hq2, Hd2⟩ : ∃ wb, Hid (wa.drewN nq = wb) ∧ Hid (Dr wa wb) := ⟨_, rfl, Dr.one _ _⟩
      rw [Hq2.out]
      clear Hq2 nq
      replace s0 := (Hd2.out.cell _).trans s0
      replace s1 := (Hd2.out.cell _).trans s1
      replace s2 := (Hd2.out.cell _).trans s2
      replace s3 := (Hd2.out.cell _).trans s3
      replace s4 := (Hd2.out.cell _).trans s4
      replace s5 := (Hd2.out.cell _).trans s5
      replace s6 := (Hd2.out.cell _).trans s6
      replace s7 := (Hd2.out.cell _).trans s7
      have HFb : Hid (wb.heap[w3.heap.size + 1]? = some (.cells (cellsW [a, b, c, d, e, f, g, h]) 102 (0, 0))) := by
        show _ = _
        rw [Hd2.out.heap, Hd1.out.heap]
        exact HF.out
      have HGb : Hid (W6.grownBy wb (some (w3.heap.size + 1))) := by
        obtain ⟨n1, r1⟩ := Hd1.out
        obtain ⟨n2, r2⟩ := Hd2.out
        rw [r2, r1]
        exact grown_tr HG.out ⟨rfl, rfl, rfl, Nat.le_refl _, fun _ _ _ => rfl⟩
      clear HU HV B0 B1 BC BM
      go_wp2_with (refine wpList_store_row rfl 102 _ _ rfl (w3.heap.size + 1) (cellsW [p, a, b, c, q, e, f, g]) rfl rfl 102 _ HFb.out HIm.out HZM.out H1m.out ?_)
      refine ⟨⟨t + 1, by omega, by go_num, ?_, grown_tr HGb.out (grown_setRow2 _ _ _)⟩, by simp [intOf]; omega⟩
      show _ = _
      rw [HN.out]
      exact setRow_heap _ _ _ _ _ _ HFb.out
    · have H64 : Hid (t = 64) := by show _ = _; omega
      rw [H64.out] at HRS
      obtain ⟨st, HST⟩ : ∃ st, Hid (([a, b, c, d, e, f, g, h] : List Nat) = st) := ⟨_, rfl⟩
      have hst8 : st.length = 8 := by rw [← HST.out]; rfl
      have hstb : ∀ x ∈ st, x < 4294967296 := by
        rw [← HST.out, ← HRS.out]
        exact (W8.rnds (ws := ws) H8.out 64).2
      rw [HST.out] at HF HRS
      have HSB := hid hstb
      have hnlt : ¬ ((t : Int) < 64) := by omega
      obtain ⟨wo, rfl⟩ : ∃ wo, wo = wr := ⟨_, rfl⟩
      have HM0 : Hid (wo.heap[w.heap.size]? = some (.cells (cellsW (curM hs st 0)) 102 (0, 0))) := by
        rw [show curM hs st 0 = hs from by simp [curM], HHW.out]
        exact (HG.out.block w.heap.size (by omega) (by simp; omega)).trans HH6.out
      have HR7 : Hid (wo.heap[w.heap.size + 2]? = some (.cells z8 102 (0, 0))) := (HG.out.block (w.heap.size + 2) (by omega) (by simp; omega)).trans HR6.out
      have HB7 : Hid (Below w.heap.size w wo) := HB6.out.grown HG.out HB6.out.size (fun q e => by cases e; omega)
      have hso : w3.heap.size + 1 < wo.heap.size := (Array.getElem?_eq_some_iff.1 HF.out).1
      clear hlt ht hstb ha hb hc hd he hf hg hh HST
      go_wp2
      clear hnlt
      go_loopw [13] (fun i wq => ∃ I : Nat, I ≤ 8 ∧ i = .int .i64 I ∧ Hid (wq.heap[w.heap.size]? = some (.cells (cellsW (curM hs st I)) 102 (0, 0))) ∧ Hid (wo.grownBy wq (some w.heap.size))) (fun i _ => 8 - (intOf i).toNat)
      case atStart => exact ⟨0, by decide, rfl, HM0, ⟨rfl, rfl, rfl, Nat.le_refl _, fun _ _ _ => rfl⟩⟩
      case round =>
        obtain ⟨I, hI, rfl, HFI, HGI⟩ := hrel
        by_cases hlt : I < 8
        · have hci := cell_of_row wr w.heap.size I _ _ _ HFI.out
          rw [cellsW_get (by rw [curM_length H8.out.1 hst8]; exact hlt), curM_get H8.out.1 hst8 hlt] at hci
          have hcs : wr.cell? ⟨w3.heap.size + 1, I, none⟩ = some (.int .u32 ((st.getD I 0 : Nat) : Int)) := by
            rw [cell_of_row wr (w3.heap.size + 1) I _ _ _ ((HGI.out.block (w3.heap.size + 1) hso (by simp; omega)).trans HF.out)]
            exact cellsW_get (by rw [hst8]; exact hlt)
          obtain ⟨p, HP⟩ : ∃ p, Hid (hs.getD I 0 = p) := ⟨_, rfl⟩
          obtain ⟨q, HQ⟩ : ∃ q, Hid (st.getD I 0 = q) := ⟨_, rfl⟩
          rw [HP.out] at hci
          rw [HQ.out] at hcs
          have hpl : p < 4294967296 := by rw [← HP.out]; exact getW_lt H8.out.2 I
          have hql : q < 4294967296 := by rw [← HQ.out]; exact getW_lt HSB.out I
          have hfz : wr.frozen? ⟨w.heap.size, I, none⟩ = false := by simp [World.frozen?, HFI.out]
          go_wp2
          go_region
          all_goals go_wp2
          refine ⟨⟨I + 1, by omega, by go_num, ?_, grown_tr HGI.out (grown_setd _ _ _ _)⟩, by simp [intOf]; omega⟩
          show _ = _
          rw [← curM_step H8.out.1 hst8 hlt, HP.out, HQ.out, ← cellsW_set, show ((add32 p q : Nat) : Int) = ((p : Int) + (q : Int)) % 4294967296 by unfold add32; omega]
          exact heap_setCell_same _ w.heap.size I _ _ _ HFI.out
        · have hI8 : I = 8 := by omega
          have HCM : Hid (curM hs st I = List.zipWith add32 hs (rnds hs ws 64)) := by
            show _ = _
            rw [hI8, HRS.out]
            unfold curM
            rw [List.take_of_length_le (by simp; omega), List.drop_eq_nil_of_le (by rw [H8.out.1]; exact Nat.le_refl _), List.append_nil]
          rw [HCM.out] at HFI
          obtain ⟨m, HMM⟩ : ∃ m, Hid (cellsW (List.zipWith add32 hs (rnds hs ws 64)) = m) := ⟨_, rfl⟩
          rw [HMM.out] at HFI
          have hms : m.size = 8 := by
            rw [← HMM.out, cellsW_size, ← HCM.out, curM_length H8.out.1 hst8]
          have HIm : Hid ((Tryd.prog.info? 102).map (·.size) = some m.size) := by rw [hms]; exact size_w8
          have H1m : Hid (m.all (·.oneCell') = true) := by rw [← HMM.out]; exact cellsW_one _
          have HR8 : Hid (wr.heap[w.heap.size + 2]? = some (.cells z8 102 (0, 0))) := (HGI.out.block (w.heap.size + 2) (by omega) (by simp)).trans HR7.out
          have HZM : Hid (z8.size = m.size) := by rw [hms, ← HZ8.out, cellsW_size, zerosW_length]; exact rfl
          have HBF := hid (below_setRow (HB7.out.grown HGI.out HB7.out.size (fun k e => by cases e; exact Nat.le_refl _)) (g := w.heap.size + 2) (by omega) m)
          have hnl : ¬ ((I : Int) < 8) := by omega
          clear hms hlt hI8
          go_wp2_with (first | (refine wpList_load_row rfl 102 _ rfl w.heap.size rfl 102 m (0, 0) _ HFI.out Tryd.underlying102 rfl HIm.out ?_) | (refine wpList_store_row rfl 102 _ _ rfl (w.heap.size + 2) m rfl rfl 102 _ HR8.out HIm.out HZM.out H1m.out ?_))
          refine bodyPost_ret (v := .agg m) (results_cell_row (p := 4) (ty := 102) rfl _ _ (w.heap.size + 2) 102 m (0, 0) _ rfl (setRow_heap _ _ _ _ _ _ HR8.out) Tryd.underlying102 rfl HIm.out) rfl ?_
          rw [HMM.out]
          exact ⟨rfl, HBF.out⟩
theorem rmix_any (w : World) (hs : List Nat) (l : List Int) (h8 : W8 hs) (hl : l.length = 64) (hby : ∀ x ∈ l, 0 ≤ x ∧ x < 256) :
    Calls Tryd.prog 72 #[.agg (cellsW hs), .agg (cellsB l)] w fun e w' => e = .returned (.agg (cellsW (mixL hs l))) ∧ Below w.heap.size w w' :=
  rmix_core w hs (wordsTo l 64) l h8 hl (wordsTo_length l 64) (wordsTo_lt hby 64) (fun W => rwords_any W l hl hby)
def hiL2 (n m x : Nat) : List Int := (bigL n x).take (n - m)
theorem hiL2_step (n m x : Nat) (h : m < n) : hiL2 n m x = hiL2 n (m + 1) x ++ [((x / 256 ^ m % 256 : Nat) : Int)] := by
  have key : ∀ r j, j < r → (bigL r x)[j]? = some ((x / 256 ^ (r - 1 - j) % 256 : Nat) : Int) := by
    intro r
    induction r with
    | zero => intro j hj; omega
    | succ r ih =>
      intro j hj
      cases j with
      | zero => simp [bigL]
      | succ j =>
        simp only [bigL, List.getElem?_cons_succ]
        rw [ih j (by omega), show r + 1 - 1 - (j + 1) = r - 1 - j by omega]
  unfold hiL2
  have e : n - m = (n - (m + 1)) + 1 := by omega
  rw [e, List.take_add_one, key n _ (by omega), show n - 1 - (n - (m + 1)) = m by omega]
  rfl
theorem lit_HB (w : World) (x : Int) (hx : 0 ≤ x ∧ x < 256) : HB (w.alloc (.cells #[.int .u8 x] 5)) (.slice (some ⟨w.heap.size, 0, none⟩) 1 1) [x] := by
  have h1 : (w.alloc (.cells #[.int .u8 x] 5)).ownsRow w.heap.size 5 1 (.slice (some ⟨w.heap.size, 0, none⟩) 1 1) 1 [.int .u8 x] := World.ownsRow_lit (base := w.heap.size) (e := 5) (size := 1) w #[.int .u8 x] 1 (Nat.le_refl _) (by decide) rfl
  exact HB.of_own (l := [x]) h1 (fun y hy => by have : y = x := (by simpa using hy); omega)
theorem lit_HB2 (w : World) (x y : Int) (e : x = y) (hy : 0 ≤ y ∧ y < 256) : HB (w.alloc (.cells #[.int .u8 x] 5)) (.slice (some ⟨w.heap.size, 0, none⟩) 1 1) [y] := by
  subst e
  exact lit_HB w x hy
set_option maxRecDepth 100000 in
set_option maxHeartbeats 2000000 in
theorem rpad_ok (w : World) (n : Nat) (hn : n ≤ 1152921504606846976) :
    Calls Tryd.prog 70 #[.int .i64 (n : Int)] w fun e w' => ∃ v', e = .returned (.tuple #[v', .int .i64 0]) ∧ w'.ownsRow w.heap.size 5 1 v' (padL n).length ((padL n).map (Value.int .u8)) ∧ Below w.heap.size w w' := by
  obtain ⟨z, HZ⟩ : ∃ z, Hid (padZ n = z) := ⟨_, rfl⟩
  have HZE : Hid (z = (64 - (n + 9) % 64) % 64) := by rw [← HZ.out]; rfl
  have hz64 : z < 64 := by have := HZE.out; omega
  have HO1 : Hid ((w.alloc (.cells #[.int .u8 128] 5)).ownsRow w.heap.size 5 1 (.slice (some ⟨w.heap.size, 0, none⟩) 1 1) (1 + 0) ([.int .u8 128] ++ List.replicate 0 (.int .u8 0))) := World.ownsRow_lit (base := w.heap.size) (e := 5) (size := 1) w #[.int .u8 128] 1 (Nat.le_refl _) (by decide) rfl
  have HB1 : Hid (Below w.heap.size w (w.alloc (.cells #[.int .u8 128] 5))) := (Below.refl _ w).alloc (Nat.le_refl _) _
  go_enter Tryd.func70, Tryd.ntmps70
  go_wp2
  go_loopw [4] (fun v wr => ∃ j : Nat, j ≤ z ∧ Hid (wr.ownsRow w.heap.size 5 1 v (1 + j) ([.int .u8 128] ++ List.replicate j (.int .u8 0))) ∧ Hid (Below w.heap.size w wr)) (fun v _ => 64 - lenV v)
  case atStart => exact ⟨0, Nat.zero_le _, HO1, HB1⟩
  case round =>
    obtain ⟨j, hj, HO, HB⟩ := hrel
    obtain ⟨g, cap, ev, hg0⟩ : ∃ g cap, u4 = .slice (some ⟨g, 0, none⟩) (1 + j) cap ∧ w.heap.size ≤ g := by
      rcases HO.out.2 with ⟨_, h⟩ | ⟨g, cap, _, h, h2, _⟩
      · omega
      · exact ⟨g, cap, h, h2⟩
    subst ev
    have hsz := HB.out.size
    by_cases hlt : j < z
    · have hc : ¬ (((n : Int) + (1 + (j : Int))) % 64 = 56) := by have := HZE.out; omega
      have HO2 : Hid ((wr.alloc (.cells #[.int .u8 0] 5)).ownsRow w.heap.size 5 1 (.slice (some ⟨g, 0, none⟩) (1 + j) cap) (1 + j) ([.int .u8 128] ++ List.replicate j (.int .u8 0))) := HO.out.alloc _
      have HLB := hid (lit_HB wr 0 (by decide))
      have HB2 : Hid (Below w.heap.size w (wr.alloc (.cells #[.int .u8 0] 5))) := HB.out.alloc hsz _
      go_wp2_with (at_builtin; refine wpList_append_HB rfl _ _ rfl w.heap.size _ _ _ rfl HO2.out _ _ rfl HLB.out ?q1 ?q2 ?_)
      case q1 => simp; omega
      case q2 => simp; omega
      intro v4 w4 ho4 hg4
      have HO4 : Hid (w4.ownsRow w.heap.size 5 1 v4 (1 + (j + 1)) ([.int .u8 128] ++ List.replicate (j + 1) (.int .u8 0))) := by
        rw [List.replicate_succ', ← Nat.add_assoc]
        exact ho4
      have HB4 : Hid (Below w.heap.size w w4) := HB2.out.grown hg4 HB2.out.size (fun k e => by
        have : g = k := by simpa [Value.ownBlock] using e
        omega)
      obtain ⟨g4, cap4, ev4⟩ : ∃ g cap, v4 = .slice (some ⟨g, 0, none⟩) (1 + (j + 1)) cap := by
        rcases HO4.out.2 with ⟨_, h⟩ | ⟨g, cap, _, h, h2, _⟩
        · omega
        · exact ⟨g, cap, h⟩
      subst ev4
      clear ho4 hg4 HO2 HLB HB2 hc
      go_wp2
      exact ⟨⟨j + 1, by omega, HO4, HB4⟩, by simp [lenV]; omega⟩
    · have hjz : j = z := by omega
      subst hjz
      have hc : ((n : Int) + (1 + (j : Int))) % 64 = 56 := by have := HZE.out; omega
      obtain ⟨xs, HXS⟩ : ∃ xs : List Value, Hid (([Value.int .u8 128] ++ List.replicate j (Value.int .u8 0)) = xs) := ⟨_, rfl⟩
      have HO0 := hid HO.out
      rw [HXS.out] at HO0
      obtain ⟨x, HX0⟩ : ∃ x, Hid (n * 8 = x) := ⟨_, rfl⟩
      have hnx : (n : Int) * 8 = (x : Int) := by rw [← HX0.out]; omega
      have hxb : x ≤ 9223372036854775808 := by rw [← HX0.out]; omega
      go_wp2
      clear hc HO hlt hnx
      go_loopw [4, 6] (fun o i wq => ∃ m : Nat, m ≤ 8 ∧ i = .int .i64 ((m : Int) - 1) ∧ Hid (wq.ownsRow w.heap.size 5 1 o (1 + j + (8 - m)) (xs ++ (hiL2 8 m x).map (Value.int .u8))) ∧ Hid (Below w.heap.size w wq)) (fun _ i _ => (intOf i + 1).toNat)
      case atStart => exact ⟨8, Nat.le_refl _, rfl, by rw [Nat.sub_self, show hiL2 8 8 x = [] from rfl, List.map_nil, List.append_nil]; exact HO0, HB⟩
      case round =>
        clear HO0 HB hsz
        obtain ⟨m, hm, rfl, HO, HBw⟩ := hrel
        obtain ⟨g2, cap2, ev, hg2⟩ : ∃ g cap, u4 = .slice (some ⟨g, 0, none⟩) (1 + j + (8 - m)) cap ∧ w.heap.size ≤ g := by
          rcases HO.out.2 with ⟨_, h⟩ | ⟨g, cap, _, h, h2, _⟩
          · omega
          · exact ⟨g, cap, h, h2⟩
        cases m with
        | zero =>
          have HPL : Hid ((padL n).map (Value.int .u8) = xs ++ (hiL2 8 0 x).map (Value.int .u8)) := by
            show _ = _
            rw [← HXS.out, show hiL2 8 0 x = bigL 8 x from by unfold hiL2; rw [Nat.sub_zero, List.take_of_length_le (by rw [bigL_length]; exact Nat.le_refl 8)], ← HX0.out]
            unfold padL
            rw [HZ.out]
            simp
          have HLn : Hid ((padL n).length = 1 + j + (8 - 0)) := by show _ = _; rw [padL_length, HZ.out]; omega
          go_wp2
          go_ret2
          refine ⟨_, rfl, ?_, HBw.out⟩
          rw [HPL.out, HLn.out]
          exact HO.out
        | succ m =>
          have HS := hid (hiL2_step 8 m x (by omega))
          have hmc : m = 0 ∨ m = 1 ∨ m = 2 ∨ m = 3 ∨ m = 4 ∨ m = 5 ∨ m = 6 ∨ m = 7 := by omega
          have hxi : (x : Int) ≤ 9223372036854775808 := by omega
          have hsz := HBw.out.size
          obtain ⟨y, HY⟩ : ∃ y, Hid (((x / 256 ^ m % 256 : Nat) : Int) = y) := ⟨_, rfl⟩
          rw [HY.out] at HS
          have hyb : Hid (0 ≤ y ∧ y < 256) := by rw [← HY.out]; refine hid ?_; omega
          obtain ⟨k0, HK⟩ : ∃ k0, Hid (1 + j + (8 - (m + 1)) = k0) := ⟨_, rfl⟩
          have HK2 : Hid (1 + j + (8 - m) = k0 + 1) := by show _ = _; rw [← HK.out]; omega
          have hk0 : k0 ≤ 80 := by rw [← HK.out]; omega
          obtain ⟨lst, HLs⟩ : ∃ lst, Hid (xs ++ (hiL2 8 (m + 1) x).map (Value.int .u8) = lst) := ⟨_, rfl⟩
          have HSX : Hid (xs ++ (hiL2 8 m x).map (Value.int .u8) = lst ++ [.int .u8 y]) := by
            show _ = _
            rw [HS.out, List.map_append, ← List.append_assoc, HLs.out]
            rfl
          have HO' := hid HO.out
          rw [HK.out, HLs.out] at HO'
          rw [HK.out] at ev
          clear HO
          subst ev
          rcases hmc with rfl | rfl | rfl | rfl | rfl | rfl | rfl | rfl
          all_goals
            go_wp2_with (at_builtin; refine wpList_append_HB rfl _ _ rfl w.heap.size _ _ _ rfl (HO'.out.alloc _) _ [y] rfl ?q0 ?q1 ?q2 ?_)
            case q0 => exact lit_HB2 _ _ _ (by rw [← HY.out]; simp; try omega) hyb.out
            case q1 => simp; omega
            case q2 => simp; omega
            intro v' w2 hown2 hgr2
            have HO2 : Hid (w2.ownsRow w.heap.size 5 1 v' (k0 + 1) (lst ++ [.int .u8 y])) := hown2
            have HB2 := hid ((HBw.out.alloc HBw.out.size _).grown hgr2 (by simp; omega) (fun k e => (HO'.out.lt k e).1))
            clear hown2 hgr2
            go_wp2
            exact ⟨⟨_, Nat.le_of_succ_le hm, rfl, by rw [HK2.out, HSX.out]; exact HO2, HB2⟩, by simp [intOf]⟩
theorem rpad_bad (w : World) (n : Int) (hn : n < 0 ∨ 1152921504606846976 < n) : Calls Tryd.prog 70 #[.int .i64 n] w fun e w' => e = .returned (.tuple #[.slice none 0 0, .int .i64 2]) ∧ w' = w := by
  rcases hn with h | h
  · go_enter Tryd.func70, Tryd.ntmps70
    go_wp2
    go_ret2
    exact ⟨rfl, rfl⟩
  · have h0 : ¬ n < 0 := by omega
    go_enter Tryd.func70, Tryd.ntmps70
    go_wp2
    go_ret2
    exact ⟨rfl, rfl⟩
def HO (w : World) (v : Value) (ls : List Bool) : Prop :=
  ∃ (p : Option Addr) (c : Nat), v = .slice p ls.length c ∧ ls.length ≤ c ∧ c ≤ maxLen ∧ (0 < ls.length → ∃ b off, p = some ⟨b, off, none⟩ ∧ ∀ j, j < ls.length → w.cell? ⟨b, off + j, none⟩ = some (.bool (ls.getD j false)))
theorem HM.block {A C : World} {g : Nat} {m : List Int} (h : HM A g m) (hb : C.heap[g]? = A.heap[g]?) : HM C g m := by
  obtain ⟨rest, h1, h2⟩ := h
  exact ⟨rest, h1.block hb, h2⟩
theorem own_later {A C : World} {B e n : Nat} {v : Value} {xs : List Value} (h : A.ownsRow B e 1 v n xs) (hb : Below A.heap.size A C) : C.ownsRow B e 1 v n xs := by
  cases hx : v.ownBlock with
  | none => exact h.kept (row := some 0) (grown_below hb) (.inl hx)
  | some y => exact h.kept (row := some (y + 1)) (grown_below hb) (.inr (by rw [hx]; simp))
theorem sum_dig (w : World) (g : Nat) (m : List Int) (h : HM w g m) (hk : KC w) (hlen : m.length ≤ 576460752303423488) :
    Calls Tryd.prog 61 #[.pointer (some ⟨g, 0, none⟩)] w fun e w' => e = .returned (.agg (cellsB (digL m))) ∧ Below w.heap.size w w' := sum_any w g m h hk hlen
theorem sums_one (w : World) (v : Value) (m : List Int) (h : HB w v m) (hk : KC w) (hlen : m.length ≤ 576460752303423488) :
    Calls Tryd.prog 43 #[.slice (some ⟨w.heap.size, 0, none⟩) 1 1] (w.alloc (.cells #[v] 47)) fun e w' => e = .returned (.agg (cellsB (digL m))) ∧ Below w.heap.size w w' := by
  have hB : Below w.heap.size w (w.alloc (.cells #[v] 47)) := (Below.refl _ w).alloc (Nat.le_refl _) _
  have hL : HL (w.alloc (.cells #[v] 47)) (.slice (some ⟨w.heap.size, 0, none⟩) 1 1) [m] := by
    refine ⟨_, 1, rfl, Nat.le_refl _, by decide, (fun e => by cases e), fun _ => ⟨w.heap.size, 0, rfl, fun j hj => ?_⟩⟩
    have hrow : (w.alloc (.cells #[v] 47)).heap[w.heap.size]? = some (.cells #[v] 47 (0, 0)) := heap_alloc_new w _
    match j, hj with
    | 0, _ => exact ⟨_, by rw [cell_of_row _ w.heap.size 0 _ _ _ hrow]; rfl, h.below hB⟩
  have := sums_any _ _ [m] hL (hk.below hB) (by simpa using hlen)
  refine this.mono ?_
  rintro e w' ⟨rfl, hb⟩
  exact ⟨by simp, hB.trans (hb.mono hB.size)⟩
theorem zero_b64 : (Tryd.prog.info? 104).map (·.zero) = some (some (.agg (cellsB (List.replicate 64 0)))) := by kernel_rfl
theorem cellsB_set2 (l : List Int) (i : Nat) (x : Int) : (cellsB l).setIfInBounds i (.int .u8 x) = cellsB (l.set i x) := by
  unfold cellsB
  rw [List.map_set]
  simp
theorem dig_get {W : List Nat} (hW : W8 W) (a r : Nat) (ha : a < 8) (hr : r < 4) : (W.flatMap (bigL 4)).getD (4 * a + r) 0 = ((W.getD a 0 / 256 ^ (3 - r) % 256 : Nat) : Int) := by
  obtain ⟨x0, x1, x2, x3, x4, x5, x6, x7, rfl, _⟩ := hW.open
  have h1 : a = 0 ∨ a = 1 ∨ a = 2 ∨ a = 3 ∨ a = 4 ∨ a = 5 ∨ a = 6 ∨ a = 7 := by omega
  have h2 : r = 0 ∨ r = 1 ∨ r = 2 ∨ r = 3 := by omega
  rcases h1 with rfl | rfl | rfl | rfl | rfl | rfl | rfl | rfl <;> rcases h2 with rfl | rfl | rfl | rfl <;> rfl
def curB (t : List Int) (i : Nat) : List Int := t.take i ++ (List.replicate 64 (0 : Int)).drop i
theorem curB_length (t : List Int) (i : Nat) (hi : i ≤ 64) (ht : t.length = 64) : (curB t i).length = 64 := by
  unfold curB
  rw [List.length_append, List.length_take, List.length_drop, List.length_replicate]
  omega
theorem curB_step (t : List Int) (i : Nat) (hi : i < 64) (ht : t.length = 64) : (curB t i).set i (t.getD i 0) = curB t (i + 1) := by
  unfold curB
  have hl : (t.take i).length = i := by rw [List.length_take]; omega
  have hz : i < (List.replicate 64 (0 : Int)).length := by rw [List.length_replicate]; omega
  have hi2 : i < t.length := by omega
  rw [List.set_append_right _ _ (by omega), hl, Nat.sub_self, List.drop_eq_getElem_cons hz, List.set_cons_zero, List.take_succ_eq_append_getElem hi2, getD_of_lt hi2, List.append_assoc]
  rfl
theorem blkOf_get (M : List Int) (k j : Nat) (hj : j < 64) : (blkOf M k).getD j 0 = M.getD (64 * k + j) 0 := by
  unfold blkOf
  simp only [List.getD, List.getElem?_take, List.getElem?_drop, if_pos hj]
def curE (t : List Int) (i : Nat) : List Int := t.take i ++ zeros32.drop i
theorem curE_length (t : List Int) (i : Nat) (hi : i ≤ 32) (ht : t.length = 32) : (curE t i).length = 32 := by
  unfold curE
  rw [List.length_append, List.length_take, List.length_drop, zeros32_length]
  omega
theorem curE_step (t : List Int) (i : Nat) (hi : i < 32) (ht : t.length = 32) : (curE t i).set i (t.getD i 0) = curE t (i + 1) := by
  unfold curE
  have hl : (t.take i).length = i := by rw [List.length_take]; omega
  have hz : i < zeros32.length := by rw [zeros32_length]; omega
  have hi2 : i < t.length := by omega
  rw [List.set_append_right _ _ (by omega), hl, Nat.sub_self, List.drop_eq_getElem_cons hz, List.set_cons_zero, List.take_succ_eq_append_getElem hi2, getD_of_lt hi2, List.append_assoc]
  rfl
set_option maxRecDepth 100000 in
set_option maxHeartbeats 4000000 in
theorem rsum_any (w : World) (v : Value) (m : List Int) (h : HB w v m) (hbig : m.length ≤ 140737488355000) : Calls Tryd.prog 55 #[v] w fun e w' => e = .returned (.agg (cellsB (digL m))) ∧ Below w.heap.size w w' := by
  obtain ⟨zd, HZD⟩ : ∃ zd, Hid (cellsB zeros32 = zd) := ⟨_, rfl⟩
  obtain ⟨W0, hW0⟩ : ∃ W0, Hid (w.alloc (.cells zd 43) = W0) := ⟨_, rfl⟩
  have HB0 : Hid (Below w.heap.size w W0) := by rw [← hW0.out]; exact (Below.refl _ w).alloc (Nat.le_refl _) _
  have HR0 : Hid (W0.heap[w.heap.size]? = some (.cells zd 43 (0, 0))) := by rw [← hW0.out]; exact heap_alloc_new w _
  have HS0 : Hid (W0.heap.size = w.heap.size + 1) := by rw [← hW0.out]; refine hid ?_; simp
  obtain ⟨p, c, ev, hlc, hcm⟩ := h.open
  unfold maxLen at hcm
  obtain ⟨n, HN⟩ : ∃ n, Hid (m.length = n) := ⟨_, rfl⟩
  rw [HN.out] at ev hlc hbig
  have HH := hid (h.below HB0.out)
  have hmb := hid h.2
  subst ev
  clear h
  go_enter Tryd.func55, Tryd.ntmps55
  have HV0 : Hid (World.ownsRow W0 W0.heap.size 5 1 (.slice none 0 0) 0 []) := World.ownsRow_nil _ _ _ _
  go_wp2_with (first | (refine wpList_alloc_digest rfl rfl ?_; rw [HZD.out, hW0.out]) | (at_builtin; refine wpList_append_HB rfl _ _ rfl W0.heap.size (.slice none 0 0) 0 [] rfl HV0.out (.slice p n c) m rfl HH.out (by rw [HN.out]; omega) (Nat.le_refl _) ?_))
  intro v3 w2 ho3 hg3
  have HB02 : Hid (Below W0.heap.size W0 w2) := (Below.refl _ W0).grown hg3 (Nat.le_refl _) (fun k e => by cases e)
  have HO2 := hid ho3
  clear ho3 hg3
  go_wp2_with fail
  refine (rpad_ok _ n (by omega)).mono ?_
  rintro e w3 ⟨v2, rfl, ho2, hB2⟩
  obtain ⟨P, HP⟩ : ∃ P, Hid (padL n = P) := ⟨_, rfl⟩
  obtain ⟨q, HQ⟩ : ∃ q, Hid (P.length = q) := ⟨_, rfl⟩
  have hq72 : q ≤ 72 := by rw [← HQ.out, ← HP.out, padL_length]; unfold padZ; omega
  have HBP : Hid (HB w3 v2 P) := by rw [← HP.out]; exact HB.of_own ho2 (padL_byt n)
  have HO3 := hid (own_later HO2.out hB2)
  have HB03 : Hid (Below W0.heap.size W0 w3) := HB02.out.trans (hB2.mono HB02.out.size)
  obtain ⟨p2, c2, e2, hl2, hm2⟩ := HBP.out.open
  rw [HQ.out] at e2
  subst e2
  clear ho2 hB2 HO2
  go_wp2_with (at_builtin; refine wpList_append_HB rfl _ _ rfl W0.heap.size _ _ _ rfl HO3.out _ _ rfl HBP.out ?q1 ?q2 ?_)
  case q1 => rw [HN.out, HQ.out]; omega
  case q2 => exact HB03.out.size
  intro v4 w4 ho4 hg4
  obtain ⟨M, HM0⟩ : ∃ M, Hid (m ++ P = M) := ⟨_, rfl⟩
  have HPM : Hid (padded m = M) := by rw [← HM0.out, ← HP.out, ← HN.out]; rfl
  have HML : Hid (M.length = n + q) := by show _ = _; rw [← HM0.out, List.length_append, HN.out, HQ.out]
  have hmod : (n + q) % 64 = 0 := by have := padL_whole n; rwa [HP.out, HQ.out] at this
  have HMB : Hid (∀ x ∈ M, 0 ≤ x ∧ x < 256) := by
    intro x hx
    rw [← HM0.out] at hx
    rcases List.mem_append.1 hx with h1 | h1
    · exact hmb.out x h1
    · exact HBP.out.2 x h1
  have hbm : HB w4 v4 M := by
    refine HB.of_own (B := W0.heap.size) (e := 5) ?_ HMB.out
    have h4 := ho4
    rw [← List.map_append, HM0.out] at h4
    rw [HML.out, ← HN.out, ← HQ.out]
    exact h4
  have HB04 : Hid (Below W0.heap.size W0 w4) := HB03.out.grown hg4 HB03.out.size (fun k e => (HO3.out.lt k e).1)
  have HB4 : Hid (Below w.heap.size w w4) := HB0.out.trans (HB04.out.mono (by have := HS0.out; omega))
  have HRR4 : Hid (w4.heap[w.heap.size]? = some (.cells zd 43 (0, 0))) := (HB04.out.block _ (by have := HS0.out; omega)).trans HR0.out
  have hq9 : 9 ≤ q := by rw [← HQ.out, ← HP.out, padL_length]; omega
  obtain ⟨b4, o4, c4, e4, hc4, hm4, hcell4⟩ := hbm.ne (by rw [HML.out]; omega)
  rw [HML.out] at e4 hc4 hcell4
  have hb4 : b4 < w4.heap.size := World.block_lt_of_cell? w4 _ (hcell4 0 (by omega))
  have HC4 := hid hcell4
  unfold maxLen at hm4
  subst e4
  clear ho4 hg4 hbm hcell4 HO3 HBP
  obtain ⟨ivc, HIV⟩ : ∃ ivc, Hid (cellsW iv = ivc) := ⟨_, rfl⟩
  obtain ⟨z8, HZ8⟩ : ∃ z8, Hid (cellsW (zerosW 8) = z8) := ⟨_, rfl⟩
  have hz8 := zero_w8
  rw [HZ8.out] at hz8
  have HZ1 := hid hz8
  have HIm : Hid ((Tryd.prog.info? 102).map (·.size) = some ivc.size) := by rw [← HIV.out]; exact size_w8
  have H1m : Hid (ivc.all (·.oneCell') = true) := by rw [← HIV.out]; exact cellsW_one _
  have HZM : Hid (z8.size = ivc.size) := by rw [← HZ8.out, ← HIV.out, cellsW_size, zerosW_length]; exact rfl
  have CI := hid (rinitial_any w4)
  clear hz8
  rw [HIV.out] at CI
  go_wp2_with fail
  refine CI.out.mono ?_
  rintro e w5 ⟨rfl, hB5⟩
  have HB5 := hid hB5
  clear hB5
  have HR : Hid ((w5.alloc (.cells z8 102)).heap[w5.heap.size]? = some (.cells z8 102 (0, 0))) := heap_alloc_new w5 _
  have HB6 := hid (below_setRow ((Below.refl _ w5).alloc (Nat.le_refl _) (.cells z8 102)) (g := w5.heap.size) (Nat.le_refl _) ivc)
  have HF0 : Hid (((w5.alloc (.cells z8 102)).setRow w5.heap.size ivc).heap[w5.heap.size]? = some (.cells (cellsW (wAt M 0)) 102 (0, 0))) := by rw [show cellsW (wAt M 0) = ivc from HIV.out]; exact setRow_heap _ _ _ _ _ _ HR.out
  go_wp2_with (first | (refine wpList_alloc_agg HZ1.out rfl rfl ?_) | (refine wpList_store_row rfl 102 _ _ rfl w5.heap.size ivc rfl rfl 102 _ HR.out HIm.out HZM.out H1m.out ?_))
  go_loopw [7] (fun i wr => ∃ k I : Nat, I = 64 * k ∧ I ≤ n + q ∧ i = .int .i64 I ∧ Hid (wr.heap[w5.heap.size]? = some (.cells (cellsW (wAt M k)) 102 (0, 0))) ∧ Hid (Below w5.heap.size w5 wr)) (fun i _ => n + q - (intOf i).toNat)
  case atStart => exact ⟨0, 0, rfl, Nat.zero_le _, rfl, HF0, HB6⟩
  case round =>
    obtain ⟨k, I, hIk, hI, rfl, HF, HBk⟩ := hrel
    obtain ⟨wo, rfl⟩ : ∃ wo, wo = wr := ⟨_, rfl⟩
    have HIK := hid hIk
    clear hIk
    have hbr : b4 < w5.heap.size := by have := HB5.out.size; omega
    have hsr := HBk.out.size
    have HCr : Hid (∀ j, j < n + q → wo.cell? ⟨b4, o4 + j, none⟩ = some (.int .u8 (M.getD j 0))) := fun j hj => ((HBk.out.cell hbr).trans (HB5.out.cell hb4)).trans (HC4.out j hj)
    have h8 := wAt_W8 M k
    by_cases hlt : I + 64 ≤ n + q
    · have hbl := blkOf_length (m := M) (k := k) (by rw [HML.out]; have := HIK.out; omega)
      have hbb := blkOf_byt HMB.out k
      have HBG : Hid (∀ j, j < 64 → M.getD (I + j) 0 = (blkOf M k).getD j 0) := fun j hj => by rw [blkOf_get M k j hj, HIK.out]
      have HW1 : Hid (wAt M (k + 1) = mixL (wAt M k) (blkOf M k)) := rfl
      obtain ⟨B, HBL⟩ : ∃ B, Hid (blkOf M k = B) := ⟨_, rfl⟩
      obtain ⟨W, HW⟩ : ∃ W, Hid (wAt M k = W) := ⟨_, rfl⟩
      rw [HBL.out] at hbl hbb HBG HW1
      rw [HW.out] at h8 HF HW1
      have H8 := hid h8
      have HBB := hid hbb
      obtain ⟨zb, HZB⟩ : ∃ zb, Hid (cellsB (List.replicate 64 0) = zb) := ⟨_, rfl⟩
      have hzb := zero_b64
      rw [HZB.out] at hzb
      have HZ2 := hid hzb
      obtain ⟨W7, hW7⟩ : ∃ W7, Hid (wo.alloc (.cells zb 104) = W7) := ⟨_, rfl⟩
      have HB7 : Hid (Below wo.heap.size wo W7) := by rw [← hW7.out]; exact (Below.refl _ wo).alloc (Nat.le_refl _) _
      have hs7 : W7.heap.size = wo.heap.size + 1 := by rw [← hW7.out]; simp
      have HR7 : Hid (W7.heap[wo.heap.size]? = some (.cells (cellsB (curB B 0)) 104 (0, 0))) := by
        rw [← hW7.out, show cellsB (curB B 0) = zb from HZB.out]
        exact heap_alloc_new wo _
      clear h8 hbb hzb
      go_wp2_with (refine wpList_alloc_agg HZ2.out rfl rfl ?_; rw [hW7.out])
      clear hW7
      go_loopw [9] (fun i wq => ∃ J : Nat, J ≤ 64 ∧ i = .int .i64 J ∧ Hid (wq.heap[wo.heap.size]? = some (.cells (cellsB (curB B J)) 104 (0, 0))) ∧ Hid (W7.grownBy wq (some wo.heap.size))) (fun i _ => 64 - (intOf i).toNat)
      case atStart => exact ⟨0, Nat.zero_le _, rfl, HR7, ⟨rfl, rfl, rfl, Nat.le_refl _, fun _ _ _ => rfl⟩⟩
      case round =>
        obtain ⟨J, hJ, rfl, HFB, HG⟩ := hrel
        have hbw : b4 < wo.heap.size := by omega
        have HB8 : Hid (Below wo.heap.size wo wr) := HB7.out.grown HG.out (by omega) (fun k e => by cases e; exact Nat.le_refl _)
        by_cases hlj : J < 64
        · have hcx : wr.cell? ⟨b4, o4 + (I + J), none⟩ = some (.int .u8 (B.getD J 0)) := by
            rw [← HBG.out J hlj]
            exact (HB8.out.cell hbw).trans (HCr.out (I + J) (by omega))
          have hcb : wr.cell? ⟨wo.heap.size, J, none⟩ = some (.int .u8 ((curB B J).getD J 0)) := by
            rw [cell_of_row wr wo.heap.size J _ _ _ HFB.out]
            have hj2 : J < (curB B J).length := by rw [curB_length B J (by omega) hbl]; omega
            simp [cellsB, List.getD, List.getElem?_eq_getElem hj2]
          obtain ⟨old, HOLD⟩ : ∃ old, Hid ((curB B J).getD J 0 = old) := ⟨_, rfl⟩
          rw [HOLD.out] at hcb
          obtain ⟨x, HX⟩ : ∃ x, Hid (B.getD J 0 = x) := ⟨_, rfl⟩
          rw [HX.out] at hcx
          have hfz : wr.frozen? ⟨wo.heap.size, J, none⟩ = false := by simp [World.frozen?, HFB.out]
          go_wp2
          refine ⟨⟨J + 1, by omega, by go_num, ?_, grown_tr HG.out (grown_sets _ _ _ _)⟩, by simp [intOf]; omega⟩
          show _ = _
          rw [← curB_step B J hlj hbl, HX.out, ← cellsB_set2]
          exact heap_setCell_same wr wo.heap.size J _ _ _ HFB.out
        · have hJ64 : J = 64 := by omega
          subst hJ64
          have HCB : Hid (curB B 64 = B) := by
            show _ = _
            unfold curB
            rw [List.take_of_length_le (by omega), List.drop_eq_nil_of_le (by rw [List.length_replicate]; omega), List.append_nil]
          rw [HCB.out] at HFB
          obtain ⟨mb, HMB2⟩ : ∃ mb, Hid (cellsB B = mb) := ⟨_, rfl⟩
          obtain ⟨mw, HMW⟩ : ∃ mw, Hid (cellsW W = mw) := ⟨_, rfl⟩
          obtain ⟨mx, HMX⟩ : ∃ mx, Hid (cellsW (mixL W B) = mx) := ⟨_, rfl⟩
          have CM := hid (rmix_any wr W B H8.out hbl HBB.out)
          rw [HMB2.out, HMW.out, HMX.out] at CM
          rw [HMB2.out] at HFB
          have HFW : Hid (wr.heap[w5.heap.size]? = some (.cells mw 102 (0, 0))) := by
            show _ = _
            rw [HB8.out.block _ (by have := World.block_lt_of_cell? wo ⟨w5.heap.size, 0, none⟩ (u := .int .u32 ((W.getD 0 0 : Nat) : Int)) (by rw [cell_of_row wo w5.heap.size 0 _ _ _ HF.out]; exact cellsW_get (by rw [H8.out.1]; decide)); exact this), ← HMW.out]
            exact HF.out
          have hmws : mw.size = 8 := by rw [← HMW.out, cellsW_size, H8.out.1]
          have hmxs : mx.size = 8 := by rw [← HMX.out, cellsW_size, H8.out.mix.1]
          have hmbs : mb.size = 64 := by rw [← HMB2.out]; simp [cellsB, hbl]
          have HIb : Hid ((Tryd.prog.info? 104).map (·.size) = some mb.size) := by rw [hmbs]; exact size_b64
          have HIw : Hid ((Tryd.prog.info? 102).map (·.size) = some mw.size) := by rw [hmws]; exact size_w8
          have HIx : Hid ((Tryd.prog.info? 102).map (·.size) = some mx.size) := by rw [hmxs]; exact size_w8
          have HWX : Hid (mw.size = mx.size) := by rw [hmws, hmxs]; exact rfl
          have H1x : Hid (mx.all (·.oneCell') = true) := by rw [← HMX.out]; exact cellsW_one _
          clear hmws hmxs hmbs
          go_wp2_with (first | (refine wpList_load_row rfl 102 _ rfl w5.heap.size rfl 102 mw (0, 0) _ HFW.out Tryd.underlying102 rfl HIw.out ?_) | (refine wpList_load_row rfl 104 _ rfl wo.heap.size rfl 104 mb (0, 0) _ HFB.out Tryd.underlying104 rfl HIb.out ?_))
          refine CM.out.mono ?_
          rintro e w8 ⟨rfl, hB8⟩
          have hw5r : w5.heap.size < wr.heap.size := by have h1 := HB8.out.size; have h2 := HG.out.size; omega
          have HF8 : Hid (w8.heap[w5.heap.size]? = some (.cells mw 102 (0, 0))) := (hB8.block _ hw5r).trans HFW.out
          have HF9 : Hid ((w8.setRow w5.heap.size mx).heap[w5.heap.size]? = some (.cells mx 102 (0, 0))) := setRow_heap _ _ _ _ _ _ HF8.out
          have HB9 := hid (below_setRow ((HBk.out.trans (HB8.out.mono HBk.out.size)).trans (hB8.mono (Nat.le_trans HBk.out.size HB8.out.size))) (g := w5.heap.size) (Nat.le_refl _) mx)
          clear hB8
          go_wp2_with (refine wpList_store_row rfl 102 _ _ rfl w5.heap.size mx rfl rfl 102 _ HF8.out HIx.out HWX.out H1x.out ?_)
          refine ⟨⟨k + 1, I + 64, by have := HIK.out; omega, by omega, by go_num, ?_, HB9⟩, by simp [intOf]; omega⟩
          show _ = _
          rw [HW1.out, HMX.out]
          exact HF9.out
    · have hIe : I = n + q := by have := HIK.out; omega
      have HWE : Hid (wAt M k = wAt (padded m) ((padded m).length / 64)) := by
        show _ = _
        have h1 : (padded m).length / 64 = k := by rw [HPM.out, HML.out]; have := HIK.out; omega
        rw [h1, HPM.out]
      obtain ⟨W, HW⟩ : ∃ W, Hid (wAt M k = W) := ⟨_, rfl⟩
      rw [HW.out] at HF h8 HWE
      have H8 := hid h8
      obtain ⟨D, HD⟩ : ∃ D, Hid (W.flatMap (bigL 4) = D) := ⟨_, rfl⟩
      have HDG : Hid (digL m = D) := by show _ = _; rw [← HD.out, HWE.out]; rfl
      have hDl : D.length = 32 := by rw [← HDG.out, digL_length]
      have hwol : w5.heap.size < wo.heap.size := World.block_lt_of_cell? wo ⟨w5.heap.size, 0, none⟩ (u := .int .u32 ((W.getD 0 0 : Nat) : Int)) (by rw [cell_of_row wo w5.heap.size 0 _ _ _ HF.out]; exact cellsW_get (by rw [H8.out.1]; decide))
      have HBo5 : Hid (Below w4.heap.size w4 wo) := HB5.out.trans (HBk.out.mono HB5.out.size)
      have HBo : Hid (Below w.heap.size w wo) := HB4.out.trans (HBo5.out.mono HB4.out.size)
      have hw4 : w.heap.size < w4.heap.size := by have := HB04.out.size; have := HS0.out; omega
      have hwwo : w.heap.size < wo.heap.size := by have := HBo5.out.size; omega
      have HRo : Hid (wo.heap[w.heap.size]? = some (.cells zd 43 (0, 0))) := (HBo5.out.block _ hw4).trans HRR4.out
      obtain ⟨W7, hW7⟩ : ∃ W7, Hid (wo.alloc (.cells zd 43) = W7) := ⟨_, rfl⟩
      have HB7 : Hid (Below wo.heap.size wo W7) := by rw [← hW7.out]; exact (Below.refl _ wo).alloc (Nat.le_refl _) _
      have HS7 : Hid (W7.heap.size = wo.heap.size + 1) := by rw [← hW7.out]; refine hid ?_; simp
      have HR7 : Hid (W7.heap[wo.heap.size]? = some (.cells (cellsB (curE D 0)) 43 (0, 0))) := by
        rw [← hW7.out, show cellsB (curE D 0) = zd from HZD.out]
        exact heap_alloc_new wo _
      have HRr7 : Hid (W7.heap[w.heap.size]? = some (.cells zd 43 (0, 0))) := (HB7.out.block _ (by omega)).trans HRo.out
      have HF7 : Hid (W7.heap[w5.heap.size]? = some (.cells (cellsW W) 102 (0, 0))) := (HB7.out.block _ hwol).trans HF.out
      clear h8 hlt
      go_wp2_with (refine wpList_alloc_digest rfl rfl ?_; rw [HZD.out, hW7.out])
      clear hW7
      go_loopw [11] (fun i wq => ∃ J : Nat, J ≤ 32 ∧ i = .int .i64 J ∧ Hid (wq.heap[wo.heap.size]? = some (.cells (cellsB (curE D J)) 43 (0, 0))) ∧ Hid (W7.grownBy wq (some wo.heap.size))) (fun i _ => 32 - (intOf i).toNat)
      case atStart => exact ⟨0, Nat.zero_le _, rfl, HR7, ⟨rfl, rfl, rfl, Nat.le_refl _, fun _ _ _ => rfl⟩⟩
      case round =>
        obtain ⟨J, hJ, rfl, HFB, HG⟩ := hrel
        by_cases hlj : J < 32
        · obtain ⟨a, r, HJ⟩ : ∃ a r, Hid (J = 4 * a + r ∧ r < 4) := ⟨J / 4, J % 4, by show _ ∧ _; omega⟩
          have ha8 : a < 8 := by have := HJ.out; omega
          have HGD := hid (dig_get H8.out a r ha8 HJ.out.2)
          rw [HD.out, ← HJ.out.1] at HGD
          obtain ⟨x, HX⟩ : ∃ x, Hid (W.getD a 0 = x) := ⟨_, rfl⟩
          rw [HX.out] at HGD
          have hxl : x < 4294967296 := by rw [← HX.out]; exact getW_lt H8.out.2 a
          have cw : wr.cell? ⟨w5.heap.size, a, none⟩ = some (.int .u32 (x : Int)) := by
            rw [cell_of_row wr w5.heap.size a _ _ _ ((HG.out.block w5.heap.size (by have := HS7.out; omega) (by simp; omega)).trans HF7.out), cellsW_get (by rw [H8.out.1]; exact ha8), HX.out]
          have hcb : wr.cell? ⟨wo.heap.size, J, none⟩ = some (.int .u8 ((curE D J).getD J 0)) := by
            rw [cell_of_row wr wo.heap.size J _ _ _ HFB.out]
            have hj2 : J < (curE D J).length := by rw [curE_length D J (by omega) hDl]; omega
            simp [cellsB, List.getD, List.getElem?_eq_getElem hj2]
          obtain ⟨old, HOLD⟩ : ∃ old, Hid ((curE D J).getD J 0 = old) := ⟨_, rfl⟩
          rw [HOLD.out] at hcb
          have hfz : wr.frozen? ⟨wo.heap.size, J, none⟩ = false := by simp [World.frozen?, HFB.out]
          have e1 : Int.tdiv (J : Int) 4 = (a : Int) := by have := HJ.out; rw [Int.tdiv_eq_ediv_of_nonneg (by omega)]; omega
          have FIN : Hid (∀ y : Int, y = D.getD J 0 → Hid ((wr.setCell ⟨wo.heap.size, J, none⟩ (.int .u8 y)).heap[wo.heap.size]? = some (.cells (cellsB (curE D (J + 1))) 43 (0, 0)))) := fun y hy => by
            rw [← curE_step D J hlj hDl, ← hy, ← cellsB_set2]
            exact heap_setCell_same wr wo.heap.size J _ _ _ HFB.out
          have hr4 : r = 0 ∨ r = 1 ∨ r = 2 ∨ r = 3 := by have := HJ.out.2; omega
          rcases hr4 with rfl | rfl | rfl | rfl
          · have e2 : Int.tmod (J : Int) 4 = 0 := by have := HJ.out; rw [Int.tmod_eq_emod_of_nonneg (by omega)]; omega
            go_wp2
            exact ⟨⟨J + 1, by omega, by go_num, FIN.out _ (by rw [HGD.out]; simp; try omega), grown_tr HG.out (grown_sets _ _ _ _)⟩, by simp [intOf]; omega⟩
          · have e2 : Int.tmod (J : Int) 4 = 1 := by have := HJ.out; rw [Int.tmod_eq_emod_of_nonneg (by omega)]; omega
            go_wp2
            exact ⟨⟨J + 1, by omega, by go_num, FIN.out _ (by rw [HGD.out]; simp; try omega), grown_tr HG.out (grown_sets _ _ _ _)⟩, by simp [intOf]; omega⟩
          · have e2 : Int.tmod (J : Int) 4 = 2 := by have := HJ.out; rw [Int.tmod_eq_emod_of_nonneg (by omega)]; omega
            go_wp2
            exact ⟨⟨J + 1, by omega, by go_num, FIN.out _ (by rw [HGD.out]; simp; try omega), grown_tr HG.out (grown_sets _ _ _ _)⟩, by simp [intOf]; omega⟩
          · have e2 : Int.tmod (J : Int) 4 = 3 := by have := HJ.out; rw [Int.tmod_eq_emod_of_nonneg (by omega)]; omega
            go_wp2
            exact ⟨⟨J + 1, by omega, by go_num, FIN.out _ (by rw [HGD.out]; simp; try omega), grown_tr HG.out (grown_sets _ _ _ _)⟩, by simp [intOf]; omega⟩
        · have hJ32 : J = 32 := by omega
          subst hJ32
          have HCE : Hid (curE D 32 = D) := by
            show _ = _
            unfold curE
            rw [List.take_of_length_le (by omega), List.drop_eq_nil_of_le (by rw [zeros32_length]; omega), List.append_nil]
          rw [HCE.out] at HFB
          obtain ⟨dm, HDM⟩ : ∃ dm, Hid (cellsB D = dm) := ⟨_, rfl⟩
          rw [HDM.out] at HFB
          have hds : dm.size = 32 := by rw [← HDM.out]; simp [cellsB, hDl]
          have SD : Hid ((Tryd.prog.info? 43).map (·.size) = some dm.size) := by rw [hds]; exact size_digest
          have OD : Hid (dm.all (·.oneCell') = true) := by
            rw [← HDM.out]
            exact all_oneCell_toArray (fun v hv => by obtain ⟨x, _, rfl⟩ := List.mem_map.1 hv; rfl)
          have ZD : Hid (zd.size = dm.size) := by rw [hds, ← HZD.out]; rfl
          have HRf : Hid (wr.heap[w.heap.size]? = some (.cells zd 43 (0, 0))) := (HG.out.block w.heap.size (by have := HS7.out; omega) (by simp; omega)).trans HRr7.out
          have HBF := hid (below_setRow (HBo.out.trans ((HB7.out.grown HG.out HB7.out.size (fun k e => by cases e; exact Nat.le_refl _)).mono HBo.out.size)) (g := w.heap.size) (Nat.le_refl _) dm)
          clear hds hlj
          go_wp2_with (first | (refine wpList_load_row rfl 43 _ rfl wo.heap.size rfl 43 dm (0, 0) _ HFB.out Tryd.underlying43 rfl SD.out ?_) | (refine wpList_store_row rfl 43 _ _ rfl w.heap.size dm rfl rfl 43 _ HRf.out SD.out ZD.out OD.out ?_))
          refine bodyPost_ret (v := .agg dm) (results_cell_row (p := 2) (ty := 43) rfl _ _ w.heap.size 43 dm (0, 0) _ rfl (setRow_heap _ _ _ _ _ _ HRf.out) Tryd.underlying43 rfl SD.out) rfl ?_
          exact ⟨by rw [HDG.out, HDM.out], HBF.out⟩
theorem run_append_byte (w : World) (base : Nat) (ty : TypeId) (v : Value) (n : Nat) (xs : List Value) (hown : w.ownsRow base 5 1 v n xs) (a : Addr) (c : Nat) (x : Int) (hx : w.cell? a = some (.int .u8 x)) (hn : n + 1 ≤ 140737488355328) (hbase : base ≤ w.heap.size) :
    ∃ v' w', (Builtin.append_ #[47, 47] ty #[v, .slice (some a) 1 c]).run Tryd.prog w = .ok v' w' ∧ w'.ownsRow base 5 1 v' (n + 1) (xs ++ [.int .u8 x]) ∧ w.grownBy w' v.ownBlock ∧
      (v'.ownBlock = v.ownBlock ∨ (v'.ownBlock = some w.heap.size ∧ w.grownBy w' none)) := by
  obtain ⟨i0, hi, hz0, hz1, hz2⟩ := info_parts info_u8
  have hnews : ∀ j u, [Value.int .u8 x][j]? = some u → w.cell? (a.add j) = some u := by
    intro j u hj
    match j, hj with
    | 0, hj => simp at hj; subst hj; simpa [Addr.add] using hx
  have h1 : ∀ u ∈ [Value.int .u8 x], u.oneCell' = true := by intro u hu; simp at hu; subst hu; rfl
  obtain ⟨v', w', hr, h2, h3, _⟩ := run_append_own (P := Tryd.prog) w base 47 ty 5 i0 (.int .u8 0) 1 1 Tryd.underlying47 hi hz0 hz1 hz2 rfl (by decide) v n xs hown a 1 c [.int .u8 x] rfl hnews h1 (by unfold maxLen; omega) (by omega) hbase
  refine ⟨v', w', hr, h2, h3, ?_⟩
  rcases hown.2 with ⟨rfl, rfl⟩ | ⟨g, cap, cur, rfl, hbg, hg, hnc, hcm, hcs, htake⟩
  · have hr2 := run_append_nil (P := Tryd.prog) w 47 ty 5 i0 (.int .u8 0) Tryd.underlying47 hi hz0 a 1 c [.int .u8 x] (by rw [hz1]; rfl) hnews (by omega) (by omega) (by rw [hz2]; omega)
    rw [hr] at hr2
    simp only [Result.ok.injEq] at hr2
    obtain ⟨rfl, rfl⟩ := hr2
    exact .inr ⟨rfl, ⟨rfl, rfl, rfl, by simp, fun k hk _ => heap_alloc_old w.drew _ hk⟩⟩
  · by_cases hroom : n + 1 ≤ cap
    · obtain ⟨w2, hr2, _⟩ := run_append_fits (P := Tryd.prog) w base 47 ty 5 i0 1 Tryd.underlying47 hi hz1 g n cap xs hown a 1 c [.int .u8 x] rfl hnews h1 hroom
      rw [hr] at hr2
      simp only [Result.ok.injEq] at hr2
      obtain ⟨rfl, rfl⟩ := hr2
      exact .inl rfl
    · have hr2 := run_append_grow (P := Tryd.prog) w 47 ty 5 i0 (.int .u8 0) Tryd.underlying47 hi hz0 ⟨g, 0, none⟩ n cap xs (by rw [hz1]; exact hown.1) (hown.cells (g := g) rfl) a 1 c [.int .u8 x] (by rw [hz1]; rfl) hnews (by omega) (by omega) (growslice_fits (by omega) (by rw [hz2]; omega))
      rw [hr] at hr2
      simp only [Result.ok.injEq] at hr2
      obtain ⟨rfl, rfl⟩ := hr2
      exact .inr ⟨rfl, ⟨rfl, rfl, rfl, by simp, fun k hk _ => heap_alloc_old w.drew _ hk⟩⟩
theorem wpList_append_byte {w : World} {ops : Array Oper} {rest : List Oper} {o : Oper} {a : Act} {Q : Exit → Act → World → Prop} (hgd : o.guard = none) (s x : Operand)
    (ho : o.op = .call { callee := .builtin .append, args := #[s, x], argTypes := #[47, 47] })
    (base : Nat) (v : Value) (n : Nat) (xs : List Value) (hs : a.eval s = v) (hown : w.ownsRow base 5 1 v n xs)
    (ad : Addr) (c : Nat) (y : Int) (hx : a.eval x = .slice (some ad) 1 c) (hy : w.cell? ad = some (.int .u8 y)) (hn : n + 1 ≤ 140737488355328) (hbase : base ≤ w.heap.size)
    (h : ∀ v' w', w'.ownsRow base 5 1 v' (n + 1) (xs ++ [.int .u8 y]) → w.grownBy w' v.ownBlock → (v'.ownBlock = v.ownBlock ∨ (v'.ownBlock = some w.heap.size ∧ w.grownBy w' none)) → wpList Tryd.prog ops Q rest (a.put o.dst v') w') : wpList Tryd.prog ops Q (o :: rest) a w := by
  refine wpList_plain hgd fun K hK => ?_
  obtain ⟨v', w', hr, h2, h3, h4⟩ := run_append_byte w base o.type v n xs hown ad c y hy hn hbase
  unfold Oper.wp execOp
  simp only [ho, resolve, invoke, builtin, Sem.run_bind, Sem.run_pure, Result.andThen_ok, List.map_toArray, List.map_cons, List.map_nil, hs, hx, hr]
  exact hK _ _ (h v' w' h2 h3 h4)
def pcs (ls : List (List Int)) : List (List Int) := ls.flatMap fun l => [bigL 8 l.length, l]
def pcsTo (ls : List (List Int)) (k : Nat) : List (List Int) := pcs (ls.take k)
def framed (ls : List (List Int)) : List Int := (pcs ls).flatten
theorem pcs_snoc (ls : List (List Int)) (k : Nat) (hk : k < ls.length) : pcsTo ls (k + 1) = pcsTo ls k ++ [bigL 8 (ls.getD k []).length, ls.getD k []] := by
  unfold pcsTo pcs
  rw [List.take_succ_eq_append_getElem hk, List.flatMap_append]
  have e : ls.getD k [] = ls[k] := by simp [List.getD, List.getElem?_eq_getElem hk]
  rw [e]
  simp
theorem pcs_length (ls : List (List Int)) : (pcs ls).length = 2 * ls.length := by
  unfold pcs
  induction ls with
  | nil => rfl
  | cons a r ih => simp only [List.flatMap_cons, List.length_append, List.length_cons, List.length_nil, ih]; omega
theorem pcsTo_length (ls : List (List Int)) (k : Nat) : (pcsTo ls k).length ≤ 2 * ls.length := by
  unfold pcsTo
  rw [pcs_length, List.length_take]
  omega
theorem framed_length (ls : List (List Int)) : (framed ls).length = ls.flatten.length + 8 * ls.length := by
  unfold framed pcs
  induction ls with
  | nil => rfl
  | cons a r ih =>
    simp only [List.flatMap_cons, List.flatten_append, List.flatten_cons, List.flatten_nil, List.length_append, List.length_nil, List.length_cons, bigL_length] at ih ⊢
    omega
theorem valL_cons (c : Int) (l : List Int) : ∀ a : Nat, (c :: l).foldl (fun a c => a * 256 + c.toNat) a = l.foldl (fun a c => a * 256 + c.toNat) (a * 256 + c.toNat) := fun _ => rfl
theorem fold_bigL (r x a : Nat) : (bigL r x).foldl (fun a c => a * 256 + c.toNat) a = a * 256 ^ r + x % 256 ^ r := by
  induction r generalizing a with
  | zero => simp [bigL, Nat.mod_one]
  | succ r ih =>
    simp only [bigL, List.foldl_cons, Int.toNat_natCast]
    rw [ih, Nat.pow_succ]
    have h1 := Nat.mod_mul (a := 256 ^ r) (b := 256) (x := x)
    rw [h1]
    have : (a * 256 + x / 256 ^ r % 256) * 256 ^ r = a * (256 ^ r * 256) + 256 ^ r * (x / 256 ^ r % 256) := by
      rw [Nat.add_mul, Nat.mul_assoc, Nat.mul_comm 256 (256 ^ r), Nat.mul_comm (x / 256 ^ r % 256)]
    omega
theorem valL_bigL (r x : Nat) (h : x < 256 ^ r) : valL (bigL r x) = x := by
  unfold valL
  rw [fold_bigL, Nat.zero_mul, Nat.zero_add, Nat.mod_eq_of_lt h]
theorem valL_head (c : Int) (l : List Int) : valL (c :: l) = c.toNat * 256 ^ l.length + valL l := by
  obtain ⟨r, hr⟩ : ∃ r, r = l.reverse := ⟨_, rfl⟩
  have e : l = r.reverse := by rw [hr, List.reverse_reverse]
  subst e
  clear hr
  induction r with
  | nil => simp [valL]
  | cons d r ih =>
    rw [List.reverse_cons, ← List.cons_append, valL_snoc, valL_snoc, ih, List.length_append]
    simp only [List.length_cons, List.length_nil, Nat.zero_add, Nat.pow_succ]
    rw [Nat.add_mul, Nat.mul_assoc]
    omega
theorem bigL_mod (r x y : Nat) : bigL r (y * 256 ^ r + x) = bigL r x := by
  induction r generalizing y with
  | zero => rfl
  | succ r ih =>
    have e : y * 256 ^ (r + 1) + x = (y * 256) * 256 ^ r + x := by rw [Nat.pow_succ, Nat.mul_comm (256 ^ r), Nat.mul_assoc]
    simp only [bigL]
    rw [e, ih]
    have hp : 0 < 256 ^ r := Nat.pow_pos (by omega)
    rw [Nat.add_comm (y * 256 * 256 ^ r), Nat.add_mul_div_right _ _ hp]
    congr 2
    omega
theorem bigL_valL (l : List Int) (h : ∀ x ∈ l, 0 ≤ x ∧ x < 256) : bigL l.length (valL l) = l := by
  induction l with
  | nil => rfl
  | cons c l ih =>
    have hl : ∀ x ∈ l, 0 ≤ x ∧ x < 256 := fun x hx => h x (List.mem_cons_of_mem _ hx)
    have hc := h c (by simp)
    have hv := valL_lt l hl
    rw [valL_head]
    simp only [List.length_cons, bigL]
    rw [bigL_mod, ih hl]
    have hp : 0 < 256 ^ l.length := Nat.pow_pos (by omega)
    rw [Nat.add_comm (c.toNat * 256 ^ l.length), Nat.add_mul_div_right _ _ hp, Nat.div_eq_of_lt hv]
    congr 1
    omega
def Ok (ls : List (List Int)) : Prop := ∀ l ∈ ls, l.length < 256 ^ 8
theorem framed_cons (x : List Int) (xs : List (List Int)) : framed (x :: xs) = bigL 8 x.length ++ (x ++ framed xs) := by
  simp [framed, pcs]
theorem framed_append (a b : List (List Int)) : framed (a ++ b) = framed a ++ framed b := by
  simp [framed, pcs]
theorem framed_nil : framed [] = [] := rfl
theorem framed_cancel (ls : List (List Int)) (l : List Int) : ∀ xs, Ok xs → Ok ls → framed xs = framed ls ++ l → ∃ bs, xs = ls ++ bs ∧ framed bs = l := by
  induction ls with
  | nil => intro ys _ _ h; exact ⟨ys, rfl, h⟩
  | cons x xs ih =>
    intro as' ha hl h
    cases as' with
    | nil =>
      exfalso
      have := congrArg List.length h
      rw [framed_cons] at this
      simp [framed_nil, bigL_length] at this
      omega
    | cons y ys =>
      rw [framed_cons, framed_cons, List.append_assoc, List.append_assoc] at h
      have h1 := List.append_inj h (by rw [bigL_length, bigL_length])
      have hlen : y.length = x.length := by
        have := congrArg valL h1.1
        rwa [valL_bigL 8 _ (ha y (by simp)), valL_bigL 8 _ (hl x (by simp))] at this
      have h2 := List.append_inj h1.2 hlen
      obtain ⟨bs, e1, e2⟩ := ih ys (fun z hz => ha z (List.mem_cons_of_mem _ hz)) (fun z hz => hl z (List.mem_cons_of_mem _ hz)) h2.2
      exact ⟨bs, by rw [h2.1, e1]; rfl, e2⟩
theorem framed_inj {a b : List (List Int)} (ha : Ok a) (hb : Ok b) : framed a = framed b ↔ a = b := by
  constructor
  · intro h
    obtain ⟨bs, e1, e2⟩ := framed_cancel b [] a ha hb (by rw [List.append_nil]; exact h)
    have h2 : bs = [] := by
      cases bs with
      | nil => rfl
      | cons y ys =>
        have := congrArg List.length e2
        rw [framed_cons] at this
        simp [bigL_length] at this
    rw [e1, h2, List.append_nil]
  · intro h; rw [h]
def UInv (raw : List Int) (ls : List (List Int)) (f : Bool) (l : List Int) : Prop :=
  8 * ls.length ≤ raw.length + 8 ∧ l.length ≤ raw.length ∧ Ok ls ∧ (f = false → raw = framed ls ++ l) ∧ (f = true → l = [] ∧ ∀ xs, Ok xs → framed xs ≠ raw)
theorem UInv.start (raw : List Int) : UInv raw [] false raw := ⟨by simp, Nat.le_refl _, by intro l hl; simp at hl, fun _ => rfl, fun h => by cases h⟩
theorem UInv.none {raw : List Int} {ls : List (List Int)} {l : List Int} (h : UInv raw ls false l) (hb : ∀ bs, Ok bs → framed bs ≠ l) : ∀ xs, Ok xs → framed xs ≠ raw := by
  intro xs ha he
  obtain ⟨_, _, h3, h4, _⟩ := h
  rw [h4 rfl] at he
  obtain ⟨bs, e1, e2⟩ := framed_cancel ls l xs ha h3 he
  exact hb bs (fun z hz => ha z (by rw [e1]; exact List.mem_append_right _ hz)) e2
theorem no_frames_short {l : List Int} (h0 : 0 < l.length) (h8 : l.length < 8) : ∀ bs, Ok bs → framed bs ≠ l := by
  intro bs _ h
  cases bs with
  | nil => rw [framed_nil] at h; subst h; simp at h0
  | cons y ys =>
    have := congrArg List.length h
    rw [framed_cons] at this
    simp [bigL_length] at this
    omega
theorem no_frames_long {l : List Int} (h8 : 8 ≤ l.length) (hv : (l.drop 8).length < valL (l.take 8)) : ∀ bs, Ok bs → framed bs ≠ l := by
  intro bs hb h
  cases bs with
  | nil => rw [framed_nil] at h; subst h; simp at h8
  | cons y ys =>
    rw [framed_cons] at h
    have h1 : l.take 8 = bigL 8 y.length := by rw [← h, List.take_left' (bigL_length _ _)]
    have h2 : l.drop 8 = y ++ framed ys := by rw [← h, List.drop_left' (bigL_length _ _)]
    rw [h1, h2, valL_bigL 8 _ (hb y (by simp)), List.length_append] at hv
    omega
theorem UInv.step {raw : List Int} {ls : List (List Int)} {l : List Int} (hraw : raw.length < 256 ^ 8) (hby : ∀ x ∈ l, 0 ≤ x ∧ x < 256) (h : UInv raw ls false l) (h8 : 8 ≤ l.length) (hv : valL (l.take 8) ≤ (l.drop 8).length) :
    UInv raw (ls ++ [(l.drop 8).take (valL (l.take 8))]) false ((l.drop 8).drop (valL (l.take 8))) := by
  obtain ⟨h1, h2, h3, h4, h5⟩ := h
  have hlen : ((l.drop 8).take (valL (l.take 8))).length = valL (l.take 8) := by simp at hv ⊢; omega
  have e := h4 rfl
  have hr : raw.length = ls.flatten.length + 8 * ls.length + l.length := by rw [e, List.length_append, framed_length]
  refine ⟨?_, ?_, ?_, ?_, fun h => by cases h⟩
  · rw [List.length_append, List.length_singleton]; omega
  · simp; omega
  · intro z hz
    rcases List.mem_append.1 hz with hz | hz
    · exact h3 z hz
    · simp only [List.mem_singleton] at hz
      subst hz
      rw [hlen]
      refine Nat.lt_of_le_of_lt hv (Nat.lt_of_le_of_lt ?_ hraw)
      simp; omega
  · intro _
    rw [framed_append, framed_cons, framed_nil, List.append_nil, hlen, e]
    have hb8 : bigL 8 (valL (l.take 8)) = l.take 8 := by
      have := bigL_valL (l.take 8) (fun x hx => hby x (List.mem_of_mem_take hx))
      rwa [show (l.take 8).length = 8 by simp; omega] at this
    rw [hb8]
    simp only [List.append_assoc, List.take_append_drop]
theorem UInv.short {raw : List Int} {ls : List (List Int)} {l : List Int} (h : UInv raw ls false l) (h0 : 0 < l.length) (h8 : l.length < 8) : UInv raw (ls ++ [[]]) true [] := by
  have hn := h.none (no_frames_short h0 h8)
  obtain ⟨h1, h2, h3, h4, h5⟩ := h
  have e := h4 rfl
  have hr : raw.length = ls.flatten.length + 8 * ls.length + l.length := by rw [e, List.length_append, framed_length]
  refine ⟨by rw [List.length_append, List.length_singleton]; omega, by simp, ?_, (fun h => by cases h), fun _ => ⟨rfl, hn⟩⟩
  intro z hz
  rcases List.mem_append.1 hz with hz | hz
  · exact h3 z hz
  · simp only [List.mem_singleton] at hz
    subst hz
    simp
def hi5 (n m x : Nat) : List Int := (bigL n x).take (n - m)
theorem hi5_step (n m x : Nat) (h : m < n) : hi5 n m x = hi5 n (m + 1) x ++ [((x / 256 ^ m % 256 : Nat) : Int)] := by
  have key : ∀ r j, j < r → (bigL r x)[j]? = some ((x / 256 ^ (r - 1 - j) % 256 : Nat) : Int) := by
    intro r
    induction r with
    | zero => intro j hj; omega
    | succ r ih =>
      intro j hj
      cases j with
      | zero => simp [bigL]
      | succ j =>
        simp only [bigL, List.getElem?_cons_succ]
        rw [ih j (by omega), show r + 1 - 1 - (j + 1) = r - 1 - j by omega]
  unfold hi5
  have e : n - m = (n - (m + 1)) + 1 := by omega
  rw [e, List.take_add_one, key n _ (by omega), show n - 1 - (n - (m + 1)) = m by omega]
  rfl
set_option maxRecDepth 100000 in
set_option maxHeartbeats 1000000 in
theorem rbig5_any (W : World) (x n : Nat) (hx : x < 18446744073709551616) (hn : n ≤ 8) : Calls Tryd.prog 41 #[.int .u64 (x : Int), .int .i64 (n : Int)] W fun e W' => ∃ v', e = .returned v' ∧ W'.ownsRow W.heap.size 5 1 v' n ((bigL n x).map (Value.int .u8)) ∧ Below W.heap.size W W' := by
  go_enter Tryd.func41, Tryd.ntmps41
  go_wp2
  go_loopw [5, 6] (fun o i wr => ∃ m : Nat, m ≤ n ∧ i = .int .i64 ((m : Int) - 1) ∧ Hid (wr.ownsRow W.heap.size 5 1 o (n - m) ((hi5 n m x).map (Value.int .u8))) ∧ Hid (Below W.heap.size W wr)) (fun _ i _ => (intOf i + 1).toNat)
  case atStart => exact ⟨n, Nat.le_refl _, rfl, by rw [Nat.sub_self]; simp only [hi5, Nat.sub_self, List.take_zero, List.map_nil]; exact World.ownsRow_nil _ _ _ _, Below.refl _ _⟩
  case round =>
    obtain ⟨m, hm, rfl, HO, HBw⟩ := hrel
    cases m with
    | zero =>
      go_wp2
      go_ret
      refine ⟨_, rfl, ?_, HBw.out⟩
      have := HO.out
      simp only [Nat.sub_zero] at this
      rw [show hi5 n 0 x = bigL n x by unfold hi5; rw [Nat.sub_zero, List.take_of_length_le (by rw [bigL_length]; exact Nat.le_refl n)]] at this
      exact this
    | succ m =>
      have HS := hid (hi5_step n m x (by omega))
      have hmc : m = 0 ∨ m = 1 ∨ m = 2 ∨ m = 3 ∨ m = 4 ∨ m = 5 ∨ m = 6 ∨ m = 7 := by omega
      have hxi : (x : Int) < 18446744073709551616 := by omega
      have hsz := HBw.out.size
      obtain ⟨y, HY⟩ : ∃ y, Hid (((x / 256 ^ m % 256 : Nat) : Int) = y) := ⟨_, rfl⟩
      rw [HY.out] at HS
      obtain ⟨k0, HK⟩ : ∃ k0, Hid (n - (m + 1) = k0) := ⟨_, rfl⟩
      have HK2 : Hid (n - m = k0 + 1) := by show _ = _; rw [← HK.out]; omega
      have hk0 : k0 ≤ 8 := by rw [← HK.out]; omega
      obtain ⟨lst, HLs⟩ : ∃ lst, Hid (hi5 n (m + 1) x = lst) := ⟨_, rfl⟩
      rw [HLs.out] at HS
      have HO' := hid HO.out
      rw [HK.out, HLs.out] at HO'
      clear HO
      rcases hmc with rfl | rfl | rfl | rfl | rfl | rfl | rfl | rfl
      all_goals
        go_wp2_with (at_builtin; refine wpList_append_byte rfl _ _ rfl W.heap.size _ _ _ rfl (HO'.out.alloc _) ⟨wr.heap.size, 0, none⟩ 1 y rfl ?q0 ?q1 ?q2 ?_)
        case q0 => rw [← HY.out]; simp; try omega
        case q1 => omega
        case q2 => simp; omega
        intro v' w2 hown2 hgr2 _
        have HO2 : Hid (w2.ownsRow W.heap.size 5 1 v' (k0 + 1) (lst.map (Value.int .u8) ++ [.int .u8 y])) := hown2
        have HB2 := hid ((HBw.out.alloc HBw.out.size _).grown hgr2 (by simp; omega) (fun k e => (HO'.out.lt k e).1))
        clear hown2 hgr2
        go_wp2
        exact ⟨⟨_, Nat.le_of_succ_le hm, rfl, by rw [HK2.out, HS.out, List.map_append]; exact HO2, HB2⟩, by simp [intOf]⟩
def fr1 (l : List Int) : List Int := bigL 8 l.length ++ l
theorem fr1_length (l : List Int) : (fr1 l).length = 8 + l.length := by simp [fr1, bigL_length]
theorem fr1_byt {l : List Int} (h : ∀ x ∈ l, 0 ≤ x ∧ x < 256) : ∀ x ∈ fr1 l, 0 ≤ x ∧ x < 256 := fun x hx => (List.mem_append.1 hx).elim (bigL_byt _ _ x) (h x)
set_option maxRecDepth 100000 in
set_option maxHeartbeats 1000000 in
theorem rframe_any (w : World) (v : Value) (l : List Int) (h : HB w v l) (hl : l.length ≤ 140737488355000) : Calls Tryd.prog 69 #[v] w fun e w' => ∃ v', e = .returned v' ∧ w'.ownsRow w.heap.size 5 1 v' (fr1 l).length ((fr1 l).map (Value.int .u8)) ∧ Below w.heap.size w w' := by
  obtain ⟨p, c, e, hlc, hm⟩ := h.open
  have HH := hid h
  obtain ⟨n, HN⟩ : ∃ n, Hid (l.length = n) := ⟨_, rfl⟩
  rw [HN.out] at e hl hlc
  subst e
  clear h
  go_enter Tryd.func69, Tryd.ntmps69
  go_wp2_with fail
  refine (rbig5_any w n 8 (by omega) (by omega)).mono ?_
  rintro e w1 ⟨v1, rfl, ho1, hB1⟩
  have HO := hid ho1
  have HB1 := hid hB1
  have H1 := hid (HH.out.below hB1)
  clear ho1 hB1
  go_wp2_with (at_builtin; refine wpList_append_HB rfl _ _ rfl w.heap.size _ _ _ rfl HO.out _ _ rfl H1.out ?q1 ?q2 ?_)
  case q1 => rw [HN.out]; omega
  case q2 => exact HB1.out.size
  intro v2 w2 ho2 hg2
  have HO2 : Hid (w2.ownsRow w.heap.size 5 1 v2 (fr1 l).length ((fr1 l).map (Value.int .u8))) := by
    rw [fr1_length]
    show World.ownsRow _ _ _ _ _ _ _
    unfold fr1
    rw [List.map_append, HN.out]
    rw [HN.out] at ho2
    exact ho2
  have HB2 : Hid (Below w.heap.size w w2) := HB1.out.grown hg2 HB1.out.size (fun k e => (HO.out.lt k e).1)
  clear ho2 hg2
  go_wp2
  go_ret
  exact ⟨_, rfl, HO2.out, HB2.out⟩
def strI (s : ByteArray) : List Int := s.data.toList.map fun b => ((b.toNat : Nat) : Int)
theorem strI_length (s : ByteArray) : (strI s).length = s.size := by
  unfold strI
  rw [List.length_map, Array.length_toList]
  rfl
theorem wpList_bytes_str {ops : Array Oper} {rest : List Oper} {o : Oper} {a : Act} {w : World} {Q : Exit → Act → World → Prop} (hgd : o.guard = none) (x : Operand) (ho : o.op = .convert 9 47 x) (s : ByteArray) (hx : a.eval x = .string s) (hs : s.size ≤ 1000)
    (h : ∀ v' w', HB w' v' (strI s) → Below w.heap.size w w' → wpList Tryd.prog ops Q rest (a.put o.dst v') w') : wpList Tryd.prog ops Q (o :: rest) a w :=
  wpList_plain hgd fun _ hK => by
    have hr := run_bytes_of_string (P := Tryd.prog) w 9 47 5 s Tryd.underlying9 Tryd.underlying47 Tryd.underlying5
    unfold Oper.wp
    simp only [execOp, ho, hx, Sem.run_bind, hr, Result.andThen_ok]
    have hge := grownCap_ge w s.size 0 5
    have hle := grownCap_le_maxLen w s.size 0 5 (by unfold maxLen; omega)
    refine hK _ _ (h _ _ ⟨⟨_, _, by rw [strI_length], by rw [strI_length]; exact hge, hle, (fun e => by cases e), fun _ => ⟨w.heap.size, 0, rfl, fun j hj => ?_⟩⟩, fun x hx => ?_⟩ ((Below.refl _ w).drew.alloc (Nat.le_refl _) _))
    · have hb : (w.drew.alloc (.cells (bytesRow s (grownCap w s.size 0 5)) 5 ((bytesRow s (grownCap w s.size 0 5)).size, (bytesRow s (grownCap w s.size 0 5)).size + 1))).heap[w.heap.size]? = some (.cells (bytesRow s (grownCap w s.size 0 5)) 5 ((bytesRow s (grownCap w s.size 0 5)).size, (bytesRow s (grownCap w s.size 0 5)).size + 1)) := heap_alloc_new w.drew _
      rw [cell_of_row _ _ _ _ _ _ hb]
      have hj2 : j < s.data.size := by rw [strI_length] at hj; exact hj
      have hj3 : j < s.size := hj2
      simp [bytesRow, Array.getElem?_append, hj3, strI, List.getD, Array.getElem?_eq_getElem hj2]
    · unfold strI at hx
      obtain ⟨b, _, rfl⟩ := List.mem_map.1 hx
      have := b.toNat_lt
      omega
def frK (wd : List Int) (ps : List (List Int)) (k : Nat) : List Int := framed (wd :: ps.take k)
theorem frK_zero (wd : List Int) (ps : List (List Int)) : frK wd ps 0 = fr1 wd := by simp [frK, framed, pcs, fr1]
theorem frK_snoc (wd : List Int) (ps : List (List Int)) (k : Nat) (hk : k < ps.length) : frK wd ps (k + 1) = frK wd ps k ++ fr1 (ps.getD k []) := by
  unfold frK framed
  rw [List.take_succ_eq_append_getElem hk]
  have e : ps.getD k [] = ps[k] := by simp [List.getD, List.getElem?_eq_getElem hk]
  rw [e]
  simp only [pcs, fr1, List.flatMap_cons, List.flatMap_append, List.flatMap_nil, List.flatten_append, List.flatten_cons, List.flatten_nil, List.append_nil, List.append_assoc, List.cons_append, List.nil_append]
theorem frK_all (wd : List Int) (ps : List (List Int)) : frK wd ps ps.length = framed (wd :: ps) := by simp [frK]
theorem frK_le (wd : List Int) (ps : List (List Int)) (k : Nat) : (frK wd ps k).length ≤ wd.length + 8 + (ps.flatten.length + 8 * ps.length) := by
  unfold frK
  rw [framed_length]
  have := flat_take_le ps k
  simp only [List.flatten_cons, List.length_append, List.length_cons, List.length_take]
  omega
theorem framed_byt : ∀ (ps : List (List Int)), (∀ l ∈ ps, ∀ x ∈ l, 0 ≤ x ∧ x < 256) → ∀ x ∈ framed ps, 0 ≤ x ∧ x < 256 := by
  intro ps h x hx
  unfold framed pcs at hx
  obtain ⟨l, h1, h2⟩ := List.mem_flatten.1 hx
  obtain ⟨q, h3, h4⟩ := List.mem_flatMap.1 h1
  simp only [List.mem_cons, List.not_mem_nil, or_false] at h4
  rcases h4 with rfl | rfl
  · exact bigL_byt _ _ x h2
  · exact h _ h3 x h2
def sring : ByteArray := ⟨(wRing.map fun x => UInt8.ofNat x.toNat).toArray⟩
theorem sring_strI : strI sring = wRing := by decide
set_option maxRecDepth 100000 in
set_option maxHeartbeats 1000000 in
theorem rword_ring (w : World) : Calls Tryd.prog 67 #[.int .u8 9] w fun e w' => e = .returned (.string sring) ∧ w' = w := by
  go_enter Tryd.func67, Tryd.ntmps67
  go_wp2
  go_ret
  exact ⟨rfl, rfl⟩
set_option maxRecDepth 100000 in
set_option maxHeartbeats 1000000 in
theorem rfits_ring (w : World) (v : Value) (l r : List Int) (h : HL w v [l, r]) (hl : l.length = 16) (hr : r.length = 4) : Calls Tryd.prog 68 #[.int .u8 9, v] w fun e w' => e = .returned (.bool true) ∧ w' = w := by
  obtain ⟨b, off, c, rfl, hc1, hc2, hh⟩ := h.ne (by simp)
  obtain ⟨u0, h0, hb0⟩ := hh 0 (by simp)
  obtain ⟨u1, h1, hb1⟩ := hh 1 (by simp)
  obtain ⟨p0, c0, rfl, _, _⟩ := hb0.open
  obtain ⟨p1, c1, rfl, _, _⟩ := hb1.open
  simp only [List.getD_cons_zero, List.getD_cons_succ, hl, hr, List.length_cons, List.length_nil, Nat.add_zero, Nat.zero_add, Nat.reduceAdd] at h0 h1 ⊢
  clear hh hb0 hb1 h
  go_enter Tryd.func68, Tryd.ntmps68
  go_wp2
  go_ret
  exact ⟨rfl, rfl⟩
set_option maxRecDepth 100000 in
set_option maxHeartbeats 2000000 in
theorem rbytes_ring (w : World) (v : Value) (ps : List (List Int)) (h : HL w v ps) (hF : ∀ w', Below w.heap.size w w' → Calls Tryd.prog 68 #[.int .u8 9, v] w' fun e w'' => e = .returned (.bool true) ∧ w'' = w') (hbig : ps.flatten.length + 8 * ps.length ≤ 100000000000000) :
    Calls Tryd.prog 54 #[.int .u8 9, v] w fun e w' => ∃ v', e = .returned (.tuple #[v', .int .i64 0]) ∧ w'.ownsRow w.heap.size 5 1 v' (framed (strI sring :: ps)).length ((framed (strI sring :: ps)).map (Value.int .u8)) ∧ Below w.heap.size w w' := by
  have hsz : sring.size ≤ 1000 := by decide
  have hse : sring.toList.isEmpty = false := by decide +kernel
  have A0 := hid h
  obtain ⟨p, c, e, hlc, hm⟩ := h.open
  unfold maxLen at hm
  have A : Hid (0 < ps.length → ∃ b off, p = some ⟨b, off, none⟩ ∧ ∀ j, j < ps.length → ∃ u, w.cell? ⟨b, off + j, none⟩ = some u ∧ HB w u (ps.getD j [])) := by
    intro h0
    obtain ⟨b, off, c', e', _, _, hh⟩ := h.ne h0
    rw [e] at e'
    simp only [Value.slice.injEq, true_and] at e'
    exact ⟨b, off, e'.1, hh⟩
  have HF := hid hF
  obtain ⟨n, HN⟩ : ∃ n, Hid (ps.length = n) := ⟨_, rfl⟩
  have HBig := hid hbig
  rw [HN.out] at e hlc hbig
  subst e
  clear h hF
  go_enter Tryd.func54, Tryd.ntmps54
  go_wp2_with fail
  refine (rword_ring _).mono ?_
  rintro e w1 ⟨rfl, rfl⟩
  go_wp2_with fail
  refine (HF.out _ (Below.refl _ _)).mono ?_
  rintro e w2 ⟨rfl, rfl⟩
  go_wp2_with fail
  refine (rword_ring _).mono ?_
  rintro e w3 ⟨rfl, rfl⟩
  go_wp2_with (refine wpList_bytes_str rfl _ rfl sring rfl hsz ?_)
  intro v4 w4 hb4 hB4
  have HB4 := hid hb4
  have BL4 := hid hB4
  clear hb4 hB4
  go_wp2_with fail
  refine (rframe_any w4 v4 _ HB4.out (by rw [strI_length]; omega)).mono ?_
  rintro e w5 ⟨v5, rfl, ho5, hB5⟩
  have HO5 : Hid (w5.ownsRow w3.heap.size 5 1 v5 (frK (strI sring) ps 0).length ((frK (strI sring) ps 0).map (Value.int .u8))) := by
    rw [frK_zero]
    exact own_mono ho5 BL4.out.size
  have BL5 := hid (BL4.out.trans (hB5.mono BL4.out.size))
  clear ho5 hB5
  go_wp2
  go_loopw [6, 7] (fun o i wr => ∃ k : Nat, k ≤ n ∧ i = .int .i64 k ∧ Hid (wr.ownsRow w3.heap.size 5 1 o (frK (strI sring) ps k).length ((frK (strI sring) ps k).map (Value.int .u8))) ∧ Hid (Below w3.heap.size w3 wr)) (fun _ i _ => n - (intOf i).toNat)
  case atStart => exact ⟨0, Nat.zero_le _, rfl, HO5, BL5⟩
  case round =>
    obtain ⟨k, hk, rfl, HO, HBel⟩ := hrel
    by_cases hlt : k < n
    · obtain ⟨b, off, rfl, hh⟩ := A.out (by rw [HN.out]; omega)
      obtain ⟨u, hu0, hb⟩ := hh k (by rw [HN.out]; exact hlt)
      have hu : wr.cell? ⟨b, off + k, none⟩ = some u := (HBel.out.cell (World.block_lt_of_cell? w3 _ hu0)).trans hu0
      have HBu := hid (hb.below HBel.out)
      have hls : (ps.getD k []).length ≤ 100000000000000 := by
        have h1 := flat_take_le ps (k + 1)
        rw [flat_snoc ps k (by rw [HN.out]; exact hlt), List.length_append] at h1
        have := HBig.out
        omega
      have HS := hid (frK_snoc (strI sring) ps k (by rw [HN.out]; exact hlt))
      have HLe := hid (frK_le (strI sring) ps (k + 1))
      rw [HS.out, List.length_append, strI_length] at HLe
      clear hh hb hu0
      go_wp2_with fail
      refine (rframe_any wr u _ HBu.out (by omega)).mono ?_
      rintro e w6 ⟨v6, rfl, ho6, hB6⟩
      have HB6 : Hid (HB w6 v6 (fr1 (ps.getD k []))) := HB.of_own ho6 (fr1_byt HBu.out.2)
      have HO6 := hid (own_below HO.out hB6)
      have BL6 := hid (HBel.out.trans (hB6.mono HBel.out.size))
      clear ho6 hB6
      go_wp2_with (at_builtin; refine wpList_append_HB rfl _ _ rfl w3.heap.size _ _ _ rfl HO6.out _ _ rfl HB6.out ?q1 ?q2 ?_)
      case q1 => have := HLe.out; have := HBig.out; omega
      case q2 => exact BL6.out.size
      intro v7 w7 ho7 hg7
      have HO7 : Hid (w7.ownsRow w3.heap.size 5 1 v7 (frK (strI sring) ps (k + 1)).length ((frK (strI sring) ps (k + 1)).map (Value.int .u8))) := by
        rw [HS.out, List.length_append, List.map_append]
        exact ho7
      have BL7 : Hid (Below w3.heap.size w3 w7) := BL6.out.grown hg7 BL6.out.size (fun k e => (HO6.out.lt k e).1)
      clear ho7 hg7
      go_wp2
      exact ⟨⟨k + 1, by omega, by go_num, HO7, BL7⟩, by simp [intOf]; omega⟩
    · have hkn : k = ps.length := by rw [HN.out]; omega
      have HO8 := hid HO.out
      rw [hkn, frK_all] at HO8
      go_wp2
      go_ret2
      exact ⟨_, rfl, HO8.out, HBel.out⟩
theorem framed_ring (x : List Int) (s : Nat) (hx : x.length = 16) : framed (strI sring :: [x, bigL 4 s]) = rgB x s := by
  rw [sring_strI]
  simp [framed, pcs, rgB, hx, bigL_length, num8, wRing]
  simp [bigL]
set_option maxRecDepth 100000 in
set_option maxHeartbeats 2000000 in
theorem rdigest_ring (w : World) (v : Value) (ps : List (List Int)) (h : HL w v ps) (hF : ∀ w', Below w.heap.size w w' → Calls Tryd.prog 68 #[.int .u8 9, v] w' fun e w'' => e = .returned (.bool true) ∧ w'' = w') (hbig : ps.flatten.length + 8 * ps.length ≤ 1000) (hby : ∀ l ∈ ps, ∀ x ∈ l, 0 ≤ x ∧ x < 256) :
    Calls Tryd.prog 40 #[.int .u8 9, v] w fun e w' => e = .returned (.agg (cellsB (digL (framed (strI sring :: ps))))) ∧ Below w.heap.size w w' := by
  have hsz : sring.size ≤ 1000 := by decide
  obtain ⟨zd, HZD⟩ : ∃ zd, Hid (cellsB zeros32 = zd) := ⟨_, rfl⟩
  obtain ⟨W0, hW0⟩ : ∃ W0, Hid (w.alloc (.cells zd 43) = W0) := ⟨_, rfl⟩
  have HB0 : Hid (Below w.heap.size w W0) := by rw [← hW0.out]; exact (Below.refl _ w).alloc (Nat.le_refl _) _
  have HR0 : Hid (W0.heap[w.heap.size]? = some (.cells zd 43 (0, 0))) := by rw [← hW0.out]; exact heap_alloc_new w _
  have hS0 : W0.heap.size = w.heap.size + 1 := by rw [← hW0.out]; simp
  have HF := hid hF
  have HL0 := hid (h.below HB0.out)
  obtain ⟨m, HM⟩ : ∃ m, Hid (framed (strI sring :: ps) = m) := ⟨_, rfl⟩
  have hmb : ∀ x ∈ m, 0 ≤ x ∧ x < 256 := by
    rw [← HM.out]
    refine framed_byt _ fun l hl => ?_
    rcases List.mem_cons.1 hl with rfl | hl
    · intro x hx
      unfold strI at hx
      obtain ⟨b, _, rfl⟩ := List.mem_map.1 hx
      have := b.toNat_lt
      omega
    · exact hby l hl
  have hml : m.length ≤ 3000 := by
    rw [← HM.out, framed_length]
    simp only [List.flatten_cons, List.length_append, List.length_cons, strI_length]
    omega
  clear h hF
  go_enter Tryd.func40, Tryd.ntmps40
  go_wp2_with (refine wpList_alloc_digest rfl rfl ?_; rw [HZD.out, hW0.out])
  refine (rbytes_ring W0 v ps HL0.out (fun w' hb => HF.out w' (HB0.out.trans (hb.mono HB0.out.size))) (by omega)).mono ?_
  rintro e w1 ⟨v1, rfl, ho1, hB1⟩
  rw [HM.out] at ho1
  have HB1 := hid (HB.of_own ho1 hmb)
  have BL1 := hid hB1
  clear ho1 hB1
  go_wp2_with fail
  refine (rsum_any w1 v1 m HB1.out (by omega)).mono ?_
  rintro e w2 ⟨rfl, hB2⟩
  obtain ⟨dm, HD⟩ : ∃ dm, Hid (cellsB (digL m) = dm) := ⟨_, rfl⟩
  have hds : dm.size = 32 := by rw [← HD.out]; simp [cellsB, digL_length]
  have SD : Hid ((Tryd.prog.info? 43).map (·.size) = some dm.size) := by rw [hds]; exact size_digest
  have OD : Hid (dm.all (·.oneCell') = true) := by rw [← HD.out]; exact cellsB_one _
  have ZD : Hid (zd.size = dm.size) := by rw [hds, ← HZD.out]; rfl
  have HR2 : Hid (w2.heap[w.heap.size]? = some (.cells zd 43 (0, 0))) := by
    show _ = _
    rw [hB2.block _ (by have := BL1.out.size; omega), BL1.out.block _ (by omega)]
    exact HR0.out
  have HBF := hid (below_setRow ((HB0.out.trans (BL1.out.mono (by omega))).trans (hB2.mono (by have := BL1.out.size; omega))) (g := w.heap.size) (Nat.le_refl _) dm)
  rw [HD.out]
  clear hB2 hds
  go_wp2_with (refine wpList_store_row rfl 43 _ _ rfl w.heap.size dm rfl rfl 43 _ HR2.out SD.out ZD.out OD.out ?_)
  refine bodyPost_ret (v := .agg dm) (results_cell_row (p := 4) (ty := 43) rfl _ _ w.heap.size 43 dm (0, 0) _ rfl (setRow_heap _ _ _ _ _ _ HR2.out) Tryd.underlying43 rfl SD.out) rfl ?_
  exact ⟨by rw [HM.out, HD.out], HBF.out⟩
set_option maxRecDepth 100000 in
set_option maxHeartbeats 2000000 in
theorem rring_any (w : World) (x : List Int) (s : Nat) (hx : X16 x) (hs : s < 4294967296) : Calls Tryd.prog 32 #[.agg (cellsB x), .int .u32 (s : Int)] w fun e w' => e = .returned (.agg (cellsB (rgL x s))) ∧ Below w.heap.size w w' := by
  obtain ⟨zd, HZD⟩ : ∃ zd, Hid (cellsB zeros32 = zd) := ⟨_, rfl⟩
  obtain ⟨cl, HCL⟩ : ∃ c, Hid (cellsB x = c) := ⟨_, rfl⟩
  rw [HCL.out]
  have hsi : (s : Int) < 4294967296 := by omega
  go_enter Tryd.func32, Tryd.ntmps32
  go_wp2_with (refine wpList_alloc_digest rfl rfl ?_; rw [HZD.out])
  have e3 : (w.alloc (.cells cl 23)).heap.size = w.heap.size + 1 := by simp
  rw [e3]
  obtain ⟨W0, hW0⟩ : ∃ W0, Hid ((w.alloc (.cells cl 23)).alloc (.cells zd 43) = W0) := ⟨_, rfl⟩
  have HB0 : Hid (Below w.heap.size w W0) := by
    rw [← hW0.out]
    exact ((Below.refl _ w).alloc (Nat.le_refl _) _).alloc (by simp) _
  have HS0 : Hid (W0.heap.size = w.heap.size + 2) := by rw [← hW0.out]; refine hid ?_; simp
  have H1 : Hid (W0.heap[w.heap.size]? = some (.cells cl 23 (0, 0))) := by
    rw [← hW0.out]
    refine hid ?_
    rw [heap_alloc_old _ _ (by simp)]
    exact heap_alloc_new w _
  have H3 : Hid (W0.heap[w.heap.size + 1]? = some (.cells zd 43 (0, 0))) := by
    rw [← hW0.out, ← e3]
    exact heap_alloc_new _ _
  rw [hW0.out]
  simp only [Act.put, List.setIfInBounds_toArray, List.set_cons_zero, List.set_cons_succ]
  refine wp_region_any (by kernel_rfl) ?_
  change wpAny _ _ _ _ _ _ _ (World.drew _)
  refine wpAny_take (i := 0) (v := ?_) rfl (by kernel_rfl) (by kernel_rfl) (by kernel_rfl) (fun _ _ _ h => h) (Or.inl ⟨by rfl, ?q0⟩) ?_
  case q0 => intro w; go_simp; rfl
  refine wpAny_take (i := 1) (v := ?_) rfl (by kernel_rfl) (by kernel_rfl) (by kernel_rfl) (fun _ _ _ h => h) (Or.inl ⟨by rfl, ?q1⟩) ?_
  case q1 => intro w; go_simp; rfl
  refine wpAny_take (i := 2) (v := .int .u64 (s : Int)) rfl (by kernel_rfl) (by kernel_rfl) (by kernel_rfl) (fun _ _ _ h => h) (Or.inl ⟨by rfl, ?q2⟩) ?_
  case q2 => intro w; go_simp; rw [IntKind.wrap_u64]; omega
  have CB : Hid (∀ W : World, Calls Tryd.prog 41 #[.int .u64 (s : Int), .int .i64 4] W fun e W' => ∃ v', e = .returned v' ∧ W'.ownsRow W.heap.size 5 1 v' 4 ((bigL 4 s).map (Value.int .u8)) ∧ Below W.heap.size W W') := hid fun W => rbig5_any W s 4 (by omega) (by omega)
  refine wpAny_ready (rs := [3]) (by kernel_rfl) (by simp) ?_
  refine AllReady.cons rfl (fun K hK => ?_) AllReady.nil
  go_simp
  refine (CB.out _).mono ?_
  rintro e w1 ⟨v1, rfl, ho1, hB1⟩
  obtain ⟨p1, c1, rfl⟩ := own_slc ho1
  have HB1 := hid (HB.of_own (l := bigL 4 s) (by rw [bigL_length]; exact ho1) (bigL_byt 4 s))
  have BL1 : Hid (Below W0.heap.size W0 w1) := hid (((Below.refl W0.heap.size W0).drew).trans hB1)
  clear ho1 hB1
  refine hK _ _ ?_
  clear hK
  refine wpAny_ready (rs := [4]) (by kernel_rfl) (by simp) ?_
  refine AllReady.cons rfl (fun K hK => ?_) AllReady.nil
  go_simp
  obtain ⟨W4, hW4⟩ : ∃ W4, Hid (w1.alloc (.cells #[.slice (some ⟨w.heap.size, 0, none⟩) 16 16, .slice p1 4 c1] 47) = W4) := ⟨_, rfl⟩
  have HB4 : Hid (Below w1.heap.size w1 W4) := by rw [← hW4.out]; exact (Below.refl _ w1).alloc (Nat.le_refl _) _
  have hs1 := BL1.out.size
  have hs2 := HS0.out
  have HLv : Hid (HL W4 (.slice (some ⟨w1.heap.size, 0, none⟩) 2 2) [x, bigL 4 s]) := by
    refine hid ⟨_, 2, rfl, by simp, by unfold maxLen; omega, (fun e => by cases e), fun _ => ⟨w1.heap.size, 0, rfl, fun j hj => ?_⟩⟩
    have h4 : W4.heap[w1.heap.size]? = some (.cells #[.slice (some ⟨w.heap.size, 0, none⟩) 16 16, .slice p1 4 c1] 47 (0, 0)) := by rw [← hW4.out]; exact heap_alloc_new w1 _
    have hj2 : j = 0 ∨ j = 1 := by simp at hj; omega
    rcases hj2 with rfl | rfl
    · refine ⟨_, by rw [cell_of_row W4 _ (0 + 0) _ _ _ h4]; rfl, ⟨⟨some ⟨w.heap.size, 0, none⟩, 16, by rw [List.getD_cons_zero, hx.1]; rfl, by rw [List.getD_cons_zero, hx.1]; omega, by unfold maxLen; omega, (fun e => by cases e), fun _ => ⟨w.heap.size, 0, rfl, fun i hi => ?_⟩⟩, hx.2⟩⟩
      have h5 : W4.heap[w.heap.size]? = some (.cells (cellsB x) 23 (0, 0)) := by rw [HB4.out.block _ (by omega), BL1.out.block _ (by omega), H1.out, HCL.out]
      have hi' : i < x.length := hi
      rw [cell_of_row W4 _ (0 + i) _ _ _ h5]
      simp [cellsB, List.getD, List.getElem?_eq_getElem hi']
    · exact ⟨_, by rw [cell_of_row W4 _ (0 + 1) _ _ _ h4]; rfl, HB1.out.below HB4.out⟩
  have CD := hid (rdigest_ring W4 _ [x, bigL 4 s] HLv.out (fun w' hb => rfits_ring w' _ x _ (HLv.out.below hb) hx.1 (bigL_length 4 s)) (by simp [hx.1, bigL_length]) (fun q hq => by
    rcases List.mem_cons.1 hq with rfl | hq
    · exact hx.2
    · have : q = bigL 4 s := by simpa using hq
      rw [this]; exact bigL_byt 4 s))
  rw [framed_ring x s hx.1] at CD
  refine hK _ _ ?_
  rw [hW4.out]
  clear hK
  refine wpAny_ready (rs := [5]) (by kernel_rfl) (by simp) ?_
  refine AllReady.cons rfl (fun K hK => ?_) AllReady.nil
  go_simp
  refine CD.out.mono ?_
  rintro e w5 ⟨rfl, hB5⟩
  obtain ⟨dm, HD⟩ : ∃ dm, Hid (cellsB (digL (rgB x s)) = dm) := ⟨_, rfl⟩
  have hds : dm.size = 32 := by rw [← HD.out]; simp [cellsB, digL_length]
  have SD : Hid ((Tryd.prog.info? 43).map (·.size) = some dm.size) := by rw [hds]; exact size_digest
  have OD : Hid (dm.all (·.oneCell') = true) := by rw [← HD.out]; exact cellsB_one _
  have ZD : Hid (zd.size = dm.size) := by rw [hds, ← HZD.out]; rfl
  have hs4 := HB4.out.size
  have HR5 : Hid (w5.heap[w.heap.size + 1]? = some (.cells zd 43 (0, 0))) := by
    refine hid ?_
    show w5.heap[w.heap.size + 1]? = _
    rw [hB5.block _ (by omega), HB4.out.block _ (by omega), BL1.out.block _ (by omega)]
    exact H3.out
  have BL5 : Hid (Below w.heap.size w w5) := (((HB0.out.trans (BL1.out.mono (by omega))).trans (HB4.out.mono (by omega))).trans (hB5.mono (by omega)))
  have HBF := hid (below_setRow BL5.out (g := w.heap.size + 1) (by omega) dm)
  rw [HD.out]
  clear hB5 hds CD
  refine hK _ _ ?_
  clear hK
  refine wpAny_ready (rs := [6]) (by kernel_rfl) (by simp) ?_
  refine AllReady.cons rfl (fun K hK => ?_) AllReady.nil
  rw [if_pos (by rfl)]
  refine wp_store_row 43 _ _ rfl (w.heap.size + 1) dm rfl rfl 43 _ HR5.out SD.out ZD.out OD.out ?_
  refine hK _ _ ?_
  clear hK
  refine wpAny_done (by kernel_rfl) ?_ _
  go_wp2
  refine bodyPost_ret (v := .agg dm) (results_cell_row (p := 4) (ty := 43) rfl _ _ (w.heap.size + 1) 43 dm (0, 0) _ rfl (setRow_heap _ _ _ _ _ _ HR5.out) Tryd.underlying43 rfl SD.out) rfl ?_
  exact ⟨by rw [← HD.out]; rfl, HBF.out⟩
end Go.Proofs.YtjdfclbjmmmcfaaDoor
