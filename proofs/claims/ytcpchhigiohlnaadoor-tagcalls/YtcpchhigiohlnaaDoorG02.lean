/- Of the road to tagCallsUptoCard_holds: RefShaWords, RefShaConst, RefShaMix, ShaMsg, ShaSlice. -/
import Derived.Test.YtcpchhigiohlnaaDoorG01
import Derived.Deep.MidRow
import Derived.Lib.SlBuf
set_option linter.unusedVariables false
set_option linter.unusedSimpArgs false
set_option maxRecDepth 100000
set_option maxHeartbeats 16000000
namespace Go.Proofs.YtcpchhigiohlnaaDoor
open Go.RowKit
def partW (l : List Int) (I : Nat) : Nat -> Nat
 | 0 => 0
 | J + 1 => partW l I J * 256 + (l.getD (4 * I + J) 0).toNat
theorem partW_four (l : List Int) (I : Nat) : partW l I 4 = beW l I := by
 simp only [partW, beW, Nat.add_zero]
 omega
theorem partW_lt {l : List Int} (h : ∀ x ∈ l, 0 <= x /\ x < 256) (I : Nat) : ∀ J, partW l I J < 256 ^ J
 | 0 => by simp [partW]
 | J + 1 => by
  have h1 := partW_lt h I J
  have h2 := byte_nat h (4 * I + J)
  simp only [partW, Nat.pow_succ]
  omega
theorem curWs_zero (l : List Int) (I : Nat) (hI : I < 64) : (curWs l I).set I 0 = curWs l I := by
 unfold curWs
 have hl : (wordsTo l I).length = I := wordsTo_length l I
 rw [List.set_append_right _ _ (by omega), hl, Nat.sub_self, show 64 - I = (63 - I) + 1 by omega, List.replicate_succ, List.set_cons_zero]
theorem rwords_any (w : World) (l : List Int) (hl : l.length = 64) (hby : ∀ x ∈ l, 0 <= x /\ x < 256) :
  Calls Tryd.prog 63 #[.agg (cellsB l)] w fun e w' => e = .returned (.agg (cellsW (wordsTo l 64))) /\ Below w.heap.size w w' := by
 obtain ⟨z, HZ⟩ : ∃ z, Hid (cellsW (zerosW 64) = z) := ⟨_, rfl⟩
 have hz := zero_w64
 rw [HZ.out] at hz
 have HZ0 := hid hz
 obtain ⟨bl, HBL⟩ : ∃ bl, Hid (cellsB l = bl) := ⟨_, rfl⟩
 rw [HBL.out]
 clear hz
 go_enter Tryd.func63, Tryd.ntmps63
 go_wp2_with (refine wpList_alloc_agg HZ0.out rfl rfl ?_)
 obtain ⟨W0, hW0⟩ : ∃ W0, Hid (((w.alloc (.cells bl 71)).alloc (.cells z 95)).alloc (.cells z 95) = W0) := ⟨_, rfl⟩
 rw [hW0.out]
 have HB0 : Hid (Below w.heap.size w W0) := by rw [<- hW0.out]; exact (((Below.refl _ w).alloc (Nat.le_refl _) _).alloc (by simp) _).alloc (by simp; omega) _
 have HS0 : Hid (W0.heap.size = w.heap.size + 3) := by rw [<- hW0.out]; show _ = _; simp
 have H0 : Hid (W0.heap[w.heap.size]? = some (.cells bl 71 (0, 0))) := by
  rw [<- hW0.out]
  exact (Below.heap_alloc _ _ _ (by simp; omega)).trans ((Below.heap_alloc _ _ _ (by simp)).trans (heap_alloc_new w _))
 have H1 : Hid (W0.heap[w.heap.size + 1]? = some (.cells z 95 (0, 0))) := by
  rw [<- hW0.out]
  refine (Below.heap_alloc _ _ _ (by simp)).trans ?_
  have := heap_alloc_new (w.alloc (.cells bl 71)) (.cells z 95)
  rwa [World.size_alloc] at this
 have H2 : Hid (W0.heap[w.heap.size + 2]? = some (.cells (cellsW (curWs l 0)) 95 (0, 0))) := by
  have := heap_alloc_new ((w.alloc (.cells bl 71)).alloc (.cells z 95)) (.cells z 95)
  rw [World.size_alloc, World.size_alloc, hW0.out, <- HZ.out] at this
  exact this
 clear hW0
 go_loopw [4] (fun i wr => ∃ I : Nat, I <= 16 /\ i = .int .i64 I /\ Hid (wr.heap[w.heap.size + 2]? = some (.cells (cellsW (curWs l I)) 95 (0, 0))) /\ Hid (W0.grownBy wr (some (w.heap.size + 2)))) (fun i _ => 16 - (intOf i).toNat)
 case atStart => exact ⟨0, Nat.zero_le _, rfl, H2, ⟨rfl, rfl, rfl, Nat.le_refl _, fun _ _ _ => rfl⟩⟩
 case round =>
  obtain ⟨I, hI, rfl, HF, HG⟩ := hrel
  obtain ⟨wo, rfl⟩ : ∃ wo, wo = wr := ⟨_, rfl⟩
  by_cases hlt : I < 16
  ·have HF0 : Hid (wo.heap[w.heap.size + 2]? = some (.cells (cellsW ((curWs l I).set I (partW l I 0))) 95 (0, 0))) := by
    rw [show partW l I 0 = 0 from rfl, curWs_zero l I (by omega)]
    exact HF
   go_wp2
   go_loopw [5] (fun i wq => ∃ J : Nat, J <= 4 /\ i = .int .i64 J /\ Hid (wq.heap[w.heap.size + 2]? = some (.cells (cellsW ((curWs l I).set I (partW l I J))) 95 (0, 0))) /\ Hid (W0.grownBy wq (some (w.heap.size + 2)))) (fun i _ => 4 - (intOf i).toNat)
   case atStart => exact ⟨0, Nat.zero_le _, rfl, HF0, HG⟩
   case round =>
    clear HF HG HF0
    obtain ⟨J, hJ, rfl, HF, HG⟩ := hrel
    by_cases hlj : J < 4
    ·have hb := (HG.out.block w.heap.size (by rw [HS0.out]; omega) (by simp)).trans H0.out
     have hlj2 : 4 * I + J < l.length := by omega
     obtain ⟨a, HA⟩ : ∃ a, Hid ((l.getD (4 * I + J) 0).toNat = a) := ⟨_, rfl⟩
     have ha : a < 256 := by rw [<- HA.out]; exact byte_nat hby _
     have ca : wr.cell? ⟨w.heap.size, 4 * I + J, none⟩ = some (.int .u8 (a : Int)) := by
      rw [cell_of_row wr w.heap.size _ _ _ _ hb, <- HBL.out, <- HA.out]
      have := hby _ (List.getElem_mem hlj2)
      simp only [cellsB, List.getElem?_toArray, List.getElem?_map, List.getElem?_eq_getElem hlj2, Option.map_some, getD_of_lt hlj2]
      congr 2
      omega
     obtain ⟨x, HX⟩ : ∃ x, Hid (partW l I J = x) := ⟨_, rfl⟩
     have hx : x < 16777216 := by
      rw [<- HX.out]
      exact Nat.lt_of_lt_of_le (partW_lt hby I J) (Nat.pow_le_pow_right (by decide) (show J <= 3 by omega))
     rw [HX.out] at HF
     have HN : Hid (partW l I (J + 1) = x * 256 + a) := by show _ = _; simp only [partW]; rw [HX.out, HA.out]
     have hcx : wr.cell? ⟨w.heap.size + 2, I, none⟩ = some (.int .u32 (x : Int)) := by
      rw [cell_of_row wr (w.heap.size + 2) I _ _ _ HF.out, cellsW_get (by rw [List.length_set, curWs_length l I (by omega)]; omega)]
      simp [List.getD, curWs_length l I (show I <= 64 by omega), show I < 64 by omega]
     have hfz : wr.frozen? ⟨w.heap.size + 2, I, none⟩ = false := by simp [World.frozen?, HF.out]
     clear hb
     go_wp2
     go_region
     all_goals go_wp2
     refine ⟨⟨J + 1, by omega, by go_num, ?_, grown_tr HG.out (grown_setd _ _ _ _)⟩, by simp [intOf]; omega⟩
     show _ = _
     rw [HN.out, <- List.set_set (a := x), <- cellsW_set _ I (x * 256 + a)]
     rw [show ((x * 256 + a : Nat) : Int) = (x : Int) * 256 + (a : Int) by omega]
     exact heap_setCell_same _ (w.heap.size + 2) I _ _ _ HF.out
    ·have hJ4 : J = 4 := by omega
     subst hJ4
     have HST : Hid ((curWs l I).set I (partW l I 4) = curWs l (I + 1)) := by
      show _ = _
      rw [partW_four, <- curWs_step l I (by omega)]
      unfold nextW
      rw [if_pos hlt]
     rw [HST.out] at HF
     go_wp2
     exact ⟨⟨I + 1, by omega, by go_num, HF, HG⟩, by simp [intOf]; omega⟩
  ·have hI16 : I = 16 := by omega
   rw [hI16] at HF
   clear hI16
   go_wp2
   clear hlt
   go_loopw [6] (fun i wq => ∃ I : Nat, 16 <= I /\ I <= 64 /\ i = .int .i64 I /\ Hid (wq.heap[w.heap.size + 2]? = some (.cells (cellsW (curWs l I)) 95 (0, 0))) /\ Hid (W0.grownBy wq (some (w.heap.size + 2)))) (fun i _ => 64 - (intOf i).toNat)
   case atStart => exact ⟨16, Nat.le_refl _, by decide, rfl, HF, HG⟩
   case round =>
    clear HF HG hI
    obtain ⟨I, hI16, hI, rfl, HF, HG⟩ := hrel
    by_cases hlt : I < 64
    ·have cell : ∀ j, j < I -> ∃ a : Nat, a < 4294967296 /\ wr.cell? ⟨w.heap.size + 2, j, none⟩ = some (.int .u32 (a : Int)) /\ (wordsTo l I).getD j 0 = a := fun j hj => by
      refine ⟨_, getW_lt (wordsTo_lt hby I) j, ?_, rfl⟩
      rw [cell_of_row wr (w.heap.size + 2) j _ _ _ HF.out, cellsW_get (by rw [curWs_length l I hI]; omega), curWs_get l I j hj]
     obtain ⟨a2, ha2, c2, e2⟩ := cell (I - 2) (by omega)
     obtain ⟨a7, ha7, c7, e7⟩ := cell (I - 7) (by omega)
     obtain ⟨a15, ha15, c15, e15⟩ := cell (I - 15) (by omega)
     obtain ⟨a16, ha16, c16, e16⟩ := cell (I - 16) (by omega)
     have HV : Hid (nextW l (wordsTo l I) I = add32 (add32 (add32 (sig1 a2) a7) (sig0 a15)) a16) := by
      show _ = _
      unfold nextW
      rw [if_neg (by omega), e2, e7, e15, e16]
     have hci : wr.cell? ⟨w.heap.size + 2, I, none⟩ = some (.int .u32 (((curWs l I).getD I 0 : Nat) : Int)) := by
      rw [cell_of_row wr (w.heap.size + 2) I _ _ _ HF.out]
      exact cellsW_get (by rw [curWs_length l I (by omega)]; omega)
     obtain ⟨old, HOLD⟩ : ∃ old, Hid ((curWs l I).getD I 0 = old) := ⟨_, rfl⟩
     rw [HOLD.out] at hci
     have hfz : wr.frozen? ⟨w.heap.size + 2, I, none⟩ = false := by simp [World.frozen?, HF.out]
     have n2 : ((I : Int) - 2) = ((I - 2 : Nat) : Int) := by omega
     have n7 : ((I : Int) - 7) = ((I - 7 : Nat) : Int) := by omega
     have n15 : ((I : Int) - 15) = ((I - 15 : Nat) : Int) := by omega
     have n16 : ((I : Int) - 16) = ((I - 16 : Nat) : Int) := by omega
     clear cell e2 e7 e15 e16
     have HS0 := hid (sig0_bits a15 ha15)
     have HS1 := hid (sig1_bits a2 ha2)
     go_wp2_with fail
     refine (rturn_7 _ a15 ha15).mono ?_
     rintro e w' ⟨rfl, hw⟩
     subst hw
     go_wp2_with fail
     refine (rturn_18 _ a15 ha15).mono ?_
     rintro e w' ⟨rfl, hw⟩
     subst hw
     go_wp2_with fail
     rw [HS0.out]
     refine (rturn_17 _ a2 ha2).mono ?_
     rintro e w' ⟨rfl, hw⟩
     subst hw
     go_wp2_with fail
     refine (rturn_19 _ a2 ha2).mono ?_
     rintro e w' ⟨rfl, hw⟩
     subst hw
     go_wp2_with fail
     rw [HS1.out]
     go_region
     all_goals go_wp2
     have HADD : Hid ((((sig1 a2 : Nat) : Int) + (a7 : Int) + ((sig0 a15 : Nat) : Int) + (a16 : Int)) % 4294967296 = ((add32 (add32 (add32 (sig1 a2) a7) (sig0 a15)) a16 : Nat) : Int)) := by
      show _ = _
      unfold add32
      omega
     refine ⟨⟨I + 1, by omega, by omega, by go_num, ?_, grown_tr HG.out (grown_setd _ _ _ _)⟩, by simp [intOf]; omega⟩
     show _ = _
     rw [<- curWs_step l I (by omega), HV.out, <- cellsW_set, HADD.out]
     exact heap_setCell_same _ (w.heap.size + 2) I _ _ _ HF.out
    ·have hI64 : I = 64 := by omega
     subst hI64
     have HWW : Hid (curWs l 64 = wordsTo l 64) := by show _ = _; simp [curWs]
     rw [HWW.out] at HF
     obtain ⟨y, HY⟩ : ∃ y, Hid (cellsW (wordsTo l 64) = y) := ⟨_, rfl⟩
     rw [HY.out] at HF
     have hys : y.size = 64 := by rw [<- HY.out, cellsW_size, wordsTo_length]
     have HIy : Hid ((Tryd.prog.info? 95).map (·.size) = some y.size) := by rw [hys]; exact size_w64
     have H1y : Hid (y.all (·.oneCell') = true) := by rw [<- HY.out]; exact cellsW_one _
     have HF1c : Hid (wr.heap[w.heap.size + 1]? = some (.cells z 95 (0, 0))) := by
      rw [HG.out.block (w.heap.size + 1) (by rw [HS0.out]; omega) (by simp)]
      exact H1
     have HZY : Hid (z.size = y.size) := by rw [hys, <- HZ.out, cellsW_size, zerosW_length]; exact rfl
     have HB1 := hid (below_setRow (HB0.out.grown HG.out (by rw [HS0.out]; omega) (fun k e => by cases e; omega)) (g := w.heap.size + 1) (by omega) y)
     clear hys hlt
     go_wp2_with (first | (refine wpList_load_row rfl 95 _ rfl (w.heap.size + 2) rfl 95 y (0, 0) _ HF.out Tryd.underlying95 rfl HIy.out ?_) | (refine wpList_store_row rfl 95 _ _ rfl (w.heap.size + 1) y rfl rfl 95 _ HF1c.out HIy.out HZY.out H1y.out ?_))
     refine bodyPost_ret (v := .agg y) (results_cell_row (p := 2) (ty := 95) rfl _ _ (w.heap.size + 1) 95 y (0, 0) _ rfl (setRow_heap _ _ _ _ _ _ HF1c.out) Tryd.underlying95 rfl HIy.out) rfl ?_
     rw [HY.out]
     exact ⟨rfl, HB1.out⟩
theorem rinitial_any (w : World) : Calls Tryd.prog 33 #[] w fun e w' => e = .returned (.agg (cellsW iv)) /\ Below w.heap.size w w' := by
 obtain ⟨z8, HZ8⟩ : ∃ z8, Hid (cellsW (zerosW 8) = z8) := ⟨_, rfl⟩
 have hz8 := zero_w8
 rw [HZ8.out] at hz8
 have HZ1 := hid hz8
 have HIm : Hid ((Tryd.prog.info? 69).map (·.size) = some (cellsW iv).size) := size_w8
 have H1m : Hid ((cellsW iv).all (·.oneCell') = true) := cellsW_one _
 have HZM : Hid (z8.size = (cellsW iv).size) := by rw [<- HZ8.out, cellsW_size, zerosW_length]; exact rfl
 have HR : Hid ((w.alloc (.cells z8 69)).heap[w.heap.size]? = some (.cells z8 69 (0, 0))) := heap_alloc_new w _
 have HB := hid (below_setRow ((Below.refl _ w).alloc (Nat.le_refl _) (.cells z8 69)) (g := w.heap.size) (Nat.le_refl _) (cellsW iv))
 clear hz8
 go_enter Tryd.func33, Tryd.ntmps33
 go_wp2_with (first | (refine wpList_alloc_agg HZ1.out rfl rfl ?_) | (refine wpList_store_row rfl 69 _ _ rfl w.heap.size (cellsW iv) rfl rfl 69 _ HR.out HIm.out HZM.out H1m.out ?_))
 refine bodyPost_ret (v := .agg (cellsW iv)) (results_cell_row (p := 0) (ty := 69) rfl _ _ w.heap.size 69 (cellsW iv) (0, 0) _ rfl (setRow_heap _ _ _ _ _ _ HR.out) Tryd.underlying69 rfl HIm.out) rfl ?_
 exact ⟨rfl, HB.out⟩
theorem rconst_any (w : World) : Calls Tryd.prog 64 #[] w fun e w' => e = .returned (.agg (cellsW kW)) /\ Below w.heap.size w w' := by
 obtain ⟨z8, HZ8⟩ : ∃ z8, Hid (cellsW (zerosW 64) = z8) := ⟨_, rfl⟩
 have hz8 := zero_w64
 rw [HZ8.out] at hz8
 have HZ1 := hid hz8
 have HIm : Hid ((Tryd.prog.info? 95).map (·.size) = some (cellsW kW).size) := size_w64
 have H1m : Hid ((cellsW kW).all (·.oneCell') = true) := cellsW_one _
 have HZM : Hid (z8.size = (cellsW kW).size) := by rw [<- HZ8.out, cellsW_size, zerosW_length]; exact rfl
 have HR : Hid ((w.alloc (.cells z8 95)).heap[w.heap.size]? = some (.cells z8 95 (0, 0))) := heap_alloc_new w _
 have HB := hid (below_setRow ((Below.refl _ w).alloc (Nat.le_refl _) (.cells z8 95)) (g := w.heap.size) (Nat.le_refl _) (cellsW kW))
 clear hz8
 go_enter Tryd.func64, Tryd.ntmps64
 go_wp2_with (first | (refine wpList_alloc_agg HZ1.out rfl rfl ?_) | (refine wpList_store_row rfl 95 _ _ rfl w.heap.size (cellsW kW) rfl rfl 95 _ HR.out HIm.out HZM.out H1m.out ?_))
 refine bodyPost_ret (v := .agg (cellsW kW)) (results_cell_row (p := 0) (ty := 95) rfl _ _ w.heap.size 95 (cellsW kW) (0, 0) _ rfl (setRow_heap _ _ _ _ _ _ HR.out) Tryd.underlying95 rfl HIm.out) rfl ?_
 exact ⟨rfl, HB.out⟩
theorem rturn_i (w : World) (x : Nat) (i : Int) (hx : x < 4294967296) (hi : i = 6 \/ i = 11 \/ i = 25 \/ i = 2 \/ i = 13 \/ i = 22) : Calls Tryd.prog 65 #[.int .u32 (x : Int), .int .u64 i] w fun e w' => e = .returned (.int .u32 ((rot x i.toNat : Nat) : Int)) /\ w' = w := by
 rcases hi with rfl | rfl | rfl | rfl | rfl | rfl
 ·exact rturn_6 w x hx
 ·exact rturn_11 w x hx
 ·exact rturn_25 w x hx
 ·exact rturn_2 w x hx
 ·exact rturn_13 w x hx
 ·exact rturn_22 w x hx
theorem grown_setRow2 (w : World) (g : Nat) (cs : Array Value) : w.grownBy (w.setRow g cs) (some g) :=
 ⟨rfl, rfl, rfl, by simp [World.setRow], fun i _ hne => by
  have h1 : g ≠ i := fun e => hne (by rw [e])
  simp [World.setRow, Array.getElem?_modify, h1]⟩
theorem rnd_open {k x a b c d e f g h : Nat} : rnd k x [a, b, c, d, e, f, g, h] = [((h + bs1 e + chW e f g + k + x) % 4294967296 + (bs0 a + majW a b c) % 4294967296) % 4294967296, a, b, c, (d + (h + bs1 e + chW e f g + k + x) % 4294967296) % 4294967296, e, f, g] := rfl
theorem rmix_core (w : World) (hs ws : List Nat) (l : List Int) (h8 : W8 hs) (hl : l.length = 64) (hwl : ws.length = 64) (hwb : ∀ x ∈ ws, x < 4294967296)
  (hS : ∀ W, Calls Tryd.prog 63 #[.agg (cellsB l)] W fun e w' => e = .returned (.agg (cellsW ws)) /\ Below W.heap.size W w') :
  Calls Tryd.prog 34 #[.agg (cellsW hs), .agg (cellsB l)] w fun e w' => e = .returned (.agg (cellsW (List.zipWith add32 hs (rnds hs ws 64)))) /\ Below w.heap.size w w' := by
 obtain ⟨z, HZ⟩ : ∃ z, Hid (cellsW (zerosW 64) = z) := ⟨_, rfl⟩
 obtain ⟨z8, HZ8⟩ : ∃ z8, Hid (cellsW (zerosW 8) = z8) := ⟨_, rfl⟩
 have hz := zero_w64
 rw [HZ.out] at hz
 have HZ0 := hid hz
 have hz8 := zero_w8
 rw [HZ8.out] at hz8
 have HZ1 := hid hz8
 obtain ⟨bl, HBL⟩ : ∃ bl, Hid (cellsB l = bl) := ⟨_, rfl⟩
 obtain ⟨hw, HHW⟩ : ∃ hw, Hid (cellsW hs = hw) := ⟨_, rfl⟩
 obtain ⟨kc, HKC⟩ : ∃ kc, Hid (cellsW kW = kc) := ⟨_, rfl⟩
 rw [HBL.out, HHW.out]
 have HWB := hid hwb
 clear hz hz8 hwb
 obtain ⟨W0, hW0⟩ : ∃ W0, Hid (((w.alloc (.cells hw 69)).alloc (.cells bl 71)).alloc (.cells z8 69) = W0) := ⟨_, rfl⟩
 have HB0 : Hid (Below w.heap.size w W0) := by rw [<- hW0.out]; exact (((Below.refl _ w).alloc (Nat.le_refl _) _).alloc (by simp) _).alloc (by simp; omega) _
 have hS0 : W0.heap.size = w.heap.size + 3 := by rw [<- hW0.out]; simp
 have H0 : Hid (W0.heap[w.heap.size]? = some (.cells hw 69 (0, 0))) := by
  rw [<- hW0.out]
  exact (Below.heap_alloc _ _ _ (by simp; omega)).trans ((Below.heap_alloc _ _ _ (by simp)).trans (heap_alloc_new w _))
 have H1 : Hid (W0.heap[w.heap.size + 1]? = some (.cells bl 71 (0, 0))) := by
  rw [<- hW0.out]
  refine (Below.heap_alloc _ _ _ (by simp)).trans ?_
  have := heap_alloc_new (w.alloc (.cells hw 69)) (.cells bl 71)
  rwa [World.size_alloc] at this
 have H2 : Hid (W0.heap[w.heap.size + 2]? = some (.cells z8 69 (0, 0))) := by
  have := heap_alloc_new ((w.alloc (.cells hw 69)).alloc (.cells bl 71)) (.cells z8 69)
  rw [World.size_alloc, World.size_alloc, hW0.out] at this
  exact this
 have hbs : bl.size = 64 := by rw [<- HBL.out, cellsB_size, hl]
 have HIb : Hid ((Tryd.prog.info? 71).map (·.size) = some bl.size) := by rw [hbs]; exact size_b64
 have CS := hS W0
 clear hS
 rw [HBL.out] at CS
 obtain ⟨y, HY⟩ : ∃ y, Hid (cellsW ws = y) := ⟨_, rfl⟩
 rw [HY.out] at CS
 have C1 := hid CS
 have hys : y.size = 64 := by rw [<- HY.out, cellsW_size, hwl]
 have HIy : Hid ((Tryd.prog.info? 95).map (·.size) = some y.size) := by rw [hys]; exact size_w64
 have H1y : Hid (y.all (·.oneCell') = true) := by rw [<- HY.out]; exact cellsW_one _
 have HZY : Hid (z.size = y.size) := by rw [hys, <- HZ.out, cellsW_size, zerosW_length]; exact rfl
 have hks : kc.size = 64 := by rw [<- HKC.out, cellsW_size]; rfl
 have HIk : Hid ((Tryd.prog.info? 95).map (·.size) = some kc.size) := by rw [hks]; exact size_w64
 have H1k : Hid (kc.all (·.oneCell') = true) := by rw [<- HKC.out]; exact cellsW_one _
 have HZK : Hid (z.size = kc.size) := by rw [hks, <- HZ.out, cellsW_size, zerosW_length]; exact rfl
 have hhs : hw.size = 8 := by rw [<- HHW.out, cellsW_size, h8.1]
 have HIh : Hid ((Tryd.prog.info? 69).map (·.size) = some hw.size) := by rw [hhs]; exact size_w8
 have H1h : Hid (hw.all (·.oneCell') = true) := by rw [<- HHW.out]; exact cellsW_one _
 have HZH : Hid (z8.size = hw.size) := by rw [hhs, <- HZ8.out, cellsW_size, zerosW_length]; exact rfl
 clear CS hbs hys hks hhs
 go_enter Tryd.func34, Tryd.ntmps34
 go_wp2_with (first | (refine wpList_alloc_agg HZ1.out rfl rfl ?_; rw [hW0.out]) | refine wpList_load_row rfl 71 _ rfl (w.heap.size + 1) rfl 71 bl (0, 0) _ H1.out Tryd.underlying71 rfl HIb.out ?_)
 refine C1.out.mono ?_
 rintro e w1 ⟨rfl, hB1⟩
 have HF1 : Hid ((w1.alloc (.cells z 95)).heap[w1.heap.size]? = some (.cells z 95 (0, 0))) := heap_alloc_new w1 _
 have HB1 := hid hB1
 have hs1 := hB1.size
 clear hB1 C1
 obtain ⟨W2, hW2⟩ : ∃ W2, Hid ((w1.alloc (.cells z 95)).setRow w1.heap.size y = W2) := ⟨_, rfl⟩
 have HB2 : Hid (Below W0.heap.size W0 W2) := by
  rw [<- hW2.out]
  exact below_setRow (HB1.out.alloc hs1 _) hs1 y
 have HY2 : Hid (W2.heap[w1.heap.size]? = some (.cells y 95 (0, 0))) := by
  rw [<- hW2.out]
  exact setRow_heap _ _ _ _ _ _ HF1.out
 have hS2 : W2.heap.size = w1.heap.size + 1 := by rw [<- hW2.out]; simp [World.setRow]
 have CK := hid (rconst_any W2)
 rw [HKC.out] at CK
 go_wp2_with (first | (refine wpList_alloc_agg HZ0.out rfl rfl ?_) | (refine wpList_store_row rfl 95 _ _ rfl w1.heap.size y rfl rfl 95 _ HF1.out HIy.out HZY.out H1y.out ?_; rw [hW2.out]))
 refine CK.out.mono ?_
 rintro e w3 ⟨rfl, hB3⟩
 have hs3 := hB3.size
 have HB3 : Hid (Below W0.heap.size W0 w3) := HB2.out.trans (hB3.mono HB2.out.size)
 have HY3 : Hid (w3.heap[w1.heap.size]? = some (.cells y 95 (0, 0))) := (hB3.block _ (by omega)).trans HY2.out
 have HF3 : Hid ((w3.alloc (.cells z 95)).heap[w3.heap.size]? = some (.cells z 95 (0, 0))) := heap_alloc_new w3 _
 obtain ⟨W4, hW4⟩ : ∃ W4, Hid ((w3.alloc (.cells z 95)).setRow w3.heap.size kc = W4) := ⟨_, rfl⟩
 have HB34 : Hid (Below w3.heap.size w3 W4) := by rw [<- hW4.out]; exact below_setRow ((Below.refl _ w3).alloc (Nat.le_refl _) _) (Nat.le_refl _) kc
 have HB4 : Hid (Below W0.heap.size W0 W4) := HB3.out.trans (HB34.out.mono HB3.out.size)
 have HK4 : Hid (W4.heap[w3.heap.size]? = some (.cells kc 95 (0, 0))) := by rw [<- hW4.out]; exact setRow_heap _ _ _ _ _ _ HF3.out
 have HY4 : Hid (W4.heap[w1.heap.size]? = some (.cells y 95 (0, 0))) := (HB34.out.block _ (by omega)).trans HY3.out
 have hS4 : W4.heap.size = w3.heap.size + 1 := by rw [<- hW4.out]; simp [World.setRow]
 have HH4 : Hid (W4.heap[w.heap.size]? = some (.cells hw 69 (0, 0))) := (HB4.out.block w.heap.size (by omega)).trans H0.out
 have HR4 : Hid (W4.heap[w.heap.size + 2]? = some (.cells z8 69 (0, 0))) := (HB4.out.block (w.heap.size + 2) (by omega)).trans H2.out
 have HF5 : Hid ((W4.alloc (.cells z8 69)).heap[W4.heap.size]? = some (.cells z8 69 (0, 0))) := heap_alloc_new W4 _
 obtain ⟨W6, hW6⟩ : ∃ W6, Hid ((W4.alloc (.cells z8 69)).setRow W4.heap.size hw = W6) := ⟨_, rfl⟩
 have HB46 : Hid (Below W4.heap.size W4 W6) := by rw [<- hW6.out]; exact below_setRow ((Below.refl _ W4).alloc (Nat.le_refl _) _) (Nat.le_refl _) hw
 have HS6 : Hid (W6.heap[W4.heap.size]? = some (.cells (cellsW (rnds hs ws 0)) 69 (0, 0))) := by
  rw [<- hW6.out, show cellsW (rnds hs ws 0) = hw from HHW.out]
  exact setRow_heap _ _ _ _ _ _ HF5.out
 have hS6 : W6.heap.size = W4.heap.size + 1 := by rw [<- hW6.out]; simp [World.setRow]
 clear hB3 CK hW2 HF1
 go_wp2_with (first | (refine wpList_alloc_agg HZ0.out rfl rfl ?_) | (refine wpList_alloc_agg HZ1.out rfl rfl ?_) | (refine wpList_store_row rfl 95 _ _ rfl w3.heap.size kc rfl rfl 95 _ HF3.out HIk.out HZK.out H1k.out ?_; rw [hW4.out]) | (refine wpList_load_row rfl 69 _ rfl w.heap.size rfl 69 hw (0, 0) _ HH4.out Tryd.underlying69 rfl HIh.out ?_) | (refine wpList_store_row rfl 69 _ _ rfl W4.heap.size hw rfl rfl 69 _ HF5.out HIh.out HZH.out H1h.out ?_; rw [hW6.out]))
 clear hW4 hW6 HF3 HF5
 rw [hS4] at HS6 hS6 HB46
 have HH6 : Hid (W6.heap[w.heap.size]? = some (.cells hw 69 (0, 0))) := (HB46.out.block _ (by omega)).trans HH4.out
 have HR6 : Hid (W6.heap[w.heap.size + 2]? = some (.cells z8 69 (0, 0))) := (HB46.out.block _ (by omega)).trans HR4.out
 have HY6 : Hid (W6.heap[w1.heap.size]? = some (.cells y 95 (0, 0))) := (HB46.out.block _ (by omega)).trans HY4.out
 have HK6 : Hid (W6.heap[w3.heap.size]? = some (.cells kc 95 (0, 0))) := (HB46.out.block _ (by omega)).trans HK4.out
 have HB6 : Hid (Below w.heap.size w W6) := HB0.out.trans ((HB4.out.trans (HB46.out.mono (by omega))).mono (by omega))
 have H8 := hid h8
 clear h8 HH4 HR4 HY4 HK4 H0 H1 H2 HIb HB34 HB4 HB3 HY3 HY2 HB2 HB1
 go_loopw [8] (fun i wr => ∃ t : Nat, t <= 64 /\ i = .int .i64 t /\ Hid (wr.heap[w3.heap.size + 1]? = some (.cells (cellsW (rnds hs ws t)) 69 (0, 0))) /\ Hid (W6.grownBy wr (some (w3.heap.size + 1)))) (fun i _ => 64 - (intOf i).toNat)
 case atStart => exact ⟨0, by decide, rfl, HS6, ⟨rfl, rfl, rfl, Nat.le_refl _, fun _ _ _ => rfl⟩⟩
 case round =>
  obtain ⟨t, ht, rfl, HF, HG⟩ := hrel
  obtain ⟨a, b, c, d, e, f, g, h, ers, ha, hb, hc, hd, he, hf, hg, hh⟩ := (W8.rnds (ws := ws) H8.out t).open
  have HRS := hid ers
  rw [ers] at HF
  clear ers
  by_cases hlt : t < 64
  ·obtain ⟨k, HK⟩ : ∃ k, Hid (kW.getD t 0 = k) := ⟨_, rfl⟩
   obtain ⟨x, HX⟩ : ∃ x, Hid (ws.getD t 0 = x) := ⟨_, rfl⟩
   have ck : wr.cell? ⟨w3.heap.size, t, none⟩ = some (.int .u32 (k : Int)) := by
    rw [cell_of_row wr w3.heap.size t _ _ _ ((HG.out.block w3.heap.size (by omega) (by simp)).trans HK6.out), <- HKC.out, cellsW_get (by rw [kW_length]; exact hlt), HK.out]
   have cx : wr.cell? ⟨w1.heap.size, t, none⟩ = some (.int .u32 (x : Int)) := by
    rw [cell_of_row wr w1.heap.size t _ _ _ ((HG.out.block w1.heap.size (by omega) (by simp; omega)).trans HY6.out), <- HY.out, cellsW_get (by rw [hwl]; exact hlt), HX.out]
   have hkl : k < 4294967296 := by rw [<- HK.out]; exact getW_lt kW_lt t
   have hxl : x < 4294967296 := by rw [<- HX.out]; exact getW_lt HWB.out t
   have cs : ∀ j, j < 8 -> wr.cell? ⟨w3.heap.size + 1, j, none⟩ = some (.int .u32 ((([a, b, c, d, e, f, g, h] : List Nat).getD j 0 : Nat) : Int)) := fun j hj => by
    rw [cell_of_row wr (w3.heap.size + 1) j _ _ _ HF.out]
    exact cellsW_get hj
   have s0 := cs 0 (by decide)
   have s1 := cs 1 (by decide)
   have s2 := cs 2 (by decide)
   have s3 := cs 3 (by decide)
   have s4 := cs 4 (by decide)
   have s5 := cs 5 (by decide)
   have s6 := cs 6 (by decide)
   have s7 := cs 7 (by decide)
   simp only [List.getD_cons_zero, List.getD_cons_succ] at s0 s1 s2 s3 s4 s5 s6 s7
   clear cs
   have B1 := hid (bs1_bits e he)
   have B0 := hid (bs0_bits a ha)
   have BC := hid (ch_bits e f g he hf hg)
   have BM := hid (maj_bits a b c ha hb hc)
   go_wp2
   go_quiet ((go_at_call 65; exact Calls.quiet_of_same (rturn_i _ _ _ (by assumption) (by decide))))
   rw [B1.out, BC.out]
   obtain ⟨u, HU⟩ : ∃ u : Nat, Hid ((((h : Int) + ((bs1 e : Nat) : Int) + ((chW e f g : Nat) : Int) + (k : Int)) % 4294967296 + (x : Int)) % 4294967296 = (u : Int)) := ⟨((h + bs1 e + chW e f g + k) % 4294967296 + x) % 4294967296, by show _ = _; omega⟩
   rw [HU.out]
   have hu : u < 4294967296 := by have := HU.out; omega
   obtain ⟨wa, Hq1, Hd1⟩ : ∃ wa, Hid (wr.drewN nq = wa) /\ Hid (Dr wr wa) := ⟨_, rfl, Dr.one _ _⟩
   rw [Hq1.out]
   clear Hq1 nq
   replace s0 := (Hd1.out.cell _).trans s0
   replace s1 := (Hd1.out.cell _).trans s1
   replace s2 := (Hd1.out.cell _).trans s2
   replace s3 := (Hd1.out.cell _).trans s3
   replace s4 := (Hd1.out.cell _).trans s4
   replace s5 := (Hd1.out.cell _).trans s5
   replace s6 := (Hd1.out.cell _).trans s6
   replace s7 := (Hd1.out.cell _).trans s7
   go_wp2
   go_quiet ((go_at_call 65; exact Calls.quiet_of_same (rturn_i _ _ _ (by assumption) (by decide))))
   rw [B0.out, BM.out]
   obtain ⟨v, HV⟩ : ∃ v : Nat, Hid ((((bs0 a : Nat) : Int) + ((majW a b c : Nat) : Int)) % 4294967296 = (v : Int)) := ⟨(bs0 a + majW a b c) % 4294967296, by show _ = _; omega⟩
   rw [HV.out]
   have hv : v < 4294967296 := by have := HV.out; omega
   obtain ⟨p, hp⟩ : ∃ p : Nat, ((u : Int) + (v : Int)) % 4294967296 = (p : Int) := ⟨(u + v) % 4294967296, by omega⟩
   obtain ⟨q, hq⟩ : ∃ q : Nat, ((d : Int) + (u : Int)) % 4294967296 = (q : Int) := ⟨(d + u) % 4294967296, by omega⟩
   have HN : Hid (rnds hs ws (t + 1) = [p, a, b, c, q, e, f, g]) := by
    show rnd (kW.getD t 0) (ws.getD t 0) (rnds hs ws t) = _
    rw [HRS.out, HK.out, HX.out, rnd_open]
    have h1 := HU.out
    have h2 := HV.out
    have e1 : (h + bs1 e + chW e f g + k + x) % 4294967296 = u := by omega
    have e2 : (bs0 a + majW a b c) % 4294967296 = v := by omega
    rw [e1, e2, show (u + v) % 4294967296 = p by omega, show (d + u) % 4294967296 = q by omega]
   have HIm : Hid ((Tryd.prog.info? 69).map (·.size) = some (cellsW [p, a, b, c, q, e, f, g]).size) := size_w8
   have H1m : Hid ((cellsW [p, a, b, c, q, e, f, g]).all (·.oneCell') = true) := cellsW_one _
   have HZM : Hid ((cellsW [a, b, c, d, e, f, g, h]).size = (cellsW [p, a, b, c, q, e, f, g]).size) := rfl
   obtain ⟨wb, Hq2, Hd2⟩ : ∃ wb, Hid (wa.drewN nq = wb) /\ Hid (Dr wa wb) := ⟨_, rfl, Dr.one _ _⟩
   rw [Hq2.out]
   clear Hq2 nq
   replace s0 := (Hd2.out.cell _).trans s0
   replace s1 := (Hd2.out.cell _).trans s1
   replace s2 := (Hd2.out.cell _).trans s2
   replace s3 := (Hd2.out.cell _).trans s3
   replace s4 := (Hd2.out.cell _).trans s4
   replace s5 := (Hd2.out.cell _).trans s5
   replace s6 := (Hd2.out.cell _).trans s6
   replace s7 := (Hd2.out.cell _).trans s7
   have HFb : Hid (wb.heap[w3.heap.size + 1]? = some (.cells (cellsW [a, b, c, d, e, f, g, h]) 69 (0, 0))) := by
    show _ = _
    rw [Hd2.out.heap, Hd1.out.heap]
    exact HF.out
   have HGb : Hid (W6.grownBy wb (some (w3.heap.size + 1))) := by
    obtain ⟨n1, r1⟩ := Hd1.out
    obtain ⟨n2, r2⟩ := Hd2.out
    rw [r2, r1]
    exact grown_tr HG.out ⟨rfl, rfl, rfl, Nat.le_refl _, fun _ _ _ => rfl⟩
   clear HU HV B0 B1 BC BM
   go_wp2_with (refine wpList_store_row rfl 69 _ _ rfl (w3.heap.size + 1) (cellsW [p, a, b, c, q, e, f, g]) rfl rfl 69 _ HFb.out HIm.out HZM.out H1m.out ?_)
   refine ⟨⟨t + 1, by omega, by go_num, ?_, grown_tr HGb.out (grown_setRow2 _ _ _)⟩, by simp [intOf]; omega⟩
   show _ = _
   rw [HN.out]
   exact setRow_heap _ _ _ _ _ _ HFb.out
  ·have H64 : Hid (t = 64) := by show _ = _; omega
   rw [H64.out] at HRS
   obtain ⟨st, HST⟩ : ∃ st, Hid (([a, b, c, d, e, f, g, h] : List Nat) = st) := ⟨_, rfl⟩
   have hst8 : st.length = 8 := by rw [<- HST.out]; rfl
   have hstb : ∀ x ∈ st, x < 4294967296 := by
    rw [<- HST.out, <- HRS.out]
    exact (W8.rnds (ws := ws) H8.out 64).2
   rw [HST.out] at HF HRS
   have HSB := hid hstb
   have hnlt : ¬ ((t : Int) < 64) := by omega
   obtain ⟨wo, rfl⟩ : ∃ wo, wo = wr := ⟨_, rfl⟩
   have HM0 : Hid (wo.heap[w.heap.size]? = some (.cells (cellsW (curM hs st 0)) 69 (0, 0))) := by
    rw [show curM hs st 0 = hs from by simp [curM], HHW.out]
    exact (HG.out.block w.heap.size (by omega) (by simp; omega)).trans HH6.out
   have HR7 : Hid (wo.heap[w.heap.size + 2]? = some (.cells z8 69 (0, 0))) := (HG.out.block (w.heap.size + 2) (by omega) (by simp; omega)).trans HR6.out
   have HB7 : Hid (Below w.heap.size w wo) := HB6.out.grown HG.out HB6.out.size (fun q e => by cases e; omega)
   have hso : w3.heap.size + 1 < wo.heap.size := (Array.getElem?_eq_some_iff.1 HF.out).1
   clear hlt ht hstb ha hb hc hd he hf hg hh HST
   go_wp2
   clear hnlt
   go_loopw [13] (fun i wq => ∃ I : Nat, I <= 8 /\ i = .int .i64 I /\ Hid (wq.heap[w.heap.size]? = some (.cells (cellsW (curM hs st I)) 69 (0, 0))) /\ Hid (wo.grownBy wq (some w.heap.size))) (fun i _ => 8 - (intOf i).toNat)
   case atStart => exact ⟨0, by decide, rfl, HM0, ⟨rfl, rfl, rfl, Nat.le_refl _, fun _ _ _ => rfl⟩⟩
   case round =>
    obtain ⟨I, hI, rfl, HFI, HGI⟩ := hrel
    by_cases hlt : I < 8
    ·have hci := cell_of_row wr w.heap.size I _ _ _ HFI.out
     rw [cellsW_get (by rw [curM_length H8.out.1 hst8]; exact hlt), curM_get H8.out.1 hst8 hlt] at hci
     have hcs : wr.cell? ⟨w3.heap.size + 1, I, none⟩ = some (.int .u32 ((st.getD I 0 : Nat) : Int)) := by
      rw [cell_of_row wr (w3.heap.size + 1) I _ _ _ ((HGI.out.block (w3.heap.size + 1) hso (by simp; omega)).trans HF.out)]
      exact cellsW_get (by rw [hst8]; exact hlt)
     obtain ⟨p, HP⟩ : ∃ p, Hid (hs.getD I 0 = p) := ⟨_, rfl⟩
     obtain ⟨q, HQ⟩ : ∃ q, Hid (st.getD I 0 = q) := ⟨_, rfl⟩
     rw [HP.out] at hci
     rw [HQ.out] at hcs
     have hpl : p < 4294967296 := by rw [<- HP.out]; exact getW_lt H8.out.2 I
     have hql : q < 4294967296 := by rw [<- HQ.out]; exact getW_lt HSB.out I
     have hfz : wr.frozen? ⟨w.heap.size, I, none⟩ = false := by simp [World.frozen?, HFI.out]
     go_wp2
     go_region
     all_goals go_wp2
     refine ⟨⟨I + 1, by omega, by go_num, ?_, grown_tr HGI.out (grown_setd _ _ _ _)⟩, by simp [intOf]; omega⟩
     show _ = _
     rw [<- curM_step H8.out.1 hst8 hlt, HP.out, HQ.out, <- cellsW_set, show ((add32 p q : Nat) : Int) = ((p : Int) + (q : Int)) % 4294967296 by unfold add32; omega]
     exact heap_setCell_same _ w.heap.size I _ _ _ HFI.out
    ·have hI8 : I = 8 := by omega
     have HCM : Hid (curM hs st I = List.zipWith add32 hs (rnds hs ws 64)) := by
      show _ = _
      rw [hI8, HRS.out]
      unfold curM
      rw [List.take_of_length_le (by simp; omega), List.drop_eq_nil_of_le (by rw [H8.out.1]; exact Nat.le_refl _), List.append_nil]
     rw [HCM.out] at HFI
     obtain ⟨m, HMM⟩ : ∃ m, Hid (cellsW (List.zipWith add32 hs (rnds hs ws 64)) = m) := ⟨_, rfl⟩
     rw [HMM.out] at HFI
     have hms : m.size = 8 := by
      rw [<- HMM.out, cellsW_size, <- HCM.out, curM_length H8.out.1 hst8]
     have HIm : Hid ((Tryd.prog.info? 69).map (·.size) = some m.size) := by rw [hms]; exact size_w8
     have H1m : Hid (m.all (·.oneCell') = true) := by rw [<- HMM.out]; exact cellsW_one _
     have HR8 : Hid (wr.heap[w.heap.size + 2]? = some (.cells z8 69 (0, 0))) := (HGI.out.block (w.heap.size + 2) (by omega) (by simp)).trans HR7.out
     have HZM : Hid (z8.size = m.size) := by rw [hms, <- HZ8.out, cellsW_size, zerosW_length]; exact rfl
     have HBF := hid (below_setRow (HB7.out.grown HGI.out HB7.out.size (fun k e => by cases e; exact Nat.le_refl _)) (g := w.heap.size + 2) (by omega) m)
     have hnl : ¬ ((I : Int) < 8) := by omega
     clear hms hlt hI8
     go_wp2_with (first | (refine wpList_load_row rfl 69 _ rfl w.heap.size rfl 69 m (0, 0) _ HFI.out Tryd.underlying69 rfl HIm.out ?_) | (refine wpList_store_row rfl 69 _ _ rfl (w.heap.size + 2) m rfl rfl 69 _ HR8.out HIm.out HZM.out H1m.out ?_))
     refine bodyPost_ret (v := .agg m) (results_cell_row (p := 4) (ty := 69) rfl _ _ (w.heap.size + 2) 69 m (0, 0) _ rfl (setRow_heap _ _ _ _ _ _ HR8.out) Tryd.underlying69 rfl HIm.out) rfl ?_
     rw [HMM.out]
     exact ⟨rfl, HBF.out⟩
theorem rmix_any (w : World) (hs : List Nat) (l : List Int) (h8 : W8 hs) (hl : l.length = 64) (hby : ∀ x ∈ l, 0 <= x /\ x < 256) :
  Calls Tryd.prog 34 #[.agg (cellsW hs), .agg (cellsB l)] w fun e w' => e = .returned (.agg (cellsW (mixL hs l))) /\ Below w.heap.size w w' :=
 rmix_core w hs (wordsTo l 64) l h8 hl (wordsTo_length l 64) (wordsTo_lt hby 64) (fun W => rwords_any W l hl hby)
def blkOf (m : List Int) (k : Nat) : List Int := (m.drop (64 * k)).take 64
def wAt (m : List Int) : Nat -> List Nat
 | 0 => iv
 | k + 1 => mixL (wAt m k) (blkOf m k)
theorem wAt_W8 (m : List Int) : ∀ k, W8 (wAt m k)
 | 0 => iv_W8
 | k + 1 => (wAt_W8 m k).mix
theorem blkOf_app {m b : List Int} {k : Nat} (h : 64 * (k + 1) <= m.length) : blkOf (m ++ b) k = blkOf m k := by
 unfold blkOf
 rw [List.drop_append_of_le_length (by omega), List.take_append_of_le_length (by simp; omega)]
theorem wAt_app {m b : List Int} : ∀ {k : Nat}, 64 * k <= m.length -> wAt (m ++ b) k = wAt m k
 | 0, _ => rfl
 | k + 1, h => by
  show mixL _ _ = mixL _ _
  rw [wAt_app (k := k) (by omega), blkOf_app h]
theorem blkOf_length {m : List Int} {k : Nat} (h : 64 * (k + 1) <= m.length) : (blkOf m k).length = 64 := by
 unfold blkOf
 simp
 omega
theorem blkOf_byt {m : List Int} (h : ∀ x ∈ m, 0 <= x /\ x < 256) (k : Nat) : ∀ x ∈ blkOf m k, 0 <= x /\ x < 256 := fun x hx => h x (List.mem_of_mem_drop (List.mem_of_mem_take hx))
def wcells (l : List Nat) : List Value := l.map (fun x : Nat => Value.int .u32 (x : Int))
theorem wcells_length (l : List Nat) : (wcells l).length = l.length := by simp [wcells]
def bcells (l : List Int) : List Value := l.map (Value.int .u8)
theorem bcells_length (l : List Int) : (bcells l).length = l.length := by simp [bcells]
structure HSt (w : World) (g : Nat) (ww : List Nat) (rest : List Int) (n : Nat) : Prop where
 bw : w.rangeAt g 0 (wcells iv)
 wv : w.rangeAt g 8 (wcells ww)
 rv : w.rangeAt g 16 (bcells rest)
 sz : w.cell? ⟨g, 80, none⟩ = some (.int .i64 (n : Int))
 th : w.there g 0 81
 w8 : W8 ww
 rl : rest.length = 64
 rb : ∀ x ∈ rest, 0 <= x /\ x < 256
theorem range_block {A C : World} {g o : Nat} {cs : List Value} (h : A.rangeAt g o cs) (hb : C.heap[g]? = A.heap[g]?) : C.rangeAt g o cs := fun j v hv => by
 have := h j v hv
 rw [<- this]
 simp [World.cell?, hb]
theorem there_block {A C : World} {g o n : Nat} (h : A.there g o n) (hb : C.heap[g]? = A.heap[g]?) : C.there g o n := fun j hj => by
 have := h j hj
 constructor
 ·rw [<- this.1]; simp [World.cell?, hb]
 ·rw [<- this.2]; simp [World.frozen?, hb]
theorem HSt.block {A C : World} {g n : Nat} {ww : List Nat} {rest : List Int} (h : HSt A g ww rest n) (hb : C.heap[g]? = A.heap[g]?) : HSt C g ww rest n :=
 ⟨range_block h.bw hb, range_block h.wv hb, range_block h.rv hb, by rw [<- h.sz]; simp [World.cell?, hb], there_block h.th hb, h.w8, h.rl, h.rb⟩
theorem HSt.lt {w : World} {g n : Nat} {ww : List Nat} {rest : List Int} (h : HSt w g ww rest n) : g < w.heap.size := World.block_lt_of_cell? w _ h.sz
theorem HSt.below {A C : World} {g n : Nat} {ww : List Nat} {rest : List Int} (h : HSt A g ww rest n) (hb : Below A.heap.size A C) : HSt C g ww rest n := h.block (hb.block g h.lt)
theorem there_sub {w : World} {g : Nat} (h : w.there g 0 81) (o n : Nat) (hn : o + n <= 81) : w.there g o n := fun j hj => by
 have := h (o + j) (by omega)
 rwa [Nat.zero_add] at this
theorem cell_range {w : World} {g o : Nat} {v : Value} (h : w.rangeAt g o [v]) : w.cell? ⟨g, o, none⟩ = some v := h 0 v rfl
theorem range_cell {w : World} {g o : Nat} {v : Value} (h : w.cell? ⟨g, o, none⟩ = some v) : w.rangeAt g o [v] := fun j u hu => by
 match j with
 | 0 => simp at hu; subst hu; exact h
 | j + 1 => simp at hu
theorem HSt.size {w : World} {g n : Nat} {ww : List Nat} {rest : List Int} (h : HSt w g ww rest n) (m : Nat) : HSt (w.setCell ⟨g, 80, none⟩ (.int .i64 (m : Int))) g ww rest m := by
 have e : w.setCell ⟨g, 80, none⟩ (.int .i64 (m : Int)) = w.setCells g 80 [.int .i64 (m : Int)] := rfl
 rw [e]
 refine ⟨World.rangeAt_setCells_apart h.bw _ _ _ (.inr (.inl (by rw [wcells_length]; decide))), World.rangeAt_setCells_apart h.wv _ _ _ (.inr (.inl (by rw [wcells_length, h.w8.1]; decide))), World.rangeAt_setCells_apart h.rv _ _ _ (.inr (.inl (by rw [bcells_length, h.rl]; decide))),
  cell_range (World.rangeAt_setCells_same _ _ _ _ (there_sub h.th 80 1 (by decide))), World.there_setCells h.th _ _ _, h.w8, h.rl, h.rb⟩
theorem HSt.words {w : World} {g n : Nat} {ww : List Nat} {rest : List Int} (h : HSt w g ww rest n) (vv : List Nat) (hv : W8 vv) : HSt (w.setCells g 8 (wcells vv)) g vv rest n := by
 have hl : (wcells vv).length = 8 := by rw [wcells_length, hv.1]
 refine ⟨World.rangeAt_setCells_apart h.bw _ _ _ (.inr (.inl (by rw [wcells_length]; decide))), World.rangeAt_setCells_same _ _ _ _ (there_sub h.th 8 _ (by omega)), World.rangeAt_setCells_apart h.rv _ _ _ (.inr (.inr (by omega))),
  cell_range (World.rangeAt_setCells_apart (range_cell h.sz) _ _ _ (.inr (.inr (by omega)))), World.there_setCells h.th _ _ _, hv, h.rl, h.rb⟩
def putAt (rest : List Int) (o : Nat) (b : List Int) : List Int := rest.take o ++ (b ++ rest.drop (o + b.length))
theorem putAt_length {rest : List Int} {o : Nat} {b : List Int} (h : o + b.length <= rest.length) : (putAt rest o b).length = rest.length := by simp [putAt]; omega
theorem range_app {w : World} {g o : Nat} {xs ys : List Value} (hx : w.rangeAt g o xs) (hy : w.rangeAt g (o + xs.length) ys) : w.rangeAt g o (xs ++ ys) := fun j v hv => by
 rw [List.getElem?_append] at hv
 split at hv
 ·exact hx j v hv
 ·have := hy (j - xs.length) v hv
  rwa [show o + xs.length + (j - xs.length) = o + j by omega] at this
theorem range_take {w : World} {g o : Nat} {xs : List Value} (h : w.rangeAt g o xs) (n : Nat) : w.rangeAt g o (xs.take n) := fun j v hv => h j v (by
 rw [List.getElem?_take] at hv
 split at hv
 ·exact hv
 ·cases hv)
theorem range_drop {w : World} {g o : Nat} {xs : List Value} (h : w.rangeAt g o xs) (n : Nat) : w.rangeAt g (o + n) (xs.drop n) := fun j v hv => by
 rw [List.getElem?_drop] at hv
 have := h (n + j) v hv
 rwa [show o + (n + j) = o + n + j by omega] at this
theorem HSt.put {w : World} {g n : Nat} {ww : List Nat} {rest : List Int} (h : HSt w g ww rest n) (o : Nat) (b : List Int) (ho : o + b.length <= 64) (hb : ∀ x ∈ b, 0 <= x /\ x < 256) : HSt (w.setCells g (16 + o) (bcells b)) g ww (putAt rest o b) n := by
 have hl : (bcells b).length = b.length := bcells_length b
 have hrl := h.rl
 refine ⟨World.rangeAt_setCells_apart h.bw _ _ _ (.inr (.inl (by rw [wcells_length, iv_W8.1]; omega))), World.rangeAt_setCells_apart h.wv _ _ _ (.inr (.inl (by rw [wcells_length, h.w8.1]; omega))), ?_,
  cell_range (World.rangeAt_setCells_apart (range_cell h.sz) _ _ _ (.inr (.inr (by omega)))), World.there_setCells h.th _ _ _, h.w8, by rw [putAt_length (by omega)]; exact h.rl, ?_⟩
 ·have e : bcells (putAt rest o b) = (bcells rest).take o ++ (bcells b ++ (bcells rest).drop (o + b.length)) := by
   unfold putAt bcells
   rw [List.map_append, List.map_append, List.map_take, List.map_drop]
  have hto : ((bcells rest).take o).length = o := by rw [List.length_take, bcells_length]; omega
  rw [e]
  refine range_app (World.rangeAt_setCells_apart (range_take h.rv o) _ _ _ (.inr (.inl (by omega)))) ?_
  rw [hto]
  refine range_app (World.rangeAt_setCells_same _ _ _ _ (there_sub h.th _ _ (by omega))) ?_
  have := World.rangeAt_setCells_apart (range_drop h.rv (o + b.length)) g (16 + o) (bcells b) (.inr (.inr (by omega)))
  rw [hl]
  rwa [show 16 + (o + b.length) = 16 + o + b.length by omega] at this
 ·intro x hx
  unfold putAt at hx
  rcases List.mem_append.1 hx with h1 | h1
  ·exact h.rb x (List.mem_of_mem_take h1)
  ·rcases List.mem_append.1 h1 with h2 | h2
   ·exact hb x h2
   ·exact h.rb x (List.mem_of_mem_drop h2)
def HM (w : World) (g : Nat) (m : List Int) : Prop :=
 ∃ rest, HSt w g (wAt m (m.length / 64)) rest m.length /\ rest.take (m.length % 64) = m.drop (64 * (m.length / 64)) /\ ∀ x ∈ m, 0 <= x /\ x < 256
theorem size_u8' : (Tryd.prog.info? 5).map (·.size) = some 1 := by kernel_rfl
theorem alen64 : Tryd.prog.arrayLen 71 = 64 := by kernel_rfl
theorem aelem64 : Tryd.prog.elem 71 = 5 := by kernel_rfl
theorem run_slice_rest (g i : Nat) (hi : i < 64) (w : World) : (Instr.sliceAt 71 (.pointer (some ⟨g, 16, none⟩)) (some (.int .i64 (i : Int))) none none).run Tryd.prog w = .ok (.slice (some ⟨g, 16 + i, none⟩) (64 - i) (64 - i)) w := by
 have h := run_sliceAt_array_l (P := Tryd.prog) w 71 ⟨g, 16, none⟩ (by rw [alen64, aelem64]; exact Tryd.underlying71) .i64 (i : Int) (by omega) (by rw [alen64]; omega)
 rw [h, alen64, aelem64, size_u8, Result.andThen_ok, Int.toNat_natCast]
 unfold slicedAt
 rw [if_neg (by omega), Nat.mul_one, Addr.add_mid]
theorem run_slice_all (g : Nat) (w : World) : (Instr.sliceAt 71 (.pointer (some ⟨g, 16, none⟩)) none none none).run Tryd.prog w = .ok (.slice (some ⟨g, 16, none⟩) 64 64) w := by
 have h := run_sliceAt_array_all (P := Tryd.prog) w 71 ⟨g, 16, none⟩ (by rw [alen64, aelem64]; exact Tryd.underlying71)
 rw [h, alen64, aelem64, size_u8, Result.andThen_ok]
 rfl
theorem run_copy_rest (w : World) (g i : Nat) (ww : List Nat) (rest : List Int) (n : Nat) (hs : HSt w g ww rest n) (hi : i <= 64) (ty : TypeId) (u : Value) (b : List Int) (hb : HB w u b) (k : Nat) (hk : k = min (64 - i) b.length) :
  (Builtin.copy_ #[30, 30] ty #[.slice (some ⟨g, 16 + i, none⟩) (64 - i) (64 - i), u]).run Tryd.prog w = .ok (.int .i64 (k : Int)) (w.setCells g (16 + i) (bcells (b.take k))) := by
 obtain ⟨⟨p, c, rfl, hlc, hm, hpc, hcell⟩, hby⟩ := hb
 by_cases hk0 : k = 0
 ·have hr := run_copy_none (P := Tryd.prog) w 30 30 ty 5 (some ⟨g, 16 + i, none⟩) p (64 - i) (64 - i) b.length c Tryd.underlying30 size_u8' (by show min b.length (64 - i) = 0; omega)
  rw [hr, hk0]
  rfl
 ·obtain ⟨bb, off, rfl, hh⟩ := hcell (by intro e; subst e; simp at hk; omega)
  have hl : (bcells (b.take k)).length = k := by rw [bcells_length, List.length_take]; omega
  have hr := run_copy_cells (P := Tryd.prog) w 30 30 ty 5 g (16 + i) (64 - i) (64 - i) ⟨bb, off, none⟩ b.length c (bcells (b.take k)) Tryd.underlying30 size_u8' (by rw [hl, hk]; exact Nat.min_comm _ _) (fun j v hv => ?_) (fun j hj => (there_sub hs.th (16 + i) k (by omega) j (by omega)).1) (fun j hj => (there_sub hs.th (16 + i) k (by omega) j (by omega)).2) (fun v hv => by obtain ⟨x, _, rfl⟩ := List.mem_map.1 hv; rfl)
  ·rw [hr, hl]
   rfl
  ·have hj : j < k := by have := (List.getElem?_eq_some_iff.1 hv).1; omega
   rw [Addr.add_mid, hh j (by omega)]
   simp only [bcells, List.getElem?_map, List.getElem?_take, if_pos hj, List.getElem?_eq_getElem (show j < b.length by omega), Option.map_some] at hv
   rw [getD_of_lt (by omega)]
   exact hv
theorem grown_setCells (g : Nat) : ∀ (vs : List Value) (o : Nat) (w : World), w.grownBy (w.setCells g o vs) (some g)
 | [], _, _ => ⟨rfl, rfl, rfl, Nat.le_refl _, fun _ _ _ => rfl⟩
 | v :: vs, o, w => grown_tr (grown_sets w g o v) (grown_setCells g vs (o + 1) _)
theorem belem : Tryd.prog.elem 30 = 5 := by kernel_rfl
theorem run_slice_suf (p : Option Addr) (l c k : Nat) (hk : k <= l) (w : World) : (Instr.slice 30 (.slice p l c) (some (.int .i64 (k : Int))) none none).run Tryd.prog w = .ok (.slice (if c = k then p else p.map (·.add k)) (l - k) (c - k)) w := by
 have h := run_slice_l (P := Tryd.prog) w 30 p l c (by rw [belem]; exact Tryd.underlying30) .i64 (k : Int) (by omega) (by omega)
 rw [h, belem, size_u8, Result.andThen_ok, Int.toNat_natCast]
 unfold sliced
 rw [Nat.mul_one]
theorem suf_own (p : Option Addr) (c k l n g : Nat) (h : Value.ownBlock (.slice p l n) ≠ some g) : Value.ownBlock (.slice (if c = k then p else p.map (·.add k)) (l - k) (c - k)) ≠ some g := by
 split
 ·cases p with
  | none => simp [Value.ownBlock]
  | some a => simpa [Value.ownBlock] using h
 ·cases p with
  | none => simp [Value.ownBlock]
  | some a =>
   have : (a.add k).block = a.block := by unfold Addr.add; split <;> rfl
   simp only [Option.map_some, Value.ownBlock, this]
   simpa [Value.ownBlock] using h
theorem HM.fill {w : World} {g : Nat} {m b rest : List Int} (hs : HSt w g (wAt m (m.length / 64)) (putAt rest (m.length % 64) b) (m.length + b.length)) (hrt : rest.take (m.length % 64) = m.drop (64 * (m.length / 64))) (hrl : rest.length = 64)
  (hm : ∀ x ∈ m, 0 <= x /\ x < 256) (hb : ∀ x ∈ b, 0 <= x /\ x < 256) (hlt : m.length % 64 + b.length < 64) : HM w g (m ++ b) := by
 have e1 : (m ++ b).length = m.length + b.length := by simp
 have e2 : (m.length + b.length) / 64 = m.length / 64 := by omega
 have e3 : (m.length + b.length) % 64 = m.length % 64 + b.length := by omega
 have e4 : (rest.take (m.length % 64)).length = m.length % 64 := by rw [List.length_take]; omega
 refine ⟨putAt rest (m.length % 64) b, ?_, ?_, ?_⟩
 ·rw [e1, e2, wAt_app (by omega)]
  exact hs
 ·rw [e1, e2, e3]
  unfold putAt
  rw [List.take_append, e4, List.take_of_length_le (by omega), show m.length % 64 + b.length - m.length % 64 = b.length by omega, List.take_append_of_le_length (Nat.le_refl _), List.take_of_length_le (Nat.le_refl _), hrt, List.drop_append_of_le_length (by omega)]
 ·intro x hx
  rcases List.mem_append.1 hx with h | h
  ·exact hm x h
  ·exact hb x h
theorem blk_fill {m b rest : List Int} (hrt : rest.take (m.length % 64) = m.drop (64 * (m.length / 64))) (hrl : rest.length = 64) {k : Nat} (hk : m.length % 64 + k = 64) (hkb : k <= b.length) : putAt rest (m.length % 64) (b.take k) = blkOf (m ++ b) (m.length / 64) := by
 have e4 : (m.drop (64 * (m.length / 64))).length = m.length % 64 := by rw [List.length_drop]; omega
 unfold putAt blkOf
 rw [List.length_take, Nat.min_eq_left hkb, hk, List.drop_eq_nil_of_le (by omega), List.append_nil, hrt, List.drop_append_of_le_length (by omega), List.take_append, e4, List.take_of_length_le (l := m.drop (64 * (m.length / 64))) (by omega), show 64 - m.length % 64 = k by omega]
theorem HM.last {w : World} {g : Nat} {M rest : List Int} {c : Nat} (hs : HSt w g (wAt M c) (putAt rest 0 (M.drop (64 * c))) M.length) (hc : 64 * c <= M.length) (hlt : M.length < 64 * (c + 1)) (hm : ∀ x ∈ M, 0 <= x /\ x < 256) : HM w g M := by
 have e1 : M.length / 64 = c := by omega
 have e2 : M.length % 64 = (M.drop (64 * c)).length := by rw [List.length_drop]; omega
 refine ⟨_, by rw [e1]; exact hs, ?_, hm⟩
 rw [e1, e2]
 unfold putAt
 rw [List.take_zero, List.nil_append, List.take_append_of_le_length (Nat.le_refl _), List.take_of_length_le (Nat.le_refl _)]
theorem wpOp_of_wp {P : Program} {ops : Array Oper} {Q : Exit -> Act -> World -> Prop} {i : Nat} {o : Oper} {K : Act -> World -> Prop} {a : Act} {w : World} (hi : ops[i]? = some o) (hw : Region.wanted o (yielded ops a.tmps) = true) (h : o.wp P a w K Q) : wpOp P ops Q i K a w := by
 unfold wpOp
 rw [hi]
 simp only [hw, if_true]
 exact .inl h
theorem run_arrayAt_b64 (b off L c : Nat) (hL : 64 <= L) (W : World) : (Instr.arrayAt 71 (.slice (some ⟨b, off, none⟩) L c)).run Tryd.prog W = .ok (.pointer (some ⟨b, off, none⟩)) W := by
 unfold Instr.arrayAt
 simp only [Sem.run_bind, run_underlying Tryd.underlying71, Result.andThen_ok]
 simp [show ¬ L < 64 by omega]
def lenV : Value -> Nat
 | .slice _ n _ => n
 | _ => 0
end Go.Proofs.YtcpchhigiohlnaaDoor
