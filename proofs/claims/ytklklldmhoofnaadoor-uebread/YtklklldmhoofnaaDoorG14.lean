/- Of the road to uebReadCard_holds: ShaSched. -/
import Derived.Test.YtklklldmhoofnaaDoorG13
set_option linter.unusedVariables false
set_option linter.unusedSimpArgs false
namespace Go.Proofs.YtklklldmhoofnaaDoor
open Go.RowKit
set_option maxRecDepth 100000 in
set_option maxHeartbeats 4000000 in
theorem sched_any (w : World) (l : List Int) (hl : l.length = 64) (hby : ∀ x ∈ l, 0 ≤ x ∧ x < 256) :
    Calls Tryd.prog 113 #[.agg (cellsB l)] w fun e w' => e = .returned (.agg (cellsW (wordsTo l 64))) ∧ Below w.heap.size w w' := by
  obtain ⟨z, HZ⟩ : ∃ z, Hid (cellsW (zerosW 64) = z) := ⟨_, rfl⟩
  have hz := zero_w64
  rw [HZ.out] at hz
  have HZ0 := hid hz
  obtain ⟨bl, HBL⟩ : ∃ bl, Hid (cellsB l = bl) := ⟨_, rfl⟩
  rw [HBL.out]
  clear hz
  go_enter Tryd.func113, Tryd.ntmps113
  go_wp2_with (refine wpList_alloc_agg HZ0.out rfl rfl ?_)
  obtain ⟨W0, hW0⟩ : ∃ W0, Hid (((w.alloc (.cells bl 103)).alloc (.cells z 113)).alloc (.cells z 113) = W0) := ⟨_, rfl⟩
  rw [hW0.out]
  have HB0 : Hid (Below w.heap.size w W0) := by rw [← hW0.out]; exact (((Below.refl _ w).alloc (Nat.le_refl _) _).alloc (by simp) _).alloc (by simp; omega) _
  have HS0 : Hid (W0.heap.size = w.heap.size + 3) := by rw [← hW0.out]; show _ = _; simp
  have H0 : Hid (W0.heap[w.heap.size]? = some (.cells bl 103 (0, 0))) := by
    rw [← hW0.out]
    exact (Below.heap_alloc _ _ _ (by simp; omega)).trans ((Below.heap_alloc _ _ _ (by simp)).trans (heap_alloc_new w _))
  have H1 : Hid (W0.heap[w.heap.size + 1]? = some (.cells z 113 (0, 0))) := by
    rw [← hW0.out]
    refine (Below.heap_alloc _ _ _ (by simp)).trans ?_
    have := heap_alloc_new (w.alloc (.cells bl 103)) (.cells z 113)
    rwa [World.size_alloc] at this
  have H2 : Hid (W0.heap[w.heap.size + 2]? = some (.cells (cellsW (curWs l 0)) 113 (0, 0))) := by
    have := heap_alloc_new ((w.alloc (.cells bl 103)).alloc (.cells z 113)) (.cells z 113)
    rw [World.size_alloc, World.size_alloc, hW0.out, ← HZ.out] at this
    exact this
  clear hW0
  go_loopw [11] (fun i wr => ∃ I : Nat, I ≤ 16 ∧ i = .int .i64 I ∧ Hid (wr.heap[w.heap.size + 2]? = some (.cells (cellsW (curWs l I)) 113 (0, 0))) ∧ Hid (W0.grownBy wr (some (w.heap.size + 2)))) (fun i _ => 16 - (intOf i).toNat)
  case atStart => exact ⟨0, Nat.zero_le _, rfl, H2, ⟨rfl, rfl, rfl, Nat.le_refl _, fun _ _ _ => rfl⟩⟩
  case round =>
    obtain ⟨I, hI, rfl, HF, HG⟩ := hrel
    by_cases hlt : I < 16
    · have hb := (HG.out.block w.heap.size (by rw [HS0.out]; omega) (by simp)).trans H0.out
      have byt : ∀ j, j < 64 → ∃ a : Nat, a < 256 ∧ wr.cell? ⟨w.heap.size, j, none⟩ = some (.int .u8 (a : Int)) ∧ (l.getD j 0).toNat = a := fun j hj => by
        have hlj : j < l.length := by omega
        refine ⟨(l.getD j 0).toNat, byte_nat hby j, ?_, rfl⟩
        rw [cell_of_row wr w.heap.size j _ _ _ hb, ← HBL.out]
        have := hby _ (List.getElem_mem hlj)
        simp only [cellsB, List.getElem?_toArray, List.getElem?_map, List.getElem?_eq_getElem hlj, Option.map_some, getD_of_lt hlj]
        congr 2
        omega
      obtain ⟨a0, ha0, c0, e0⟩ := byt (4 * I) (by omega)
      obtain ⟨a1, ha1, c1, e1⟩ := byt (4 * I + 1) (by omega)
      obtain ⟨a2, ha2, c2, e2⟩ := byt (4 * I + 2) (by omega)
      obtain ⟨a3, ha3, c3, e3⟩ := byt (4 * I + 3) (by omega)
      have HV : Hid (nextW l (wordsTo l I) I = a0 * 16777216 + a1 * 65536 + a2 * 256 + a3) := by
        show _ = _
        unfold nextW beW
        rw [if_pos hlt, e0, e1, e2, e3]
      have HE := hid (And.intro e0 (And.intro e1 (And.intro e2 e3)))
      have HOR := hid (or_four a0 a1 a2 a3 ha0 ha1 ha2 ha3)
      have hci : wr.cell? ⟨w.heap.size + 2, I, none⟩ = some (.int .u32 (((curWs l I).getD I 0 : Nat) : Int)) := by
        rw [cell_of_row wr (w.heap.size + 2) I _ _ _ HF.out]
        exact cellsW_get (by rw [curWs_length l I (by omega)]; omega)
      obtain ⟨old, HOLD⟩ : ∃ old, Hid ((curWs l I).getD I 0 = old) := ⟨_, rfl⟩
      rw [HOLD.out] at hci
      have hfz : wr.frozen? ⟨w.heap.size + 2, I, none⟩ = false := by simp [World.frozen?, HF.out]
      clear byt hb e0 e1 e2 e3
      go_wp2
      go_region
      all_goals go_wp2
      refine ⟨⟨I + 1, by omega, by go_num, ?_, grown_tr HG.out (grown_setd _ _ _ _)⟩, by simp [intOf]; omega⟩
      show _ = _
      rw [← curWs_step l I (by omega), HV.out, ← cellsW_set, HOR.out]
      exact heap_setCell_same wr (w.heap.size + 2) I _ _ _ HF.out
    · have hI16 : I = 16 := by omega
      rw [hI16] at HF
      clear hI16
      go_wp2
      clear hlt
      go_loopw [6] (fun i wq => ∃ I : Nat, 16 ≤ I ∧ I ≤ 64 ∧ i = .int .i64 I ∧ Hid (wq.heap[w.heap.size + 2]? = some (.cells (cellsW (curWs l I)) 113 (0, 0))) ∧ Hid (W0.grownBy wq (some (w.heap.size + 2)))) (fun i _ => 64 - (intOf i).toNat)
      case atStart => exact ⟨16, Nat.le_refl _, by decide, rfl, HF, HG⟩
      case round =>
        clear HF HG hI
        obtain ⟨I, hI16, hI, rfl, HF, HG⟩ := hrel
        by_cases hlt : I < 64
        · have cell : ∀ j, j < I → ∃ a : Nat, a < 4294967296 ∧ wr.cell? ⟨w.heap.size + 2, j, none⟩ = some (.int .u32 (a : Int)) ∧ (wordsTo l I).getD j 0 = a := fun j hj => by
            refine ⟨_, getW_lt (wordsTo_lt hby I) j, ?_, rfl⟩
            rw [cell_of_row wr (w.heap.size + 2) j _ _ _ HF.out, cellsW_get (by rw [curWs_length l I hI]; omega), curWs_get l I j hj]
          obtain ⟨a2, ha2, c2, e2⟩ := cell (I - 2) (by omega)
          obtain ⟨a7, ha7, c7, e7⟩ := cell (I - 7) (by omega)
          obtain ⟨a15, ha15, c15, e15⟩ := cell (I - 15) (by omega)
          obtain ⟨a16, ha16, c16, e16⟩ := cell (I - 16) (by omega)
          have HV : Hid (nextW l (wordsTo l I) I = add32 (add32 (add32 (sig1 a2) a7) (sig0 a15)) a16) := by
            show _ = _
            unfold nextW
            rw [if_neg (by omega), e2, e7, e15, e16]
          have hci : wr.cell? ⟨w.heap.size + 2, I, none⟩ = some (.int .u32 (((curWs l I).getD I 0 : Nat) : Int)) := by
            rw [cell_of_row wr (w.heap.size + 2) I _ _ _ HF.out]
            exact cellsW_get (by rw [curWs_length l I (by omega)]; omega)
          obtain ⟨old, HOLD⟩ : ∃ old, Hid ((curWs l I).getD I 0 = old) := ⟨_, rfl⟩
          rw [HOLD.out] at hci
          have hfz : wr.frozen? ⟨w.heap.size + 2, I, none⟩ = false := by simp [World.frozen?, HF.out]
          have n2 : ((I : Int) - 2) = ((I - 2 : Nat) : Int) := by omega
          have n7 : ((I : Int) - 7) = ((I - 7 : Nat) : Int) := by omega
          have n15 : ((I : Int) - 15) = ((I - 15 : Nat) : Int) := by omega
          have n16 : ((I : Int) - 16) = ((I - 16 : Nat) : Int) := by omega
          clear cell e2 e7 e15 e16
          have HS0 := hid (sig0_bits a15 ha15)
          have HS1 := hid (sig1_bits a2 ha2)
          have dc7 : wr.drew.cell? ⟨w.heap.size + 2, I - 7, none⟩ = some (.int .u32 (a7 : Int)) := c7
          have dc16 : wr.drew.cell? ⟨w.heap.size + 2, I - 16, none⟩ = some (.int .u32 (a16 : Int)) := c16
          have dci : wr.drew.cell? ⟨w.heap.size + 2, I, none⟩ = some (.int .u32 (old : Int)) := hci
          have dfz : wr.drew.frozen? ⟨w.heap.size + 2, I, none⟩ = false := hfz
          go_wp2
          go_region
          go_wp2_with fail
          refine (turn_7 _ a15 ha15).mono ?_
          rintro e w' ⟨rfl, hw⟩
          subst hw
          go_wp2_with fail
          refine (turn_18 _ a15 ha15).mono ?_
          rintro e w' ⟨rfl, hw⟩
          subst hw
          go_wp2_with fail
          rw [HS0.out]
          refine (turn_17 _ a2 ha2).mono ?_
          rintro e w' ⟨rfl, hw⟩
          subst hw
          go_wp2_with fail
          refine (turn_19 _ a2 ha2).mono ?_
          rintro e w' ⟨rfl, hw⟩
          subst hw
          go_wp2_with fail
          rw [HS1.out]
          go_region
          all_goals go_wp2
          have HADD : Hid ((((sig1 a2 : Nat) : Int) + (a7 : Int) + ((sig0 a15 : Nat) : Int) + (a16 : Int)) % 4294967296 = ((add32 (add32 (add32 (sig1 a2) a7) (sig0 a15)) a16 : Nat) : Int)) := by
            show _ = _
            unfold add32
            omega
          refine ⟨⟨I + 1, by omega, by omega, by go_num, ?_, grown_tr HG.out (grown_tr (b := wr.drew) ⟨rfl, rfl, rfl, Nat.le_refl _, fun _ _ _ => rfl⟩ (grown_setd _ _ _ _))⟩, by simp [intOf]; omega⟩
          show _ = _
          rw [← curWs_step l I (by omega), HV.out, ← cellsW_set, HADD.out]
          exact heap_setCell_same wr (w.heap.size + 2) I _ _ _ HF.out
        · have hI64 : I = 64 := by omega
          subst hI64
          have HWW : Hid (curWs l 64 = wordsTo l 64) := by show _ = _; simp [curWs]
          rw [HWW.out] at HF
          obtain ⟨y, HY⟩ : ∃ y, Hid (cellsW (wordsTo l 64) = y) := ⟨_, rfl⟩
          rw [HY.out] at HF
          have hys : y.size = 64 := by rw [← HY.out, cellsW_size, wordsTo_length]
          have HIy : Hid ((Tryd.prog.info? 113).map (·.size) = some y.size) := by rw [hys]; exact size_w64
          have H1y : Hid (y.all (·.oneCell') = true) := by rw [← HY.out]; exact cellsW_one _
          have HF1c : Hid (wr.heap[w.heap.size + 1]? = some (.cells z 113 (0, 0))) := by
            rw [HG.out.block (w.heap.size + 1) (by rw [HS0.out]; omega) (by simp)]
            exact H1
          have HZY : Hid (z.size = y.size) := by rw [hys, ← HZ.out, cellsW_size, zerosW_length]; exact rfl
          have HB1 := hid (below_setRow (HB0.out.grown HG.out (by rw [HS0.out]; omega) (fun k e => by cases e; omega)) (g := w.heap.size + 1) (by omega) y)
          clear hys hlt
          go_wp2_with (first | (refine wpList_load_row rfl 113 _ rfl (w.heap.size + 2) rfl 113 y (0, 0) _ HF.out Tryd.underlying113 rfl HIy.out ?_) | (refine wpList_store_row rfl 113 _ _ rfl (w.heap.size + 1) y rfl rfl 113 _ HF1c.out HIy.out HZY.out H1y.out ?_))
          refine bodyPost_ret (v := .agg y) (results_cell_row (p := 2) (ty := 113) rfl _ _ (w.heap.size + 1) 113 y (0, 0) _ rfl (setRow_heap _ _ _ _ _ _ HF1c.out) Tryd.underlying113 rfl HIy.out) rfl ?_
          rw [HY.out]
          exact ⟨rfl, HB1.out⟩
end Go.Proofs.YtklklldmhoofnaaDoor
