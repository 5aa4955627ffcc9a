/- Texts laid together: RefShaTurn, RefShaWords, RefShaConst, RefShaMix. -/
import Derived.Test.YtjmlpkemjafifaaDoorGrShA

/- The document's turn (sha), walked. -/
namespace Go.Proofs.YtjmlpkemjafifaaDoor
open Go.RowKit
theorem rot_bits2 (x n : Nat) (hx : x < 4294967296) : bits .or .u32 ((x : Int) / 2 ^ n) (IntKind.u32.wrap ((x : Int) * 2 ^ (32 - n))) = ((rot x n : Nat) : Int) := by
  have e1 : IntKind.u32.wrap ((x : Int) * 2 ^ (32 - n)) = ((x * 2 ^ (32 - n) % 4294967296 : Nat) : Int) := by
    rw [IntKind.wrap_u32, Int.natCast_emod, Int.natCast_mul, Int.natCast_pow]
    rfl
  have e2 : (x : Int) / 2 ^ n = ((x / 2 ^ n : Nat) : Int) := by rw [Int.natCast_ediv, Int.natCast_pow]; rfl
  rw [e1, e2, u32_or_nat _ _ (Nat.lt_of_le_of_lt (Nat.div_le_self _ _) hx) (Nat.mod_lt _ (by decide)), Nat.or_comm]
  rfl

set_option maxRecDepth 100000 in
set_option maxHeartbeats 1000000 in
theorem rturn_6 (w : World) (x : Nat) (hx : x < 4294967296) : Calls Tryd.prog 75 #[.int .u32 (x : Int), .int .u64 6] w fun e w' => e = .returned (.int .u32 ((rot x 6 : Nat) : Int)) ∧ w' = w := by
  have HR := hid (rot_bits2 x 6 hx)
  go_enter Tryd.func75, Tryd.ntmps75
  go_wp2
  go_ret
  refine ⟨?_, rfl⟩
  rw [← HR.out]
  rfl

set_option maxRecDepth 100000 in
set_option maxHeartbeats 1000000 in
theorem rturn_11 (w : World) (x : Nat) (hx : x < 4294967296) : Calls Tryd.prog 75 #[.int .u32 (x : Int), .int .u64 11] w fun e w' => e = .returned (.int .u32 ((rot x 11 : Nat) : Int)) ∧ w' = w := by
  have HR := hid (rot_bits2 x 11 hx)
  go_enter Tryd.func75, Tryd.ntmps75
  go_wp2
  go_ret
  refine ⟨?_, rfl⟩
  rw [← HR.out]
  rfl

set_option maxRecDepth 100000 in
set_option maxHeartbeats 1000000 in
theorem rturn_25 (w : World) (x : Nat) (hx : x < 4294967296) : Calls Tryd.prog 75 #[.int .u32 (x : Int), .int .u64 25] w fun e w' => e = .returned (.int .u32 ((rot x 25 : Nat) : Int)) ∧ w' = w := by
  have HR := hid (rot_bits2 x 25 hx)
  go_enter Tryd.func75, Tryd.ntmps75
  go_wp2
  go_ret
  refine ⟨?_, rfl⟩
  rw [← HR.out]
  rfl

set_option maxRecDepth 100000 in
set_option maxHeartbeats 1000000 in
theorem rturn_2 (w : World) (x : Nat) (hx : x < 4294967296) : Calls Tryd.prog 75 #[.int .u32 (x : Int), .int .u64 2] w fun e w' => e = .returned (.int .u32 ((rot x 2 : Nat) : Int)) ∧ w' = w := by
  have HR := hid (rot_bits2 x 2 hx)
  go_enter Tryd.func75, Tryd.ntmps75
  go_wp2
  go_ret
  refine ⟨?_, rfl⟩
  rw [← HR.out]
  rfl

set_option maxRecDepth 100000 in
set_option maxHeartbeats 1000000 in
theorem rturn_13 (w : World) (x : Nat) (hx : x < 4294967296) : Calls Tryd.prog 75 #[.int .u32 (x : Int), .int .u64 13] w fun e w' => e = .returned (.int .u32 ((rot x 13 : Nat) : Int)) ∧ w' = w := by
  have HR := hid (rot_bits2 x 13 hx)
  go_enter Tryd.func75, Tryd.ntmps75
  go_wp2
  go_ret
  refine ⟨?_, rfl⟩
  rw [← HR.out]
  rfl

set_option maxRecDepth 100000 in
set_option maxHeartbeats 1000000 in
theorem rturn_22 (w : World) (x : Nat) (hx : x < 4294967296) : Calls Tryd.prog 75 #[.int .u32 (x : Int), .int .u64 22] w fun e w' => e = .returned (.int .u32 ((rot x 22 : Nat) : Int)) ∧ w' = w := by
  have HR := hid (rot_bits2 x 22 hx)
  go_enter Tryd.func75, Tryd.ntmps75
  go_wp2
  go_ret
  refine ⟨?_, rfl⟩
  rw [← HR.out]
  rfl

set_option maxRecDepth 100000 in
set_option maxHeartbeats 1000000 in
theorem rturn_7 (w : World) (x : Nat) (hx : x < 4294967296) : Calls Tryd.prog 75 #[.int .u32 (x : Int), .int .u64 7] w fun e w' => e = .returned (.int .u32 ((rot x 7 : Nat) : Int)) ∧ w' = w := by
  have HR := hid (rot_bits2 x 7 hx)
  go_enter Tryd.func75, Tryd.ntmps75
  go_wp2
  go_ret
  refine ⟨?_, rfl⟩
  rw [← HR.out]
  rfl

set_option maxRecDepth 100000 in
set_option maxHeartbeats 1000000 in
theorem rturn_18 (w : World) (x : Nat) (hx : x < 4294967296) : Calls Tryd.prog 75 #[.int .u32 (x : Int), .int .u64 18] w fun e w' => e = .returned (.int .u32 ((rot x 18 : Nat) : Int)) ∧ w' = w := by
  have HR := hid (rot_bits2 x 18 hx)
  go_enter Tryd.func75, Tryd.ntmps75
  go_wp2
  go_ret
  refine ⟨?_, rfl⟩
  rw [← HR.out]
  rfl

set_option maxRecDepth 100000 in
set_option maxHeartbeats 1000000 in
theorem rturn_17 (w : World) (x : Nat) (hx : x < 4294967296) : Calls Tryd.prog 75 #[.int .u32 (x : Int), .int .u64 17] w fun e w' => e = .returned (.int .u32 ((rot x 17 : Nat) : Int)) ∧ w' = w := by
  have HR := hid (rot_bits2 x 17 hx)
  go_enter Tryd.func75, Tryd.ntmps75
  go_wp2
  go_ret
  refine ⟨?_, rfl⟩
  rw [← HR.out]
  rfl

set_option maxRecDepth 100000 in
set_option maxHeartbeats 1000000 in
theorem rturn_19 (w : World) (x : Nat) (hx : x < 4294967296) : Calls Tryd.prog 75 #[.int .u32 (x : Int), .int .u64 19] w fun e w' => e = .returned (.int .u32 ((rot x 19 : Nat) : Int)) ∧ w' = w := by
  have HR := hid (rot_bits2 x 19 hx)
  go_enter Tryd.func75, Tryd.ntmps75
  go_wp2
  go_ret
  refine ⟨?_, rfl⟩
  rw [← HR.out]
  rfl

end Go.Proofs.YtjmlpkemjafifaaDoor

/- The document's words (sha), walked. -/
namespace Go.Proofs.YtjmlpkemjafifaaDoor
open Go.RowKit
/-- A word behind J of its bytes. -/
def partW (l : List Int) (I : Nat) : Nat → Nat
  | 0 => 0
  | J + 1 => partW l I J * 256 + (l.getD (4 * I + J) 0).toNat
theorem partW_four (l : List Int) (I : Nat) : partW l I 4 = beW l I := by
  simp only [partW, beW, Nat.add_zero]
  omega
theorem partW_lt {l : List Int} (h : ∀ x ∈ l, 0 ≤ x ∧ x < 256) (I : Nat) : ∀ J, partW l I J < 256 ^ J
  | 0 => by simp [partW]
  | J + 1 => by
    have h1 := partW_lt h I J
    have h2 := byte_nat h (4 * I + J)
    simp only [partW, Nat.pow_succ]
    omega
theorem curWs_zero (l : List Int) (I : Nat) (hI : I < 64) : (curWs l I).set I 0 = curWs l I := by
  unfold curWs
  have hl : (wordsTo l I).length = I := wordsTo_length l I
  rw [List.set_append_right _ _ (by omega), hl, Nat.sub_self, show 64 - I = (63 - I) + 1 by omega, List.replicate_succ, List.set_cons_zero]

set_option maxRecDepth 100000 in
set_option maxHeartbeats 4000000 in
theorem rwords_any (w : World) (l : List Int) (hl : l.length = 64) (hby : ∀ x ∈ l, 0 ≤ x ∧ x < 256) :
    Calls Tryd.prog 73 #[.agg (cellsB l)] w fun e w' => e = .returned (.agg (cellsW (wordsTo l 64))) ∧ Below w.heap.size w w' := by
  obtain ⟨z, HZ⟩ : ∃ z, Hid (cellsW (zerosW 64) = z) := ⟨_, rfl⟩
  have hz := zero_w64
  rw [HZ.out] at hz
  have HZ0 := hid hz
  obtain ⟨bl, HBL⟩ : ∃ bl, Hid (cellsB l = bl) := ⟨_, rfl⟩
  rw [HBL.out]
  clear hz
  go_enter Tryd.func73, Tryd.ntmps73
  go_wp2_with (refine wpList_alloc_agg HZ0.out rfl rfl ?_)
  obtain ⟨W0, hW0⟩ : ∃ W0, Hid (((w.alloc (.cells bl 90)).alloc (.cells z 113)).alloc (.cells z 113) = W0) := ⟨_, rfl⟩
  rw [hW0.out]
  have HB0 : Hid (Below w.heap.size w W0) := by rw [← hW0.out]; exact (((Below.refl _ w).alloc (Nat.le_refl _) _).alloc (by simp) _).alloc (by simp; omega) _
  have HS0 : Hid (W0.heap.size = w.heap.size + 3) := by rw [← hW0.out]; show _ = _; simp
  have H0 : Hid (W0.heap[w.heap.size]? = some (.cells bl 90 (0, 0))) := by
    rw [← hW0.out]
    exact (Below.heap_alloc _ _ _ (by simp; omega)).trans ((Below.heap_alloc _ _ _ (by simp)).trans (heap_alloc_new w _))
  have H1 : Hid (W0.heap[w.heap.size + 1]? = some (.cells z 113 (0, 0))) := by
    rw [← hW0.out]
    refine (Below.heap_alloc _ _ _ (by simp)).trans ?_
    have := heap_alloc_new (w.alloc (.cells bl 90)) (.cells z 113)
    rwa [World.size_alloc] at this
  have H2 : Hid (W0.heap[w.heap.size + 2]? = some (.cells (cellsW (curWs l 0)) 113 (0, 0))) := by
    have := heap_alloc_new ((w.alloc (.cells bl 90)).alloc (.cells z 113)) (.cells z 113)
    rw [World.size_alloc, World.size_alloc, hW0.out, ← HZ.out] at this
    exact this
  clear hW0
  go_loopw [4] (fun i wr => ∃ I : Nat, I ≤ 16 ∧ i = .int .i64 I ∧ Hid (wr.heap[w.heap.size + 2]? = some (.cells (cellsW (curWs l I)) 113 (0, 0))) ∧ Hid (W0.grownBy wr (some (w.heap.size + 2)))) (fun i _ => 16 - (intOf i).toNat)
  case atStart => exact ⟨0, Nat.zero_le _, rfl, H2, ⟨rfl, rfl, rfl, Nat.le_refl _, fun _ _ _ => rfl⟩⟩
  case round =>
    obtain ⟨I, hI, rfl, HF, HG⟩ := hrel
    obtain ⟨wo, rfl⟩ : ∃ wo, wo = wr := ⟨_, rfl⟩
    by_cases hlt : I < 16
    · have HF0 : Hid (wo.heap[w.heap.size + 2]? = some (.cells (cellsW ((curWs l I).set I (partW l I 0))) 113 (0, 0))) := by
        rw [show partW l I 0 = 0 from rfl, curWs_zero l I (by omega)]
        exact HF
      go_wp2
      go_loopw [5] (fun i wq => ∃ J : Nat, J ≤ 4 ∧ i = .int .i64 J ∧ Hid (wq.heap[w.heap.size + 2]? = some (.cells (cellsW ((curWs l I).set I (partW l I J))) 113 (0, 0))) ∧ Hid (W0.grownBy wq (some (w.heap.size + 2)))) (fun i _ => 4 - (intOf i).toNat)
      case atStart => exact ⟨0, Nat.zero_le _, rfl, HF0, HG⟩
      case round =>
        clear HF HG HF0
        obtain ⟨J, hJ, rfl, HF, HG⟩ := hrel
        by_cases hlj : J < 4
        · have hb := (HG.out.block w.heap.size (by rw [HS0.out]; omega) (by simp)).trans H0.out
          have hlj2 : 4 * I + J < l.length := by omega
          obtain ⟨a, HA⟩ : ∃ a, Hid ((l.getD (4 * I + J) 0).toNat = a) := ⟨_, rfl⟩
          have ha : a < 256 := by rw [← HA.out]; exact byte_nat hby _
          have ca : wr.cell? ⟨w.heap.size, 4 * I + J, none⟩ = some (.int .u8 (a : Int)) := by
            rw [cell_of_row wr w.heap.size _ _ _ _ hb, ← HBL.out, ← HA.out]
            have := hby _ (List.getElem_mem hlj2)
            simp only [cellsB, List.getElem?_toArray, List.getElem?_map, List.getElem?_eq_getElem hlj2, Option.map_some, getD_of_lt hlj2]
            congr 2
            omega
          obtain ⟨x, HX⟩ : ∃ x, Hid (partW l I J = x) := ⟨_, rfl⟩
          have hx : x < 16777216 := by
            rw [← HX.out]
            exact Nat.lt_of_lt_of_le (partW_lt hby I J) (Nat.pow_le_pow_right (by decide) (show J ≤ 3 by omega))
          rw [HX.out] at HF
          have HN : Hid (partW l I (J + 1) = x * 256 + a) := by show _ = _; simp only [partW]; rw [HX.out, HA.out]
          have hcx : wr.cell? ⟨w.heap.size + 2, I, none⟩ = some (.int .u32 (x : Int)) := by
            rw [cell_of_row wr (w.heap.size + 2) I _ _ _ HF.out, cellsW_get (by rw [List.length_set, curWs_length l I (by omega)]; omega)]
            simp [List.getD, curWs_length l I (show I ≤ 64 by omega), show I < 64 by omega]
          have hfz : wr.frozen? ⟨w.heap.size + 2, I, none⟩ = false := by simp [World.frozen?, HF.out]
          clear hb
          go_wp2
          go_region
          all_goals go_wp2
          refine ⟨⟨J + 1, by omega, by go_num, ?_, grown_tr HG.out (grown_setd _ _ _ _)⟩, by simp [intOf]; omega⟩
          show _ = _
          rw [HN.out, ← List.set_set (a := x), ← cellsW_set _ I (x * 256 + a)]
          rw [show ((x * 256 + a : Nat) : Int) = (x : Int) * 256 + (a : Int) by omega]
          exact heap_setCell_same _ (w.heap.size + 2) I _ _ _ HF.out
        · have hJ4 : J = 4 := by omega
          subst hJ4
          have HST : Hid ((curWs l I).set I (partW l I 4) = curWs l (I + 1)) := by
            show _ = _
            rw [partW_four, ← curWs_step l I (by omega)]
            unfold nextW
            rw [if_pos hlt]
          rw [HST.out] at HF
          go_wp2
          exact ⟨⟨I + 1, by omega, by go_num, HF, HG⟩, by simp [intOf]; omega⟩
    · have hI16 : I = 16 := by omega
      rw [hI16] at HF
      clear hI16
      go_wp2
      clear hlt
      go_loopw [6] (fun i wq => ∃ I : Nat, 16 ≤ I ∧ I ≤ 64 ∧ i = .int .i64 I ∧ Hid (wq.heap[w.heap.size + 2]? = some (.cells (cellsW (curWs l I)) 113 (0, 0))) ∧ Hid (W0.grownBy wq (some (w.heap.size + 2)))) (fun i _ => 64 - (intOf i).toNat)
      case atStart => exact ⟨16, Nat.le_refl _, by decide, rfl, HF, HG⟩
      case round =>
        clear HF HG hI
        obtain ⟨I, hI16, hI, rfl, HF, HG⟩ := hrel
        by_cases hlt : I < 64
        · have cell : ∀ j, j < I → ∃ a : Nat, a < 4294967296 ∧ wr.cell? ⟨w.heap.size + 2, j, none⟩ = some (.int .u32 (a : Int)) ∧ (wordsTo l I).getD j 0 = a := fun j hj => by
            refine ⟨_, getW_lt (wordsTo_lt hby I) j, ?_, rfl⟩
            rw [cell_of_row wr (w.heap.size + 2) j _ _ _ HF.out, cellsW_get (by rw [curWs_length l I hI]; omega), curWs_get l I j hj]
          obtain ⟨a2, ha2, c2, e2⟩ := cell (I - 2) (by omega)
          obtain ⟨a7, ha7, c7, e7⟩ := cell (I - 7) (by omega)
          obtain ⟨a15, ha15, c15, e15⟩ := cell (I - 15) (by omega)
          obtain ⟨a16, ha16, c16, e16⟩ := cell (I - 16) (by omega)
          have HV : Hid (nextW l (wordsTo l I) I = add32 (add32 (add32 (sig1 a2) a7) (sig0 a15)) a16) := by
            show _ = _
            unfold nextW
            rw [if_neg (by omega), e2, e7, e15, e16]
          have hci : wr.cell? ⟨w.heap.size + 2, I, none⟩ = some (.int .u32 (((curWs l I).getD I 0 : Nat) : Int)) := by
            rw [cell_of_row wr (w.heap.size + 2) I _ _ _ HF.out]
            exact cellsW_get (by rw [curWs_length l I (by omega)]; omega)
          obtain ⟨old, HOLD⟩ : ∃ old, Hid ((curWs l I).getD I 0 = old) := ⟨_, rfl⟩
          rw [HOLD.out] at hci
          have hfz : wr.frozen? ⟨w.heap.size + 2, I, none⟩ = false := by simp [World.frozen?, HF.out]
          have n2 : ((I : Int) - 2) = ((I - 2 : Nat) : Int) := by omega
          have n7 : ((I : Int) - 7) = ((I - 7 : Nat) : Int) := by omega
          have n15 : ((I : Int) - 15) = ((I - 15 : Nat) : Int) := by omega
          have n16 : ((I : Int) - 16) = ((I - 16 : Nat) : Int) := by omega
          clear cell e2 e7 e15 e16
          have HS0 := hid (sig0_bits a15 ha15)
          have HS1 := hid (sig1_bits a2 ha2)
          go_wp2_with fail
          refine (rturn_7 _ a15 ha15).mono ?_
          rintro e w' ⟨rfl, hw⟩
          subst hw
          go_wp2_with fail
          refine (rturn_18 _ a15 ha15).mono ?_
          rintro e w' ⟨rfl, hw⟩
          subst hw
          go_wp2_with fail
          rw [HS0.out]
          refine (rturn_17 _ a2 ha2).mono ?_
          rintro e w' ⟨rfl, hw⟩
          subst hw
          go_wp2_with fail
          refine (rturn_19 _ a2 ha2).mono ?_
          rintro e w' ⟨rfl, hw⟩
          subst hw
          go_wp2_with fail
          rw [HS1.out]
          go_region
          all_goals go_wp2
          have HADD : Hid ((((sig1 a2 : Nat) : Int) + (a7 : Int) + ((sig0 a15 : Nat) : Int) + (a16 : Int)) % 4294967296 = ((add32 (add32 (add32 (sig1 a2) a7) (sig0 a15)) a16 : Nat) : Int)) := by
            show _ = _
            unfold add32
            omega
          refine ⟨⟨I + 1, by omega, by omega, by go_num, ?_, grown_tr HG.out (grown_setd _ _ _ _)⟩, by simp [intOf]; omega⟩
          show _ = _
          rw [← curWs_step l I (by omega), HV.out, ← cellsW_set, HADD.out]
          exact heap_setCell_same _ (w.heap.size + 2) I _ _ _ HF.out
        · have hI64 : I = 64 := by omega
          subst hI64
          have HWW : Hid (curWs l 64 = wordsTo l 64) := by show _ = _; simp [curWs]
          rw [HWW.out] at HF
          obtain ⟨y, HY⟩ : ∃ y, Hid (cellsW (wordsTo l 64) = y) := ⟨_, rfl⟩
          rw [HY.out] at HF
          have hys : y.size = 64 := by rw [← HY.out, cellsW_size, wordsTo_length]
          have HIy : Hid ((Tryd.prog.info? 113).map (·.size) = some y.size) := by rw [hys]; exact size_w64
          have H1y : Hid (y.all (·.oneCell') = true) := by rw [← HY.out]; exact cellsW_one _
          have HF1c : Hid (wr.heap[w.heap.size + 1]? = some (.cells z 113 (0, 0))) := by
            rw [HG.out.block (w.heap.size + 1) (by rw [HS0.out]; omega) (by simp)]
            exact H1
          have HZY : Hid (z.size = y.size) := by rw [hys, ← HZ.out, cellsW_size, zerosW_length]; exact rfl
          have HB1 := hid (below_setRow (HB0.out.grown HG.out (by rw [HS0.out]; omega) (fun k e => by cases e; omega)) (g := w.heap.size + 1) (by omega) y)
          clear hys hlt
          go_wp2_with (first | (refine wpList_load_row rfl 113 _ rfl (w.heap.size + 2) rfl 113 y (0, 0) _ HF.out Tryd.underlying113 rfl HIy.out ?_) | (refine wpList_store_row rfl 113 _ _ rfl (w.heap.size + 1) y rfl rfl 113 _ HF1c.out HIy.out HZY.out H1y.out ?_))
          refine bodyPost_ret (v := .agg y) (results_cell_row (p := 2) (ty := 113) rfl _ _ (w.heap.size + 1) 113 y (0, 0) _ rfl (setRow_heap _ _ _ _ _ _ HF1c.out) Tryd.underlying113 rfl HIy.out) rfl ?_
          rw [HY.out]
          exact ⟨rfl, HB1.out⟩
end Go.Proofs.YtjmlpkemjafifaaDoor

/- The document's Initial and constants (sha), walked. -/
namespace Go.Proofs.YtjmlpkemjafifaaDoor
open Go.RowKit

set_option maxRecDepth 100000 in
set_option maxHeartbeats 1000000 in
theorem rinitial_any (w : World) : Calls Tryd.prog 49 #[] w fun e w' => e = .returned (.agg (cellsW iv)) ∧ Below w.heap.size w w' := by
  obtain ⟨z8, HZ8⟩ : ∃ z8, Hid (cellsW (zerosW 8) = z8) := ⟨_, rfl⟩
  have hz8 := zero_w8
  rw [HZ8.out] at hz8
  have HZ1 := hid hz8
  have HIm : Hid ((Tryd.prog.info? 88).map (·.size) = some (cellsW iv).size) := size_w8
  have H1m : Hid ((cellsW iv).all (·.oneCell') = true) := cellsW_one _
  have HZM : Hid (z8.size = (cellsW iv).size) := by rw [← HZ8.out, cellsW_size, zerosW_length]; exact rfl
  have HR : Hid ((w.alloc (.cells z8 88)).heap[w.heap.size]? = some (.cells z8 88 (0, 0))) := heap_alloc_new w _
  have HB := hid (below_setRow ((Below.refl _ w).alloc (Nat.le_refl _) (.cells z8 88)) (g := w.heap.size) (Nat.le_refl _) (cellsW iv))
  clear hz8
  go_enter Tryd.func49, Tryd.ntmps49
  go_wp2_with (first | (refine wpList_alloc_agg HZ1.out rfl rfl ?_) | (refine wpList_store_row rfl 88 _ _ rfl w.heap.size (cellsW iv) rfl rfl 88 _ HR.out HIm.out HZM.out H1m.out ?_))
  refine bodyPost_ret (v := .agg (cellsW iv)) (results_cell_row (p := 0) (ty := 88) rfl _ _ w.heap.size 88 (cellsW iv) (0, 0) _ rfl (setRow_heap _ _ _ _ _ _ HR.out) Tryd.underlying88 rfl HIm.out) rfl ?_
  exact ⟨rfl, HB.out⟩

set_option maxRecDepth 100000 in
set_option maxHeartbeats 1000000 in
theorem rconst_any (w : World) : Calls Tryd.prog 74 #[] w fun e w' => e = .returned (.agg (cellsW kW)) ∧ Below w.heap.size w w' := by
  obtain ⟨z8, HZ8⟩ : ∃ z8, Hid (cellsW (zerosW 64) = z8) := ⟨_, rfl⟩
  have hz8 := zero_w64
  rw [HZ8.out] at hz8
  have HZ1 := hid hz8
  have HIm : Hid ((Tryd.prog.info? 113).map (·.size) = some (cellsW kW).size) := size_w64
  have H1m : Hid ((cellsW kW).all (·.oneCell') = true) := cellsW_one _
  have HZM : Hid (z8.size = (cellsW kW).size) := by rw [← HZ8.out, cellsW_size, zerosW_length]; exact rfl
  have HR : Hid ((w.alloc (.cells z8 113)).heap[w.heap.size]? = some (.cells z8 113 (0, 0))) := heap_alloc_new w _
  have HB := hid (below_setRow ((Below.refl _ w).alloc (Nat.le_refl _) (.cells z8 113)) (g := w.heap.size) (Nat.le_refl _) (cellsW kW))
  clear hz8
  go_enter Tryd.func74, Tryd.ntmps74
  go_wp2_with (first | (refine wpList_alloc_agg HZ1.out rfl rfl ?_) | (refine wpList_store_row rfl 113 _ _ rfl w.heap.size (cellsW kW) rfl rfl 113 _ HR.out HIm.out HZM.out H1m.out ?_))
  refine bodyPost_ret (v := .agg (cellsW kW)) (results_cell_row (p := 0) (ty := 113) rfl _ _ w.heap.size 113 (cellsW kW) (0, 0) _ rfl (setRow_heap _ _ _ _ _ _ HR.out) Tryd.underlying113 rfl HIm.out) rfl ?_
  exact ⟨rfl, HB.out⟩

/-- turn, at whatever number of bits it is called with. -/
theorem rturn_i (w : World) (x : Nat) (i : Int) (hx : x < 4294967296) (hi : i = 6 ∨ i = 11 ∨ i = 25 ∨ i = 2 ∨ i = 13 ∨ i = 22) : Calls Tryd.prog 75 #[.int .u32 (x : Int), .int .u64 i] w fun e w' => e = .returned (.int .u32 ((rot x i.toNat : Nat) : Int)) ∧ w' = w := by
  rcases hi with rfl | rfl | rfl | rfl | rfl | rfl
  · exact rturn_6 w x hx
  · exact rturn_11 w x hx
  · exact rturn_25 w x hx
  · exact rturn_2 w x hx
  · exact rturn_13 w x hx
  · exact rturn_22 w x hx
end Go.Proofs.YtjmlpkemjafifaaDoor

/- The document's Mix (sha), walked. -/
namespace Go.Proofs.YtjmlpkemjafifaaDoor
open Go.RowKit

theorem grown_setRow2 (w : World) (g : Nat) (cs : Array Value) : w.grownBy (w.setRow g cs) (some g) :=
  ⟨rfl, rfl, rfl, by simp [World.setRow], fun i _ hne => by
    have h1 : g ≠ i := fun e => hne (by rw [e])
    simp [World.setRow, Array.getElem?_modify, h1]⟩
theorem rnd_open {k x a b c d e f g h : Nat} : rnd k x [a, b, c, d, e, f, g, h] = [((h + bs1 e + chW e f g + k + x) % 4294967296 + (bs0 a + majW a b c) % 4294967296) % 4294967296, a, b, c, (d + (h + bs1 e + chW e f g + k + x) % 4294967296) % 4294967296, e, f, g] := rfl

set_option maxRecDepth 100000 in
set_option maxHeartbeats 4000000 in
theorem rmix_core (w : World) (hs ws : List Nat) (l : List Int) (h8 : W8 hs) (hl : l.length = 64) (hwl : ws.length = 64) (hwb : ∀ x ∈ ws, x < 4294967296)
    (hS : ∀ W, Calls Tryd.prog 73 #[.agg (cellsB l)] W fun e w' => e = .returned (.agg (cellsW ws)) ∧ Below W.heap.size W w') :
    Calls Tryd.prog 50 #[.agg (cellsW hs), .agg (cellsB l)] w fun e w' => e = .returned (.agg (cellsW (List.zipWith add32 hs (rnds hs ws 64)))) ∧ Below w.heap.size w w' := by
  obtain ⟨z, HZ⟩ : ∃ z, Hid (cellsW (zerosW 64) = z) := ⟨_, rfl⟩
  obtain ⟨z8, HZ8⟩ : ∃ z8, Hid (cellsW (zerosW 8) = z8) := ⟨_, rfl⟩
  have hz := zero_w64
  rw [HZ.out] at hz
  have HZ0 := hid hz
  have hz8 := zero_w8
  rw [HZ8.out] at hz8
  have HZ1 := hid hz8
  obtain ⟨bl, HBL⟩ : ∃ bl, Hid (cellsB l = bl) := ⟨_, rfl⟩
  obtain ⟨hw, HHW⟩ : ∃ hw, Hid (cellsW hs = hw) := ⟨_, rfl⟩
  obtain ⟨kc, HKC⟩ : ∃ kc, Hid (cellsW kW = kc) := ⟨_, rfl⟩
  rw [HBL.out, HHW.out]
  have HWB := hid hwb
  clear hz hz8 hwb
  obtain ⟨W0, hW0⟩ : ∃ W0, Hid (((w.alloc (.cells hw 88)).alloc (.cells bl 90)).alloc (.cells z8 88) = W0) := ⟨_, rfl⟩
  have HB0 : Hid (Below w.heap.size w W0) := by rw [← hW0.out]; exact (((Below.refl _ w).alloc (Nat.le_refl _) _).alloc (by simp) _).alloc (by simp; omega) _
  have hS0 : W0.heap.size = w.heap.size + 3 := by rw [← hW0.out]; simp
  have H0 : Hid (W0.heap[w.heap.size]? = some (.cells hw 88 (0, 0))) := by
    rw [← hW0.out]
    exact (Below.heap_alloc _ _ _ (by simp; omega)).trans ((Below.heap_alloc _ _ _ (by simp)).trans (heap_alloc_new w _))
  have H1 : Hid (W0.heap[w.heap.size + 1]? = some (.cells bl 90 (0, 0))) := by
    rw [← hW0.out]
    refine (Below.heap_alloc _ _ _ (by simp)).trans ?_
    have := heap_alloc_new (w.alloc (.cells hw 88)) (.cells bl 90)
    rwa [World.size_alloc] at this
  have H2 : Hid (W0.heap[w.heap.size + 2]? = some (.cells z8 88 (0, 0))) := by
    have := heap_alloc_new ((w.alloc (.cells hw 88)).alloc (.cells bl 90)) (.cells z8 88)
    rw [World.size_alloc, World.size_alloc, hW0.out] at this
    exact this
  have hbs : bl.size = 64 := by rw [← HBL.out, cellsB_size, hl]
  have HIb : Hid ((Tryd.prog.info? 90).map (·.size) = some bl.size) := by rw [hbs]; exact size_b64
  have CS := hS W0
  clear hS
  rw [HBL.out] at CS
  obtain ⟨y, HY⟩ : ∃ y, Hid (cellsW ws = y) := ⟨_, rfl⟩
  rw [HY.out] at CS
  have C1 := hid CS
  have hys : y.size = 64 := by rw [← HY.out, cellsW_size, hwl]
  have HIy : Hid ((Tryd.prog.info? 113).map (·.size) = some y.size) := by rw [hys]; exact size_w64
  have H1y : Hid (y.all (·.oneCell') = true) := by rw [← HY.out]; exact cellsW_one _
  have HZY : Hid (z.size = y.size) := by rw [hys, ← HZ.out, cellsW_size, zerosW_length]; exact rfl
  have hks : kc.size = 64 := by rw [← HKC.out, cellsW_size]; rfl
  have HIk : Hid ((Tryd.prog.info? 113).map (·.size) = some kc.size) := by rw [hks]; exact size_w64
  have H1k : Hid (kc.all (·.oneCell') = true) := by rw [← HKC.out]; exact cellsW_one _
  have HZK : Hid (z.size = kc.size) := by rw [hks, ← HZ.out, cellsW_size, zerosW_length]; exact rfl
  have hhs : hw.size = 8 := by rw [← HHW.out, cellsW_size, h8.1]
  have HIh : Hid ((Tryd.prog.info? 88).map (·.size) = some hw.size) := by rw [hhs]; exact size_w8
  have H1h : Hid (hw.all (·.oneCell') = true) := by rw [← HHW.out]; exact cellsW_one _
  have HZH : Hid (z8.size = hw.size) := by rw [hhs, ← HZ8.out, cellsW_size, zerosW_length]; exact rfl
  clear CS hbs hys hks hhs
  go_enter Tryd.func50, Tryd.ntmps50
  go_wp2_with (first | (refine wpList_alloc_agg HZ1.out rfl rfl ?_; rw [hW0.out]) | refine wpList_load_row rfl 90 _ rfl (w.heap.size + 1) rfl 90 bl (0, 0) _ H1.out Tryd.underlying90 rfl HIb.out ?_)
  refine C1.out.mono ?_
  rintro e w1 ⟨rfl, hB1⟩
  have HF1 : Hid ((w1.alloc (.cells z 113)).heap[w1.heap.size]? = some (.cells z 113 (0, 0))) := heap_alloc_new w1 _
  have HB1 := hid hB1
  have hs1 := hB1.size
  clear hB1 C1
  obtain ⟨W2, hW2⟩ : ∃ W2, Hid ((w1.alloc (.cells z 113)).setRow w1.heap.size y = W2) := ⟨_, rfl⟩
  have HB2 : Hid (Below W0.heap.size W0 W2) := by
    rw [← hW2.out]
    exact below_setRow (HB1.out.alloc hs1 _) hs1 y
  have HY2 : Hid (W2.heap[w1.heap.size]? = some (.cells y 113 (0, 0))) := by
    rw [← hW2.out]
    exact setRow_heap _ _ _ _ _ _ HF1.out
  have hS2 : W2.heap.size = w1.heap.size + 1 := by rw [← hW2.out]; simp [World.setRow]
  have CK := hid (rconst_any W2)
  rw [HKC.out] at CK
  go_wp2_with (first | (refine wpList_alloc_agg HZ0.out rfl rfl ?_) | (refine wpList_store_row rfl 113 _ _ rfl w1.heap.size y rfl rfl 113 _ HF1.out HIy.out HZY.out H1y.out ?_; rw [hW2.out]))
  refine CK.out.mono ?_
  rintro e w3 ⟨rfl, hB3⟩
  have hs3 := hB3.size
  have HB3 : Hid (Below W0.heap.size W0 w3) := HB2.out.trans (hB3.mono HB2.out.size)
  have HY3 : Hid (w3.heap[w1.heap.size]? = some (.cells y 113 (0, 0))) := (hB3.block _ (by omega)).trans HY2.out
  have HF3 : Hid ((w3.alloc (.cells z 113)).heap[w3.heap.size]? = some (.cells z 113 (0, 0))) := heap_alloc_new w3 _
  obtain ⟨W4, hW4⟩ : ∃ W4, Hid ((w3.alloc (.cells z 113)).setRow w3.heap.size kc = W4) := ⟨_, rfl⟩
  have HB34 : Hid (Below w3.heap.size w3 W4) := by rw [← hW4.out]; exact below_setRow ((Below.refl _ w3).alloc (Nat.le_refl _) _) (Nat.le_refl _) kc
  have HB4 : Hid (Below W0.heap.size W0 W4) := HB3.out.trans (HB34.out.mono HB3.out.size)
  have HK4 : Hid (W4.heap[w3.heap.size]? = some (.cells kc 113 (0, 0))) := by rw [← hW4.out]; exact setRow_heap _ _ _ _ _ _ HF3.out
  have HY4 : Hid (W4.heap[w1.heap.size]? = some (.cells y 113 (0, 0))) := (HB34.out.block _ (by omega)).trans HY3.out
  have hS4 : W4.heap.size = w3.heap.size + 1 := by rw [← hW4.out]; simp [World.setRow]
  have HH4 : Hid (W4.heap[w.heap.size]? = some (.cells hw 88 (0, 0))) := (HB4.out.block w.heap.size (by omega)).trans H0.out
  have HR4 : Hid (W4.heap[w.heap.size + 2]? = some (.cells z8 88 (0, 0))) := (HB4.out.block (w.heap.size + 2) (by omega)).trans H2.out
  have HF5 : Hid ((W4.alloc (.cells z8 88)).heap[W4.heap.size]? = some (.cells z8 88 (0, 0))) := heap_alloc_new W4 _
  obtain ⟨W6, hW6⟩ : ∃ W6, Hid ((W4.alloc (.cells z8 88)).setRow W4.heap.size hw = W6) := ⟨_, rfl⟩
  have HB46 : Hid (Below W4.heap.size W4 W6) := by rw [← hW6.out]; exact below_setRow ((Below.refl _ W4).alloc (Nat.le_refl _) _) (Nat.le_refl _) hw
  have HS6 : Hid (W6.heap[W4.heap.size]? = some (.cells (cellsW (rnds hs ws 0)) 88 (0, 0))) := by
    rw [← hW6.out, show cellsW (rnds hs ws 0) = hw from HHW.out]
    exact setRow_heap _ _ _ _ _ _ HF5.out
  have hS6 : W6.heap.size = W4.heap.size + 1 := by rw [← hW6.out]; simp [World.setRow]
  clear hB3 CK hW2 HF1
  go_wp2_with (first | (refine wpList_alloc_agg HZ0.out rfl rfl ?_) | (refine wpList_alloc_agg HZ1.out rfl rfl ?_) | (refine wpList_store_row rfl 113 _ _ rfl w3.heap.size kc rfl rfl 113 _ HF3.out HIk.out HZK.out H1k.out ?_; rw [hW4.out]) | (refine wpList_load_row rfl 88 _ rfl w.heap.size rfl 88 hw (0, 0) _ HH4.out Tryd.underlying88 rfl HIh.out ?_) | (refine wpList_store_row rfl 88 _ _ rfl W4.heap.size hw rfl rfl 88 _ HF5.out HIh.out HZH.out H1h.out ?_; rw [hW6.out]))
  clear hW4 hW6 HF3 HF5
  rw [hS4] at HS6 hS6 HB46
  have HH6 : Hid (W6.heap[w.heap.size]? = some (.cells hw 88 (0, 0))) := (HB46.out.block _ (by omega)).trans HH4.out
  have HR6 : Hid (W6.heap[w.heap.size + 2]? = some (.cells z8 88 (0, 0))) := (HB46.out.block _ (by omega)).trans HR4.out
  have HY6 : Hid (W6.heap[w1.heap.size]? = some (.cells y 113 (0, 0))) := (HB46.out.block _ (by omega)).trans HY4.out
  have HK6 : Hid (W6.heap[w3.heap.size]? = some (.cells kc 113 (0, 0))) := (HB46.out.block _ (by omega)).trans HK4.out
  have HB6 : Hid (Below w.heap.size w W6) := HB0.out.trans ((HB4.out.trans (HB46.out.mono (by omega))).mono (by omega))
  have H8 := hid h8
  clear h8 HH4 HR4 HY4 HK4 H0 H1 H2 HIb HB34 HB4 HB3 HY3 HY2 HB2 HB1
  go_loopw [8] (fun i wr => ∃ t : Nat, t ≤ 64 ∧ i = .int .i64 t ∧ Hid (wr.heap[w3.heap.size + 1]? = some (.cells (cellsW (rnds hs ws t)) 88 (0, 0))) ∧ Hid (W6.grownBy wr (some (w3.heap.size + 1)))) (fun i _ => 64 - (intOf i).toNat)
  case atStart => exact ⟨0, by decide, rfl, HS6, ⟨rfl, rfl, rfl, Nat.le_refl _, fun _ _ _ => rfl⟩⟩
  case round =>
    obtain ⟨t, ht, rfl, HF, HG⟩ := hrel
    obtain ⟨a, b, c, d, e, f, g, h, ers, ha, hb, hc, hd, he, hf, hg, hh⟩ := (W8.rnds (ws := ws) H8.out t).open
    have HRS := hid ers
    rw [ers] at HF
    clear ers
    by_cases hlt : t < 64
    · obtain ⟨k, HK⟩ : ∃ k, Hid (kW.getD t 0 = k) := ⟨_, rfl⟩
      obtain ⟨x, HX⟩ : ∃ x, Hid (ws.getD t 0 = x) := ⟨_, rfl⟩
      have ck : wr.cell? ⟨w3.heap.size, t, none⟩ = some (.int .u32 (k : Int)) := by
        rw [cell_of_row wr w3.heap.size t _ _ _ ((HG.out.block w3.heap.size (by omega) (by simp)).trans HK6.out), ← HKC.out, cellsW_get (by rw [kW_length]; exact hlt), HK.out]
      have cx : wr.cell? ⟨w1.heap.size, t, none⟩ = some (.int .u32 (x : Int)) := by
        rw [cell_of_row wr w1.heap.size t _ _ _ ((HG.out.block w1.heap.size (by omega) (by simp; omega)).trans HY6.out), ← HY.out, cellsW_get (by rw [hwl]; exact hlt), HX.out]
      have hkl : k < 4294967296 := by rw [← HK.out]; exact getW_lt kW_lt t
      have hxl : x < 4294967296 := by rw [← HX.out]; exact getW_lt HWB.out t
      have cs : ∀ j, j < 8 → wr.cell? ⟨w3.heap.size + 1, j, none⟩ = some (.int .u32 ((([a, b, c, d, e, f, g, h] : List Nat).getD j 0 : Nat) : Int)) := fun j hj => by
        rw [cell_of_row wr (w3.heap.size + 1) j _ _ _ HF.out]
        exact cellsW_get hj
      have s0 := cs 0 (by decide)
      have s1 := cs 1 (by decide)
      have s2 := cs 2 (by decide)
      have s3 := cs 3 (by decide)
      have s4 := cs 4 (by decide)
      have s5 := cs 5 (by decide)
      have s6 := cs 6 (by decide)
      have s7 := cs 7 (by decide)
      simp only [List.getD_cons_zero, List.getD_cons_succ] at s0 s1 s2 s3 s4 s5 s6 s7
      clear cs
      have B1 := hid (bs1_bits e he)
      have B0 := hid (bs0_bits a ha)
      have BC := hid (ch_bits e f g he hf hg)
      have BM := hid (maj_bits a b c ha hb hc)
      go_wp2
      go_quiet ((go_at_call 75; exact Calls.quiet_of_same (rturn_i _ _ _ (by assumption) (by decide))))
      rw [B1.out, BC.out]
      obtain ⟨u, HU⟩ : ∃ u : Nat, Hid ((((h : Int) + ((bs1 e : Nat) : Int) + ((chW e f g : Nat) : Int) + (k : Int)) % 4294967296 + (x : Int)) % 4294967296 = (u : Int)) := ⟨((h + bs1 e + chW e f g + k) % 4294967296 + x) % 4294967296, by show _ = _; omega⟩
      rw [HU.out]
      have hu : u < 4294967296 := by have := HU.out; omega
      obtain ⟨wa, Hq1, Hd1⟩ : ∃ wa, Hid (wr.drewN nq = wa) ∧ Hid (Dr wr wa) := ⟨_, rfl, Dr.one _ _⟩
      rw [Hq1.out]
      clear Hq1 nq
      replace s0 := (Hd1.out.cell _).trans s0
      replace s1 := (Hd1.out.cell _).trans s1
      replace s2 := (Hd1.out.cell _).trans s2
      replace s3 := (Hd1.out.cell _).trans s3
      replace s4 := (Hd1.out.cell _).trans s4
      replace s5 := (Hd1.out.cell _).trans s5
      replace s6 := (Hd1.out.cell _).trans s6
      replace s7 := (Hd1.out.cell _).trans s7
      go_wp2
      go_quiet ((go_at_call 75; exact Calls.quiet_of_same (rturn_i _ _ _ (by assumption) (by decide))))
      rw [B0.out, BM.out]
      obtain ⟨v, HV⟩ : ∃ v : Nat, Hid ((((bs0 a : Nat) : Int) + ((majW a b c : Nat) : Int)) % 4294967296 = (v : Int)) := ⟨(bs0 a + majW a b c) % 4294967296, by show _ = _; omega⟩
      rw [HV.out]
      have hv : v < 4294967296 := by have := HV.out; omega
      obtain ⟨p, hp⟩ : ∃ p : Nat, ((u : Int) + (v : Int)) % 4294967296 = (p : Int) := ⟨(u + v) % 4294967296, by omega⟩
      obtain ⟨q, hq⟩ : ∃ q : Nat, ((d : Int) + (u : Int)) % 4294967296 = (q : Int) := ⟨(d + u) % 4294967296, by omega⟩
      have HN : Hid (rnds hs ws (t + 1) = [p, a, b, c, q, e, f, g]) := by
        show rnd (kW.getD t 0) (ws.getD t 0) (rnds hs ws t) = _
        rw [HRS.out, HK.out, HX.out, rnd_open]
        have h1 := HU.out
        have h2 := HV.out
        have e1 : (h + bs1 e + chW e f g + k + x) % 4294967296 = u := by omega
        have e2 : (bs0 a + majW a b c) % 4294967296 = v := by omega
        rw [e1, e2, show (u + v) % 4294967296 = p by omega, show (d + u) % 4294967296 = q by omega]
      have HIm : Hid ((Tryd.prog.info? 88).map (·.size) = some (cellsW [p, a, b, c, q, e, f, g]).size) := size_w8
      have H1m : Hid ((cellsW [p, a, b, c, q, e, f, g]).all (·.oneCell') = true) := cellsW_one _
      have HZM : Hid ((cellsW [a, b, c, d, e, f, g, h]).size = (cellsW [p, a, b, c, q, e, f, g]).size) := rfl
      obtain ⟨wb, Hq2, Hd2⟩ : ∃ wb, Hid (wa.drewN nq = wb) ∧ Hid (Dr wa wb) := ⟨_, rfl, Dr.one _ _⟩
      rw [Hq2.out]
      clear Hq2 nq
      replace s0 := (Hd2.out.cell _).trans s0
      replace s1 := (Hd2.out.cell _).trans s1
      replace s2 := (Hd2.out.cell _).trans s2
      replace s3 := (Hd2.out.cell _).trans s3
      replace s4 := (Hd2.out.cell _).trans s4
      replace s5 := (Hd2.out.cell _).trans s5
      replace s6 := (Hd2.out.cell _).trans s6
      replace s7 := (Hd2.out.cell _).trans s7
      have HFb : Hid (wb.heap[w3.heap.size + 1]? = some (.cells (cellsW [a, b, c, d, e, f, g, h]) 88 (0, 0))) := by
        show _ = _
        rw [Hd2.out.heap, Hd1.out.heap]
        exact HF.out
      have HGb : Hid (W6.grownBy wb (some (w3.heap.size + 1))) := by
        obtain ⟨n1, r1⟩ := Hd1.out
        obtain ⟨n2, r2⟩ := Hd2.out
        rw [r2, r1]
        exact grown_tr HG.out ⟨rfl, rfl, rfl, Nat.le_refl _, fun _ _ _ => rfl⟩
      clear HU HV B0 B1 BC BM
      go_wp2_with (refine wpList_store_row rfl 88 _ _ rfl (w3.heap.size + 1) (cellsW [p, a, b, c, q, e, f, g]) rfl rfl 88 _ HFb.out HIm.out HZM.out H1m.out ?_)
      refine ⟨⟨t + 1, by omega, by go_num, ?_, grown_tr HGb.out (grown_setRow2 _ _ _)⟩, by simp [intOf]; omega⟩
      show _ = _
      rw [HN.out]
      exact setRow_heap _ _ _ _ _ _ HFb.out
    · have H64 : Hid (t = 64) := by show _ = _; omega
      rw [H64.out] at HRS
      obtain ⟨st, HST⟩ : ∃ st, Hid (([a, b, c, d, e, f, g, h] : List Nat) = st) := ⟨_, rfl⟩
      have hst8 : st.length = 8 := by rw [← HST.out]; rfl
      have hstb : ∀ x ∈ st, x < 4294967296 := by
        rw [← HST.out, ← HRS.out]
        exact (W8.rnds (ws := ws) H8.out 64).2
      rw [HST.out] at HF HRS
      have HSB := hid hstb
      have hnlt : ¬ ((t : Int) < 64) := by omega
      obtain ⟨wo, rfl⟩ : ∃ wo, wo = wr := ⟨_, rfl⟩
      have HM0 : Hid (wo.heap[w.heap.size]? = some (.cells (cellsW (curM hs st 0)) 88 (0, 0))) := by
        rw [show curM hs st 0 = hs from by simp [curM], HHW.out]
        exact (HG.out.block w.heap.size (by omega) (by simp; omega)).trans HH6.out
      have HR7 : Hid (wo.heap[w.heap.size + 2]? = some (.cells z8 88 (0, 0))) := (HG.out.block (w.heap.size + 2) (by omega) (by simp; omega)).trans HR6.out
      have HB7 : Hid (Below w.heap.size w wo) := HB6.out.grown HG.out HB6.out.size (fun q e => by cases e; omega)
      have hso : w3.heap.size + 1 < wo.heap.size := (Array.getElem?_eq_some_iff.1 HF.out).1
      clear hlt ht hstb ha hb hc hd he hf hg hh HST
      go_wp2
      clear hnlt
      go_loopw [13] (fun i wq => ∃ I : Nat, I ≤ 8 ∧ i = .int .i64 I ∧ Hid (wq.heap[w.heap.size]? = some (.cells (cellsW (curM hs st I)) 88 (0, 0))) ∧ Hid (wo.grownBy wq (some w.heap.size))) (fun i _ => 8 - (intOf i).toNat)
      case atStart => exact ⟨0, by decide, rfl, HM0, ⟨rfl, rfl, rfl, Nat.le_refl _, fun _ _ _ => rfl⟩⟩
      case round =>
        obtain ⟨I, hI, rfl, HFI, HGI⟩ := hrel
        by_cases hlt : I < 8
        · have hci := cell_of_row wr w.heap.size I _ _ _ HFI.out
          rw [cellsW_get (by rw [curM_length H8.out.1 hst8]; exact hlt), curM_get H8.out.1 hst8 hlt] at hci
          have hcs : wr.cell? ⟨w3.heap.size + 1, I, none⟩ = some (.int .u32 ((st.getD I 0 : Nat) : Int)) := by
            rw [cell_of_row wr (w3.heap.size + 1) I _ _ _ ((HGI.out.block (w3.heap.size + 1) hso (by simp; omega)).trans HF.out)]
            exact cellsW_get (by rw [hst8]; exact hlt)
          obtain ⟨p, HP⟩ : ∃ p, Hid (hs.getD I 0 = p) := ⟨_, rfl⟩
          obtain ⟨q, HQ⟩ : ∃ q, Hid (st.getD I 0 = q) := ⟨_, rfl⟩
          rw [HP.out] at hci
          rw [HQ.out] at hcs
          have hpl : p < 4294967296 := by rw [← HP.out]; exact getW_lt H8.out.2 I
          have hql : q < 4294967296 := by rw [← HQ.out]; exact getW_lt HSB.out I
          have hfz : wr.frozen? ⟨w.heap.size, I, none⟩ = false := by simp [World.frozen?, HFI.out]
          go_wp2
          go_region
          all_goals go_wp2
          refine ⟨⟨I + 1, by omega, by go_num, ?_, grown_tr HGI.out (grown_setd _ _ _ _)⟩, by simp [intOf]; omega⟩
          show _ = _
          rw [← curM_step H8.out.1 hst8 hlt, HP.out, HQ.out, ← cellsW_set, show ((add32 p q : Nat) : Int) = ((p : Int) + (q : Int)) % 4294967296 by unfold add32; omega]
          exact heap_setCell_same _ w.heap.size I _ _ _ HFI.out
        · have hI8 : I = 8 := by omega
          have HCM : Hid (curM hs st I = List.zipWith add32 hs (rnds hs ws 64)) := by
            show _ = _
            rw [hI8, HRS.out]
            unfold curM
            rw [List.take_of_length_le (by simp; omega), List.drop_eq_nil_of_le (by rw [H8.out.1]; exact Nat.le_refl _), List.append_nil]
          rw [HCM.out] at HFI
          obtain ⟨m, HMM⟩ : ∃ m, Hid (cellsW (List.zipWith add32 hs (rnds hs ws 64)) = m) := ⟨_, rfl⟩
          rw [HMM.out] at HFI
          have hms : m.size = 8 := by
            rw [← HMM.out, cellsW_size, ← HCM.out, curM_length H8.out.1 hst8]
          have HIm : Hid ((Tryd.prog.info? 88).map (·.size) = some m.size) := by rw [hms]; exact size_w8
          have H1m : Hid (m.all (·.oneCell') = true) := by rw [← HMM.out]; exact cellsW_one _
          have HR8 : Hid (wr.heap[w.heap.size + 2]? = some (.cells z8 88 (0, 0))) := (HGI.out.block (w.heap.size + 2) (by omega) (by simp)).trans HR7.out
          have HZM : Hid (z8.size = m.size) := by rw [hms, ← HZ8.out, cellsW_size, zerosW_length]; exact rfl
          have HBF := hid (below_setRow (HB7.out.grown HGI.out HB7.out.size (fun k e => by cases e; exact Nat.le_refl _)) (g := w.heap.size + 2) (by omega) m)
          have hnl : ¬ ((I : Int) < 8) := by omega
          clear hms hlt hI8
          go_wp2_with (first | (refine wpList_load_row rfl 88 _ rfl w.heap.size rfl 88 m (0, 0) _ HFI.out Tryd.underlying88 rfl HIm.out ?_) | (refine wpList_store_row rfl 88 _ _ rfl (w.heap.size + 2) m rfl rfl 88 _ HR8.out HIm.out HZM.out H1m.out ?_))
          refine bodyPost_ret (v := .agg m) (results_cell_row (p := 4) (ty := 88) rfl _ _ (w.heap.size + 2) 88 m (0, 0) _ rfl (setRow_heap _ _ _ _ _ _ HR8.out) Tryd.underlying88 rfl HIm.out) rfl ?_
          rw [HMM.out]
          exact ⟨rfl, HBF.out⟩

theorem rmix_any (w : World) (hs : List Nat) (l : List Int) (h8 : W8 hs) (hl : l.length = 64) (hby : ∀ x ∈ l, 0 ≤ x ∧ x < 256) :
    Calls Tryd.prog 50 #[.agg (cellsW hs), .agg (cellsB l)] w fun e w' => e = .returned (.agg (cellsW (mixL hs l))) ∧ Below w.heap.size w w' :=
  rmix_core w hs (wordsTo l 64) l h8 hl (wordsTo_length l 64) (wordsTo_lt hby 64) (fun W => rwords_any W l hl hby)
end Go.Proofs.YtjmlpkemjafifaaDoor
