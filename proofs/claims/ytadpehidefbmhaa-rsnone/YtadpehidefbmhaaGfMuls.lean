/- gf.multiples, walked. -/
import Derived.Test.YtadpehidefbmhaaGfAlg
set_option linter.unusedSimpArgs false
set_option linter.unusedVariables false
namespace Go.Proofs.Ytadpehidefbmhaa
open Go Go.RowKit

/-- The first n multiples of an element, and noughts. -/
def tabM (a n : Nat) : List Nat := (List.range n).map (fun j => prod j a) ++ List.replicate (256 - n) 0
theorem tabM_length (a n : Nat) (h : n ≤ 256) : (tabM a n).length = 256 := by simp [tabM]; omega
theorem tabM_step (a n : Nat) (h : n < 256) : (tabM a n).set n (prod n a) = tabM a (n + 1) := by
  unfold tabM
  rw [List.set_append_right _ _ (by simp), List.length_map, List.length_range, Nat.sub_self, show 256 - n = (256 - (n + 1)) + 1 by omega, List.replicate_succ, List.set_cons_zero, List.range_succ, List.map_append]
  simp
theorem tabM_get (a n i : Nat) (h : i < n) : (tabM a n).getD i 0 = prod i a := by
  simp [tabM, List.getD, List.getElem?_append, h]
/-- All multiples of an element. -/
def mulsL (a : Nat) : List Nat := (List.range 256).map fun j => prod j a
theorem mulsL_length (a : Nat) : (mulsL a).length = 256 := by simp [mulsL]
theorem mulsL_get (a i : Nat) (h : i < 256) : (mulsL a).getD i 0 = prod i a := by simp [mulsL, List.getD, h]
theorem tabM_all (a : Nat) : tabM a 256 = mulsL a := by simp [tabM, mulsL]
theorem tabM_one (a : Nat) (ha : a < 256) : tabM a 1 = zeros8 256 := by
  unfold tabM
  rw [show List.range 1 = [0] from rfl, List.map_cons, List.map_nil, zero_prod a ha]
  exact (List.replicate_succ (n := 255) (a := 0)).symm
theorem prod_bit (k i a : Nat) (hk : k < 8) (hi : i < 2 ^ k) (ha : a < 256) : prod (2 ^ k + i) a = prod i a ^^^ prod (2 ^ k) a := by
  have h : (List.range 8).all (fun k => (List.range (2 ^ k)).all fun i => 2 ^ k + i == i ^^^ 2 ^ k) = true := by decide +kernel
  have h1 := List.all_eq_true.1 (List.all_eq_true.1 h k (List.mem_range.2 hk)) i (List.mem_range.2 hi)
  simp only [beq_iff_eq] at h1
  have hp := pow_lt k hk
  rw [h1, prod_left i (2 ^ k) a (by omega) hp]
theorem prod_up (k a : Nat) (hk : k + 1 < 8) (ha : a < 256) : dbl (prod (2 ^ k) a) = prod (2 ^ (k + 1)) a := by
  have hp := pow_lt k (by omega)
  have hd : dbl (2 ^ k) = 2 ^ (k + 1) := by
    have h : (List.range 7).all (fun k => dbl (2 ^ k) == 2 ^ (k + 1)) = true := by decide +kernel
    simpa using List.all_eq_true.1 h k (List.mem_range.2 (by omega))
  rw [← hd, ← prod_two _ (prod_lt a hp), ← prod_two _ hp, prod_comm _ 2 (prod_lt a hp) (by decide), prod_assoc 2 _ a (by decide) hp ha, prod_comm 2 _ (by decide) hp]

set_option maxRecDepth 100000 in
set_option maxHeartbeats 4000000 in
theorem multiples_core (w : World) (a : Nat) (ha : a < 256) (L : List Nat) (HL : Hid (L = mulsL a)) : Calls Try.prog 64 #[.int .u8 (a : Int)] w fun e w' => e = .returned (.agg (cells8 L)) ∧ Below w.heap.size w w' := by
  obtain ⟨z, HZ⟩ : ∃ z, Hid (cells8 (zeros8 256) = z) := ⟨_, rfl⟩
  have hz := zero_b256
  rw [HZ.out] at hz
  have HZ0 := hid hz
  clear hz
  go_enter Try.func64, Try.ntmps64
  go_wp2_with (refine wpList_alloc_agg HZ0.out rfl rfl ?_)
  obtain ⟨W0, hW0⟩ : ∃ W0, Hid ((w.alloc (.cells z 80)).alloc (.cells z 80) = W0) := ⟨_, rfl⟩
  rw [hW0.out]
  have HB0 : Hid (Below w.heap.size w W0) := by rw [← hW0.out]; exact ((Below.refl _ w).alloc (Nat.le_refl _) _).alloc (by simp) _
  have HS0 : Hid (W0.heap.size = w.heap.size + 2) := by rw [← hW0.out]; show _ = _; simp
  have H0 : Hid (W0.heap[w.heap.size]? = some (.cells z 80 (0, 0))) := by
    rw [← hW0.out]
    exact (Below.heap_alloc _ _ _ (by simp)).trans (heap_alloc_new w _)
  have H1 : Hid (W0.heap[w.heap.size + 1]? = some (.cells (cells8 (tabM a 1)) 80 (0, 0))) := by
    have := heap_alloc_new (w.alloc (.cells z 80)) (.cells z 80)
    rw [World.size_alloc, hW0.out, ← HZ.out, ← tabM_one a ha] at this
    exact this
  clear hW0
  go_loopw [0, 4] (fun o b wr => ∃ k O B : Nat, O < 256 ∧ B ≤ 256 ∧ 0 < B ∧ Hid (B = 2 ^ k) ∧ Hid (k < 8 → O = prod (2 ^ k) a) ∧ o = .int .u8 (O : Int) ∧ b = .int .i64 (B : Int) ∧ Hid (wr.heap[w.heap.size + 1]? = some (.cells (cells8 (tabM a B)) 80 (0, 0))) ∧ Hid (W0.grownBy wr (some (w.heap.size + 1)))) (fun _ b _ => 256 - (intOf b).toNat)
  case atStart => exact ⟨0, a, 1, ha, by decide, by decide, rfl, (fun _ => (one_prod a ha).symm), rfl, rfl, H1, grown_rfl _ _⟩
  case round =>
    obtain ⟨k, O, B, hO, hB, hB0, HB, HO, rfl, rfl, HF, HG⟩ := hrel
    by_cases hlt : B < 256
    · have HK : Hid (k < 8) := by
        show k < 8
        refine Decidable.byContradiction fun hk => ?_
        have h8 : 2 ^ 8 ≤ 2 ^ k := Nat.pow_le_pow_right (by decide) (by omega)
        rw [← HB.out] at h8
        omega
      have HE : Hid (O = prod (2 ^ k) a) := HO.out HK.out
      have HB2 : Hid (B + B = 2 ^ (k + 1)) := by rw [HB.out, Nat.pow_succ]; show _ = _; omega
      have hBB : B + B ≤ 256 := by
        rw [HB2.out]
        exact Nat.le_trans (Nat.pow_le_pow_right (by decide) (by have := HK.out; omega : k + 1 ≤ 8)) (by decide)
      have HDN : Hid (k + 1 < 8 → dbl O = prod (2 ^ (k + 1)) a) := fun h => by rw [HE.out]; exact prod_up k a h ha
      have HDL := hid (dbl_lt hO)
      have HST : Hid (∀ I, I < B → prod (B + I) a = prod I a ^^^ O) := fun I hI => by
        rw [HE.out, HB.out]
        exact prod_bit k I a HK.out (by rw [← HB.out]; exact hI) ha
      have hszw : w.heap.size + 1 < wr.heap.size := by have := HG.out.size; rw [HS0.out] at this; omega
      clear HO HE H1
      go_wp2
      go_loopw [11] (fun l wq => ∃ I : Nat, I ≤ B ∧ l = .int .i64 (I : Int) ∧ Hid (wq.heap[w.heap.size + 1]? = some (.cells (cells8 (tabM a (B + I))) 80 (0, 0))) ∧ Hid (wr.grownBy wq (some (w.heap.size + 1)))) (fun l _ => B - (intOf l).toNat)
      case atStart => exact ⟨0, Nat.zero_le _, rfl, HF, grown_rfl _ _⟩
      case round =>
        clear HF
        obtain ⟨I, hI, rfl, HT, HGq⟩ := hrel
        by_cases hil : I < B
        · obtain ⟨P, HP⟩ : ∃ P, Hid (prod I a = P) := ⟨_, rfl⟩
          have hP : P < 256 := by rw [← HP.out]; exact prod_lt a (by omega)
          have hx := u8_xor_nat P O hP hO
          have hn : (B : Int) + (I : Int) = ((B + I : Nat) : Int) := by omega
          have hcl : wr.cell? ⟨w.heap.size + 1, I, none⟩ = some (.int .u8 (P : Int)) := by
            rw [cell_of_row wr (w.heap.size + 1) I _ _ _ HT.out, ← HP.out, ← tabM_get a (B + I) I (by omega)]
            exact cells8_get (by rw [tabM_length a _ (by omega)]; omega)
          obtain ⟨J, HJ⟩ : ∃ J, Hid (B + I = J) := ⟨_, rfl⟩
          have hJ : J < 256 := by rw [← HJ.out]; omega
          rw [HJ.out] at hn HT
          have hci : wr.cell? ⟨w.heap.size + 1, J, none⟩ = some (.int .u8 (((tabM a J).getD J 0 : Nat) : Int)) := by
            rw [cell_of_row wr (w.heap.size + 1) J _ _ _ HT.out]
            exact cells8_get (by rw [tabM_length a _ (by omega)]; exact hJ)
          obtain ⟨old, HOLD⟩ : ∃ old, Hid ((tabM a J).getD J 0 = old) := ⟨_, rfl⟩
          rw [HOLD.out] at hci
          have hfz : wr.frozen? ⟨w.heap.size + 1, J, none⟩ = false := by simp [World.frozen?, HT.out]
          have HT1 : Hid ((wr.setCell ⟨w.heap.size + 1, J, none⟩ (.int .u8 ((P ^^^ O : Nat) : Int))).heap[w.heap.size + 1]? = some (.cells (cells8 (tabM a (B + (I + 1)))) 80 (0, 0))) := by
            rw [show B + (I + 1) = J + 1 by rw [← HJ.out]; omega, ← tabM_step a J hJ, ← HJ.out, HST.out I hil, HP.out, HJ.out, ← cells8_set]
            exact heap_setCell_same wr (w.heap.size + 1) J _ _ _ HT.out
          have HG1 := hid (grown_tr HGq.out (grown_sets wr (w.heap.size + 1) J (.int .u8 ((P ^^^ O : Nat) : Int))))
          clear HGq HT
          go_wp2
          exact ⟨⟨I + 1, by omega, by go_num, HT1, HG1⟩, by simp [intOf]; omega⟩
        · have hI' : I = B := by omega
          rw [hI'] at HT
          have HGG := hid (grown_tr HG.out HGq.out)
          have CD := hid (double_any wr O hO)
          clear HG HGq hI'
          go_wp2_with fail
          refine CD.out.mono ?_
          rintro e w' ⟨rfl, hw⟩
          subst hw
          clear CD
          go_wp2_with fail
          exact ⟨⟨k + 1, dbl O, B + B, HDL.out, hBB, by omega, HB2, HDN, rfl, by go_num, HT, HGG⟩, by simp [intOf]; omega⟩
    · have hB' : B = 256 := by omega
      rw [hB', tabM_all, ← HL.out] at HF
      obtain ⟨m, HM⟩ : ∃ m, Hid (cells8 L = m) := ⟨_, rfl⟩
      rw [HM.out] at HF
      have hms : m.size = 256 := by rw [← HM.out, cells8_size, HL.out, mulsL_length]
      have HIm : Hid ((Try.prog.info? 80).map (·.size) = some m.size) := by rw [hms]; exact size_b256
      have H1m : Hid (m.all (·.oneCell') = true) := by rw [← HM.out]; exact cells8_one _
      have HZM : Hid (z.size = m.size) := by rw [hms, ← HZ.out, cells8_size, zeros8_length]; exact rfl
      have H0q : Hid (wr.heap[w.heap.size]? = some (.cells z 80 (0, 0))) := (HG.out.block w.heap.size (by rw [HS0.out]; omega) (by simp)).trans H0.out
      have HBF := hid (below_setRow (HB0.out.grown HG.out (by rw [HS0.out]; omega) (fun k e => by cases e; omega)) (g := w.heap.size) (Nat.le_refl _) m)
      clear hms hB' HG H1 H0 HB0 HS0 HO HB
      go_wp2_with (first | (refine wpList_load_row rfl 80 _ rfl (w.heap.size + 1) rfl 80 m (0, 0) _ HF.out Try.underlying80 rfl HIm.out ?_) | (refine wpList_store_row rfl 80 _ _ rfl w.heap.size m rfl rfl 80 _ H0q.out HIm.out HZM.out H1m.out ?_))
      refine bodyPost_ret (v := .agg m) (results_cell_row (p := 2) (ty := 80) rfl _ _ w.heap.size 80 m (0, 0) _ rfl (setRow_heap _ _ _ _ _ _ H0q.out) Try.underlying80 rfl HIm.out) rfl ?_
      rw [HM.out]
      exact ⟨rfl, HBF.out⟩
theorem multiples_any (w : World) (a : Nat) (ha : a < 256) : Calls Try.prog 64 #[.int .u8 (a : Int)] w fun e w' => e = .returned (.agg (cells8 (mulsL a))) ∧ Below w.heap.size w w' := multiples_core w a ha (mulsL a) rfl
end Go.Proofs.Ytadpehidefbmhaa
