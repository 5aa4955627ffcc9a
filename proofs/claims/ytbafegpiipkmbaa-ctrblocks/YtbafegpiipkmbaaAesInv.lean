/- aes.inverses and aes.Inverse, walked. -/
import Derived.Test.YtbafegpiipkmbaaAesArr
namespace Go.Proofs.Ytbafegpiipkmbaa
open Go.RowKit

/-- The powers of 3. -/
def pw : Nat → Nat
  | 0 => 1
  | n + 1 => pw n ^^^ dbl (pw n)
theorem pw_lt : ∀ n, pw n < 256
  | 0 => by decide
  | n + 1 => xor8 (pw_lt n) (dbl_lt (pw_lt n))
/-- The first n powers, and noughts. -/
def curP (n : Nat) : List Nat := (List.range n).map pw ++ List.replicate (256 - n) 0
theorem curP_length (n : Nat) (h : n ≤ 256) : (curP n).length = 256 := by simp [curP]; omega
theorem curP_step (n : Nat) (h : n < 256) : (curP n).set n (pw n) = curP (n + 1) := by
  unfold curP
  rw [List.set_append_right _ _ (by simp), List.length_map, List.length_range, Nat.sub_self, show 256 - n = (256 - (n + 1)) + 1 by omega, List.replicate_succ, List.set_cons_zero, List.range_succ, List.map_append]
  simp
theorem curP_get (n i : Nat) (h : i < n) : (curP n).getD i 0 = pw i := by
  simp [curP, List.getD, List.getElem?_append, h]
/-- The table when n powers are laid in. -/
def tabTo : Nat → List Nat
  | 0 => zeros8 256
  | n + 1 => (tabTo n).set (pw n) (pw (255 - n))
theorem tabTo_length : ∀ n, (tabTo n).length = 256
  | 0 => zeros8_length 256
  | n + 1 => by rw [tabTo, List.length_set]; exact tabTo_length n
theorem tabTo_byt : ∀ n, Byt (tabTo n)
  | 0 => byt_zeros 256
  | n + 1 => (tabTo_byt n).set _ _ (pw_lt _)
/-- The table of inverses. -/
def invT : List Nat := tabTo 256
theorem invT_length : invT.length = 256 := tabTo_length 256
theorem invT_byt : Byt invT := tabTo_byt 256
/-- The inverse of a byte. -/
def inv (a : Nat) : Nat := invT.getD a 0
theorem inv_lt (a : Nat) : inv a < 256 := invT_byt.get a

set_option maxRecDepth 100000 in
set_option maxHeartbeats 4000000 in
theorem inverses_core (w : World) (iT : List Nat) (HIT : Hid (iT = invT)) : Calls Try.prog 45 #[] w fun e w' => e = .returned (.agg (cells8 iT)) ∧ Below w.heap.size w w' := by
  obtain ⟨z, HZ⟩ : ∃ z, Hid (cells8 (zeros8 256) = z) := ⟨_, rfl⟩
  have hz := zero_b256
  rw [HZ.out] at hz
  have HZ0 := hid hz
  clear hz
  go_enter Try.func45, Try.ntmps45
  go_wp2_with (refine wpList_alloc_agg HZ0.out rfl rfl ?_)
  obtain ⟨W0, hW0⟩ : ∃ W0, Hid (((w.alloc (.cells z 85)).alloc (.cells z 85)).alloc (.cells z 85) = W0) := ⟨_, rfl⟩
  rw [hW0.out]
  have HB0 : Hid (Below w.heap.size w W0) := by rw [← hW0.out]; exact (((Below.refl _ w).alloc (Nat.le_refl _) _).alloc (by simp) _).alloc (by simp; omega) _
  have HS0 : Hid (W0.heap.size = w.heap.size + 3) := by rw [← hW0.out]; show _ = _; simp
  have H0 : Hid (W0.heap[w.heap.size]? = some (.cells z 85 (0, 0))) := by
    rw [← hW0.out]
    exact (Below.heap_alloc _ _ _ (by simp; omega)).trans ((Below.heap_alloc _ _ _ (by simp)).trans (heap_alloc_new w _))
  have H1 : Hid (W0.heap[w.heap.size + 1]? = some (.cells (cells8 (curP 0)) 85 (0, 0))) := by
    have := heap_alloc_new (w.alloc (.cells z 85)) (.cells z 85)
    rw [World.size_alloc] at this
    rw [← hW0.out]
    refine (Below.heap_alloc _ _ _ (by simp)).trans (this.trans ?_)
    rw [← HZ.out]
    exact rfl
  have H2 : Hid (W0.heap[w.heap.size + 2]? = some (.cells (cells8 (tabTo 0)) 85 (0, 0))) := by
    have := heap_alloc_new ((w.alloc (.cells z 85)).alloc (.cells z 85)) (.cells z 85)
    rw [World.size_alloc, World.size_alloc, hW0.out, ← HZ.out] at this
    exact this
  clear hW0
  go_loopw [3, 7] (fun p i wr => ∃ I P : Nat, I ≤ 256 ∧ P < 256 ∧ Hid (P = pw I) ∧ p = .int .u8 (P : Int) ∧ i = .int .i64 (I : Int) ∧ Hid (wr.heap[w.heap.size + 1]? = some (.cells (cells8 (curP I)) 85 (0, 0))) ∧ Hid (W0.grownBy wr (some (w.heap.size + 1)))) (fun _ i _ => 256 - (intOf i).toNat)
  case atStart => exact ⟨0, 1, Nat.zero_le _, by decide, rfl, rfl, rfl, H1, grown_rfl _ _⟩
  case round =>
    obtain ⟨I, P, hI, hP, HP, rfl, rfl, HF, HG⟩ := hrel
    by_cases hlt : I < 256
    · have hci : wr.cell? ⟨w.heap.size + 1, I, none⟩ = some (.int .u8 (((curP I).getD I 0 : Nat) : Int)) := by
        rw [cell_of_row wr (w.heap.size + 1) I _ _ _ HF.out]
        exact cells8_get (by rw [curP_length I hI]; exact hlt)
      obtain ⟨old, HOLD⟩ : ∃ old, Hid ((curP I).getD I 0 = old) := ⟨_, rfl⟩
      rw [HOLD.out] at hci
      have hfz : wr.frozen? ⟨w.heap.size + 1, I, none⟩ = false := by simp [World.frozen?, HF.out]
      obtain ⟨W1, hW1⟩ : ∃ W1, Hid (wr.setCell ⟨w.heap.size + 1, I, none⟩ (.int .u8 (P : Int)) = W1) := ⟨_, rfl⟩
      have HF1 : Hid (W1.heap[w.heap.size + 1]? = some (.cells (cells8 (curP (I + 1))) 85 (0, 0))) := by
        rw [← hW1.out, ← curP_step I hlt, ← HP.out, ← cells8_set]
        exact heap_setCell_same wr (w.heap.size + 1) I _ _ _ HF.out
      have HG1 : Hid (W0.grownBy W1 (some (w.heap.size + 1))) := by rw [← hW1.out]; exact grown_tr HG.out (grown_sets _ _ _ _)
      have CD := hid (double_any W1 P hP)
      have hx := u8_xor_nat P (dbl P) hP (dbl_lt hP)
      have HPN : Hid (P ^^^ dbl P = pw (I + 1)) := by rw [HP.out]; exact rfl
      have HPL := hid (xor8 hP (dbl_lt hP))
      clear HP HF HG
      go_wp2_with fail
      rw [hW1.out]
      refine CD.out.mono ?_
      rintro e w' ⟨rfl, hw⟩
      subst hw
      clear CD
      go_wp2_with fail
      exact ⟨⟨I + 1, P ^^^ dbl P, by omega, HPL.out, HPN, rfl, by go_num, HF1, HG1⟩, by simp [intOf]; omega⟩
    · have hI' : I = 256 := by omega
      rw [hI'] at HF
      obtain ⟨y, HY⟩ : ∃ y, Hid (cells8 (curP 256) = y) := ⟨_, rfl⟩
      rw [HY.out] at HF
      have hys : y.size = 256 := by rw [← HY.out, cells8_size, curP_length 256 (Nat.le_refl _)]
      have HIy : Hid ((Try.prog.info? 85).map (·.size) = some y.size) := by rw [hys]; exact size_b256
      have HS1 := hid hys
      have HIX : Hid (∀ (W : World) (i : Nat), i < 256 → (Instr.index 85 (.agg y) (.int .i64 (i : Int))).run Try.prog W = .ok (.int .u8 ((pw i : Nat) : Int)) W) := fun W i hi => by
        rw [← HY.out, ← curP_get 256 i hi]
        exact run_index8 W Try.underlying85 (curP 256) (curP_length 256 (Nat.le_refl _)) i hi .i64
      have HCL : Hid (∀ (W : World), W.heap[w.heap.size + 1]? = some (.cells y 85 (0, 0)) → ∀ i, i < 256 → W.cell? ⟨w.heap.size + 1, i, none⟩ = some (.int .u8 ((pw i : Nat) : Int))) := fun W hW i hi => by
        rw [cell_of_row W (w.heap.size + 1) i _ _ _ hW, ← HY.out, ← curP_get 256 i hi]
        exact cells8_get (by rw [curP_length 256 (Nat.le_refl _)]; exact hi)
      have H0r : Hid (wr.heap[w.heap.size]? = some (.cells z 85 (0, 0))) := (HG.out.block w.heap.size (by rw [HS0.out]; omega) (by simp)).trans H0.out
      have H2r : Hid (wr.heap[w.heap.size + 2]? = some (.cells (cells8 (tabTo 0)) 85 (0, 0))) := (HG.out.block (w.heap.size + 2) (by rw [HS0.out]; omega) (by simp)).trans H2.out
      have HBr : Hid (Below w.heap.size w wr) := HB0.out.grown HG.out (by rw [HS0.out]; omega) (fun k e => by cases e; omega)
      have hsz : w.heap.size + 3 ≤ wr.heap.size := by have := HG.out.size; rw [HS0.out] at this; exact this
      clear hI' hys HP HG H1 H2 HB0 HS0 hP
      go_wp2_with (refine wpList_load_row rfl 85 _ rfl (w.heap.size + 1) rfl 85 y (0, 0) _ HF.out Try.underlying85 rfl HIy.out ?_)
      clear hlt
      go_loopw [19] (fun i wq => ∃ I : Nat, I ≤ 256 ∧ i = .int .i64 (I : Int) ∧ Hid (wq.heap[w.heap.size + 2]? = some (.cells (cells8 (tabTo I)) 85 (0, 0))) ∧ Hid (wr.grownBy wq (some (w.heap.size + 2)))) (fun i _ => 256 - (intOf i).toNat)
      case atStart => exact ⟨0, Nat.zero_le _, rfl, H2r, grown_rfl _ _⟩
      case round =>
        clear H2r
        obtain ⟨I, hI, rfl, HT, HG⟩ := hrel
        by_cases hlt : I < 256
        · have HF1 : Hid (wr.heap[w.heap.size + 1]? = some (.cells y 85 (0, 0))) := (HG.out.block (w.heap.size + 1) (by omega) (by simp)).trans HF.out
          obtain ⟨p, HP⟩ : ∃ p, Hid (pw I = p) := ⟨_, rfl⟩
          obtain ⟨q, HQ⟩ : ∃ q, Hid (pw (255 - I) = q) := ⟨_, rfl⟩
          have hp : p < 256 := by rw [← HP.out]; exact pw_lt I
          have hix : ∀ W, (Instr.index 85 (.agg y) (.int .i64 (I : Int))).run Try.prog W = .ok (.int .u8 (p : Int)) W := fun W => by rw [← HP.out]; exact HIX.out W I hlt
          have hcl := HCL.out wr HF1.out (255 - I) (by omega)
          rw [HQ.out] at hcl
          have hn : (255 : Int) - (I : Int) = ((255 - I : Nat) : Int) := by omega
          have hci : wr.cell? ⟨w.heap.size + 2, p, none⟩ = some (.int .u8 (((tabTo I).getD p 0 : Nat) : Int)) := by
            rw [cell_of_row wr (w.heap.size + 2) p _ _ _ HT.out]
            exact cells8_get (by rw [tabTo_length I]; exact hp)
          obtain ⟨old, HOLD⟩ : ∃ old, Hid ((tabTo I).getD p 0 = old) := ⟨_, rfl⟩
          rw [HOLD.out] at hci
          have hfz : wr.frozen? ⟨w.heap.size + 2, p, none⟩ = false := by simp [World.frozen?, HT.out]
          have HT1 : Hid ((wr.setCell ⟨w.heap.size + 2, p, none⟩ (.int .u8 (q : Int))).heap[w.heap.size + 2]? = some (.cells (cells8 (tabTo (I + 1))) 85 (0, 0))) := by
            rw [tabTo, HP.out, HQ.out, ← cells8_set]
            exact heap_setCell_same wr (w.heap.size + 2) p _ _ _ HT.out
          have HG1 := hid (grown_tr HG.out (grown_sets wr (w.heap.size + 2) p (.int .u8 (q : Int))))
          clear HG HT HF1
          go_wp2
          exact ⟨⟨I + 1, by omega, by go_num, HT1, HG1⟩, by simp [intOf]; omega⟩
        · have hI' : I = 256 := by omega
          rw [hI', show tabTo 256 = iT from HIT.out.symm] at HT
          obtain ⟨m, HM⟩ : ∃ m, Hid (cells8 iT = m) := ⟨_, rfl⟩
          rw [HM.out] at HT
          have hms : m.size = 256 := by rw [← HM.out, cells8_size, HIT.out, invT_length]
          have HIm : Hid ((Try.prog.info? 85).map (·.size) = some m.size) := by rw [hms]; exact size_b256
          have H1m : Hid (m.all (·.oneCell') = true) := by rw [← HM.out]; exact cells8_one _
          have HZM : Hid (z.size = m.size) := by rw [hms, ← HZ.out, cells8_size, zeros8_length]; exact rfl
          have H0q : Hid (wr.heap[w.heap.size]? = some (.cells z 85 (0, 0))) := (HG.out.block w.heap.size (by omega) (by simp)).trans H0r.out
          have HBF := hid (below_setRow (HBr.out.grown HG.out (by omega) (fun k e => by cases e; omega)) (g := w.heap.size) (Nat.le_refl _) m)
          clear hms hI' HG H0r
          go_wp2_with (first | (refine wpList_load_row rfl 85 _ rfl (w.heap.size + 2) rfl 85 m (0, 0) _ HT.out Try.underlying85 rfl HIm.out ?_) | (refine wpList_store_row rfl 85 _ _ rfl w.heap.size m rfl rfl 85 _ H0q.out HIm.out HZM.out H1m.out ?_))
          refine bodyPost_ret (v := .agg m) (results_cell_row (p := 0) (ty := 85) rfl _ _ w.heap.size 85 m (0, 0) _ rfl (setRow_heap _ _ _ _ _ _ H0q.out) Try.underlying85 rfl HIm.out) rfl ?_
          rw [HM.out]
          exact ⟨rfl, HBF.out⟩

theorem inverses_any (w : World) : Calls Try.prog 45 #[] w fun e w' => e = .returned (.agg (cells8 invT)) ∧ Below w.heap.size w w' := inverses_core w invT rfl

end Go.Proofs.Ytbafegpiipkmbaa
