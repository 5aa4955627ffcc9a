/- Of the road to uebReadCard_holds: UbRShp. -/
import Derived.Test.YtklklldmhoofnaaDoorG11
set_option linter.unusedVariables false
set_option linter.unusedSimpArgs false
namespace Go.Proofs.YtklklldmhoofnaaDoor
open Go Go.RowKit
def RsP (k n g z : Int) (wz : World) (e : Ending) (w' : World) : Prop := ∃ cs, e = .returned (.tuple #[.agg cs, .int .i64 (shpE k n g 0 z)]) ∧ cs.size = 8 ∧ cs.all (·.oneCell') = true ∧ (shpE k n g 0 z = 0 → cs = shA (shR k n (k * upI g k) z)) ∧ Below wz.heap.size wz w'
set_option maxRecDepth 100000 in
set_option maxHeartbeats 16000000 in
theorem rshape_bad (wz : World) (k n g z : Int) (hq : ¬ (OkP k n g 0 ∧ 33 ≤ z ∧ z ≤ 16777216)) : Calls Tryd.prog 47 #[prV k n g 0 (.slice none 0 0), .int .i64 z] wz fun e w' => RsP k n g z wz e w' := by
  have CK := hid fun w => rcheckH_any w k n g 0 none 0 0
  unfold prV at *
  obtain ⟨wb, HWB⟩ : ∃ x, Hid ((wz.alloc (.cells #[.int .i64 k, .int .i64 n, .int .i64 g, .int .i64 0, .slice none 0 0] 86)).alloc (.cells (shA sh0) 51) = x) := ⟨_, rfl⟩
  have hbb : Below wz.heap.size wz wb := by rw [← HWB.out]; exact ((Below.refl _ wz).alloc (Nat.le_refl _) _).alloc (by simp) _
  have hkr : Bk wb (wz.heap.size + 1) (shA sh0) 51 := by
    show wb.heap[wz.heap.size + 1]? = _
    rw [← HWB.out]
    have := heap_alloc_new (wz.alloc (.cells #[.int .i64 k, .int .i64 n, .int .i64 g, .int .i64 0, .slice none 0 0] 86)) (.cells (shA sh0) 51)
    rw [show (wz.alloc (.cells #[.int .i64 k, .int .i64 n, .int .i64 g, .int .i64 0, .slice none 0 0] 86)).heap.size = wz.heap.size + 1 by simp] at this
    exact this
  have HBB := hid hbb
  have HKR := hid hkr
  have hsb : wz.heap.size + 2 = wb.heap.size := by rw [← HWB.out]; simp
  have HSB := hid hsb
  have HI8 : Hid ((Tryd.prog.info? 51).map (·.size) = some (shA sh0).size) := size_shape
  clear hbb hkr hsb
  by_cases hp : OkP k n g 0
  · have e1 : chkE k n g 0 = 0 := by unfold chkE; rw [if_pos (by simpa using hp)]
    have hz : ¬ (33 ≤ z ∧ z ≤ 16777216) := fun h => hq ⟨hp, h⟩
    have F : Hid (shpE k n g 0 z = 4) := by unfold shpE; rw [if_pos hp, if_neg hz]; exact rfl
    clear hp hq
    by_cases h1 : z ≤ 32
    · clear hz
      go_enter Tryd.func47, Tryd.ntmps47
      go_wp2_with fail
      refine (CK.out _).mono ?_
      rintro e w1 ⟨rfl, hb0⟩
      have hb1 : Below wb.heap.size wb w1 := by rw [← HWB.out]; exact hb0
      rw [show ((0 : Nat) : Int) = 0 from rfl, e1]
      have HKR1 := hid (HKR.out.below hb1)
      have HB1 := hid (HBB.out.trans (hb1.mono (by have := HSB.out; omega)))
      clear hb0 hb1
      go_wp2_with (refine wpList_store_row rfl 51 _ _ rfl (wz.heap.size + 1) (shA sh0) rfl rfl 51 (shA sh0) HKR1.out HI8.out rfl sh0_one ?_)
      refine bodyPost_ret (v := .tuple #[.agg (shA sh0), .int .i64 4]) (results_cellT (p := 4) (u := 5) (ty := 51) rfl _ _ (wz.heap.size + 1) 51 (shA sh0) (0, 0) _ rfl (setRow_heap _ _ _ _ _ _ HKR1.out) Tryd.underlying51 rfl size_shape _ rfl) rfl ?_
      exact ⟨shA sh0, by rw [F.out], rfl, sh0_one, fun h => by rw [F.out] at h; simp at h, bel_setRow HB1.out (by omega) _⟩
    · have h2 : 16777216 < z := by omega
      clear hz
      go_enter Tryd.func47, Tryd.ntmps47
      go_wp2_with fail
      refine (CK.out _).mono ?_
      rintro e w1 ⟨rfl, hb0⟩
      have hb1 : Below wb.heap.size wb w1 := by rw [← HWB.out]; exact hb0
      rw [show ((0 : Nat) : Int) = 0 from rfl, e1]
      have HKR1 := hid (HKR.out.below hb1)
      have HB1 := hid (HBB.out.trans (hb1.mono (by have := HSB.out; omega)))
      clear hb0 hb1
      go_wp2_with (refine wpList_store_row rfl 51 _ _ rfl (wz.heap.size + 1) (shA sh0) rfl rfl 51 (shA sh0) HKR1.out HI8.out rfl sh0_one ?_)
      refine bodyPost_ret (v := .tuple #[.agg (shA sh0), .int .i64 4]) (results_cellT (p := 4) (u := 5) (ty := 51) rfl _ _ (wz.heap.size + 1) 51 (shA sh0) (0, 0) _ rfl (setRow_heap _ _ _ _ _ _ HKR1.out) Tryd.underlying51 rfl size_shape _ rfl) rfl ?_
      exact ⟨shA sh0, by rw [F.out], rfl, sh0_one, fun h => by rw [F.out] at h; simp at h, bel_setRow HB1.out (by omega) _⟩
  · have e1 : chkE k n g 0 = 3 := by unfold chkE; rw [if_neg (by simpa using hp)]
    have F : Hid (shpE k n g 0 z = 3) := by unfold shpE; rw [if_neg hp]; exact rfl
    clear hp hq
    go_enter Tryd.func47, Tryd.ntmps47
    go_wp2_with fail
    refine (CK.out _).mono ?_
    rintro e w1 ⟨rfl, hb0⟩
    have hb1 : Below wb.heap.size wb w1 := by rw [← HWB.out]; exact hb0
    rw [show ((0 : Nat) : Int) = 0 from rfl, e1]
    have HKR1 := hid (HKR.out.below hb1)
    have HB1 := hid (HBB.out.trans (hb1.mono (by have := HSB.out; omega)))
    clear hb0 hb1
    go_wp2_with (refine wpList_store_row rfl 51 _ _ rfl (wz.heap.size + 1) (shA sh0) rfl rfl 51 (shA sh0) HKR1.out HI8.out rfl sh0_one ?_)
    refine bodyPost_ret (v := .tuple #[.agg (shA sh0), .int .i64 3]) (results_cellT (p := 4) (u := 5) (ty := 51) rfl _ _ (wz.heap.size + 1) 51 (shA sh0) (0, 0) _ rfl (setRow_heap _ _ _ _ _ _ HKR1.out) Tryd.underlying51 rfl size_shape _ rfl) rfl ?_
    exact ⟨shA sh0, by rw [F.out], rfl, sh0_one, fun h => by rw [F.out] at h; simp at h, bel_setRow HB1.out (by omega) _⟩
set_option maxRecDepth 100000 in
set_option maxHeartbeats 16000000 in
theorem rshape_ok (wz : World) (k n g z : Int) (hp : OkP k n g 0) (hz1 : 33 ≤ z) (hz2 : z ≤ 16777216) : Calls Tryd.prog 47 #[prV k n g 0 (.slice none 0 0), .int .i64 z] wz fun e w' => RsP k n g z wz e w' := by
  have CK := hid fun w => rcheckH_any w k n g 0 none 0 0
  unfold prV at *
  obtain ⟨wb, HWB⟩ : ∃ x, Hid ((wz.alloc (.cells #[.int .i64 k, .int .i64 n, .int .i64 g, .int .i64 0, .slice none 0 0] 86)).alloc (.cells (shA sh0) 51) = x) := ⟨_, rfl⟩
  have hbb : Below wz.heap.size wz wb := by rw [← HWB.out]; exact ((Below.refl _ wz).alloc (Nat.le_refl _) _).alloc (by simp) _
  have hkp : Bk wb wz.heap.size #[.int .i64 k, .int .i64 n, .int .i64 g, .int .i64 0, .slice none 0 0] 86 := by
    show wb.heap[wz.heap.size]? = _
    rw [← HWB.out, heap_alloc_old _ _ (by simp)]
    exact heap_alloc_new wz _
  have hkr : Bk wb (wz.heap.size + 1) (shA sh0) 51 := by
    show wb.heap[wz.heap.size + 1]? = _
    rw [← HWB.out]
    have := heap_alloc_new (wz.alloc (.cells #[.int .i64 k, .int .i64 n, .int .i64 g, .int .i64 0, .slice none 0 0] 86)) (.cells (shA sh0) 51)
    rw [show (wz.alloc (.cells #[.int .i64 k, .int .i64 n, .int .i64 g, .int .i64 0, .slice none 0 0] 86)).heap.size = wz.heap.size + 1 by simp] at this
    exact this
  have HBB := hid hbb
  have HKP := hid hkp
  have HKR := hid hkr
  have hsb : wz.heap.size + 2 = wb.heap.size := by rw [← HWB.out]; simp
  have HSB := hid hsb
  clear hbb hkp hkr hsb
  have e1 : chkE k n g 0 = 0 := by unfold chkE; rw [if_pos (by simpa using hp)]
  have HE : Hid (shpE k n g 0 z = if upI z (k * upI g k) ≤ 512 then 0 else 3) := by refine hid ?_; unfold shpE; rw [if_pos hp, if_pos ⟨hz1, hz2⟩]
  obtain ⟨p1, p2, p3, p4, p5, _⟩ := hp
  have g1 := up_ge (x := g) p1
  have g2 := up_lt (x := g) p1
  have CU := hid fun w => rup_hand w g k p4 (by omega) p1 (by omega)
  have CL := hid fun w => rlaid_hand w k n (k * upI g k) z p1 (by omega) (by omega) (by omega) (by omega) hz2
  have n1 : ¬ z ≤ 32 := by omega
  have n2 : ¬ 16777216 < z := by omega
  obtain ⟨U, HU⟩ : ∃ x, Hid (upI g k = x) := ⟨_, rfl⟩
  unfold RsP
  rw [HU.out] at CU CL HE g1 g2 ⊢
  obtain ⟨G, HG⟩ : ∃ x, Hid (k * U = x) := ⟨_, rfl⟩
  rw [HG.out] at CL HE g1 g2 ⊢
  have kG : IntKind.i64.wrap (k * U) = G := by rw [HG.out, IntKind.wrap_i64]; omega
  have kG2 : IntKind.i64.wrap G = G := by rw [IntKind.wrap_i64]; omega
  have HKG := hid kG
  obtain ⟨S, HS4⟩ : ∃ x, Hid (upI z G = x) := ⟨_, rfl⟩
  have HCS : Hid ((shA (shR k n G z))[4]? = some (.int .i64 S)) := by refine hid ?_; rw [← HS4.out]; rfl
  have HO : Hid ((shA (shR k n G z)).all (·.oneCell') = true) := by refine hid ?_; simp [shA, shR, Value.oneCell']
  have HI8 : Hid ((Tryd.prog.info? 51).map (·.size) = some (shA (shR k n G z)).size) := size_shape
  have HI0 : Hid ((Tryd.prog.info? 51).map (·.size) = some (shA sh0).size) := size_shape
  have HZ8 : Hid ((shA sh0).size = (shA (shR k n G z)).size) := rfl
  rw [HS4.out] at HE
  obtain ⟨m, HM⟩ : ∃ x, Hid (shA (shR k n G z) = x) := ⟨_, rfl⟩
  rw [HM.out] at CL HCS HO HI8 HZ8 ⊢
  clear p1 p2 p3 p4 p5 g1 g2
  go_enter Tryd.func47, Tryd.ntmps47
  go_wp2_with fail
  refine (CK.out _).mono ?_
  rintro e w1 ⟨rfl, hb0⟩
  have hb1 : Below wb.heap.size wb w1 := by rw [← HWB.out]; exact hb0
  rw [show ((0 : Nat) : Int) = 0 from rfl, e1]
  have HKR1 := hid (HKR.out.below hb1)
  have HB1 := hid (HBB.out.trans (hb1.mono (by have := HSB.out; omega)))
  have kp1 := HKP.out.below hb1
  have HLT := hid (Array.getElem?_eq_some_iff.1 kp1).1
  have HLR := hid (Array.getElem?_eq_some_iff.1 HKR1.out).1
  have HC0 := hid (kp1.cell 0 (.int .i64 k) rfl)
  have HC1 := hid (kp1.cell 1 (.int .i64 n) rfl)
  have HC2 := hid (kp1.cell 2 (.int .i64 g) rfl)
  clear hb0 hb1 kp1
  go_wp2_with fail
  refine wp_region_held_drew (S := Below w1.heap.size w1) (by kernel_rfl) (Below.refl _ _).drew (fun hHeld => ?_)
  have HS := hid hHeld
  clear hHeld
  change wpAnyH _ _ _ _ _ _ _ _ (World.drew _)
  refine wpAnyH_take (i := 0) (v := .pointer (some ⟨wz.heap.size, 0, none⟩)) rfl (by kernel_rfl) (by kernel_rfl) (by kernel_rfl) (fun _ _ _ h => h) (Or.inl ⟨by rfl, ?q0⟩) HS.out ?_
  case q0 => intro w hSw; have s0 := (hSw.cell (p := ⟨wz.heap.size, 0, none⟩) HLT.out).trans HC0.out; have s1 := (hSw.cell (p := ⟨wz.heap.size, 1, none⟩) HLT.out).trans HC1.out; have s2 := (hSw.cell (p := ⟨wz.heap.size, 2, none⟩) HLT.out).trans HC2.out; first | (go_simp; done) | (go_simp; rfl)
  simp only [Act.put, List.getElem_toArray, List.getElem_cons_zero, List.getElem_cons_succ, List.setIfInBounds_toArray, List.set_cons_zero, List.set_cons_succ]
  refine wpAnyH_take (i := 1) (v := .int .i64 k) rfl (by kernel_rfl) (by kernel_rfl) (by kernel_rfl) (fun _ _ _ h => h) (Or.inl ⟨by rfl, ?q1⟩) HS.out ?_
  case q1 => intro w hSw; have s0 := (hSw.cell (p := ⟨wz.heap.size, 0, none⟩) HLT.out).trans HC0.out; have s1 := (hSw.cell (p := ⟨wz.heap.size, 1, none⟩) HLT.out).trans HC1.out; have s2 := (hSw.cell (p := ⟨wz.heap.size, 2, none⟩) HLT.out).trans HC2.out; first | (go_simp; done) | (go_simp; rfl)
  simp only [Act.put, List.getElem_toArray, List.getElem_cons_zero, List.getElem_cons_succ, List.setIfInBounds_toArray, List.set_cons_zero, List.set_cons_succ]
  refine wpAnyH_take (i := 2) (v := .pointer (some ⟨wz.heap.size, 1, none⟩)) rfl (by kernel_rfl) (by kernel_rfl) (by kernel_rfl) (fun _ _ _ h => h) (Or.inl ⟨by rfl, ?q2⟩) HS.out ?_
  case q2 => intro w hSw; have s0 := (hSw.cell (p := ⟨wz.heap.size, 0, none⟩) HLT.out).trans HC0.out; have s1 := (hSw.cell (p := ⟨wz.heap.size, 1, none⟩) HLT.out).trans HC1.out; have s2 := (hSw.cell (p := ⟨wz.heap.size, 2, none⟩) HLT.out).trans HC2.out; first | (go_simp; done) | (go_simp; rfl)
  simp only [Act.put, List.getElem_toArray, List.getElem_cons_zero, List.getElem_cons_succ, List.setIfInBounds_toArray, List.set_cons_zero, List.set_cons_succ]
  refine wpAnyH_take (i := 3) (v := .int .i64 n) rfl (by kernel_rfl) (by kernel_rfl) (by kernel_rfl) (fun _ _ _ h => h) (Or.inl ⟨by rfl, ?q3⟩) HS.out ?_
  case q3 => intro w hSw; have s0 := (hSw.cell (p := ⟨wz.heap.size, 0, none⟩) HLT.out).trans HC0.out; have s1 := (hSw.cell (p := ⟨wz.heap.size, 1, none⟩) HLT.out).trans HC1.out; have s2 := (hSw.cell (p := ⟨wz.heap.size, 2, none⟩) HLT.out).trans HC2.out; first | (go_simp; done) | (go_simp; rfl)
  simp only [Act.put, List.getElem_toArray, List.getElem_cons_zero, List.getElem_cons_succ, List.setIfInBounds_toArray, List.set_cons_zero, List.set_cons_succ]
  refine wpAnyH_take (i := 4) (v := .pointer (some ⟨wz.heap.size, 0, none⟩)) rfl (by kernel_rfl) (by kernel_rfl) (by kernel_rfl) (fun _ _ _ h => h) (Or.inl ⟨by rfl, ?q4⟩) HS.out ?_
  case q4 => intro w hSw; have s0 := (hSw.cell (p := ⟨wz.heap.size, 0, none⟩) HLT.out).trans HC0.out; have s1 := (hSw.cell (p := ⟨wz.heap.size, 1, none⟩) HLT.out).trans HC1.out; have s2 := (hSw.cell (p := ⟨wz.heap.size, 2, none⟩) HLT.out).trans HC2.out; first | (go_simp; done) | (go_simp; rfl)
  simp only [Act.put, List.getElem_toArray, List.getElem_cons_zero, List.getElem_cons_succ, List.setIfInBounds_toArray, List.set_cons_zero, List.set_cons_succ]
  refine wpAnyH_take (i := 5) (v := .int .i64 k) rfl (by kernel_rfl) (by kernel_rfl) (by kernel_rfl) (fun _ _ _ h => h) (Or.inl ⟨by rfl, ?q5⟩) HS.out ?_
  case q5 => intro w hSw; have s0 := (hSw.cell (p := ⟨wz.heap.size, 0, none⟩) HLT.out).trans HC0.out; have s1 := (hSw.cell (p := ⟨wz.heap.size, 1, none⟩) HLT.out).trans HC1.out; have s2 := (hSw.cell (p := ⟨wz.heap.size, 2, none⟩) HLT.out).trans HC2.out; first | (go_simp; done) | (go_simp; rfl)
  simp only [Act.put, List.getElem_toArray, List.getElem_cons_zero, List.getElem_cons_succ, List.setIfInBounds_toArray, List.set_cons_zero, List.set_cons_succ]
  refine wpAnyH_take (i := 6) (v := .pointer (some ⟨wz.heap.size, 2, none⟩)) rfl (by kernel_rfl) (by kernel_rfl) (by kernel_rfl) (fun _ _ _ h => h) (Or.inl ⟨by rfl, ?q6⟩) HS.out ?_
  case q6 => intro w hSw; have s0 := (hSw.cell (p := ⟨wz.heap.size, 0, none⟩) HLT.out).trans HC0.out; have s1 := (hSw.cell (p := ⟨wz.heap.size, 1, none⟩) HLT.out).trans HC1.out; have s2 := (hSw.cell (p := ⟨wz.heap.size, 2, none⟩) HLT.out).trans HC2.out; first | (go_simp; done) | (go_simp; rfl)
  simp only [Act.put, List.getElem_toArray, List.getElem_cons_zero, List.getElem_cons_succ, List.setIfInBounds_toArray, List.set_cons_zero, List.set_cons_succ]
  refine wpAnyH_take (i := 7) (v := .int .i64 g) rfl (by kernel_rfl) (by kernel_rfl) (by kernel_rfl) (fun _ _ _ h => h) (Or.inl ⟨by rfl, ?q7⟩) HS.out ?_
  case q7 => intro w hSw; have s0 := (hSw.cell (p := ⟨wz.heap.size, 0, none⟩) HLT.out).trans HC0.out; have s1 := (hSw.cell (p := ⟨wz.heap.size, 1, none⟩) HLT.out).trans HC1.out; have s2 := (hSw.cell (p := ⟨wz.heap.size, 2, none⟩) HLT.out).trans HC2.out; first | (go_simp; done) | (go_simp; rfl)
  simp only [Act.put, List.getElem_toArray, List.getElem_cons_zero, List.getElem_cons_succ, List.setIfInBounds_toArray, List.set_cons_zero, List.set_cons_succ]
  refine wpAnyH_take (i := 8) (v := .pointer (some ⟨wz.heap.size, 0, none⟩)) rfl (by kernel_rfl) (by kernel_rfl) (by kernel_rfl) (fun _ _ _ h => h) (Or.inl ⟨by rfl, ?q8⟩) HS.out ?_
  case q8 => intro w hSw; have s0 := (hSw.cell (p := ⟨wz.heap.size, 0, none⟩) HLT.out).trans HC0.out; have s1 := (hSw.cell (p := ⟨wz.heap.size, 1, none⟩) HLT.out).trans HC1.out; have s2 := (hSw.cell (p := ⟨wz.heap.size, 2, none⟩) HLT.out).trans HC2.out; first | (go_simp; done) | (go_simp; rfl)
  simp only [Act.put, List.getElem_toArray, List.getElem_cons_zero, List.getElem_cons_succ, List.setIfInBounds_toArray, List.set_cons_zero, List.set_cons_succ]
  refine wpAnyH_take (i := 9) (v := .int .i64 k) rfl (by kernel_rfl) (by kernel_rfl) (by kernel_rfl) (fun _ _ _ h => h) (Or.inl ⟨by rfl, ?q9⟩) HS.out ?_
  case q9 => intro w hSw; have s0 := (hSw.cell (p := ⟨wz.heap.size, 0, none⟩) HLT.out).trans HC0.out; have s1 := (hSw.cell (p := ⟨wz.heap.size, 1, none⟩) HLT.out).trans HC1.out; have s2 := (hSw.cell (p := ⟨wz.heap.size, 2, none⟩) HLT.out).trans HC2.out; first | (go_simp; done) | (go_simp; rfl)
  simp only [Act.put, List.getElem_toArray, List.getElem_cons_zero, List.getElem_cons_succ, List.setIfInBounds_toArray, List.set_cons_zero, List.set_cons_succ]
  refine wpAnyH_take (i := 12) (v := .int .i64 z) rfl (by kernel_rfl) (by kernel_rfl) (by kernel_rfl) (fun _ _ _ h => h) (Or.inl ⟨by rfl, ?q12⟩) HS.out ?_
  case q12 => intro w hSw; have s0 := (hSw.cell (p := ⟨wz.heap.size, 0, none⟩) HLT.out).trans HC0.out; have s1 := (hSw.cell (p := ⟨wz.heap.size, 1, none⟩) HLT.out).trans HC1.out; have s2 := (hSw.cell (p := ⟨wz.heap.size, 2, none⟩) HLT.out).trans HC2.out; first | (go_simp; done) | (go_simp; rfl)
  simp only [Act.put, List.getElem_toArray, List.getElem_cons_zero, List.getElem_cons_succ, List.setIfInBounds_toArray, List.set_cons_zero, List.set_cons_succ]
  refine wpAnyH_ready (rs := [10, 14]) (by kernel_rfl) (by simp) ?_
  refine AllReadyH.cons rfl (fun K hK => ?_) (AllReadyH.cons rfl (fun K hK => ?_) AllReadyH.nil)
  · go_simp
    refine (CU.out _).mono ?_
    rintro e v2 ⟨rfl, hd2⟩
    have HS2 := hid (HS.out.trans (hd2.below _))
    refine hK.out _ _ HS2.out (fun _ => ?_)
    clear hK K hd2
    refine wpAnyH_take (i := 11) (v := .int .i64 G) rfl (by kernel_rfl) (by kernel_rfl) (by kernel_rfl) (fun _ _ _ h => h) (Or.inl ⟨by rfl, ?q11⟩) HS2.out ?_
    case q11 => intro w hSw; first | (go_simp; done) | (go_simp; rfl) | (go_simp; rw [HKG.out])
    simp only [Act.put, List.getElem_toArray, List.getElem_cons_zero, List.getElem_cons_succ, List.setIfInBounds_toArray, List.set_cons_zero, List.set_cons_succ]
    refine wpAnyH_ready (rs := [13, 14]) (by kernel_rfl) (by simp) ?_
    refine AllReadyH.cons rfl (fun K hK => ?_) (AllReadyH.cons rfl (fun K hK => ?_) AllReadyH.nil)
    · go_simp
      refine (CL.out _).mono ?_
      rintro e v3 ⟨rfl, hd3⟩
      have HS3 := hid (HS2.out.trans (hd3.mono HS2.out.size))
      refine hK.out _ _ HS3.out (fun _ => ?_)
      clear hK K hd3
      refine wpAnyH_ready (rs := [14]) (by kernel_rfl) (by simp) ?_
      refine AllReadyH.cons rfl (fun K hK => ?_) AllReadyH.nil
      go_simp
      obtain ⟨va, HVA⟩ : ∃ y, Hid ((v3.alloc (.cells #[.int .i64 0, .int .i64 0, .int .i64 0, .int .i64 0, .int .i64 0, .int .i64 0, .int .i64 0, .int .i64 0] 51)) = y) := ⟨_, rfl⟩
      obtain ⟨x, HX⟩ : ∃ y, Hid (v3.heap.size = y) := ⟨_, rfl⟩
      have HN : Hid (Bk va x (shA sh0) 51) := by refine hid ?_; rw [← HVA.out, ← HX.out]; exact heap_alloc_new v3 _
      have HSA : Hid (Below w1.heap.size w1 va) := by refine hid ?_; rw [← HVA.out]; exact (HS3.out.alloc HS3.out.size _)
      have HGE : Hid (w1.heap.size ≤ x) := by refine hid ?_; rw [← HX.out]; exact HS3.out.size
      rw [HVA.out, HX.out]
      refine hK.out _ _ HSA.out (fun _ => ?_)
      clear hK K
      refine wpAnyH_ready (rs := [15]) (by kernel_rfl) (by simp) ?_
      refine AllReadyH.cons rfl (fun K hK => ?_) AllReadyH.nil
      refine wp_store_row 51 _ _ rfl x m rfl rfl 51 (shA sh0) HN.out HI8.out HZ8.out HO.out ?_
      have HS5 := hid (bel_setRow HSA.out HGE.out m)
      have HN5 := hid (setRow_heap va x (shA sh0) m 51 (0, 0) HN.out)
      obtain ⟨w5, HW5⟩ : ∃ y, Hid (va.setRow x m = y) := ⟨_, rfl⟩
      rw [HW5.out] at HS5 HN5 ⊢
      refine hK.out _ _ HS5.out (fun _ => ?_)
      clear hK K
      refine wpAnyH_done (by kernel_rfl) ?_ _
      have HK5 : Hid (Bk w5 x m 51) := HN5
      have HKR5 := hid (HKR1.out.below HS5.out)
      have HB5 := hid (HB1.out.trans (HS5.out.mono HB1.out.size))
      have c4 := HK5.out.cell 4 (.int .i64 S) HCS.out
      have HM8 : Hid (m.size = 8) := HZ8.out.symm
      by_cases hS : 512 < S
      · have F : Hid (shpE k n g 0 z = 3) := by refine hid ?_; rw [HE.out, if_neg (by omega)]
        go_wp2_with (refine wpList_store_row rfl 51 _ _ rfl (wz.heap.size + 1) (shA sh0) rfl rfl 51 (shA sh0) HKR5.out HI0.out rfl sh0_one ?_)
        refine bodyPost_ret (v := .tuple #[.agg (shA sh0), .int .i64 3]) (results_cellT (p := 4) (u := 5) (ty := 51) rfl _ _ (wz.heap.size + 1) 51 (shA sh0) (0, 0) _ rfl (setRow_heap _ _ _ _ _ _ HKR5.out) Tryd.underlying51 rfl size_shape _ rfl) rfl ?_
        exact ⟨shA sh0, by rw [F.out], rfl, sh0_one, fun h => by rw [F.out] at h; simp at h, bel_setRow HB5.out (by omega) _⟩
      · have F : Hid (shpE k n g 0 z = 0) := by refine hid ?_; rw [HE.out, if_pos (by omega)]
        go_wp2_with (first | (refine wpList_load_row rfl 51 _ rfl x rfl 51 m (0, 0) _ HK5.out Tryd.underlying51 rfl HI8.out ?_) | (refine wpList_store_row rfl 51 _ _ rfl (wz.heap.size + 1) m rfl rfl 51 (shA sh0) HKR5.out HI8.out HZ8.out HO.out ?_))
        refine bodyPost_ret (v := .tuple #[.agg m, .int .i64 0]) (results_cellT (p := 4) (u := 5) (ty := 51) rfl _ _ (wz.heap.size + 1) 51 m (0, 0) _ rfl (setRow_heap _ _ _ _ _ _ HKR5.out) Tryd.underlying51 rfl HI8.out _ rfl) rfl ?_
        exact ⟨m, by rw [F.out], HM8.out, by first | exact HO.out | simpa using HO.out, fun _ => rfl, bel_setRow HB5.out (by omega) _⟩
    · go_simp
      obtain ⟨va, HVA⟩ : ∃ y, Hid ((v2.alloc (.cells #[.int .i64 0, .int .i64 0, .int .i64 0, .int .i64 0, .int .i64 0, .int .i64 0, .int .i64 0, .int .i64 0] 51)) = y) := ⟨_, rfl⟩
      obtain ⟨x, HX⟩ : ∃ y, Hid (v2.heap.size = y) := ⟨_, rfl⟩
      have HN : Hid (Bk va x (shA sh0) 51) := by refine hid ?_; rw [← HVA.out, ← HX.out]; exact heap_alloc_new v2 _
      have HSA : Hid (Below w1.heap.size w1 va) := by refine hid ?_; rw [← HVA.out]; exact (HS2.out.alloc HS2.out.size _)
      have HGE : Hid (w1.heap.size ≤ x) := by refine hid ?_; rw [← HX.out]; exact HS2.out.size
      rw [HVA.out, HX.out]
      refine hK.out _ _ HSA.out (fun _ => ?_)
      clear hK K
      refine wpAnyH_ready (rs := [13]) (by kernel_rfl) (by simp) ?_
      refine AllReadyH.cons rfl (fun K hK => ?_) AllReadyH.nil
      go_simp
      refine (CL.out _).mono ?_
      rintro e v3 ⟨rfl, hd3⟩
      have HS3 := hid (HSA.out.trans (hd3.mono HSA.out.size))
      have HN3 := hid (HN.out.below hd3)
      refine hK.out _ _ HS3.out (fun _ => ?_)
      clear hK K hd3
      refine wpAnyH_ready (rs := [15]) (by kernel_rfl) (by simp) ?_
      refine AllReadyH.cons rfl (fun K hK => ?_) AllReadyH.nil
      refine wp_store_row 51 _ _ rfl x m rfl rfl 51 (shA sh0) HN3.out HI8.out HZ8.out HO.out ?_
      have HS5 := hid (bel_setRow HS3.out HGE.out m)
      have HN5 := hid (setRow_heap v3 x (shA sh0) m 51 (0, 0) HN3.out)
      obtain ⟨w5, HW5⟩ : ∃ y, Hid (v3.setRow x m = y) := ⟨_, rfl⟩
      rw [HW5.out] at HS5 HN5 ⊢
      refine hK.out _ _ HS5.out (fun _ => ?_)
      clear hK K
      refine wpAnyH_done (by kernel_rfl) ?_ _
      have HK5 : Hid (Bk w5 x m 51) := HN5
      have HKR5 := hid (HKR1.out.below HS5.out)
      have HB5 := hid (HB1.out.trans (HS5.out.mono HB1.out.size))
      have c4 := HK5.out.cell 4 (.int .i64 S) HCS.out
      have HM8 : Hid (m.size = 8) := HZ8.out.symm
      by_cases hS : 512 < S
      · have F : Hid (shpE k n g 0 z = 3) := by refine hid ?_; rw [HE.out, if_neg (by omega)]
        go_wp2_with (refine wpList_store_row rfl 51 _ _ rfl (wz.heap.size + 1) (shA sh0) rfl rfl 51 (shA sh0) HKR5.out HI0.out rfl sh0_one ?_)
        refine bodyPost_ret (v := .tuple #[.agg (shA sh0), .int .i64 3]) (results_cellT (p := 4) (u := 5) (ty := 51) rfl _ _ (wz.heap.size + 1) 51 (shA sh0) (0, 0) _ rfl (setRow_heap _ _ _ _ _ _ HKR5.out) Tryd.underlying51 rfl size_shape _ rfl) rfl ?_
        exact ⟨shA sh0, by rw [F.out], rfl, sh0_one, fun h => by rw [F.out] at h; simp at h, bel_setRow HB5.out (by omega) _⟩
      · have F : Hid (shpE k n g 0 z = 0) := by refine hid ?_; rw [HE.out, if_pos (by omega)]
        go_wp2_with (first | (refine wpList_load_row rfl 51 _ rfl x rfl 51 m (0, 0) _ HK5.out Tryd.underlying51 rfl HI8.out ?_) | (refine wpList_store_row rfl 51 _ _ rfl (wz.heap.size + 1) m rfl rfl 51 (shA sh0) HKR5.out HI8.out HZ8.out HO.out ?_))
        refine bodyPost_ret (v := .tuple #[.agg m, .int .i64 0]) (results_cellT (p := 4) (u := 5) (ty := 51) rfl _ _ (wz.heap.size + 1) 51 m (0, 0) _ rfl (setRow_heap _ _ _ _ _ _ HKR5.out) Tryd.underlying51 rfl HI8.out _ rfl) rfl ?_
        exact ⟨m, by rw [F.out], HM8.out, by first | exact HO.out | simpa using HO.out, fun _ => rfl, bel_setRow HB5.out (by omega) _⟩
  · go_simp
    obtain ⟨va, HVA⟩ : ∃ y, Hid ((w1.alloc (.cells #[.int .i64 0, .int .i64 0, .int .i64 0, .int .i64 0, .int .i64 0, .int .i64 0, .int .i64 0, .int .i64 0] 51)).drew = y) := ⟨_, rfl⟩
    obtain ⟨x, HX⟩ : ∃ y, Hid (w1.heap.size = y) := ⟨_, rfl⟩
    have HN : Hid (Bk va x (shA sh0) 51) := by refine hid ?_; rw [← HVA.out, ← HX.out]; exact heap_alloc_new w1 _
    have HSA : Hid (Below w1.heap.size w1 va) := by refine hid ?_; rw [← HVA.out]; exact ((Below.refl w1.heap.size w1).alloc (Below.refl w1.heap.size w1).size _).drew
    have HGE : Hid (w1.heap.size ≤ x) := by refine hid ?_; rw [← HX.out]; exact (Below.refl w1.heap.size w1).size
    rw [HVA.out, HX.out]
    refine hK.out _ _ HSA.out (fun _ => ?_)
    clear hK K
    refine wpAnyH_ready (rs := [10]) (by kernel_rfl) (by simp) ?_
    refine AllReadyH.cons rfl (fun K hK => ?_) AllReadyH.nil
    go_simp
    refine (CU.out _).mono ?_
    rintro e v2 ⟨rfl, hd2⟩
    have HS2 := hid (HSA.out.trans (hd2.below _))
    have HN2 : Hid (Bk v2 x (shA sh0) 51) := by refine hid ?_; show v2.heap[x]? = _; rw [hd2.heap]; exact HN.out
    refine hK.out _ _ HS2.out (fun _ => ?_)
    clear hK K hd2
    refine wpAnyH_take (i := 11) (v := .int .i64 G) rfl (by kernel_rfl) (by kernel_rfl) (by kernel_rfl) (fun _ _ _ h => h) (Or.inl ⟨by rfl, ?q11⟩) HS2.out ?_
    case q11 => intro w hSw; first | (go_simp; done) | (go_simp; rfl) | (go_simp; rw [HKG.out])
    simp only [Act.put, List.getElem_toArray, List.getElem_cons_zero, List.getElem_cons_succ, List.setIfInBounds_toArray, List.set_cons_zero, List.set_cons_succ]
    refine wpAnyH_ready (rs := [13]) (by kernel_rfl) (by simp) ?_
    refine AllReadyH.cons rfl (fun K hK => ?_) AllReadyH.nil
    go_simp
    refine (CL.out _).mono ?_
    rintro e v3 ⟨rfl, hd3⟩
    have HS3 := hid (HS2.out.trans (hd3.mono HS2.out.size))
    have HN3 := hid (HN2.out.below hd3)
    refine hK.out _ _ HS3.out (fun _ => ?_)
    clear hK K hd3
    refine wpAnyH_ready (rs := [15]) (by kernel_rfl) (by simp) ?_
    refine AllReadyH.cons rfl (fun K hK => ?_) AllReadyH.nil
    refine wp_store_row 51 _ _ rfl x m rfl rfl 51 (shA sh0) HN3.out HI8.out HZ8.out HO.out ?_
    have HS5 := hid (bel_setRow HS3.out HGE.out m)
    have HN5 := hid (setRow_heap v3 x (shA sh0) m 51 (0, 0) HN3.out)
    obtain ⟨w5, HW5⟩ : ∃ y, Hid (v3.setRow x m = y) := ⟨_, rfl⟩
    rw [HW5.out] at HS5 HN5 ⊢
    refine hK.out _ _ HS5.out (fun _ => ?_)
    clear hK K
    refine wpAnyH_done (by kernel_rfl) ?_ _
    have HK5 : Hid (Bk w5 x m 51) := HN5
    have HKR5 := hid (HKR1.out.below HS5.out)
    have HB5 := hid (HB1.out.trans (HS5.out.mono HB1.out.size))
    have c4 := HK5.out.cell 4 (.int .i64 S) HCS.out
    have HM8 : Hid (m.size = 8) := HZ8.out.symm
    by_cases hS : 512 < S
    · have F : Hid (shpE k n g 0 z = 3) := by refine hid ?_; rw [HE.out, if_neg (by omega)]
      go_wp2_with (refine wpList_store_row rfl 51 _ _ rfl (wz.heap.size + 1) (shA sh0) rfl rfl 51 (shA sh0) HKR5.out HI0.out rfl sh0_one ?_)
      refine bodyPost_ret (v := .tuple #[.agg (shA sh0), .int .i64 3]) (results_cellT (p := 4) (u := 5) (ty := 51) rfl _ _ (wz.heap.size + 1) 51 (shA sh0) (0, 0) _ rfl (setRow_heap _ _ _ _ _ _ HKR5.out) Tryd.underlying51 rfl size_shape _ rfl) rfl ?_
      exact ⟨shA sh0, by rw [F.out], rfl, sh0_one, fun h => by rw [F.out] at h; simp at h, bel_setRow HB5.out (by omega) _⟩
    · have F : Hid (shpE k n g 0 z = 0) := by refine hid ?_; rw [HE.out, if_pos (by omega)]
      go_wp2_with (first | (refine wpList_load_row rfl 51 _ rfl x rfl 51 m (0, 0) _ HK5.out Tryd.underlying51 rfl HI8.out ?_) | (refine wpList_store_row rfl 51 _ _ rfl (wz.heap.size + 1) m rfl rfl 51 (shA sh0) HKR5.out HI8.out HZ8.out HO.out ?_))
      refine bodyPost_ret (v := .tuple #[.agg m, .int .i64 0]) (results_cellT (p := 4) (u := 5) (ty := 51) rfl _ _ (wz.heap.size + 1) 51 m (0, 0) _ rfl (setRow_heap _ _ _ _ _ _ HKR5.out) Tryd.underlying51 rfl HI8.out _ rfl) rfl ?_
      exact ⟨m, by rw [F.out], HM8.out, by first | exact HO.out | simpa using HO.out, fun _ => rfl, bel_setRow HB5.out (by omega) _⟩
theorem rshape_hand (wz : World) (k n g z : Int) : Calls Tryd.prog 47 #[prV k n g 0 (.slice none 0 0), .int .i64 z] wz fun e w' => RsP k n g z wz e w' := by
  by_cases h : OkP k n g 0 ∧ 33 ≤ z ∧ z ≤ 16777216
  · exact rshape_ok wz k n g z h.1 h.2.1 h.2.2
  · exact rshape_bad wz k n g z h
end Go.Proofs.YtklklldmhoofnaaDoor
