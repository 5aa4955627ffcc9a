/- share.layout, walked. -/
import Derived.Test.YtfaojnnpekpomaaDoorShM
import Derived.Test.YtfaojnnpekpomaaDoorTrChain
import Derived.Test.YtfaojnnpekpomaaDoorCutSz
set_option linter.unusedSimpArgs false
set_option linter.unusedVariables false
namespace Go.Proofs.YtfaojnnpekpomaaDoor
open Go Go.RowKit

/-- The places. -/
def plF (k n g z : Int) (j : Nat) : Int := match j with | 0 => 36 | 1 => p1 k n g z | 2 => p2 k n g z | 3 => p3 k n g z | 4 => p4 k n g z | _ => p5 k n g z
def tab6 (f : Nat → Int) : Array Value := #[.int .i64 (f 0), .int .i64 (f 1), .int .i64 (f 2), .int .i64 (f 3), .int .i64 (f 4), .int .i64 (f 5)]
def KF (k n g z : Int) (i j : Nat) : Int := if j ≤ i then plF k n g z j else 0
theorem set_z (k n g z : Int) : (((Tryd.zeroCells39.setIfInBounds 0 (Value.int .i64 k)).setIfInBounds 1 (Value.int .i64 n)).setIfInBounds 2 (Value.int .i64 g)).setIfInBounds 3 (Value.int .i64 z) = ubA (ubZ k n g z) := by rfl
theorem tab6_store {w : World} {g : Nat} {f f' : Nat → Int} {i : Nat} {v : Int} (h : w.heap[g]? = some (.cells (tab6 f) 51 (0, 0))) (hi : (tab6 f).setIfInBounds i (.int .i64 v) = tab6 f') (hc : (tab6 f)[i]? = some (.int .i64 (f i))) :
    w.cell? ⟨g, i, none⟩ = some (.int .i64 (f i)) ∧ w.frozen? ⟨g, i, none⟩ = false ∧ (w.setCell ⟨g, i, none⟩ (.int .i64 v)).heap[g]? = some (.cells (tab6 f') 51 (0, 0)) := by
  refine ⟨(cell_of_row w g i _ _ _ h).trans hc, by simp [World.frozen?, h], ?_⟩
  rw [← hi]
  exact heap_setCell_same w g i _ _ _ h
theorem run_idx5 (W : World) (a0 a1 a2 a3 a4 : Int) (i : Nat) (x : Int) (h : ([a0, a1, a2, a3, a4] : List Int)[i]? = some x) : (Instr.index 64 (.agg #[.int .i64 a0, .int .i64 a1, .int .i64 a2, .int .i64 a3, .int .i64 a4]) (.int .i64 (i : Int))).run Tryd.prog W = .ok (.int .i64 x) W := by
  match i, h with
  | 0, h => obtain rfl := Option.some.inj h; rfl
  | 1, h => obtain rfl := Option.some.inj h; rfl
  | 2, h => obtain rfl := Option.some.inj h; rfl
  | 3, h => obtain rfl := Option.some.inj h; rfl
  | 4, h => obtain rfl := Option.some.inj h; rfl
  | i + 5, h => simp at h
theorem size_pl : (Tryd.prog.info? 51).map (·.size) = some 6 := by kernel_rfl
set_option maxRecDepth 100000 in
set_option maxHeartbeats 8000000 in
theorem layout_any (w : World) (k n g z : Int) (h : OkS k n g z) (hkp : KP w) : Calls Tryd.prog 22 #[shV (shR k n g z)] w fun e w' => e = .returned (.agg (tab6 (plF k n g z))) ∧ Below w.heap.size w w' := by
  have hu := h.blocks
  have hn1 : 1 ≤ n ∧ n ≤ 255 := by obtain ⟨h1, h2, h3, _⟩ := h; omega
  have hw0 := wdN_le n.toNat
  have hw1 := wdN_le (upI z g).toNat
  have hpl := p_le k n g z
  have hdt := dt_le h
  have CL := hid fun w => length_any w (ubZ k n g z) (ubZ_ok k n g z)
  have e0 : chE (ubZ k n g z) = 0 := by unfold chE; rw [if_pos (show OkS (ubZ k n g z).k (ubZ k n g z).n (ubZ k n g z).g (ubZ k n g z).z from h)]
  rw [e0, show (wrL (ubZ k n g z)).length = uL k n g z from rfl] at CL
  have CC := hid fun w => chain_ok w n.toNat 0 (lgN n.toNat) (by omega) (by omega) (by omega) (lgN_is n.toNat).1 (lgN_is n.toNat).2
  rw [show ((n.toNat : Nat) : Int) = n by omega] at CC
  have CW := hid fun w => width_ok w (upI z g).toNat (by omega) (by omega)
  rw [show (((upI z g).toNat : Nat) : Int) = upI z g by omega] at CW
  have SZ := hid (set_z k n g z)
  rw [show shV (shR k n g z) = .agg #[.int .i64 k, .int .i64 n, .int .i64 g, .int .i64 z, .int .i64 (upI z g), .int .i64 (tlI z g), .int .i64 (g / k), .int .i64 (upI (tlI z g) k)] from rfl]
  have P0 : Hid (plF k n g z 0 = 36) := rfl
  have P1 : Hid (plF k n g z 1 = plF k n g z 0 + uL k n g z) := rfl
  have P2 : Hid (plF k n g z 2 = plF k n g z 1 + (lgN n.toNat : Int) * 32) := rfl
  have P3 : Hid (plF k n g z 3 = plF k n g z 2 + (2 * (wdN (upI z g).toNat : Int) - 1) * 32) := rfl
  have P4 : Hid (plF k n g z 4 = plF k n g z 3 + (2 * (wdN (upI z g).toNat : Int) - 1) * 32) := rfl
  have P5 : Hid (plF k n g z 5 = plF k n g z 4 + ((upI z g - 1) * (g / k) + upI (tlI z g) k)) := rfl
  have HKP := hid hkp
  clear hkp
  obtain ⟨W0, HW0⟩ : ∃ W0, Hid ((w.alloc (.cells #[.int .i64 k, .int .i64 n, .int .i64 g, .int .i64 z, .int .i64 (upI z g), .int .i64 (tlI z g), .int .i64 (g / k), .int .i64 (upI (tlI z g) k)] 24)).alloc (.cells #[.int .i64 0, .int .i64 0, .int .i64 0, .int .i64 0, .int .i64 0, .int .i64 0] 51) = W0) := ⟨_, rfl⟩
  have HS0 : Hid (W0.heap[w.heap.size]? = some (.cells #[.int .i64 k, .int .i64 n, .int .i64 g, .int .i64 z, .int .i64 (upI z g), .int .i64 (tlI z g), .int .i64 (g / k), .int .i64 (upI (tlI z g) k)] 24 (0, 0))) := by
    refine hid ?_
    rw [← HW0.out]
    exact (heap_alloc_old _ _ (by simp)).trans (heap_alloc_new w _)
  have HR0 : Hid (W0.heap[w.heap.size + 1]? = some (.cells #[.int .i64 0, .int .i64 0, .int .i64 0, .int .i64 0, .int .i64 0, .int .i64 0] 51 (0, 0))) := by
    refine hid ?_
    rw [← HW0.out]
    have := heap_alloc_new (w.alloc (.cells #[.int .i64 k, .int .i64 n, .int .i64 g, .int .i64 z, .int .i64 (upI z g), .int .i64 (tlI z g), .int .i64 (g / k), .int .i64 (upI (tlI z g) k)] 24)) (.cells #[.int .i64 0, .int .i64 0, .int .i64 0, .int .i64 0, .int .i64 0, .int .i64 0] 51)
    simpa using this
  have HB0 : Hid (Below w.heap.size w W0) := by
    refine hid ?_
    rw [← HW0.out]
    exact ((Below.refl w.heap.size w).alloc (Nat.le_refl _) _).alloc (by simp) _
  have HZ0 : Hid (W0.heap.size = w.heap.size + 2) := by refine hid ?_; rw [← HW0.out]; simp
  go_enter Tryd.func22, Tryd.ntmps22
  go_wp2_with fail
  rw [SZ.out, HW0.out]
  refine (CL.out W0 (HKP.out.below HB0.out)).mono ?_
  rintro e w1 ⟨rfl, hb1⟩
  have B1 := hid hb1
  have hS1 := hid ((hb1.block w.heap.size (by rw [HZ0.out]; omega)).trans HS0.out)
  have c1 : w1.cell? ⟨w.heap.size, 1, none⟩ = some (.int .i64 n) := cell_of_row _ _ _ _ _ _ hS1.out
  clear hb1 CL
  go_wp2_with fail
  refine (CC.out w1).mono ?_
  rintro e w2 ⟨v2, rfl, hv2, _, hb2⟩
  have B2 := hid (B1.out.trans (hb2.mono B1.out.size))
  have hS2 := hid ((hb2.block w.heap.size (by have := B1.out.size; rw [HZ0.out] at this; omega)).trans hS1.out)
  have c4 : w2.cell? ⟨w.heap.size, 4, none⟩ = some (.int .i64 (upI z g)) := cell_of_row _ _ _ _ _ _ hS2.out
  obtain ⟨pc, cc, rfl, _⟩ := hv2
  rw [chL_length]
  clear hb2 CC c1
  go_wp2_with fail
  refine (CW.out w2).mono ?_
  rintro e w3 ⟨rfl, hb3⟩
  have B3 := hid (B2.out.trans (hb3.mono B2.out.size))
  have hS3 := hid ((hb3.block w.heap.size (by have := B2.out.size; rw [HZ0.out] at this; omega)).trans hS2.out)
  clear hb3 CW c4
  have hz3 := B3.out.size
  rw [HZ0.out] at hz3
  have HR3 := hid ((B3.out.block (w.heap.size + 1) (by rw [HZ0.out]; omega)).trans HR0.out)
  have a4 : (w3.alloc (.cells #[.int .i64 36, .int .i64 0, .int .i64 0, .int .i64 0, .int .i64 0, .int .i64 0] 51)).cell? ⟨w.heap.size, 4, none⟩ = some (.int .i64 (upI z g)) := cell_of_row _ _ _ _ _ _ ((heap_alloc_old w3 _ (by omega)).trans hS3.out)
  have a6 : (w3.alloc (.cells #[.int .i64 36, .int .i64 0, .int .i64 0, .int .i64 0, .int .i64 0, .int .i64 0] 51)).cell? ⟨w.heap.size, 6, none⟩ = some (.int .i64 (g / k)) := cell_of_row _ _ _ _ _ _ ((heap_alloc_old w3 _ (by omega)).trans hS3.out)
  have a7 : (w3.alloc (.cells #[.int .i64 36, .int .i64 0, .int .i64 0, .int .i64 0, .int .i64 0, .int .i64 0] 51)).cell? ⟨w.heap.size, 7, none⟩ = some (.int .i64 (upI (tlI z g) k)) := cell_of_row _ _ _ _ _ _ ((heap_alloc_old w3 _ (by omega)).trans hS3.out)
  have HA := hid (heap_alloc_new w3 (.cells #[.int .i64 36, .int .i64 0, .int .i64 0, .int .i64 0, .int .i64 0, .int .i64 0] 51))
  have HAR := hid ((heap_alloc_old w3 (.cells #[.int .i64 36, .int .i64 0, .int .i64 0, .int .i64 0, .int .i64 0, .int .i64 0] 51) (show w.heap.size + 1 < w3.heap.size by omega)).trans HR3.out)
  have HAB : Hid (Below w.heap.size w (w3.alloc (.cells #[.int .i64 36, .int .i64 0, .int .i64 0, .int .i64 0, .int .i64 0, .int .i64 0] 51))) := hid ((HB0.out.trans (B3.out.mono (by rw [HZ0.out]; omega))).alloc (by omega) _)
  have lg10 := (lgN_is n.toNat).2
  have ul := uL_le k n g z
  obtain ⟨Wd, HWd⟩ : ∃ x, Hid (wdN (upI z g).toNat = x) := ⟨_, rfl⟩
  have k1 : IntKind.i64.wrap (2 * (wdN (upI z g).toNat : Int)) = 2 * (wdN (upI z g).toNat : Int) := by rw [IntKind.wrap_i64]; omega
  have k2 : IntKind.i64.wrap (2 * (wdN (upI z g).toNat : Int) - 1) = 2 * (wdN (upI z g).toNat : Int) - 1 := by rw [IntKind.wrap_i64]; omega
  have k3 : IntKind.i64.wrap ((2 * (wdN (upI z g).toNat : Int) - 1) * 32) = (2 * (wdN (upI z g).toNat : Int) - 1) * 32 := by rw [IntKind.wrap_i64]; omega
  have k4 : IntKind.i64.wrap ((lgN n.toNat : Int) * 32) = (lgN n.toNat : Int) * 32 := by rw [IntKind.wrap_i64]; omega
  have k5 : IntKind.i64.wrap (upI z g - 1) = upI z g - 1 := by rw [IntKind.wrap_i64]; omega
  have k6 : IntKind.i64.wrap ((upI z g - 1) * (g / k)) = (upI z g - 1) * (g / k) := by rw [IntKind.wrap_i64]; omega
  have k7 : IntKind.i64.wrap ((upI z g - 1) * (g / k) + upI (tlI z g) k) = (upI z g - 1) * (g / k) + upI (tlI z g) k := by rw [IntKind.wrap_i64]; omega
  have HPB : Hid (∀ j, j ≤ 5 → 0 ≤ plF k n g z j ∧ plF k n g z j ≤ 20000000) := by
    refine hid fun j hj => ?_
    have e5 : p5 k n g z = p4 k n g z + dtN k n g z := rfl
    match j, hj with
    | 0, _ => show 0 ≤ (36 : Int) ∧ (36 : Int) ≤ 20000000; omega
    | 1, _ => show 0 ≤ p1 k n g z ∧ p1 k n g z ≤ 20000000; omega
    | 2, _ => show 0 ≤ p2 k n g z ∧ p2 k n g z ≤ 20000000; omega
    | 3, _ => show 0 ≤ p3 k n g z ∧ p3 k n g z ≤ 20000000; omega
    | 4, _ => show 0 ≤ p4 k n g z ∧ p4 k n g z ≤ 20000000; omega
    | 5, _ => show 0 ≤ p5 k n g z ∧ p5 k n g z ≤ 20000000; omega
    | j + 6, h => omega
  have HZI := hid size_pl
  clear hu hn1 hw0 hw1 hpl hdt e0 lg10 ul HWd
  obtain ⟨y5, HY5⟩ : ∃ y : Array Value, Hid (#[.int .i64 (uL k n g z : Int), .int .i64 ((lgN n.toNat : Int) * 32), .int .i64 ((2 * (wdN (upI z g).toNat : Int) - 1) * 32), .int .i64 ((2 * (wdN (upI z g).toNat : Int) - 1) * 32), .int .i64 ((upI z g - 1) * (g / k) + upI (tlI z g) k)] = y) := ⟨_, rfl⟩
  have HX0 : Hid (∀ W, (Instr.index 64 (.agg y5) (.int .i64 0)).run Tryd.prog W = .ok (.int .i64 ((uL k n g z : Int))) W) := by refine hid fun W => ?_; rw [← HY5.out]; exact run_idx5 W _ _ _ _ _ 0 _ rfl
  have HX1 : Hid (∀ W, (Instr.index 64 (.agg y5) (.int .i64 1)).run Tryd.prog W = .ok (.int .i64 ((lgN n.toNat : Int) * 32)) W) := by refine hid fun W => ?_; rw [← HY5.out]; exact run_idx5 W _ _ _ _ _ 1 _ rfl
  have HX2 : Hid (∀ W, (Instr.index 64 (.agg y5) (.int .i64 2)).run Tryd.prog W = .ok (.int .i64 ((2 * (wdN (upI z g).toNat : Int) - 1) * 32)) W) := by refine hid fun W => ?_; rw [← HY5.out]; exact run_idx5 W _ _ _ _ _ 2 _ rfl
  have HX3 : Hid (∀ W, (Instr.index 64 (.agg y5) (.int .i64 3)).run Tryd.prog W = .ok (.int .i64 ((2 * (wdN (upI z g).toNat : Int) - 1) * 32)) W) := by refine hid fun W => ?_; rw [← HY5.out]; exact run_idx5 W _ _ _ _ _ 3 _ rfl
  have HX4 : Hid (∀ W, (Instr.index 64 (.agg y5) (.int .i64 4)).run Tryd.prog W = .ok (.int .i64 ((upI z g - 1) * (g / k) + upI (tlI z g) k)) W) := by refine hid fun W => ?_; rw [← HY5.out]; exact run_idx5 W _ _ _ _ _ 4 _ rfl
  go_wp2
  rw [HY5.out]
  go_loopw [59] (fun ii wr => ∃ I : Nat, I ≤ 5 ∧ ii = .int .i64 (I : Int) ∧ Hid (wr.heap[w.heap.size + 1]? = some (.cells #[.int .i64 0, .int .i64 0, .int .i64 0, .int .i64 0, .int .i64 0, .int .i64 0] 51 (0, 0))) ∧ Hid (wr.heap[w3.heap.size]? = some (.cells (tab6 (KF k n g z I)) 51 (0, 0))) ∧ Hid (Below w.heap.size w wr)) (fun ii _ => 5 - (intOf ii).toNat)
  case atStart => exact ⟨0, by omega, rfl, HAR, HA, HAB⟩
  case round =>
    clear HAR HA HAB a4 a6 a7
    obtain ⟨I, hI, rfl, H0, H1, B⟩ := hrel
    by_cases hlt : I < 5
    · rcases (by omega : I = 0 ∨ I = 1 ∨ I = 2 ∨ I = 3 ∨ I = 4) with rfl | rfl | rfl | rfl | rfl
      · obtain ⟨hl0, -, -⟩ := tab6_store (i := 0) (f' := KF k n g z 0) (v := KF k n g z 0 0) H1.out rfl rfl
        obtain ⟨hc, hf, hs⟩ := tab6_store (i := 1) (f' := KF k n g z 1) (v := plF k n g z 1) H1.out rfl rfl
        have hl : wr.cell? ⟨w3.heap.size, 0, none⟩ = some (.int .i64 (plF k n g z 0)) := hl0
        clear hl0
        have HSS := hid hs
        have H02 := hid ((heap_setCell_other wr ⟨w3.heap.size, 1, none⟩ (w.heap.size + 1) (.int .i64 (plF k n g z 1)) (by show w.heap.size + 1 ≠ w3.heap.size; omega)).trans H0.out)
        have B2 := hid (B.out.setCell (p := ⟨w3.heap.size, 1, none⟩) (show w.heap.size ≤ w3.heap.size by omega) (.int .i64 (plF k n g z 1)))
        have HP := hid P1.out
        have hix := HX0.out
        have ks : IntKind.i64.wrap (plF k n g z 0 + (uL k n g z : Int)) = plF k n g z 1 := by rw [← HP.out, IntKind.wrap_i64]; have := HPB.out 1 (by omega); omega
        clear hs
        go_wp2
        exact ⟨⟨1, by omega, by go_num, H02, HSS, B2⟩, by simp [intOf]⟩
      · obtain ⟨hl0, -, -⟩ := tab6_store (i := 1) (f' := KF k n g z 1) (v := KF k n g z 1 1) H1.out rfl rfl
        obtain ⟨hc, hf, hs⟩ := tab6_store (i := 2) (f' := KF k n g z 2) (v := plF k n g z 2) H1.out rfl rfl
        have hl : wr.cell? ⟨w3.heap.size, 1, none⟩ = some (.int .i64 (plF k n g z 1)) := hl0
        clear hl0
        have HSS := hid hs
        have H02 := hid ((heap_setCell_other wr ⟨w3.heap.size, 2, none⟩ (w.heap.size + 1) (.int .i64 (plF k n g z 2)) (by show w.heap.size + 1 ≠ w3.heap.size; omega)).trans H0.out)
        have B2 := hid (B.out.setCell (p := ⟨w3.heap.size, 2, none⟩) (show w.heap.size ≤ w3.heap.size by omega) (.int .i64 (plF k n g z 2)))
        have HP := hid P2.out
        have hix := HX1.out
        have ks : IntKind.i64.wrap (plF k n g z 1 + (lgN n.toNat : Int) * 32) = plF k n g z 2 := by rw [← HP.out, IntKind.wrap_i64]; have := HPB.out 2 (by omega); omega
        clear hs
        go_wp2
        exact ⟨⟨2, by omega, by go_num, H02, HSS, B2⟩, by simp [intOf]⟩
      · obtain ⟨hl0, -, -⟩ := tab6_store (i := 2) (f' := KF k n g z 2) (v := KF k n g z 2 2) H1.out rfl rfl
        obtain ⟨hc, hf, hs⟩ := tab6_store (i := 3) (f' := KF k n g z 3) (v := plF k n g z 3) H1.out rfl rfl
        have hl : wr.cell? ⟨w3.heap.size, 2, none⟩ = some (.int .i64 (plF k n g z 2)) := hl0
        clear hl0
        have HSS := hid hs
        have H02 := hid ((heap_setCell_other wr ⟨w3.heap.size, 3, none⟩ (w.heap.size + 1) (.int .i64 (plF k n g z 3)) (by show w.heap.size + 1 ≠ w3.heap.size; omega)).trans H0.out)
        have B2 := hid (B.out.setCell (p := ⟨w3.heap.size, 3, none⟩) (show w.heap.size ≤ w3.heap.size by omega) (.int .i64 (plF k n g z 3)))
        have HP := hid P3.out
        have hix := HX2.out
        have ks : IntKind.i64.wrap (plF k n g z 2 + (2 * (wdN (upI z g).toNat : Int) - 1) * 32) = plF k n g z 3 := by rw [← HP.out, IntKind.wrap_i64]; have := HPB.out 3 (by omega); omega
        clear hs
        go_wp2
        exact ⟨⟨3, by omega, by go_num, H02, HSS, B2⟩, by simp [intOf]⟩
      · obtain ⟨hl0, -, -⟩ := tab6_store (i := 3) (f' := KF k n g z 3) (v := KF k n g z 3 3) H1.out rfl rfl
        obtain ⟨hc, hf, hs⟩ := tab6_store (i := 4) (f' := KF k n g z 4) (v := plF k n g z 4) H1.out rfl rfl
        have hl : wr.cell? ⟨w3.heap.size, 3, none⟩ = some (.int .i64 (plF k n g z 3)) := hl0
        clear hl0
        have HSS := hid hs
        have H02 := hid ((heap_setCell_other wr ⟨w3.heap.size, 4, none⟩ (w.heap.size + 1) (.int .i64 (plF k n g z 4)) (by show w.heap.size + 1 ≠ w3.heap.size; omega)).trans H0.out)
        have B2 := hid (B.out.setCell (p := ⟨w3.heap.size, 4, none⟩) (show w.heap.size ≤ w3.heap.size by omega) (.int .i64 (plF k n g z 4)))
        have HP := hid P4.out
        have hix := HX3.out
        have ks : IntKind.i64.wrap (plF k n g z 3 + (2 * (wdN (upI z g).toNat : Int) - 1) * 32) = plF k n g z 4 := by rw [← HP.out, IntKind.wrap_i64]; have := HPB.out 4 (by omega); omega
        clear hs
        go_wp2
        exact ⟨⟨4, by omega, by go_num, H02, HSS, B2⟩, by simp [intOf]⟩
      · obtain ⟨hl0, -, -⟩ := tab6_store (i := 4) (f' := KF k n g z 4) (v := KF k n g z 4 4) H1.out rfl rfl
        obtain ⟨hc, hf, hs⟩ := tab6_store (i := 5) (f' := KF k n g z 5) (v := plF k n g z 5) H1.out rfl rfl
        have hl : wr.cell? ⟨w3.heap.size, 4, none⟩ = some (.int .i64 (plF k n g z 4)) := hl0
        clear hl0
        have HSS := hid hs
        have H02 := hid ((heap_setCell_other wr ⟨w3.heap.size, 5, none⟩ (w.heap.size + 1) (.int .i64 (plF k n g z 5)) (by show w.heap.size + 1 ≠ w3.heap.size; omega)).trans H0.out)
        have B2 := hid (B.out.setCell (p := ⟨w3.heap.size, 5, none⟩) (show w.heap.size ≤ w3.heap.size by omega) (.int .i64 (plF k n g z 5)))
        have HP := hid P5.out
        have hix := HX4.out
        have ks : IntKind.i64.wrap (plF k n g z 4 + ((upI z g - 1) * (g / k) + upI (tlI z g) k)) = plF k n g z 5 := by rw [← HP.out, IntKind.wrap_i64]; have := HPB.out 5 (by omega); omega
        clear hs
        go_wp2
        exact ⟨⟨5, by omega, by go_num, H02, HSS, B2⟩, by simp [intOf]⟩
    · have hI' : I = 5 := by omega
      subst hI'
      obtain ⟨m, Hm⟩ : ∃ m, Hid (tab6 (plF k n g z) = m) := ⟨_, rfl⟩
      rw [show tab6 (KF k n g z 5) = tab6 (plF k n g z) from rfl, Hm.out] at H1
      have hms : m.size = 6 := by rw [← Hm.out]; rfl
      have HIm : Hid ((Tryd.prog.info? 51).map (·.size) = some m.size) := by rw [hms]; exact size_pl
      have H1m : Hid (m.all (·.oneCell') = true) := by refine hid ?_; rw [← Hm.out]; simp [tab6, Value.oneCell']
      have HZM : Hid ((#[.int .i64 0, .int .i64 0, .int .i64 0, .int .i64 0, .int .i64 0, .int .i64 0] : Array Value).size = m.size) := by rw [hms]; exact hid rfl
      have HBF := hid (bel_setRow B.out (g := w.heap.size + 1) (by omega) m)
      clear hms
      go_wp2_with (first | (refine wpList_load_row rfl 51 _ rfl w3.heap.size rfl 51 m (0, 0) _ H1.out Tryd.underlying51 rfl HIm.out ?_) | (refine wpList_store_row rfl 51 _ _ rfl (w.heap.size + 1) m rfl rfl 51 _ H0.out HIm.out HZM.out H1m.out ?_))
      refine bodyPost_ret (v := .agg m) (results_cell_row (p := 2) (ty := 51) rfl _ _ (w.heap.size + 1) 51 m (0, 0) _ rfl (setRow_heap _ _ _ _ _ _ H0.out) Tryd.underlying51 rfl HIm.out) rfl ?_
      exact ⟨by rw [Hm.out], HBF.out⟩
end Go.Proofs.YtfaojnnpekpomaaDoor
