/- Of the road to uebReadCard_holds: RefShaConst. -/
import Derived.Test.YtklklldmhoofnaaDoorG15
set_option linter.unusedVariables false
set_option linter.unusedSimpArgs false
namespace Go.Proofs.YtklklldmhoofnaaDoor
open Go.RowKit
set_option maxRecDepth 100000 in
set_option maxHeartbeats 1000000 in
theorem rinitial_any (w : World) : Calls Tryd.prog 67 #[] w fun e w' => e = .returned (.agg (cellsW iv)) ∧ Below w.heap.size w w' := by
  obtain ⟨z8, HZ8⟩ : ∃ z8, Hid (cellsW (zerosW 8) = z8) := ⟨_, rfl⟩
  have hz8 := zero_w8
  rw [HZ8.out] at hz8
  have HZ1 := hid hz8
  have HIm : Hid ((Tryd.prog.info? 101).map (·.size) = some (cellsW iv).size) := size_w8
  have H1m : Hid ((cellsW iv).all (·.oneCell') = true) := cellsW_one _
  have HZM : Hid (z8.size = (cellsW iv).size) := by rw [← HZ8.out, cellsW_size, zerosW_length]; exact rfl
  have HR : Hid ((w.alloc (.cells z8 101)).heap[w.heap.size]? = some (.cells z8 101 (0, 0))) := heap_alloc_new w _
  have HB := hid (below_setRow ((Below.refl _ w).alloc (Nat.le_refl _) (.cells z8 101)) (g := w.heap.size) (Nat.le_refl _) (cellsW iv))
  clear hz8
  go_enter Tryd.func67, Tryd.ntmps67
  go_wp2_with (first | (refine wpList_alloc_agg HZ1.out rfl rfl ?_) | (refine wpList_store_row rfl 101 _ _ rfl w.heap.size (cellsW iv) rfl rfl 101 _ HR.out HIm.out HZM.out H1m.out ?_))
  refine bodyPost_ret (v := .agg (cellsW iv)) (results_cell_row (p := 0) (ty := 101) rfl _ _ w.heap.size 101 (cellsW iv) (0, 0) _ rfl (setRow_heap _ _ _ _ _ _ HR.out) Tryd.underlying101 rfl HIm.out) rfl ?_
  exact ⟨rfl, HB.out⟩
set_option maxRecDepth 100000 in
set_option maxHeartbeats 1000000 in
theorem rconst_any (w : World) : Calls Tryd.prog 76 #[] w fun e w' => e = .returned (.agg (cellsW kW)) ∧ Below w.heap.size w w' := by
  obtain ⟨z8, HZ8⟩ : ∃ z8, Hid (cellsW (zerosW 64) = z8) := ⟨_, rfl⟩
  have hz8 := zero_w64
  rw [HZ8.out] at hz8
  have HZ1 := hid hz8
  have HIm : Hid ((Tryd.prog.info? 113).map (·.size) = some (cellsW kW).size) := size_w64
  have H1m : Hid ((cellsW kW).all (·.oneCell') = true) := cellsW_one _
  have HZM : Hid (z8.size = (cellsW kW).size) := by rw [← HZ8.out, cellsW_size, zerosW_length]; exact rfl
  have HR : Hid ((w.alloc (.cells z8 113)).heap[w.heap.size]? = some (.cells z8 113 (0, 0))) := heap_alloc_new w _
  have HB := hid (below_setRow ((Below.refl _ w).alloc (Nat.le_refl _) (.cells z8 113)) (g := w.heap.size) (Nat.le_refl _) (cellsW kW))
  clear hz8
  go_enter Tryd.func76, Tryd.ntmps76
  go_wp2_with (first | (refine wpList_alloc_agg HZ1.out rfl rfl ?_) | (refine wpList_store_row rfl 113 _ _ rfl w.heap.size (cellsW kW) rfl rfl 113 _ HR.out HIm.out HZM.out H1m.out ?_))
  refine bodyPost_ret (v := .agg (cellsW kW)) (results_cell_row (p := 0) (ty := 113) rfl _ _ w.heap.size 113 (cellsW kW) (0, 0) _ rfl (setRow_heap _ _ _ _ _ _ HR.out) Tryd.underlying113 rfl HIm.out) rfl ?_
  exact ⟨rfl, HB.out⟩
theorem rturn_i (w : World) (x : Nat) (i : Int) (hx : x < 4294967296) (hi : i = 6 ∨ i = 11 ∨ i = 25 ∨ i = 2 ∨ i = 13 ∨ i = 22) : Calls Tryd.prog 77 #[.int .u32 (x : Int), .int .u64 i] w fun e w' => e = .returned (.int .u32 ((rot x i.toNat : Nat) : Int)) ∧ w' = w := by
  rcases hi with rfl | rfl | rfl | rfl | rfl | rfl
  · exact rturn_6 w x hx
  · exact rturn_11 w x hx
  · exact rturn_25 w x hx
  · exact rturn_2 w x hx
  · exact rturn_13 w x hx
  · exact rturn_22 w x hx
end Go.Proofs.YtklklldmhoofnaaDoor
