/- Of the road to uebReadCard_holds: UbAwake. -/
import Derived.Test.YtklklldmhoofnaaDoorG04
import Derived.Test.YtklklldmhoofnaaDoorG05
import Derived.Lib.SlBytesConst
set_option linter.unusedVariables false
set_option linter.unusedSimpArgs false
namespace Go.Proofs.YtklklldmhoofnaaDoor
open Go Go.RowKit
set_option maxRecDepth 100000 in
set_option maxHeartbeats 4000000 in
theorem length_any (w : World) (u : Ub) (hu : u.ok) (hkp : KP w) : Calls Tryd.prog 8 #[.agg (ubA u)] w fun e w' => e = .returned (.tuple #[.int .i64 ((wrL u).length : Nat), .int .i64 (chE u)]) ∧ Below w.heap.size w w' := by
  have HS := hid (size_ub hu)
  have hbA := (Below.refl w.heap.size w).alloc (Nat.le_refl _) (.cells (ubA u) 25)
  have C := hid (uwrite_any (w.alloc (.cells (ubA u) 25)) u hu (hkp.below hbA))
  obtain ⟨m, HM⟩ : ∃ x, Hid (ubA u = x) := ⟨_, rfl⟩
  obtain ⟨ll, HL⟩ : ∃ x, Hid (wrL u = x) := ⟨_, rfl⟩
  obtain ⟨ee, HE⟩ : ∃ x, Hid (chE u = x) := ⟨_, rfl⟩
  rw [HM.out, HL.out, HE.out] at C
  rw [HM.out] at HS hbA
  rw [HM.out, HL.out, HE.out]
  have HBA := hid hbA
  clear hbA hkp hu
  go_enter Tryd.func8, Tryd.ntmps8
  go_wp2_with (first | (refine wpList_load_row rfl 25 _ rfl w.heap.size rfl 25 m (0, 0) _ (heap_alloc_new w _) Tryd.underlying25 rfl HS.out ?_) | fail)
  refine C.out.mono ?_
  rintro e w1 ⟨v', rfl, hown, hb1⟩
  have B1 := hid (HBA.out.trans (hb1.mono (by simp)))
  obtain ⟨p, c, rfl⟩ := own_slc hown
  clear hown hb1 C
  go_wp2
  go_ret2
  exact ⟨rfl, B1.out⟩
theorem zc_ueb : Tryd.zeroCells25 = ubA ub0 := by kernel_rfl
theorem HB_lit {w : World} {blk : Nat} {T : TypeId} {fr : Nat × Nat} {l : List Int} (hb : w.heap[blk]? = some (.cells (l.map (Value.int .u8)).toArray T fr)) (hn : l.length ≤ 1000) (hy : Byt8 l) : HB w (.slice (some ⟨blk, 0, none⟩) l.length l.length) l := by
  refine ⟨⟨_, l.length, rfl, Nat.le_refl _, by unfold maxLen; omega, (fun e => by cases e), fun _ => ⟨blk, 0, rfl, fun j hj => ?_⟩⟩, hy⟩
  rw [cell_of_row _ _ _ _ _ _ hb]
  simp [List.getD, List.getElem?_eq_getElem hj]
end Go.Proofs.YtklklldmhoofnaaDoor
