/- Length of ueb; known and awake of the laws, walked. -/
import Derived.Test.YthcdefidoibopabDoorUbWrite
import Derived.Test.YthcdefidoibopabDoorSameBytes
import Derived.Lib.SlBytesConst
set_option linter.unusedSimpArgs false
set_option linter.unusedVariables false
namespace Go.Proofs.YthcdefidoibopabDoor
open Go Go.RowKit

set_option maxRecDepth 100000 in
set_option maxHeartbeats 4000000 in
theorem length_any (w : World) (u : Ub) (hu : u.ok) (hkp : KP w) : Calls Tryd.prog 13 #[.agg (ubA u)] w fun e w' => e = .returned (.tuple #[.int .i64 ((wrL u).length : Nat), .int .i64 (chE u)]) ∧ Below w.heap.size w w' := by
  have HS := hid (size_ub hu)
  have hbA := (Below.refl w.heap.size w).alloc (Nat.le_refl _) (.cells (ubA u) 41)
  have C := hid (write_any (w.alloc (.cells (ubA u) 41)) u hu (hkp.below hbA))
  obtain ⟨m, HM⟩ : ∃ x, Hid (ubA u = x) := ⟨_, rfl⟩
  obtain ⟨ll, HL⟩ : ∃ x, Hid (wrL u = x) := ⟨_, rfl⟩
  obtain ⟨ee, HE⟩ : ∃ x, Hid (chE u = x) := ⟨_, rfl⟩
  rw [HM.out, HL.out, HE.out] at C
  rw [HM.out] at HS hbA
  rw [HM.out, HL.out, HE.out]
  have HBA := hid hbA
  clear hbA hkp hu
  go_enter Tryd.func13, Tryd.ntmps13
  go_wp2_with (first | (refine wpList_load_row rfl 41 _ rfl w.heap.size rfl 41 m (0, 0) _ (heap_alloc_new w _) Tryd.underlying41 rfl HS.out ?_) | fail)
  refine C.out.mono ?_
  rintro e w1 ⟨v', rfl, hown, hb1⟩
  have B1 := hid (HBA.out.trans (hb1.mono (by simp)))
  obtain ⟨p, c, rfl⟩ := own_slc hown
  clear hown hb1 C
  go_wp2
  go_ret2
  exact ⟨rfl, B1.out⟩
def ubK : Ub := ⟨3, 10, 66, 1000, zeros32', zeros32'⟩
theorem ubK_ok : ubK.ok := ub0_ok
theorem ubK_ch : chE ubK = 0 := by decide +kernel
theorem ubK_len : (wrL ubK).length = 134 := by decide +kernel
theorem zc_ueb : Tryd.zeroCells41 = ubA ub0 := by kernel_rfl
theorem set_k : (((Tryd.zeroCells41.setIfInBounds 0 (Value.int .i64 3)).setIfInBounds 1 (Value.int .i64 10)).setIfInBounds 2 (Value.int .i64 66)).setIfInBounds 3 (Value.int .i64 1000) = ubA ubK := by kernel_rfl
set_option maxRecDepth 100000 in
set_option maxHeartbeats 4000000 in
theorem known_any (w : World) : Calls Tryd.prog 11 #[] w fun e w' => e = .returned (.agg (ubA ubK)) ∧ Below w.heap.size w w' := by
  have HK := hid set_k
  have S0 : Hid (Tryd.zeroCells41.size = 68) := by refine hid ?_; rw [zc_ueb]; exact ubA_size ub0_ok
  have S1 := hid (ubA_size ubK_ok)
  have O1 := hid (ubA_one ubK)
  obtain ⟨m, HM⟩ : ∃ x, Hid (ubA ubK = x) := ⟨_, rfl⟩
  rw [HM.out] at HK S1 O1
  rw [HM.out]
  have HI : Hid ((Tryd.prog.info? 41).map (·.size) = some m.size) := by refine hid ?_; rw [S1.out]; exact size_ueb
  go_enter Tryd.func11, Tryd.ntmps11
  go_wp2_with (refine wpList_store_row rfl 41 _ _ rfl w.heap.size m rfl (congrArg Value.agg HK.out) 41 _ (heap_alloc_new w _) HI.out (by rw [S0.out, S1.out]) O1.out ?_)
  refine bodyPost_ret (v := .agg m) (results_cell_row (p := 0) (ty := 41) rfl _ _ w.heap.size 41 m (0, 0) _ rfl (setRow_heap _ _ _ _ _ _ (heap_alloc_new w _)) Tryd.underlying41 rfl HI.out) rfl ?_
  exact ⟨rfl, bel_setRow ((Below.refl _ w).alloc (Nat.le_refl _) _) (Nat.le_refl _) _⟩
def rwX : Rw := (⟨#[97]⟩, [120, 121, 122])
def pkX : List Int := [49, 58, 97, 44, 51, 58, 120, 121, 122, 44]
theorem pkX_byt : Byt8 pkX := by intro x hx; simp [pkX] at hx; omega
theorem rwX_may : mayT [rwX] := by decide +kernel
theorem pkX_is : packL [rwX] = pkX := by decide +kernel
/-- Bytes of a literal. -/
theorem HB_lit {w : World} {blk : Nat} {T : TypeId} {fr : Nat × Nat} {l : List Int} (hb : w.heap[blk]? = some (.cells (l.map (Value.int .u8)).toArray T fr)) (hn : l.length ≤ 1000) (hy : Byt8 l) : HB w (.slice (some ⟨blk, 0, none⟩) l.length l.length) l := by
  refine ⟨⟨_, l.length, rfl, Nat.le_refl _, by unfold maxLen; omega, (fun e => by cases e), fun _ => ⟨blk, 0, rfl, fun j hj => ?_⟩⟩, hy⟩
  rw [cell_of_row _ _ _ _ _ _ hb]
  simp [List.getD, List.getElem?_eq_getElem hj]
set_option maxRecDepth 100000 in
set_option maxHeartbeats 8000000 in
theorem uawake_any (w : World) (hkp : KP w) : Calls Tryd.prog 5 #[] w fun e w' => e = .returned (.bool true) ∧ Below w.heap.size w w' := by
  have C1 := hid (known_any w)
  have C2 := hid fun w => length_any w ubK ubK_ok
  rw [ubK_ch, ubK_len] at C2
  obtain ⟨m, HM⟩ : ∃ x, Hid (ubA ubK = x) := ⟨_, rfl⟩
  rw [HM.out] at C1 C2
  have HK := hid hkp
  clear hkp
  go_enter Tryd.func5, Tryd.ntmps5
  go_wp2_with fail
  refine C1.out.mono ?_
  rintro e w1 ⟨rfl, hb1⟩
  have B1 := hid hb1
  clear hb1 C1
  go_wp2_with fail
  refine (C2.out w1 (HK.out.below B1.out)).mono ?_
  rintro e w2 ⟨rfl, hb2⟩
  have B2 := hid (B1.out.trans (hb2.mono B1.out.size))
  clear hb2 C2
  have qc1 := Lib.run_convert_bytes_const (P := Tryd.prog) w2 24 5 #[.int .u8 120, .int .u8 121, .int .u8 122] 3 3 Tryd.underlying24 Tryd.underlying5
  obtain ⟨w3, HW3⟩ : ∃ x, Hid (w2.alloc (.cells #[.int .u8 120, .int .u8 121, .int .u8 122] 5 ((#[.int .u8 120, .int .u8 121, .int .u8 122] : Array Value).size, (#[.int .u8 120, .int .u8 121, .int .u8 122] : Array Value).size + 1)) = x) := ⟨_, rfl⟩
  rw [HW3.out] at qc1
  have hk3 : w3.heap[w2.heap.size]? = some (.cells (([120, 121, 122] : List Int).map (Value.int .u8)).toArray 5 (3, 4)) := by rw [← HW3.out]; exact heap_alloc_new w2 _
  have hb3 : Below w2.heap.size w2 w3 := by rw [← HW3.out]; exact (Below.refl _ w2).alloc (Nat.le_refl _) _
  have HX3 := hid (HB_lit hk3 (by decide) (by intro x hx; simp at hx; omega))
  have B3 := hid (B2.out.trans (hb3.mono B2.out.size))
  obtain ⟨w4, HW4⟩ : ∃ x, Hid (w3.alloc (.cells #[.string ⟨#[97]⟩, .slice (some ⟨w2.heap.size, 0, none⟩) 3 3] 34) = x) := ⟨_, rfl⟩
  have hk4 : w4.heap[w3.heap.size]? = some (.cells #[.string ⟨#[97]⟩, .slice (some ⟨w2.heap.size, 0, none⟩) 3 3] 34 (0, 0)) := by rw [← HW4.out]; exact heap_alloc_new w3 _
  have hb4 : Below w3.heap.size w3 w4 := by rw [← HW4.out]; exact (Below.refl _ w3).alloc (Nat.le_refl _) _
  have B4 := hid (B3.out.trans (hb4.mono B3.out.size))
  have hR4 : HRw w4 (.slice (some ⟨w3.heap.size, 0, none⟩) 1 1) [rwX] := by
    refine HRw.of_own (base := 0) (e := 34) (vs := [.slice (some ⟨w2.heap.size, 0, none⟩) 3 3]) ⟨rfl, .inr ⟨w3.heap.size, 1, _, rfl, Nat.zero_le _, hk4, Nat.le_refl _, by unfold maxLen; omega, rfl, rfl⟩⟩ rfl ?_
    intro i hi
    match i, hi with
    | 0, _ => exact HX3.out.below hb4
    | i + 1, h => simp at h
  have CP := pack_any w4 _ [rwX] hR4 (HK.out.below B4.out)
  rw [show pkE [rwX] = 0 from by unfold pkE; rw [if_pos rwX_may], show pkL [rwX] = pkX from by unfold pkL; rw [if_pos rwX_may, pkX_is]] at CP
  have CP := hid CP
  clear hk3 hb3 hk4 hb4 hR4
  go_wp2_with fail
  rw [HW4.out]
  refine CP.out.mono ?_
  rintro e w5 ⟨v5, rfl, hown5, hb5⟩
  have B5 := hid (B4.out.trans (hb5.mono B4.out.size))
  have HX5 := hid (HB.of_own hown5 pkX_byt)
  have qc2 := Lib.run_convert_bytes_const (P := Tryd.prog) w5 24 5 #[.int .u8 49, .int .u8 58, .int .u8 97, .int .u8 44, .int .u8 51, .int .u8 58, .int .u8 120, .int .u8 121, .int .u8 122, .int .u8 44] 10 10 Tryd.underlying24 Tryd.underlying5
  obtain ⟨w6, HW6⟩ : ∃ x, Hid (w5.alloc (.cells #[.int .u8 49, .int .u8 58, .int .u8 97, .int .u8 44, .int .u8 51, .int .u8 58, .int .u8 120, .int .u8 121, .int .u8 122, .int .u8 44] 5 ((#[.int .u8 49, .int .u8 58, .int .u8 97, .int .u8 44, .int .u8 51, .int .u8 58, .int .u8 120, .int .u8 121, .int .u8 122, .int .u8 44] : Array Value).size, (#[.int .u8 49, .int .u8 58, .int .u8 97, .int .u8 44, .int .u8 51, .int .u8 58, .int .u8 120, .int .u8 121, .int .u8 122, .int .u8 44] : Array Value).size + 1)) = x) := ⟨_, rfl⟩
  rw [HW6.out] at qc2
  have hk6 : w6.heap[w5.heap.size]? = some (.cells (pkX.map (Value.int .u8)).toArray 5 (10, 11)) := by rw [← HW6.out]; exact heap_alloc_new w5 _
  have hb6 : Below w5.heap.size w5 w6 := by rw [← HW6.out]; exact (Below.refl _ w5).alloc (Nat.le_refl _) _
  have B6 := hid (B5.out.trans (hb6.mono B5.out.size))
  have C6 := sameBytes_any w6 v5 _ pkX pkX (HX5.out.below hb6) (HB_lit hk6 (by decide) pkX_byt)
  rw [decide_eq_true rfl] at C6
  have C6 := hid C6
  obtain ⟨p5, c5, rfl⟩ := own_slc hown5
  clear hown5 hb5 hk6 hb6 CP
  go_wp2_with fail
  refine C6.out.mono ?_
  rintro e w7 ⟨rfl, hd7⟩
  have B7 := hid (B6.out.trans (hd7.below _))
  clear hd7
  go_wp2
  go_ret
  exact ⟨rfl, B7.out⟩
end Go.Proofs.YthcdefidoibopabDoor
