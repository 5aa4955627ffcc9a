/- SameDigests of the kit, walked. -/
import Derived.Test.YtjmlpkemjafifaaDoorTrOwn
set_option linter.unusedVariables false
set_option linter.unusedSimpArgs false
namespace Go.Proofs.YtjmlpkemjafifaaDoor
open Go.RowKit

theorem take_stepD (da db : List (List Int)) (k : Nat) (ha : k < da.length) (hb : k < db.length) (h : da.take k = db.take k) (e : da.getD k [] = db.getD k []) : da.take (k + 1) = db.take (k + 1) := by
  rw [List.take_succ_eq_append_getElem ha, List.take_succ_eq_append_getElem hb, h]
  have e1 : da.getD k [] = da[k] := by simp [List.getD, List.getElem?_eq_getElem ha]
  have e2 : db.getD k [] = db[k] := by simp [List.getD, List.getElem?_eq_getElem hb]
  rw [← e1, ← e2, e]
set_option maxRecDepth 100000 in
set_option maxHeartbeats 2000000 in
theorem sameDigests_any (w : World) (va vb : Value) (da db : List (List Int)) (ha : HDs w va da) (hb : HDs w vb db) :
    Calls Tryd.prog 16 #[va, vb] w fun e w' => e = .returned (.bool (decide (da = db))) ∧ Below w.heap.size w w' := by
  obtain ⟨pa, ca, ea, hca, hma⟩ := ha.open
  obtain ⟨pb, cb, eb, hcb, hmb⟩ := hb.open
  unfold maxLen at hma hmb
  have A := hid ha.ne
  have B := hid hb.ne
  have DA := hid ha.2
  have DB := hid hb.2
  obtain ⟨n, HN⟩ : ∃ n, Hid (da.length = n) := ⟨_, rfl⟩
  obtain ⟨m, HM⟩ : ∃ m, Hid (db.length = m) := ⟨_, rfl⟩
  rw [HN.out] at ea hca
  rw [HM.out] at eb hcb
  subst ea eb
  clear ha hb
  by_cases hnm : n = m
  case neg =>
    have hF : Hid (decide (da = db) = false) := by
      refine hid ?_
      simp only [decide_eq_false_iff_not]
      intro e
      exact hnm (by rw [← HN.out, ← HM.out, e])
    have hnm2 : ¬ (n : Int) = (m : Int) := by omega
    go_enter Tryd.func16, Tryd.ntmps16
    go_wp2
    go_ret
    exact ⟨by rw [hF.out]; rfl, Below.refl _ _⟩
  case pos =>
    subst hnm
    go_enter Tryd.func16, Tryd.ntmps16
    go_wp2
    go_loopw [5] (fun i wr => ∃ k : Nat, k ≤ n ∧ i = .int .i64 k ∧ Hid (da.take k = db.take k) ∧ Hid (Below w.heap.size w wr)) (fun i _ => n - (intOf i).toNat)
    case atStart => exact ⟨0, Nat.zero_le _, rfl, by rw [List.take_zero, List.take_zero]; exact rfl, Below.refl _ _⟩
    case round =>
      obtain ⟨k, hk, rfl, HT, HBel⟩ := hrel
      by_cases hlt : k < n
      · obtain ⟨ba, oa, ca', e1, _, _, hba, hra⟩ := A.out (by rw [HN.out]; omega)
        obtain ⟨bb, ob, cb', e2, _, _, hbb, hrb⟩ := B.out (by rw [HM.out]; omega)
        simp only [Value.slice.injEq] at e1 e2
        obtain ⟨rfl, _, _⟩ := e1
        obtain ⟨rfl, _, _⟩ := e2
        have R1 := hid (hra k (by rw [HN.out]; exact hlt))
        have R2 := hid (hrb k (by rw [HM.out]; exact hlt))
        have hd1 := getD_D DA.out k (by rw [HN.out]; exact hlt)
        have hd2 := getD_D DB.out k (by rw [HM.out]; exact hlt)
        have HST := hid (take_stepD da db k (by rw [HN.out]; exact hlt) (by rw [HM.out]; exact hlt) HT.out)
        have HNE : Hid (da.getD k [] ≠ db.getD k [] → da ≠ db) := fun h e => h (by rw [e])
        generalize da.getD k [] = d1 at hd1 R1 HST HNE
        generalize db.getD k [] = d2 at hd2 R2 HST HNE
        have hq := fun w => run_neq_bytes w 32 28 Tryd.underlying28 d1 d2 hd1.1 hd2.1
        clear hra hrb A B
        go_wp2
        refine wp_region_held_drew (S := Below w.heap.size w) (by kernel_rfl) HBel.out.drew (fun hHeld => ?_)
        have HS := hid hHeld
        clear hHeld
        change wpAnyH _ _ _ _ _ _ _ _ (World.drew _)
        refine wpAnyH_take (i := 0) (v := ?_) rfl (by kernel_rfl) (by kernel_rfl) (by kernel_rfl) (fun _ _ _ h => h) (Or.inl ⟨by rfl, ?q0⟩) HS.out ?_
        case q0 => intro w hSw; go_simp; rfl
        simp only [Act.put, List.getElem_toArray, List.getElem_cons_zero, List.getElem_cons_succ, List.setIfInBounds_toArray, List.set_cons_zero, List.set_cons_succ]
        refine wpAnyH_take (i := 1) (v := ?_) rfl (by kernel_rfl) (by kernel_rfl) (by kernel_rfl) (fun _ _ _ h => h) (Or.inl ⟨by rfl, ?q1⟩) HS.out ?_
        case q1 => intro w hSw; go_simp; rfl
        simp only [Act.put, List.getElem_toArray, List.getElem_cons_zero, List.getElem_cons_succ, List.setIfInBounds_toArray, List.set_cons_zero, List.set_cons_succ]
        refine wpAnyH_take (i := 2) (v := .pointer (some ⟨ba, oa + k * 32, none⟩)) rfl (by kernel_rfl) (by kernel_rfl) (by kernel_rfl) (fun _ _ _ h => h) (Or.inl ⟨by rfl, ?q2⟩) HS.out ?_
        case q2 => intro w hSw; go_simp
        simp only [Act.put, List.getElem_toArray, List.getElem_cons_zero, List.getElem_cons_succ, List.setIfInBounds_toArray, List.set_cons_zero, List.set_cons_succ]
        refine wpAnyH_take (i := 3) rfl (by kernel_rfl) (by kernel_rfl) (by kernel_rfl) (fun _ _ _ h => h) (yieldsIf_load_mid (by rfl) 28 _ rfl ba (oa + k * 32) rfl (dc d1) _ (fun W hW => range_below R1.out hW hba) Tryd.underlying28 rfl (size_dig hd1)) HS.out ?_
        simp only [Act.put, List.getElem_toArray, List.getElem_cons_zero, List.getElem_cons_succ, List.setIfInBounds_toArray, List.set_cons_zero, List.set_cons_succ]
        refine wpAnyH_take (i := 4) (v := ?_) rfl (by kernel_rfl) (by kernel_rfl) (by kernel_rfl) (fun _ _ _ h => h) (Or.inl ⟨by rfl, ?q4⟩) HS.out ?_
        case q4 => intro w hSw; go_simp; rfl
        simp only [Act.put, List.getElem_toArray, List.getElem_cons_zero, List.getElem_cons_succ, List.setIfInBounds_toArray, List.set_cons_zero, List.set_cons_succ]
        refine wpAnyH_take (i := 5) (v := ?_) rfl (by kernel_rfl) (by kernel_rfl) (by kernel_rfl) (fun _ _ _ h => h) (Or.inl ⟨by rfl, ?q5⟩) HS.out ?_
        case q5 => intro w hSw; go_simp; rfl
        simp only [Act.put, List.getElem_toArray, List.getElem_cons_zero, List.getElem_cons_succ, List.setIfInBounds_toArray, List.set_cons_zero, List.set_cons_succ]
        refine wpAnyH_take (i := 6) (v := .pointer (some ⟨bb, ob + k * 32, none⟩)) rfl (by kernel_rfl) (by kernel_rfl) (by kernel_rfl) (fun _ _ _ h => h) (Or.inl ⟨by rfl, ?q6⟩) HS.out ?_
        case q6 => intro w hSw; go_simp
        simp only [Act.put, List.getElem_toArray, List.getElem_cons_zero, List.getElem_cons_succ, List.setIfInBounds_toArray, List.set_cons_zero, List.set_cons_succ]
        refine wpAnyH_take (i := 7) rfl (by kernel_rfl) (by kernel_rfl) (by kernel_rfl) (fun _ _ _ h => h) (yieldsIf_load_mid (by rfl) 28 _ rfl bb (ob + k * 32) rfl (dc d2) _ (fun W hW => range_below R2.out hW hbb) Tryd.underlying28 rfl (size_dig hd2)) HS.out ?_
        simp only [Act.put, List.getElem_toArray, List.getElem_cons_zero, List.getElem_cons_succ, List.setIfInBounds_toArray, List.set_cons_zero, List.set_cons_succ]
        rw [dc_arr, dc_arr]
        refine wpAnyH_take (i := 8) (v := .bool (!decide (d1 = d2))) rfl (by kernel_rfl) (by kernel_rfl) (by kernel_rfl) (fun _ _ _ h => h) (Or.inl ⟨by rfl, ?q8⟩) HS.out ?_
        case q8 => intro w hSw; go_simp
        simp only [Act.put, List.getElem_toArray, List.getElem_cons_zero, List.getElem_cons_succ, List.setIfInBounds_toArray, List.set_cons_zero, List.set_cons_succ]
        refine wpAnyH_done (by kernel_rfl) ?_ _
        have HB1 := hid HS.out
        clear HS
        by_cases hd : d1 = d2
        · have hdd : decide (d1 = d2) = true := by simpa using hd
          rw [hdd]
          go_wp2
          exact ⟨⟨k + 1, by omega, by go_num, HST.out hd, HB1⟩, by simp [intOf]; omega⟩
        · have hdd : decide (d1 = d2) = false := by simpa using hd
          rw [hdd]
          have hF : Hid (decide (da = db) = false) := by
            refine hid ?_
            simpa using HNE.out hd
          go_wp2
          go_ret
          exact ⟨by rw [hF.out]; rfl, HB1.out⟩
      · have hkn : k = n := by omega
        have hF : Hid (decide (da = db) = true) := by
          refine hid ?_
          have := HT.out
          rw [List.take_of_length_le (by rw [HN.out]; omega), List.take_of_length_le (by rw [HM.out]; omega)] at this
          simpa using this
        go_wp2
        go_ret
        exact ⟨by rw [hF.out]; rfl, HBel.out⟩
end Go.Proofs.YtjmlpkemjafifaaDoor
