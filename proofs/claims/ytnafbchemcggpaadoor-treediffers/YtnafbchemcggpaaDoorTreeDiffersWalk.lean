/- TreeDiffers, walked. -/
import Derived.Test.YtnafbchemcggpaaDoorTrDfM
import Derived.Test.YtnafbchemcggpaaDoorTrSame
import Derived.Test.YtnafbchemcggpaaDoorTrLives
set_option linter.unusedVariables false
set_option linter.unusedSimpArgs false
namespace Go.Proofs.YtnafbchemcggpaaDoor
open Go.RowKit

/-- Build's answer, whole. -/
def BdQ (w : World) (ls : List (List Int)) (e : Ending) (w' : World) : Prop :=
  (1 ≤ ls.length ∧ ls.length ≤ 512 ∧ ∃ g N, e = .returned (.tuple #[.slice (some ⟨g, 0, none⟩) N.length N.length, .int .i64 0]) ∧ w.heap.size ≤ g ∧ OD w' g N ∧ IsT ls (wdN ls.length) N ∧ Below w.heap.size w w') ∨
  (¬ (1 ≤ ls.length ∧ ls.length ≤ 512) ∧ e = .returned (.tuple #[.slice none 0 0, .int .i64 110]) ∧ Below w.heap.size w w')
theorem build_any (w : World) (v : Value) (ls : List (List Int)) (h : HDs w v ls) (hk : KC w) : Calls Tryd.prog 15 #[v] w fun e w' => BdQ w ls e w' := by
  by_cases hn : 1 ≤ ls.length ∧ ls.length ≤ 512
  · exact (build_ok w v ls h hn.1 hn.2 hk).mono fun e w' ⟨g, N, h1, h2⟩ => .inl ⟨hn.1, hn.2, g, N, h1, h2⟩
  · exact (build_bad w v ls h hn).mono fun e w' h1 => .inr ⟨hn, h1⟩
set_option maxRecDepth 100000 in
set_option maxHeartbeats 8000000 in
theorem treeDiffers_walk (w : World) (va vb : Value) (la lb : List (List Int)) (ha : HDs w va la) (hb : HDs w vb lb) (hk : KC w) :
    Calls Tryd.prog 4 #[va, vb] w fun e w' => e = .returned (.bool true) ∧ Below w.heap.size w w' := by
  have CL := hid (lives_any w hk)
  obtain ⟨pa, ca, ea, hca, hma⟩ := ha.open
  obtain ⟨pb, cb, eb, hcb, hmb⟩ := hb.open
  unfold maxLen at hma hmb
  have A := hid ha
  have B := hid hb
  have HK := hid hk
  obtain ⟨n, HN⟩ : ∃ n, Hid (la.length = n) := ⟨_, rfl⟩
  obtain ⟨m, HM⟩ : ∃ m, Hid (lb.length = m) := ⟨_, rfl⟩
  rw [HN.out] at ea hca
  rw [HM.out] at eb hcb
  subst ea eb
  clear ha hb hk
  go_enter Tryd.func4, Tryd.ntmps4
  go_wp2_with fail
  refine CL.out.mono ?_
  rintro e w1 ⟨rfl, hB1⟩
  have BL1 := hid hB1
  have CBa := hid (build_any w1 _ la (A.out.below hB1) (HK.out.below hB1))
  clear hB1 CL
  go_wp2_with fail
  refine CBa.out.mono ?_
  rintro e w2 (⟨hn1, hn2, g, Nn, rfl, hg, hO, hT, hB2⟩ | ⟨hnn, rfl, hB2⟩)
  case inr =>
    rw [HN.out] at hnn
    have BL2 := hid (BL1.out.trans (hB2.mono BL1.out.size))
    have CBb := hid (build_any w2 _ lb (B.out.below BL2.out) (HK.out.below BL2.out))
    clear hB2 CBa
    go_wp2_with fail
    refine CBb.out.mono ?_
    rintro e w3 (⟨hm1, hm2, g', M, rfl, hg', hO', hT', hB3⟩ | ⟨hmm, rfl, hB3⟩)
    all_goals
      have BL3 := hid (BL2.out.trans (hB3.mono BL2.out.size))
      clear hB3 CBb
      go_wp2
      go_ret
      exact ⟨rfl, BL3.out⟩
  case inl =>
    rw [HN.out] at hn1 hn2
    have BL2 := hid (BL1.out.trans (hB2.mono BL1.out.size))
    have CBb := hid (build_any w2 _ lb (B.out.below BL2.out) (HK.out.below BL2.out))
    have HO := hid hO
    have HT := hid hT
    clear hB2 CBa hO hT
    obtain ⟨k, HKn⟩ : ∃ k, Hid (Nn.length = k) := ⟨_, rfl⟩
    rw [HKn.out]
    have hkl : 1 ≤ k ∧ k ≤ 1023 := by
      rw [← HKn.out, HT.out.len]
      have := wdN_le la.length
      omega
    go_wp2_with fail
    refine CBb.out.mono ?_
    rintro e w3 (⟨hm1, hm2, g', M, rfl, hg', hO', hT', hB3⟩ | ⟨hmm, rfl, hB3⟩)
    case inr =>
      have BL3 := hid (BL2.out.trans (hB3.mono BL2.out.size))
      clear hB3 CBb
      go_wp2
      go_ret
      exact ⟨rfl, BL3.out⟩
    case inl =>
      rw [HM.out] at hm1 hm2
      have HO2 := hid (HO.out.below hB3)
      have HO' := hid hO'
      have HT' := hid hT'
      have BL3 := hid (BL2.out.trans (hB3.mono BL2.out.size))
      clear hB3 CBb hO' hT' HO
      obtain ⟨k', HKm⟩ : ∃ k', Hid (M.length = k') := ⟨_, rfl⟩
      rw [HKm.out]
      by_cases hnm : n = m
      case neg =>
        have hnmi : ¬ (n : Int) = (m : Int) := by omega
        have HNE : Hid (((n : Int) != (m : Int)) = true) := by refine hid ?_; simpa using hnmi
        go_wp2
        go_ret
        exact ⟨by show Ending.returned (.bool ((n : Int) != (m : Int))) = _; rw [HNE.out], BL3.out⟩
      case pos =>
        subst hnm
        have hkk : k' = k := by rw [← HKm.out, ← HKn.out, HT.out.len, HT'.out.len, HN.out, HM.out]
        subst hkk
        have hk0 : ¬ (k' : Int) = 0 := by omega
        have HDa := hid (HO2.out.HDs (by rw [HKn.out]; omega))
        have HDb := hid (HO'.out.HDs (by rw [HKm.out]; omega))
        rw [HKn.out] at HDa
        rw [HKm.out] at HDb
        have CD := hid (differ_any w3 _ _ Nn M HDa.out HDb.out)
        have HSh : Hid (Shp Nn M) := ⟨⟨_, wdN_pow la.length, HT.out.len⟩, by rw [HKm.out, HKn.out]⟩
        have hW := wdN_ge la.length (by rw [HN.out]; omega)
        go_wp2_with fail
        refine CD.out.mono ?_
        rintro e w4 ⟨x, b, rfl, hP, hB4⟩
        have HP := hid hP
        have BL4 := hid (BL3.out.trans (hB4.mono BL3.out.size))
        have HO4 := hid (HO2.out.below hB4)
        have HO4' := hid (HO'.out.below hB4)
        have hgl := HO4.out.lt
        have hgl' := HO4'.out.lt
        clear hP hB4 CD HDa HDb HO2 HO'
        cases b with
        | false =>
          have hx0 := (HP.out.2 rfl).1
          subst hx0
          have HNo := hid ((HP.out.2 rfl).2 HSh.out)
          have hd1 := getD_D HO4.out.2.2 0 (by rw [HKn.out]; omega)
          have hd2 := getD_D HO4'.out.2.2 0 (by rw [HKm.out]; omega)
          have R1 := hid (HO4.out.2.1 0 (by rw [HKn.out]; omega))
          have R2 := hid (HO4'.out.2.1 0 (by rw [HKm.out]; omega))
          have HSm : Hid (Nn.getD 0 [] = M.getD 0 [] → la = lb) := fun h0 => leaves_same HT.out (by have := HT'.out; rw [HM.out] at this; rw [HN.out]; exact this) (by rw [HN.out, HM.out]) hW h0 (fun y h1 h2 => HNo.out y h1 (by rw [HT.out.len]; omega))
          rw [Nat.zero_mul] at R1 R2
          generalize Nn.getD 0 [] = d1 at hd1 R1 HSm
          generalize M.getD 0 [] = d2 at hd2 R2 HSm
          have hq := fun w => run_neq_bytes w 32 45 Tryd.underlying45 d1 d2 hd1.1 hd2.1
          have CSm : Hid (∀ w', Below w4.heap.size w4 w' → _) := fun w' h => sameDigests_any w' _ _ la lb (A.out.below (BL4.out.trans (h.mono BL4.out.size))) (B.out.below (BL4.out.trans (h.mono BL4.out.size)))
          go_wp2
          by_cases hd : d1 = d2
          · have HE := hid (HSm.out hd)
            have hdd : decide (d1 = d2) = true := by simpa using hd
            rw [hdd] at hq
            clear hd hdd
            refine wp_region_held_drew (S := Below w4.heap.size w4) (by kernel_rfl) (Below.refl _ _).drew (fun hHeld => ?_)
            have HS := hid hHeld
            clear hHeld
            change wpAnyH _ _ _ _ _ _ _ _ (World.drew _)
            refine wpAnyH_take (i := 0) (v := ?_) rfl (by kernel_rfl) (by kernel_rfl) (by kernel_rfl) (fun _ _ _ h => h) (Or.inl ⟨by rfl, ?q0⟩) HS.out ?_
            case q0 => intro w hSw; go_simp; rfl
            simp only [Act.put, List.getElem_toArray, List.getElem_cons_zero, List.getElem_cons_succ, List.setIfInBounds_toArray, List.set_cons_zero, List.set_cons_succ]
            refine wpAnyH_take (i := 1) (v := ?_) rfl (by kernel_rfl) (by kernel_rfl) (by kernel_rfl) (fun _ _ _ h => h) (Or.inl ⟨by rfl, ?q1⟩) HS.out ?_
            case q1 => intro w hSw; go_simp; rfl
            simp only [Act.put, List.getElem_toArray, List.getElem_cons_zero, List.getElem_cons_succ, List.setIfInBounds_toArray, List.set_cons_zero, List.set_cons_succ]
            refine wpAnyH_take (i := 2) (v := ?_) rfl (by kernel_rfl) (by kernel_rfl) (by kernel_rfl) (fun _ _ _ h => h) (Or.inl ⟨by rfl, ?q2⟩) HS.out ?_
            case q2 => intro w hSw; go_simp; rfl
            simp only [Act.put, List.getElem_toArray, List.getElem_cons_zero, List.getElem_cons_succ, List.setIfInBounds_toArray, List.set_cons_zero, List.set_cons_succ]
            refine wpAnyH_take (i := 3) (v := ?_) rfl (by kernel_rfl) (by kernel_rfl) (by kernel_rfl) (fun _ _ _ h => h) (Or.inl ⟨by rfl, ?q3⟩) HS.out ?_
            case q3 => intro w hSw; go_simp; rfl
            simp only [Act.put, List.getElem_toArray, List.getElem_cons_zero, List.getElem_cons_succ, List.setIfInBounds_toArray, List.set_cons_zero, List.set_cons_succ]
            refine wpAnyH_take (i := 4) (v := .pointer (some ⟨g, 0, none⟩)) rfl (by kernel_rfl) (by kernel_rfl) (by kernel_rfl) (fun _ _ _ h => h) (Or.inl ⟨by rfl, ?q4⟩) HS.out ?_
            case q4 => intro w hSw; go_simp
            simp only [Act.put, List.getElem_toArray, List.getElem_cons_zero, List.getElem_cons_succ, List.setIfInBounds_toArray, List.set_cons_zero, List.set_cons_succ]
            refine wpAnyH_take (i := 5) rfl (by kernel_rfl) (by kernel_rfl) (by kernel_rfl) (fun _ _ _ h => h) (yieldsIf_load_mid (by rfl) 45 _ rfl g 0 rfl (dc d1) _ (fun W hW => range_below R1.out hW hgl) Tryd.underlying45 rfl (size_dig hd1)) HS.out ?_
            simp only [Act.put, List.getElem_toArray, List.getElem_cons_zero, List.getElem_cons_succ, List.setIfInBounds_toArray, List.set_cons_zero, List.set_cons_succ]
            refine wpAnyH_take (i := 6) (v := ?_) rfl (by kernel_rfl) (by kernel_rfl) (by kernel_rfl) (fun _ _ _ h => h) (Or.inl ⟨by rfl, ?q6⟩) HS.out ?_
            case q6 => intro w hSw; go_simp; rfl
            simp only [Act.put, List.getElem_toArray, List.getElem_cons_zero, List.getElem_cons_succ, List.setIfInBounds_toArray, List.set_cons_zero, List.set_cons_succ]
            refine wpAnyH_take (i := 7) (v := .pointer (some ⟨g', 0, none⟩)) rfl (by kernel_rfl) (by kernel_rfl) (by kernel_rfl) (fun _ _ _ h => h) (Or.inl ⟨by rfl, ?q7⟩) HS.out ?_
            case q7 => intro w hSw; go_simp
            simp only [Act.put, List.getElem_toArray, List.getElem_cons_zero, List.getElem_cons_succ, List.setIfInBounds_toArray, List.set_cons_zero, List.set_cons_succ]
            refine wpAnyH_take (i := 8) rfl (by kernel_rfl) (by kernel_rfl) (by kernel_rfl) (fun _ _ _ h => h) (yieldsIf_load_mid (by rfl) 45 _ rfl g' 0 rfl (dc d2) _ (fun W hW => range_below R2.out hW hgl') Tryd.underlying45 rfl (size_dig hd2)) HS.out ?_
            simp only [Act.put, List.getElem_toArray, List.getElem_cons_zero, List.getElem_cons_succ, List.setIfInBounds_toArray, List.set_cons_zero, List.set_cons_succ]
            rw [dc_arr, dc_arr]
            refine wpAnyH_take (i := 9) (v := .bool false) rfl (by kernel_rfl) (by kernel_rfl) (by kernel_rfl) (fun _ _ _ h => h) (Or.inl ⟨by rfl, ?q9⟩) HS.out ?_
            case q9 => intro w hSw; go_simp
            simp only [Act.put, List.getElem_toArray, List.getElem_cons_zero, List.getElem_cons_succ, List.setIfInBounds_toArray, List.set_cons_zero, List.set_cons_succ]
            refine wpAnyH_take (i := 10) (v := ?_) rfl (by kernel_rfl) (by kernel_rfl) (by kernel_rfl) (fun _ _ _ h => h) (Or.inl ⟨by rfl, ?q10⟩) HS.out ?_
            case q10 => intro w hSw; go_simp; rfl
            simp only [Act.put, List.getElem_toArray, List.getElem_cons_zero, List.getElem_cons_succ, List.setIfInBounds_toArray, List.set_cons_zero, List.set_cons_succ]
            refine wpAnyH_take (i := 11) (v := ?_) rfl (by kernel_rfl) (by kernel_rfl) (by kernel_rfl) (fun _ _ _ h => h) (Or.inl ⟨by rfl, ?q11⟩) HS.out ?_
            case q11 => intro w hSw; go_simp; rfl
            simp only [Act.put, List.getElem_toArray, List.getElem_cons_zero, List.getElem_cons_succ, List.setIfInBounds_toArray, List.set_cons_zero, List.set_cons_succ]
            refine wpAnyH_take (i := 12) (v := ?_) rfl (by kernel_rfl) (by kernel_rfl) (by kernel_rfl) (fun _ _ _ h => h) (Or.inl ⟨by rfl, ?q12⟩) HS.out ?_
            case q12 => intro w hSw; go_simp; rfl
            simp only [Act.put, List.getElem_toArray, List.getElem_cons_zero, List.getElem_cons_succ, List.setIfInBounds_toArray, List.set_cons_zero, List.set_cons_succ]
            refine wpAnyH_ready (rs := [13]) (by kernel_rfl) (by simp) ?_
            refine AllReadyH.cons rfl (fun K hK => ?_) AllReadyH.nil
            go_simp
            refine (CSm.out _ HS.out).mono ?_
            rintro e w5 ⟨rfl, hB5⟩
            have HS5 := hid (HS.out.trans (hB5.mono HS.out.size))
            rw [show decide (la = lb) = true by simpa using HE.out]
            refine hK.out _ _ HS5.out (fun _ => ?_)
            clear hK K
            have HS := hid HS5.out
            clear HS5 hB5
            refine wpAnyH_take (i := 14) (v := ?_) rfl (by kernel_rfl) (by kernel_rfl) (by kernel_rfl) (fun _ _ _ h => h) (Or.inl ⟨by rfl, ?q14⟩) HS.out ?_
            case q14 => intro w hSw; go_simp; rfl
            simp only [Act.put, List.getElem_toArray, List.getElem_cons_zero, List.getElem_cons_succ, List.setIfInBounds_toArray, List.set_cons_zero, List.set_cons_succ]
            refine wpAnyH_take (i := 15) (v := ?_) rfl (by kernel_rfl) (by kernel_rfl) (by kernel_rfl) (fun _ _ _ h => h) (Or.inl ⟨by rfl, ?q15⟩) HS.out ?_
            case q15 => intro w hSw; go_simp; rfl
            simp only [Act.put, List.getElem_toArray, List.getElem_cons_zero, List.getElem_cons_succ, List.setIfInBounds_toArray, List.set_cons_zero, List.set_cons_succ]
            refine wpAnyH_take (i := 16) (v := ?_) rfl (by kernel_rfl) (by kernel_rfl) (by kernel_rfl) (fun _ _ _ h => h) (Or.inl ⟨by rfl, ?q16⟩) HS.out ?_
            case q16 => intro w hSw; go_simp; rfl
            simp only [Act.put, List.getElem_toArray, List.getElem_cons_zero, List.getElem_cons_succ, List.setIfInBounds_toArray, List.set_cons_zero, List.set_cons_succ]
            refine wpAnyH_done (by kernel_rfl) ?_ _
            go_wp2
            go_ret
            exact ⟨rfl, BL4.out.trans (HS.out.mono BL4.out.size)⟩
          · have hdd : decide (d1 = d2) = false := by simpa using hd
            rw [hdd] at hq
            clear hd hdd
            refine wp_region_held_drew (S := Below w4.heap.size w4) (by kernel_rfl) (Below.refl _ _).drew (fun hHeld => ?_)
            have HS := hid hHeld
            clear hHeld
            change wpAnyH _ _ _ _ _ _ _ _ (World.drew _)
            refine wpAnyH_take (i := 0) (v := ?_) rfl (by kernel_rfl) (by kernel_rfl) (by kernel_rfl) (fun _ _ _ h => h) (Or.inl ⟨by rfl, ?q0⟩) HS.out ?_
            case q0 => intro w hSw; go_simp; rfl
            simp only [Act.put, List.getElem_toArray, List.getElem_cons_zero, List.getElem_cons_succ, List.setIfInBounds_toArray, List.set_cons_zero, List.set_cons_succ]
            refine wpAnyH_take (i := 1) (v := ?_) rfl (by kernel_rfl) (by kernel_rfl) (by kernel_rfl) (fun _ _ _ h => h) (Or.inl ⟨by rfl, ?q1⟩) HS.out ?_
            case q1 => intro w hSw; go_simp; rfl
            simp only [Act.put, List.getElem_toArray, List.getElem_cons_zero, List.getElem_cons_succ, List.setIfInBounds_toArray, List.set_cons_zero, List.set_cons_succ]
            refine wpAnyH_take (i := 2) (v := ?_) rfl (by kernel_rfl) (by kernel_rfl) (by kernel_rfl) (fun _ _ _ h => h) (Or.inl ⟨by rfl, ?q2⟩) HS.out ?_
            case q2 => intro w hSw; go_simp; rfl
            simp only [Act.put, List.getElem_toArray, List.getElem_cons_zero, List.getElem_cons_succ, List.setIfInBounds_toArray, List.set_cons_zero, List.set_cons_succ]
            refine wpAnyH_take (i := 3) (v := ?_) rfl (by kernel_rfl) (by kernel_rfl) (by kernel_rfl) (fun _ _ _ h => h) (Or.inl ⟨by rfl, ?q3⟩) HS.out ?_
            case q3 => intro w hSw; go_simp; rfl
            simp only [Act.put, List.getElem_toArray, List.getElem_cons_zero, List.getElem_cons_succ, List.setIfInBounds_toArray, List.set_cons_zero, List.set_cons_succ]
            refine wpAnyH_take (i := 4) (v := .pointer (some ⟨g, 0, none⟩)) rfl (by kernel_rfl) (by kernel_rfl) (by kernel_rfl) (fun _ _ _ h => h) (Or.inl ⟨by rfl, ?q4⟩) HS.out ?_
            case q4 => intro w hSw; go_simp
            simp only [Act.put, List.getElem_toArray, List.getElem_cons_zero, List.getElem_cons_succ, List.setIfInBounds_toArray, List.set_cons_zero, List.set_cons_succ]
            refine wpAnyH_take (i := 5) rfl (by kernel_rfl) (by kernel_rfl) (by kernel_rfl) (fun _ _ _ h => h) (yieldsIf_load_mid (by rfl) 45 _ rfl g 0 rfl (dc d1) _ (fun W hW => range_below R1.out hW hgl) Tryd.underlying45 rfl (size_dig hd1)) HS.out ?_
            simp only [Act.put, List.getElem_toArray, List.getElem_cons_zero, List.getElem_cons_succ, List.setIfInBounds_toArray, List.set_cons_zero, List.set_cons_succ]
            refine wpAnyH_take (i := 6) (v := ?_) rfl (by kernel_rfl) (by kernel_rfl) (by kernel_rfl) (fun _ _ _ h => h) (Or.inl ⟨by rfl, ?q6⟩) HS.out ?_
            case q6 => intro w hSw; go_simp; rfl
            simp only [Act.put, List.getElem_toArray, List.getElem_cons_zero, List.getElem_cons_succ, List.setIfInBounds_toArray, List.set_cons_zero, List.set_cons_succ]
            refine wpAnyH_take (i := 7) (v := .pointer (some ⟨g', 0, none⟩)) rfl (by kernel_rfl) (by kernel_rfl) (by kernel_rfl) (fun _ _ _ h => h) (Or.inl ⟨by rfl, ?q7⟩) HS.out ?_
            case q7 => intro w hSw; go_simp
            simp only [Act.put, List.getElem_toArray, List.getElem_cons_zero, List.getElem_cons_succ, List.setIfInBounds_toArray, List.set_cons_zero, List.set_cons_succ]
            refine wpAnyH_take (i := 8) rfl (by kernel_rfl) (by kernel_rfl) (by kernel_rfl) (fun _ _ _ h => h) (yieldsIf_load_mid (by rfl) 45 _ rfl g' 0 rfl (dc d2) _ (fun W hW => range_below R2.out hW hgl') Tryd.underlying45 rfl (size_dig hd2)) HS.out ?_
            simp only [Act.put, List.getElem_toArray, List.getElem_cons_zero, List.getElem_cons_succ, List.setIfInBounds_toArray, List.set_cons_zero, List.set_cons_succ]
            rw [dc_arr, dc_arr]
            refine wpAnyH_take (i := 9) (v := .bool true) rfl (by kernel_rfl) (by kernel_rfl) (by kernel_rfl) (fun _ _ _ h => h) (Or.inl ⟨by rfl, ?q9⟩) HS.out ?_
            case q9 => intro w hSw; go_simp
            simp only [Act.put, List.getElem_toArray, List.getElem_cons_zero, List.getElem_cons_succ, List.setIfInBounds_toArray, List.set_cons_zero, List.set_cons_succ]
            refine wpAnyH_take (i := 10) (v := ?_) rfl (by kernel_rfl) (by kernel_rfl) (by kernel_rfl) (fun _ _ _ h => h) (Or.inl ⟨by rfl, ?q10⟩) HS.out ?_
            case q10 => intro w hSw; go_simp; rfl
            simp only [Act.put, List.getElem_toArray, List.getElem_cons_zero, List.getElem_cons_succ, List.setIfInBounds_toArray, List.set_cons_zero, List.set_cons_succ]
            refine wpAnyH_take (i := 11) (v := undef) rfl (by kernel_rfl) (by kernel_rfl) (by kernel_rfl) (fun _ _ _ h => h) (Or.inr ⟨by rfl, rfl⟩) HS.out ?_
            simp only [Act.put, List.getElem_toArray, List.getElem_cons_zero, List.getElem_cons_succ, List.setIfInBounds_toArray, List.set_cons_zero, List.set_cons_succ]
            refine wpAnyH_take (i := 12) (v := undef) rfl (by kernel_rfl) (by kernel_rfl) (by kernel_rfl) (fun _ _ _ h => h) (Or.inr ⟨by rfl, rfl⟩) HS.out ?_
            simp only [Act.put, List.getElem_toArray, List.getElem_cons_zero, List.getElem_cons_succ, List.setIfInBounds_toArray, List.set_cons_zero, List.set_cons_succ]
            refine wpAnyH_take (i := 13) (v := undef) rfl (by kernel_rfl) (by kernel_rfl) (by kernel_rfl) (fun _ _ _ h => h) (Or.inr ⟨by rfl, rfl⟩) HS.out ?_
            simp only [Act.put, List.getElem_toArray, List.getElem_cons_zero, List.getElem_cons_succ, List.setIfInBounds_toArray, List.set_cons_zero, List.set_cons_succ]
            refine wpAnyH_take (i := 14) (v := ?_) rfl (by kernel_rfl) (by kernel_rfl) (by kernel_rfl) (fun _ _ _ h => h) (Or.inl ⟨by rfl, ?q14⟩) HS.out ?_
            case q14 => intro w hSw; go_simp; rfl
            simp only [Act.put, List.getElem_toArray, List.getElem_cons_zero, List.getElem_cons_succ, List.setIfInBounds_toArray, List.set_cons_zero, List.set_cons_succ]
            refine wpAnyH_take (i := 15) (v := ?_) rfl (by kernel_rfl) (by kernel_rfl) (by kernel_rfl) (fun _ _ _ h => h) (Or.inl ⟨by rfl, ?q15⟩) HS.out ?_
            case q15 => intro w hSw; go_simp; rfl
            simp only [Act.put, List.getElem_toArray, List.getElem_cons_zero, List.getElem_cons_succ, List.setIfInBounds_toArray, List.set_cons_zero, List.set_cons_succ]
            refine wpAnyH_take (i := 16) (v := ?_) rfl (by kernel_rfl) (by kernel_rfl) (by kernel_rfl) (fun _ _ _ h => h) (Or.inl ⟨by rfl, ?q16⟩) HS.out ?_
            case q16 => intro w hSw; go_simp; rfl
            simp only [Act.put, List.getElem_toArray, List.getElem_cons_zero, List.getElem_cons_succ, List.setIfInBounds_toArray, List.set_cons_zero, List.set_cons_succ]
            refine wpAnyH_done (by kernel_rfl) ?_ _
            go_wp2
            go_ret
            exact ⟨rfl, BL4.out.trans (HS.out.mono BL4.out.size)⟩
        | true =>
          obtain ⟨hx1, hx2, _, hdf, _⟩ := HP.out.1 rfl
          rw [HKn.out] at hx2
          have hxW : x < wdN la.length := by
            have := HT.out.len
            rw [HKn.out] at this
            omega
          have hi1 := HT.out.inner x hx1 hxW
          have hi2 := HT'.out.inner x hx1 (by rw [HM.out, ← HN.out]; exact hxW)
          have ha1 := getD_D HO4.out.2.2 (2 * x - 1) (by rw [HKn.out]; omega)
          have ha2 := getD_D HO4.out.2.2 (2 * x) (by rw [HKn.out]; omega)
          have ha0 := getD_D HO4.out.2.2 (x - 1) (by rw [HKn.out]; omega)
          have hb1 := getD_D HO4'.out.2.2 (2 * x - 1) (by rw [HKm.out]; omega)
          have hb2 := getD_D HO4'.out.2.2 (2 * x) (by rw [HKm.out]; omega)
          have hb0 := getD_D HO4'.out.2.2 (x - 1) (by rw [HKm.out]; omega)
          have Ra1 := hid (HO4.out.2.1 (2 * x - 1) (by rw [HKn.out]; omega))
          have Ra2 := hid (HO4.out.2.1 (2 * x) (by rw [HKn.out]; omega))
          have Ra0 := hid (HO4.out.2.1 (x - 1) (by rw [HKn.out]; omega))
          have Rb1 := hid (HO4'.out.2.1 (2 * x - 1) (by rw [HKm.out]; omega))
          have Rb2 := hid (HO4'.out.2.1 (2 * x) (by rw [HKm.out]; omega))
          have Rb0 := hid (HO4'.out.2.1 (x - 1) (by rw [HKm.out]; omega))
          have HCl := hid (clash_of hi1 hi2 hdf ha1 ha2 hb1 hb2)
          have HE0 := hid hdf.1
          clear hi1 hi2 hdf HP
          generalize Nn.getD (2 * x - 1) [] = d1 at ha1 Ra1 HCl
          generalize Nn.getD (2 * x) [] = d2 at ha2 Ra2 HCl
          generalize M.getD (2 * x - 1) [] = f1 at hb1 Rb1 HCl
          generalize M.getD (2 * x) [] = f2 at hb2 Rb2 HCl
          generalize Nn.getD (x - 1) [] = d0 at ha0 Ra0 HE0
          generalize M.getD (x - 1) [] = f0 at hb0 Rb0 HE0
          have hq := fun w => run_eql_bytes w 32 45 Tryd.underlying45 d0 f0 ha0.1 hb0.1
          rw [show decide (d0 = f0) = true by simpa using HE0.out] at hq
          have ew1 : IntKind.i64.wrap (2 * (x : Int)) = 2 * (x : Int) := by rw [IntKind.wrap_i64]; omega
          have ew2 : IntKind.i64.wrap (2 * (x : Int) - 1) = 2 * (x : Int) - 1 := by rw [IntKind.wrap_i64]; omega
          have ew3 : IntKind.i64.wrap ((x : Int) - 1) = (x : Int) - 1 := by rw [IntKind.wrap_i64]; omega
          have et1 : (2 * (x : Int) - 1).toNat = 2 * x - 1 := by omega
          have et2 : (2 * (x : Int)).toNat = 2 * x := by omega
          have et3 : ((x : Int) - 1).toNat = x - 1 := by omega
          have CT1 := hid (fun w => two_any w d1 d2 ha1 ha2)
          have CT2 := hid (fun w => two_any w f1 f2 hb1 hb2)
          have hl1 : (ndB d1 d2).length ≤ 10000 := by simp [ndB, num8, wNode, ha1.1, ha2.1]
          have hl2 : (ndB f1 f2).length ≤ 10000 := by simp [ndB, num8, wNode, hb1.1, hb2.1]
          go_wp2
          refine wp_region_held_drew (S := Below w4.heap.size w4) (by kernel_rfl) (Below.refl _ _).drew (fun hHeld => ?_)
          have HS := hid hHeld
          clear hHeld
          change wpAnyH _ _ _ _ _ _ _ _ (World.drew _)
          refine wpAnyH_take (i := 0) (v := ?_) rfl (by kernel_rfl) (by kernel_rfl) (by kernel_rfl) (fun _ _ _ h => h) (Or.inl ⟨by rfl, ?q0⟩) HS.out ?_
          case q0 => intro w hSw; go_simp; rfl
          simp only [Act.put, List.getElem_toArray, List.getElem_cons_zero, List.getElem_cons_succ, List.setIfInBounds_toArray, List.set_cons_zero, List.set_cons_succ]
          refine wpAnyH_take (i := 1) (v := ?_) rfl (by kernel_rfl) (by kernel_rfl) (by kernel_rfl) (fun _ _ _ h => h) (Or.inl ⟨by rfl, ?q1⟩) HS.out ?_
          case q1 => intro w hSw; go_simp; rfl
          simp only [Act.put, List.getElem_toArray, List.getElem_cons_zero, List.getElem_cons_succ, List.setIfInBounds_toArray, List.set_cons_zero, List.set_cons_succ]
          refine wpAnyH_take (i := 2) (v := .int .i64 (2 * (x : Int))) rfl (by kernel_rfl) (by kernel_rfl) (by kernel_rfl) (fun _ _ _ h => h) (Or.inl ⟨by rfl, ?q2⟩) HS.out ?_
          case q2 => intro w hSw; go_simp
          simp only [Act.put, List.getElem_toArray, List.getElem_cons_zero, List.getElem_cons_succ, List.setIfInBounds_toArray, List.set_cons_zero, List.set_cons_succ]
          refine wpAnyH_take (i := 3) (v := .int .i64 (2 * (x : Int) - 1)) rfl (by kernel_rfl) (by kernel_rfl) (by kernel_rfl) (fun _ _ _ h => h) (Or.inl ⟨by rfl, ?q3⟩) HS.out ?_
          case q3 => intro w hSw; go_simp
          simp only [Act.put, List.getElem_toArray, List.getElem_cons_zero, List.getElem_cons_succ, List.setIfInBounds_toArray, List.set_cons_zero, List.set_cons_succ]
          refine wpAnyH_take (i := 4) (v := .pointer (some ⟨g, (2 * x - 1) * 32, none⟩)) rfl (by kernel_rfl) (by kernel_rfl) (by kernel_rfl) (fun _ _ _ h => h) (Or.inl ⟨by rfl, ?q4⟩) HS.out ?_
          case q4 => intro w hSw; go_simp; intro hq; exfalso; omega
          simp only [Act.put, List.getElem_toArray, List.getElem_cons_zero, List.getElem_cons_succ, List.setIfInBounds_toArray, List.set_cons_zero, List.set_cons_succ]
          refine wpAnyH_take (i := 5) rfl (by kernel_rfl) (by kernel_rfl) (by kernel_rfl) (fun _ _ _ h => h) (yieldsIf_load_mid (by rfl) 45 _ rfl g ((2 * x - 1) * 32) rfl (dc d1) _ (fun W hW => range_below Ra1.out hW hgl) Tryd.underlying45 rfl (size_dig ha1)) HS.out ?_
          simp only [Act.put, List.getElem_toArray, List.getElem_cons_zero, List.getElem_cons_succ, List.setIfInBounds_toArray, List.set_cons_zero, List.set_cons_succ]
          refine wpAnyH_take (i := 6) (v := ?_) rfl (by kernel_rfl) (by kernel_rfl) (by kernel_rfl) (fun _ _ _ h => h) (Or.inl ⟨by rfl, ?q6⟩) HS.out ?_
          case q6 => intro w hSw; go_simp; rfl
          simp only [Act.put, List.getElem_toArray, List.getElem_cons_zero, List.getElem_cons_succ, List.setIfInBounds_toArray, List.set_cons_zero, List.set_cons_succ]
          refine wpAnyH_take (i := 7) (v := ?_) rfl (by kernel_rfl) (by kernel_rfl) (by kernel_rfl) (fun _ _ _ h => h) (Or.inl ⟨by rfl, ?q7⟩) HS.out ?_
          case q7 => intro w hSw; go_simp; rfl
          simp only [Act.put, List.getElem_toArray, List.getElem_cons_zero, List.getElem_cons_succ, List.setIfInBounds_toArray, List.set_cons_zero, List.set_cons_succ]
          refine wpAnyH_take (i := 8) (v := .int .i64 (2 * (x : Int))) rfl (by kernel_rfl) (by kernel_rfl) (by kernel_rfl) (fun _ _ _ h => h) (Or.inl ⟨by rfl, ?q8⟩) HS.out ?_
          case q8 => intro w hSw; go_simp
          simp only [Act.put, List.getElem_toArray, List.getElem_cons_zero, List.getElem_cons_succ, List.setIfInBounds_toArray, List.set_cons_zero, List.set_cons_succ]
          refine wpAnyH_take (i := 9) (v := .pointer (some ⟨g, 2 * x * 32, none⟩)) rfl (by kernel_rfl) (by kernel_rfl) (by kernel_rfl) (fun _ _ _ h => h) (Or.inl ⟨by rfl, ?q9⟩) HS.out ?_
          case q9 => intro w hSw; go_simp; intro hq; exfalso; omega
          simp only [Act.put, List.getElem_toArray, List.getElem_cons_zero, List.getElem_cons_succ, List.setIfInBounds_toArray, List.set_cons_zero, List.set_cons_succ]
          refine wpAnyH_take (i := 10) rfl (by kernel_rfl) (by kernel_rfl) (by kernel_rfl) (fun _ _ _ h => h) (yieldsIf_load_mid (by rfl) 45 _ rfl g (2 * x * 32) rfl (dc d2) _ (fun W hW => range_below Ra2.out hW hgl) Tryd.underlying45 rfl (size_dig ha2)) HS.out ?_
          simp only [Act.put, List.getElem_toArray, List.getElem_cons_zero, List.getElem_cons_succ, List.setIfInBounds_toArray, List.set_cons_zero, List.set_cons_succ]
          refine wpAnyH_take (i := 12) (v := ?_) rfl (by kernel_rfl) (by kernel_rfl) (by kernel_rfl) (fun _ _ _ h => h) (Or.inl ⟨by rfl, ?q12⟩) HS.out ?_
          case q12 => intro w hSw; go_simp; rfl
          simp only [Act.put, List.getElem_toArray, List.getElem_cons_zero, List.getElem_cons_succ, List.setIfInBounds_toArray, List.set_cons_zero, List.set_cons_succ]
          refine wpAnyH_take (i := 13) (v := ?_) rfl (by kernel_rfl) (by kernel_rfl) (by kernel_rfl) (fun _ _ _ h => h) (Or.inl ⟨by rfl, ?q13⟩) HS.out ?_
          case q13 => intro w hSw; go_simp; rfl
          simp only [Act.put, List.getElem_toArray, List.getElem_cons_zero, List.getElem_cons_succ, List.setIfInBounds_toArray, List.set_cons_zero, List.set_cons_succ]
          refine wpAnyH_take (i := 14) (v := .int .i64 (2 * (x : Int))) rfl (by kernel_rfl) (by kernel_rfl) (by kernel_rfl) (fun _ _ _ h => h) (Or.inl ⟨by rfl, ?q14⟩) HS.out ?_
          case q14 => intro w hSw; go_simp
          simp only [Act.put, List.getElem_toArray, List.getElem_cons_zero, List.getElem_cons_succ, List.setIfInBounds_toArray, List.set_cons_zero, List.set_cons_succ]
          refine wpAnyH_take (i := 15) (v := .int .i64 (2 * (x : Int) - 1)) rfl (by kernel_rfl) (by kernel_rfl) (by kernel_rfl) (fun _ _ _ h => h) (Or.inl ⟨by rfl, ?q15⟩) HS.out ?_
          case q15 => intro w hSw; go_simp
          simp only [Act.put, List.getElem_toArray, List.getElem_cons_zero, List.getElem_cons_succ, List.setIfInBounds_toArray, List.set_cons_zero, List.set_cons_succ]
          refine wpAnyH_take (i := 16) (v := .pointer (some ⟨g', (2 * x - 1) * 32, none⟩)) rfl (by kernel_rfl) (by kernel_rfl) (by kernel_rfl) (fun _ _ _ h => h) (Or.inl ⟨by rfl, ?q16⟩) HS.out ?_
          case q16 => intro w hSw; go_simp; intro hq; exfalso; omega
          simp only [Act.put, List.getElem_toArray, List.getElem_cons_zero, List.getElem_cons_succ, List.setIfInBounds_toArray, List.set_cons_zero, List.set_cons_succ]
          refine wpAnyH_take (i := 17) rfl (by kernel_rfl) (by kernel_rfl) (by kernel_rfl) (fun _ _ _ h => h) (yieldsIf_load_mid (by rfl) 45 _ rfl g' ((2 * x - 1) * 32) rfl (dc f1) _ (fun W hW => range_below Rb1.out hW hgl') Tryd.underlying45 rfl (size_dig hb1)) HS.out ?_
          simp only [Act.put, List.getElem_toArray, List.getElem_cons_zero, List.getElem_cons_succ, List.setIfInBounds_toArray, List.set_cons_zero, List.set_cons_succ]
          refine wpAnyH_take (i := 18) (v := ?_) rfl (by kernel_rfl) (by kernel_rfl) (by kernel_rfl) (fun _ _ _ h => h) (Or.inl ⟨by rfl, ?q18⟩) HS.out ?_
          case q18 => intro w hSw; go_simp; rfl
          simp only [Act.put, List.getElem_toArray, List.getElem_cons_zero, List.getElem_cons_succ, List.setIfInBounds_toArray, List.set_cons_zero, List.set_cons_succ]
          refine wpAnyH_take (i := 19) (v := ?_) rfl (by kernel_rfl) (by kernel_rfl) (by kernel_rfl) (fun _ _ _ h => h) (Or.inl ⟨by rfl, ?q19⟩) HS.out ?_
          case q19 => intro w hSw; go_simp; rfl
          simp only [Act.put, List.getElem_toArray, List.getElem_cons_zero, List.getElem_cons_succ, List.setIfInBounds_toArray, List.set_cons_zero, List.set_cons_succ]
          refine wpAnyH_take (i := 20) (v := .int .i64 (2 * (x : Int))) rfl (by kernel_rfl) (by kernel_rfl) (by kernel_rfl) (fun _ _ _ h => h) (Or.inl ⟨by rfl, ?q20⟩) HS.out ?_
          case q20 => intro w hSw; go_simp
          simp only [Act.put, List.getElem_toArray, List.getElem_cons_zero, List.getElem_cons_succ, List.setIfInBounds_toArray, List.set_cons_zero, List.set_cons_succ]
          refine wpAnyH_take (i := 21) (v := .pointer (some ⟨g', 2 * x * 32, none⟩)) rfl (by kernel_rfl) (by kernel_rfl) (by kernel_rfl) (fun _ _ _ h => h) (Or.inl ⟨by rfl, ?q21⟩) HS.out ?_
          case q21 => intro w hSw; go_simp; intro hq; exfalso; omega
          simp only [Act.put, List.getElem_toArray, List.getElem_cons_zero, List.getElem_cons_succ, List.setIfInBounds_toArray, List.set_cons_zero, List.set_cons_succ]
          refine wpAnyH_take (i := 22) rfl (by kernel_rfl) (by kernel_rfl) (by kernel_rfl) (fun _ _ _ h => h) (yieldsIf_load_mid (by rfl) 45 _ rfl g' (2 * x * 32) rfl (dc f2) _ (fun W hW => range_below Rb2.out hW hgl') Tryd.underlying45 rfl (size_dig hb2)) HS.out ?_
          simp only [Act.put, List.getElem_toArray, List.getElem_cons_zero, List.getElem_cons_succ, List.setIfInBounds_toArray, List.set_cons_zero, List.set_cons_succ]
          rw [dc_arr, dc_arr, dc_arr, dc_arr]
          refine wpAnyH_ready (rs := [11]) (by kernel_rfl) (by simp) ?_
          refine AllReadyH.cons rfl (fun K hK => ?_) AllReadyH.nil
          go_simp
          refine (CT1.out _).mono ?_
          rintro e w5 ⟨v1, rfl, hv1, hB5⟩
          have HV1 := hid hv1
          have HS5 := hid (HS.out.trans (hB5.mono HS.out.size))
          refine hK.out _ _ HS5.out (fun _ => ?_)
          clear hK K
          have HS := hid HS5.out
          clear HS5 hB5 hv1
          refine wpAnyH_ready (rs := [23]) (by kernel_rfl) (by simp) ?_
          refine AllReadyH.cons rfl (fun K hK => ?_) AllReadyH.nil
          go_simp
          refine (CT2.out _).mono ?_
          rintro e w6 ⟨v2, rfl, hv2, hB6⟩
          have CC := hid (clash_any w6 v1 v2 _ _ (HV1.out.below hB6) hv2 hl1 hl2)
          rw [show decide (ndB d1 d2 ≠ ndB f1 f2 ∧ digL (ndB d1 d2) = digL (ndB f1 f2)) = true by simpa using HCl.out] at CC
          have HS6 := hid (HS.out.trans (hB6.mono HS.out.size))
          refine hK.out _ _ HS6.out (fun _ => ?_)
          clear hK K
          have HS := hid HS6.out
          clear HS6 hB6 hv2
          refine wpAnyH_ready (rs := [24]) (by kernel_rfl) (by simp) ?_
          refine AllReadyH.cons rfl (fun K hK => ?_) AllReadyH.nil
          go_simp
          refine CC.out.mono ?_
          rintro e w7 ⟨rfl, hB7⟩
          have HS7 := hid (HS.out.trans (hB7.mono HS.out.size))
          refine hK.out _ _ HS7.out (fun _ => ?_)
          clear hK K
          have HS := hid HS7.out
          clear HS7 hB7
          refine wpAnyH_take (i := 25) (v := ?_) rfl (by kernel_rfl) (by kernel_rfl) (by kernel_rfl) (fun _ _ _ h => h) (Or.inl ⟨by rfl, ?q25⟩) HS.out ?_
          case q25 => intro w hSw; go_simp; rfl
          simp only [Act.put, List.getElem_toArray, List.getElem_cons_zero, List.getElem_cons_succ, List.setIfInBounds_toArray, List.set_cons_zero, List.set_cons_succ]
          refine wpAnyH_take (i := 26) (v := ?_) rfl (by kernel_rfl) (by kernel_rfl) (by kernel_rfl) (fun _ _ _ h => h) (Or.inl ⟨by rfl, ?q26⟩) HS.out ?_
          case q26 => intro w hSw; go_simp; rfl
          simp only [Act.put, List.getElem_toArray, List.getElem_cons_zero, List.getElem_cons_succ, List.setIfInBounds_toArray, List.set_cons_zero, List.set_cons_succ]
          refine wpAnyH_take (i := 27) (v := ?_) rfl (by kernel_rfl) (by kernel_rfl) (by kernel_rfl) (fun _ _ _ h => h) (Or.inl ⟨by rfl, ?q27⟩) HS.out ?_
          case q27 => intro w hSw; go_simp; rfl
          simp only [Act.put, List.getElem_toArray, List.getElem_cons_zero, List.getElem_cons_succ, List.setIfInBounds_toArray, List.set_cons_zero, List.set_cons_succ]
          refine wpAnyH_take (i := 28) (v := .int .i64 ((x : Int) - 1)) rfl (by kernel_rfl) (by kernel_rfl) (by kernel_rfl) (fun _ _ _ h => h) (Or.inl ⟨by rfl, ?q28⟩) HS.out ?_
          case q28 => intro w hSw; go_simp
          simp only [Act.put, List.getElem_toArray, List.getElem_cons_zero, List.getElem_cons_succ, List.setIfInBounds_toArray, List.set_cons_zero, List.set_cons_succ]
          refine wpAnyH_take (i := 29) (v := .pointer (some ⟨g, (x - 1) * 32, none⟩)) rfl (by kernel_rfl) (by kernel_rfl) (by kernel_rfl) (fun _ _ _ h => h) (Or.inl ⟨by rfl, ?q29⟩) HS.out ?_
          case q29 => intro w hSw; go_simp; intro hq; exfalso; omega
          simp only [Act.put, List.getElem_toArray, List.getElem_cons_zero, List.getElem_cons_succ, List.setIfInBounds_toArray, List.set_cons_zero, List.set_cons_succ]
          refine wpAnyH_take (i := 30) rfl (by kernel_rfl) (by kernel_rfl) (by kernel_rfl) (fun _ _ _ h => h) (yieldsIf_load_mid (by rfl) 45 _ rfl g ((x - 1) * 32) rfl (dc d0) _ (fun W hW => range_below Ra0.out hW hgl) Tryd.underlying45 rfl (size_dig ha0)) HS.out ?_
          simp only [Act.put, List.getElem_toArray, List.getElem_cons_zero, List.getElem_cons_succ, List.setIfInBounds_toArray, List.set_cons_zero, List.set_cons_succ]
          refine wpAnyH_take (i := 31) (v := ?_) rfl (by kernel_rfl) (by kernel_rfl) (by kernel_rfl) (fun _ _ _ h => h) (Or.inl ⟨by rfl, ?q31⟩) HS.out ?_
          case q31 => intro w hSw; go_simp; rfl
          simp only [Act.put, List.getElem_toArray, List.getElem_cons_zero, List.getElem_cons_succ, List.setIfInBounds_toArray, List.set_cons_zero, List.set_cons_succ]
          refine wpAnyH_take (i := 32) (v := ?_) rfl (by kernel_rfl) (by kernel_rfl) (by kernel_rfl) (fun _ _ _ h => h) (Or.inl ⟨by rfl, ?q32⟩) HS.out ?_
          case q32 => intro w hSw; go_simp; rfl
          simp only [Act.put, List.getElem_toArray, List.getElem_cons_zero, List.getElem_cons_succ, List.setIfInBounds_toArray, List.set_cons_zero, List.set_cons_succ]
          refine wpAnyH_take (i := 33) (v := .int .i64 ((x : Int) - 1)) rfl (by kernel_rfl) (by kernel_rfl) (by kernel_rfl) (fun _ _ _ h => h) (Or.inl ⟨by rfl, ?q33⟩) HS.out ?_
          case q33 => intro w hSw; go_simp
          simp only [Act.put, List.getElem_toArray, List.getElem_cons_zero, List.getElem_cons_succ, List.setIfInBounds_toArray, List.set_cons_zero, List.set_cons_succ]
          refine wpAnyH_take (i := 34) (v := .pointer (some ⟨g', (x - 1) * 32, none⟩)) rfl (by kernel_rfl) (by kernel_rfl) (by kernel_rfl) (fun _ _ _ h => h) (Or.inl ⟨by rfl, ?q34⟩) HS.out ?_
          case q34 => intro w hSw; go_simp; intro hq; exfalso; omega
          simp only [Act.put, List.getElem_toArray, List.getElem_cons_zero, List.getElem_cons_succ, List.setIfInBounds_toArray, List.set_cons_zero, List.set_cons_succ]
          refine wpAnyH_take (i := 35) rfl (by kernel_rfl) (by kernel_rfl) (by kernel_rfl) (fun _ _ _ h => h) (yieldsIf_load_mid (by rfl) 45 _ rfl g' ((x - 1) * 32) rfl (dc f0) _ (fun W hW => range_below Rb0.out hW hgl') Tryd.underlying45 rfl (size_dig hb0)) HS.out ?_
          simp only [Act.put, List.getElem_toArray, List.getElem_cons_zero, List.getElem_cons_succ, List.setIfInBounds_toArray, List.set_cons_zero, List.set_cons_succ]
          rw [dc_arr, dc_arr]
          refine wpAnyH_take (i := 36) (v := .bool true) rfl (by kernel_rfl) (by kernel_rfl) (by kernel_rfl) (fun _ _ _ h => h) (Or.inl ⟨by rfl, ?q36⟩) HS.out ?_
          case q36 => intro w hSw; go_simp
          simp only [Act.put, List.getElem_toArray, List.getElem_cons_zero, List.getElem_cons_succ, List.setIfInBounds_toArray, List.set_cons_zero, List.set_cons_succ]
          refine wpAnyH_take (i := 37) (v := ?_) rfl (by kernel_rfl) (by kernel_rfl) (by kernel_rfl) (fun _ _ _ h => h) (Or.inl ⟨by rfl, ?q37⟩) HS.out ?_
          case q37 => intro w hSw; go_simp; rfl
          simp only [Act.put, List.getElem_toArray, List.getElem_cons_zero, List.getElem_cons_succ, List.setIfInBounds_toArray, List.set_cons_zero, List.set_cons_succ]
          refine wpAnyH_take (i := 38) (v := ?_) rfl (by kernel_rfl) (by kernel_rfl) (by kernel_rfl) (fun _ _ _ h => h) (Or.inl ⟨by rfl, ?q38⟩) HS.out ?_
          case q38 => intro w hSw; go_simp; rfl
          simp only [Act.put, List.getElem_toArray, List.getElem_cons_zero, List.getElem_cons_succ, List.setIfInBounds_toArray, List.set_cons_zero, List.set_cons_succ]
          refine wpAnyH_done (by kernel_rfl) ?_ _
          go_wp2
          go_ret
          exact ⟨rfl, BL4.out.trans (HS.out.mono BL4.out.size)⟩
end Go.Proofs.YtnafbchemcggpaaDoor
