/- Differ of tree, walked. -/
import Derived.Test.YtnafbchemcggpaaDoorTrAlike
set_option linter.unusedVariables false
set_option linter.unusedSimpArgs false
namespace Go.Proofs.YtnafbchemcggpaaDoor
open Go.RowKit

/-- At node x the two are the same, and what stands beneath is not. -/
def DfAt (da db : List (List Int)) (x : Nat) : Prop := da.getD (x - 1) [] = db.getD (x - 1) [] ∧ ¬ (da.getD (2 * x - 1) [] = db.getD (2 * x - 1) [] ∧ da.getD (2 * x) [] = db.getD (2 * x) [])
/-- Lists of as many digests as the nodes of a tree of some width. -/
def Shp (da db : List (List Int)) : Prop := (∃ W, Pow W ∧ da.length = 2 * W - 1) ∧ db.length = da.length
/-- What Differ answers. -/
def DfPost (da db : List (List Int)) (x : Nat) (b : Bool) : Prop :=
  (b = true → 1 ≤ x ∧ 2 * x < da.length ∧ Shp da db ∧ DfAt da db x ∧ ∀ y, 1 ≤ y → y < x → ¬ DfAt da db y) ∧ (b = false → x = 0 ∧ (Shp da db → ∀ y, 1 ≤ y → 2 * y < da.length → ¬ DfAt da db y))
/-- Differ's answer, whole. -/
def DfQ (w : World) (da db : List (List Int)) (e : Ending) (w' : World) : Prop := ∃ (x : Nat) (b : Bool), e = .returned (.tuple #[.int .i64 (x : Int), .bool b]) ∧ DfPost da db x b ∧ Below w.heap.size w w'
set_option maxRecDepth 100000 in
set_option maxHeartbeats 4000000 in
theorem differ_any (w : World) (va vb : Value) (da db : List (List Int)) (ha : HDs w va da) (hb : HDs w vb db) :
    Calls Tryd.prog 16 #[va, vb] w fun e w' => DfQ w da db e w' := by
  obtain ⟨pa, ca, ea, hca, hma⟩ := ha.open
  obtain ⟨pb, cb, eb, hcb, hmb⟩ := hb.open
  unfold maxLen at hma hmb
  have A := hid ha
  have B := hid hb
  obtain ⟨n, HN⟩ : ∃ n, Hid (da.length = n) := ⟨_, rfl⟩
  obtain ⟨m, HM⟩ : ∃ m, Hid (db.length = m) := ⟨_, rfl⟩
  rw [HN.out] at ea hca
  rw [HM.out] at eb hcb
  subst ea eb
  clear ha hb
  have e2 : Int.tdiv (n : Int) 2 = ((n / 2 : Nat) : Int) := by rw [Int.tdiv_eq_ediv_of_nonneg (by omega)]; omega
  have hno : ∀ (P : Prop), (¬ P) → (Shp da db → P) → DfPost da db 0 false := fun P hP h => ⟨(fun e => by cases e), fun _ => ⟨rfl, fun hs => absurd (h hs) hP⟩⟩
  by_cases hbig : n / 2 + 1 ≤ 512
  case neg =>
    have CW := fun w => width_bad w (((n / 2 : Nat) : Int) + 1) (by omega)
    have HP := hid (hno (n / 2 + 1 ≤ 512) hbig (fun hs => by
      obtain ⟨⟨W, hW, h1⟩, _⟩ := hs
      rw [HN.out] at h1
      have : W ≤ 512 ∧ 1 ≤ W := by rcases hW with rfl | rfl | rfl | rfl | rfl | rfl | rfl | rfl | rfl | rfl <;> omega
      omega))
    clear hno
    go_enter Tryd.func16, Tryd.ntmps16
    go_wp2_with fail
    refine (CW _).mono ?_
    rintro e w1 ⟨rfl, rfl⟩
    go_wp2
    go_ret2
    exact ⟨0, false, rfl, HP.out, Below.refl _ _⟩
  case pos =>
    have CW := fun w => width_ok w (n / 2 + 1) (by omega) hbig
    have hWl := wdN_le (n / 2 + 1)
    have CS := fun w => size_w w (wdN (n / 2 + 1)) hWl.1
    rw [show ((n / 2 + 1 : Nat) : Int) = ((n / 2 : Nat) : Int) + 1 by omega] at CW
    have HNW : Hid (Shp da db → n = 2 * wdN (n / 2 + 1) - 1 ∧ m = n) := fun hs => by
      obtain ⟨⟨W, hW, h1⟩, h2⟩ := hs
      rw [HN.out] at h1
      rw [HN.out, HM.out] at h2
      have h3 : 1 ≤ W := by rcases hW with rfl | rfl | rfl | rfl | rfl | rfl | rfl | rfl | rfl | rfl <;> omega
      rw [show n / 2 + 1 = W by omega, wdN_self W hW]
      exact ⟨h1, h2⟩
    have HPW := hid (wdN_pow (n / 2 + 1))
    generalize wdN (n / 2 + 1) = W at CW CS hWl HNW HPW
    go_enter Tryd.func16, Tryd.ntmps16
    go_wp2_with fail
    refine (CW _).mono ?_
    rintro e w1 ⟨rfl, hB1⟩
    have BL1 := hid hB1
    clear hB1
    go_wp2_with fail
    refine (CS _).mono ?_
    rintro e w2 ⟨rfl, rfl⟩
    by_cases hn : n = 2 * W - 1
    case neg =>
      have HP := hid (hno _ hn (fun hs => (HNW.out hs).1))
      have hni : ¬ (n : Int) = 2 * (W : Int) - 1 := by omega
      clear hno
      go_wp2
      go_ret2
      exact ⟨0, false, rfl, HP.out, BL1.out⟩
    case pos =>
      have hni : 2 * (W : Int) - 1 = (n : Int) := by omega
      have hn' : 2 * W - 1 = n := by omega
      clear hn
      by_cases hm : m = n
      case neg =>
        have HP := hid (hno _ hm (fun hs => (HNW.out hs).2))
        have hmi : ¬ (m : Int) = (n : Int) := by omega
        clear hno
        go_wp2
        go_ret2
        exact ⟨0, false, rfl, HP.out, BL1.out⟩
      case pos =>
        subst hm
        have HSh : Hid (Shp da db) := ⟨⟨W, HPW.out, by rw [HN.out]; exact hn'.symm⟩, by rw [HM.out, HN.out]⟩
        clear hno HNW CW CS
        have A1 := hid (A.out.below BL1.out)
        have B1 := hid (B.out.below BL1.out)
        clear A B
        go_wp2
        go_loopw [9] (fun i wr => ∃ k : Nat, 1 ≤ k ∧ k ≤ m / 2 + 1 ∧ i = .int .i64 k ∧ Hid (∀ y, 1 ≤ y → y < k → ¬ DfAt da db y) ∧ Hid (Below w2.heap.size w2 wr)) (fun i _ => m / 2 + 1 - (intOf i).toNat)
        case atStart => exact ⟨1, Nat.le_refl _, by omega, rfl, (fun y h1 h2 => by omega), Below.refl _ _⟩
        case round =>
          obtain ⟨k, hk1, hk2, rfl, HNo, HBel⟩ := hrel
          by_cases hlt : k ≤ m / 2
          case neg =>
            have hli : ¬ (k : Int) ≤ ((m / 2 : Nat) : Int) := by omega
            go_wp2
            go_ret2
            exact ⟨0, false, rfl, ⟨(fun e => by cases e), fun _ => ⟨rfl, fun _ y h1 h2 => HNo.out y h1 (by rw [HN.out] at h2; omega)⟩⟩, BL1.out.trans (HBel.out.mono BL1.out.size)⟩
          case pos =>
            have hli : (k : Int) ≤ ((m / 2 : Nat) : Int) := by omega
            obtain ⟨ba, oa, ca', e1', _, _, hba, hra⟩ := A1.out.ne (by rw [HN.out]; omega)
            obtain ⟨bb, ob, cb', e2', _, _, hbb, hrb⟩ := B1.out.ne (by rw [HM.out]; omega)
            have eva := hid e1'
            have evb := hid e2'
            simp only [Value.slice.injEq] at e1' e2'
            obtain ⟨rfl, -, -⟩ := e1'
            obtain ⟨rfl, -, -⟩ := e2'
            have R1 := hid (hra (k - 1) (by rw [HN.out]; omega))
            have R2 := hid (hrb (k - 1) (by rw [HM.out]; omega))
            have hd1 := getD_D A1.out.2 (k - 1) (by rw [HN.out]; omega)
            have hd2 := getD_D B1.out.2 (k - 1) (by rw [HM.out]; omega)
            have CL : Hid (∀ w', Below w2.heap.size w2 w' → _) := fun w' h => alike_any w' _ _ da db k (A1.out.below h) (B1.out.below h) hk1 (by rw [HN.out]; omega) (by rw [HM.out]; omega)
            have HDf : Hid (DfAt da db k ↔ (da.getD (k - 1) [] = db.getD (k - 1) [] ∧ ¬ (da.getD (2 * k - 1) [] = db.getD (2 * k - 1) [] ∧ da.getD (2 * k) [] = db.getD (2 * k) []))) := Iff.rfl
            generalize da.getD (k - 1) [] = d1 at hd1 R1 HDf
            generalize db.getD (k - 1) [] = d2 at hd2 R2 HDf
            have hq := fun w => run_eql_bytes w 32 45 Tryd.underlying45 d1 d2 hd1.1 hd2.1
            have ew : IntKind.i64.wrap ((k : Int) - 1) = (k : Int) - 1 := by rw [IntKind.wrap_i64]; omega
            have et : ((k : Int) - 1).toNat = k - 1 := by omega
            clear hra hrb eva evb
            go_wp2
            by_cases hd : d1 = d2
            · have hdd : decide (d1 = d2) = true := by simpa using hd
              rw [hdd] at hq
              have Hd := hid hd
              clear hd hdd
              refine wp_region_held_drew (S := Below w2.heap.size w2) (by kernel_rfl) HBel.out.drew (fun hHeld => ?_)
              have HS := hid hHeld
              clear hHeld
              change wpAnyH _ _ _ _ _ _ _ _ (World.drew _)
              refine wpAnyH_take (i := 0) (v := ?_) rfl (by kernel_rfl) (by kernel_rfl) (by kernel_rfl) (fun _ _ _ h => h) (Or.inl ⟨by rfl, ?q0⟩) HS.out ?_
              case q0 => intro w hSw; go_simp; rfl
              simp only [Act.put, List.getElem_toArray, List.getElem_cons_zero, List.getElem_cons_succ, List.setIfInBounds_toArray, List.set_cons_zero, List.set_cons_succ]
              refine wpAnyH_take (i := 1) (v := ?_) rfl (by kernel_rfl) (by kernel_rfl) (by kernel_rfl) (fun _ _ _ h => h) (Or.inl ⟨by rfl, ?q1⟩) HS.out ?_
              case q1 => intro w hSw; go_simp; rfl
              simp only [Act.put, List.getElem_toArray, List.getElem_cons_zero, List.getElem_cons_succ, List.setIfInBounds_toArray, List.set_cons_zero, List.set_cons_succ]
              refine wpAnyH_take (i := 2) (v := .int .i64 ((k : Int) - 1)) rfl (by kernel_rfl) (by kernel_rfl) (by kernel_rfl) (fun _ _ _ h => h) (Or.inl ⟨by rfl, ?q2⟩) HS.out ?_
              case q2 => intro w hSw; go_simp
              simp only [Act.put, List.getElem_toArray, List.getElem_cons_zero, List.getElem_cons_succ, List.setIfInBounds_toArray, List.set_cons_zero, List.set_cons_succ]
              refine wpAnyH_take (i := 3) (v := .pointer (some ⟨ba, oa + (k - 1) * 32, none⟩)) rfl (by kernel_rfl) (by kernel_rfl) (by kernel_rfl) (fun _ _ _ h => h) (Or.inl ⟨by rfl, ?q3⟩) HS.out ?_
              case q3 => intro w hSw; go_simp; intro hq; exfalso; omega
              simp only [Act.put, List.getElem_toArray, List.getElem_cons_zero, List.getElem_cons_succ, List.setIfInBounds_toArray, List.set_cons_zero, List.set_cons_succ]
              refine wpAnyH_take (i := 4) rfl (by kernel_rfl) (by kernel_rfl) (by kernel_rfl) (fun _ _ _ h => h) (yieldsIf_load_mid (by rfl) 45 _ rfl ba (oa + (k - 1) * 32) rfl (dc d1) _ (fun W hW => range_below R1.out hW hba) Tryd.underlying45 rfl (size_dig hd1)) HS.out ?_
              simp only [Act.put, List.getElem_toArray, List.getElem_cons_zero, List.getElem_cons_succ, List.setIfInBounds_toArray, List.set_cons_zero, List.set_cons_succ]
              refine wpAnyH_take (i := 5) (v := ?_) rfl (by kernel_rfl) (by kernel_rfl) (by kernel_rfl) (fun _ _ _ h => h) (Or.inl ⟨by rfl, ?q5⟩) HS.out ?_
              case q5 => intro w hSw; go_simp; rfl
              simp only [Act.put, List.getElem_toArray, List.getElem_cons_zero, List.getElem_cons_succ, List.setIfInBounds_toArray, List.set_cons_zero, List.set_cons_succ]
              refine wpAnyH_take (i := 6) (v := ?_) rfl (by kernel_rfl) (by kernel_rfl) (by kernel_rfl) (fun _ _ _ h => h) (Or.inl ⟨by rfl, ?q6⟩) HS.out ?_
              case q6 => intro w hSw; go_simp; rfl
              simp only [Act.put, List.getElem_toArray, List.getElem_cons_zero, List.getElem_cons_succ, List.setIfInBounds_toArray, List.set_cons_zero, List.set_cons_succ]
              refine wpAnyH_take (i := 7) (v := .int .i64 ((k : Int) - 1)) rfl (by kernel_rfl) (by kernel_rfl) (by kernel_rfl) (fun _ _ _ h => h) (Or.inl ⟨by rfl, ?q7⟩) HS.out ?_
              case q7 => intro w hSw; go_simp
              simp only [Act.put, List.getElem_toArray, List.getElem_cons_zero, List.getElem_cons_succ, List.setIfInBounds_toArray, List.set_cons_zero, List.set_cons_succ]
              refine wpAnyH_take (i := 8) (v := .pointer (some ⟨bb, ob + (k - 1) * 32, none⟩)) rfl (by kernel_rfl) (by kernel_rfl) (by kernel_rfl) (fun _ _ _ h => h) (Or.inl ⟨by rfl, ?q8⟩) HS.out ?_
              case q8 => intro w hSw; go_simp; intro hq; exfalso; omega
              simp only [Act.put, List.getElem_toArray, List.getElem_cons_zero, List.getElem_cons_succ, List.setIfInBounds_toArray, List.set_cons_zero, List.set_cons_succ]
              refine wpAnyH_take (i := 9) rfl (by kernel_rfl) (by kernel_rfl) (by kernel_rfl) (fun _ _ _ h => h) (yieldsIf_load_mid (by rfl) 45 _ rfl bb (ob + (k - 1) * 32) rfl (dc d2) _ (fun W hW => range_below R2.out hW hbb) Tryd.underlying45 rfl (size_dig hd2)) HS.out ?_
              simp only [Act.put, List.getElem_toArray, List.getElem_cons_zero, List.getElem_cons_succ, List.setIfInBounds_toArray, List.set_cons_zero, List.set_cons_succ]
              rw [dc_arr, dc_arr]
              refine wpAnyH_take (i := 10) (v := .bool true) rfl (by kernel_rfl) (by kernel_rfl) (by kernel_rfl) (fun _ _ _ h => h) (Or.inl ⟨by rfl, ?q10⟩) HS.out ?_
              case q10 => intro w hSw; go_simp
              simp only [Act.put, List.getElem_toArray, List.getElem_cons_zero, List.getElem_cons_succ, List.setIfInBounds_toArray, List.set_cons_zero, List.set_cons_succ]
              refine wpAnyH_take (i := 11) (v := ?_) rfl (by kernel_rfl) (by kernel_rfl) (by kernel_rfl) (fun _ _ _ h => h) (Or.inl ⟨by rfl, ?q11⟩) HS.out ?_
              case q11 => intro w hSw; go_simp; rfl
              simp only [Act.put, List.getElem_toArray, List.getElem_cons_zero, List.getElem_cons_succ, List.setIfInBounds_toArray, List.set_cons_zero, List.set_cons_succ]
              refine wpAnyH_take (i := 12) (v := ?_) rfl (by kernel_rfl) (by kernel_rfl) (by kernel_rfl) (fun _ _ _ h => h) (Or.inl ⟨by rfl, ?q12⟩) HS.out ?_
              case q12 => intro w hSw; go_simp; rfl
              simp only [Act.put, List.getElem_toArray, List.getElem_cons_zero, List.getElem_cons_succ, List.setIfInBounds_toArray, List.set_cons_zero, List.set_cons_succ]
              refine wpAnyH_take (i := 13) (v := ?_) rfl (by kernel_rfl) (by kernel_rfl) (by kernel_rfl) (fun _ _ _ h => h) (Or.inl ⟨by rfl, ?q13⟩) HS.out ?_
              case q13 => intro w hSw; go_simp; rfl
              simp only [Act.put, List.getElem_toArray, List.getElem_cons_zero, List.getElem_cons_succ, List.setIfInBounds_toArray, List.set_cons_zero, List.set_cons_succ]
              refine wpAnyH_take (i := 14) (v := ?_) rfl (by kernel_rfl) (by kernel_rfl) (by kernel_rfl) (fun _ _ _ h => h) (Or.inl ⟨by rfl, ?q14⟩) HS.out ?_
              case q14 => intro w hSw; go_simp; rfl
              simp only [Act.put, List.getElem_toArray, List.getElem_cons_zero, List.getElem_cons_succ, List.setIfInBounds_toArray, List.set_cons_zero, List.set_cons_succ]
              refine wpAnyH_ready (rs := [15]) (by kernel_rfl) (by simp) ?_
              refine AllReadyH.cons rfl (fun K hK => ?_) AllReadyH.nil
              go_simp
              refine (CL.out _ HS.out).mono ?_
              rintro e w5 ⟨rfl, hB5⟩
              have HS5 := hid (HS.out.trans (hB5.mono HS.out.size))
              refine hK.out _ _ HS5.out (fun _ => ?_)
              clear hK K
              have HS := hid HS5.out
              clear HS5 hB5
              by_cases hal : da.getD (2 * k - 1) [] = db.getD (2 * k - 1) [] ∧ da.getD (2 * k) [] = db.getD (2 * k) []
              · have hald : decide (da.getD (2 * k - 1) [] = db.getD (2 * k - 1) [] ∧ da.getD (2 * k) [] = db.getD (2 * k) []) = true := by simpa using hal
                rw [hald]
                refine wpAnyH_take (i := 16) (v := ?_) rfl (by kernel_rfl) (by kernel_rfl) (by kernel_rfl) (fun _ _ _ h => h) (Or.inl ⟨by rfl, ?q16⟩) HS.out ?_
                case q16 => intro w hSw; go_simp; rfl
                simp only [Act.put, List.getElem_toArray, List.getElem_cons_zero, List.getElem_cons_succ, List.setIfInBounds_toArray, List.set_cons_zero, List.set_cons_succ]
                refine wpAnyH_take (i := 17) (v := ?_) rfl (by kernel_rfl) (by kernel_rfl) (by kernel_rfl) (fun _ _ _ h => h) (Or.inl ⟨by rfl, ?q17⟩) HS.out ?_
                case q17 => intro w hSw; go_simp; rfl
                simp only [Act.put, List.getElem_toArray, List.getElem_cons_zero, List.getElem_cons_succ, List.setIfInBounds_toArray, List.set_cons_zero, List.set_cons_succ]
                refine wpAnyH_done (by kernel_rfl) ?_ _
                go_wp2
                refine ⟨⟨k + 1, by omega, by omega, by go_num, fun y h1 h2 => ?_, HS⟩, by simp [intOf]; omega⟩
                rcases Nat.lt_or_ge y k with h3 | h3
                · exact HNo.out y h1 h3
                · rw [show y = k by omega]
                  exact fun h => (HDf.out.1 h).2 hal
              · have hald : decide (da.getD (2 * k - 1) [] = db.getD (2 * k - 1) [] ∧ da.getD (2 * k) [] = db.getD (2 * k) []) = false := by simpa using hal
                rw [hald]
                refine wpAnyH_take (i := 16) (v := ?_) rfl (by kernel_rfl) (by kernel_rfl) (by kernel_rfl) (fun _ _ _ h => h) (Or.inl ⟨by rfl, ?q16⟩) HS.out ?_
                case q16 => intro w hSw; go_simp; rfl
                simp only [Act.put, List.getElem_toArray, List.getElem_cons_zero, List.getElem_cons_succ, List.setIfInBounds_toArray, List.set_cons_zero, List.set_cons_succ]
                refine wpAnyH_take (i := 17) (v := ?_) rfl (by kernel_rfl) (by kernel_rfl) (by kernel_rfl) (fun _ _ _ h => h) (Or.inl ⟨by rfl, ?q17⟩) HS.out ?_
                case q17 => intro w hSw; go_simp; rfl
                simp only [Act.put, List.getElem_toArray, List.getElem_cons_zero, List.getElem_cons_succ, List.setIfInBounds_toArray, List.set_cons_zero, List.set_cons_succ]
                refine wpAnyH_done (by kernel_rfl) ?_ _
                go_wp2
                go_ret2
                exact ⟨k, true, rfl, ⟨fun _ => ⟨hk1, by rw [HN.out]; omega, HSh.out, HDf.out.2 ⟨Hd.out, hal⟩, HNo.out⟩, fun e => by cases e⟩, BL1.out.trans (HS.out.mono BL1.out.size)⟩
            · have hdd : decide (d1 = d2) = false := by simpa using hd
              rw [hdd] at hq
              have Hd := hid hd
              clear hd hdd
              refine wp_region_held_drew (S := Below w2.heap.size w2) (by kernel_rfl) HBel.out.drew (fun hHeld => ?_)
              have HS := hid hHeld
              clear hHeld
              change wpAnyH _ _ _ _ _ _ _ _ (World.drew _)
              refine wpAnyH_take (i := 0) (v := ?_) rfl (by kernel_rfl) (by kernel_rfl) (by kernel_rfl) (fun _ _ _ h => h) (Or.inl ⟨by rfl, ?q0⟩) HS.out ?_
              case q0 => intro w hSw; go_simp; rfl
              simp only [Act.put, List.getElem_toArray, List.getElem_cons_zero, List.getElem_cons_succ, List.setIfInBounds_toArray, List.set_cons_zero, List.set_cons_succ]
              refine wpAnyH_take (i := 1) (v := ?_) rfl (by kernel_rfl) (by kernel_rfl) (by kernel_rfl) (fun _ _ _ h => h) (Or.inl ⟨by rfl, ?q1⟩) HS.out ?_
              case q1 => intro w hSw; go_simp; rfl
              simp only [Act.put, List.getElem_toArray, List.getElem_cons_zero, List.getElem_cons_succ, List.setIfInBounds_toArray, List.set_cons_zero, List.set_cons_succ]
              refine wpAnyH_take (i := 2) (v := .int .i64 ((k : Int) - 1)) rfl (by kernel_rfl) (by kernel_rfl) (by kernel_rfl) (fun _ _ _ h => h) (Or.inl ⟨by rfl, ?q2⟩) HS.out ?_
              case q2 => intro w hSw; go_simp
              simp only [Act.put, List.getElem_toArray, List.getElem_cons_zero, List.getElem_cons_succ, List.setIfInBounds_toArray, List.set_cons_zero, List.set_cons_succ]
              refine wpAnyH_take (i := 3) (v := .pointer (some ⟨ba, oa + (k - 1) * 32, none⟩)) rfl (by kernel_rfl) (by kernel_rfl) (by kernel_rfl) (fun _ _ _ h => h) (Or.inl ⟨by rfl, ?q3⟩) HS.out ?_
              case q3 => intro w hSw; go_simp; intro hq; exfalso; omega
              simp only [Act.put, List.getElem_toArray, List.getElem_cons_zero, List.getElem_cons_succ, List.setIfInBounds_toArray, List.set_cons_zero, List.set_cons_succ]
              refine wpAnyH_take (i := 4) rfl (by kernel_rfl) (by kernel_rfl) (by kernel_rfl) (fun _ _ _ h => h) (yieldsIf_load_mid (by rfl) 45 _ rfl ba (oa + (k - 1) * 32) rfl (dc d1) _ (fun W hW => range_below R1.out hW hba) Tryd.underlying45 rfl (size_dig hd1)) HS.out ?_
              simp only [Act.put, List.getElem_toArray, List.getElem_cons_zero, List.getElem_cons_succ, List.setIfInBounds_toArray, List.set_cons_zero, List.set_cons_succ]
              refine wpAnyH_take (i := 5) (v := ?_) rfl (by kernel_rfl) (by kernel_rfl) (by kernel_rfl) (fun _ _ _ h => h) (Or.inl ⟨by rfl, ?q5⟩) HS.out ?_
              case q5 => intro w hSw; go_simp; rfl
              simp only [Act.put, List.getElem_toArray, List.getElem_cons_zero, List.getElem_cons_succ, List.setIfInBounds_toArray, List.set_cons_zero, List.set_cons_succ]
              refine wpAnyH_take (i := 6) (v := ?_) rfl (by kernel_rfl) (by kernel_rfl) (by kernel_rfl) (fun _ _ _ h => h) (Or.inl ⟨by rfl, ?q6⟩) HS.out ?_
              case q6 => intro w hSw; go_simp; rfl
              simp only [Act.put, List.getElem_toArray, List.getElem_cons_zero, List.getElem_cons_succ, List.setIfInBounds_toArray, List.set_cons_zero, List.set_cons_succ]
              refine wpAnyH_take (i := 7) (v := .int .i64 ((k : Int) - 1)) rfl (by kernel_rfl) (by kernel_rfl) (by kernel_rfl) (fun _ _ _ h => h) (Or.inl ⟨by rfl, ?q7⟩) HS.out ?_
              case q7 => intro w hSw; go_simp
              simp only [Act.put, List.getElem_toArray, List.getElem_cons_zero, List.getElem_cons_succ, List.setIfInBounds_toArray, List.set_cons_zero, List.set_cons_succ]
              refine wpAnyH_take (i := 8) (v := .pointer (some ⟨bb, ob + (k - 1) * 32, none⟩)) rfl (by kernel_rfl) (by kernel_rfl) (by kernel_rfl) (fun _ _ _ h => h) (Or.inl ⟨by rfl, ?q8⟩) HS.out ?_
              case q8 => intro w hSw; go_simp; intro hq; exfalso; omega
              simp only [Act.put, List.getElem_toArray, List.getElem_cons_zero, List.getElem_cons_succ, List.setIfInBounds_toArray, List.set_cons_zero, List.set_cons_succ]
              refine wpAnyH_take (i := 9) rfl (by kernel_rfl) (by kernel_rfl) (by kernel_rfl) (fun _ _ _ h => h) (yieldsIf_load_mid (by rfl) 45 _ rfl bb (ob + (k - 1) * 32) rfl (dc d2) _ (fun W hW => range_below R2.out hW hbb) Tryd.underlying45 rfl (size_dig hd2)) HS.out ?_
              simp only [Act.put, List.getElem_toArray, List.getElem_cons_zero, List.getElem_cons_succ, List.setIfInBounds_toArray, List.set_cons_zero, List.set_cons_succ]
              rw [dc_arr, dc_arr]
              refine wpAnyH_take (i := 10) (v := .bool false) rfl (by kernel_rfl) (by kernel_rfl) (by kernel_rfl) (fun _ _ _ h => h) (Or.inl ⟨by rfl, ?q10⟩) HS.out ?_
              case q10 => intro w hSw; go_simp
              simp only [Act.put, List.getElem_toArray, List.getElem_cons_zero, List.getElem_cons_succ, List.setIfInBounds_toArray, List.set_cons_zero, List.set_cons_succ]
              refine wpAnyH_take (i := 11) (v := ?_) rfl (by kernel_rfl) (by kernel_rfl) (by kernel_rfl) (fun _ _ _ h => h) (Or.inl ⟨by rfl, ?q11⟩) HS.out ?_
              case q11 => intro w hSw; go_simp; rfl
              simp only [Act.put, List.getElem_toArray, List.getElem_cons_zero, List.getElem_cons_succ, List.setIfInBounds_toArray, List.set_cons_zero, List.set_cons_succ]
              refine wpAnyH_take (i := 12) (v := undef) rfl (by kernel_rfl) (by kernel_rfl) (by kernel_rfl) (fun _ _ _ h => h) (Or.inr ⟨by rfl, rfl⟩) HS.out ?_
              simp only [Act.put, List.getElem_toArray, List.getElem_cons_zero, List.getElem_cons_succ, List.setIfInBounds_toArray, List.set_cons_zero, List.set_cons_succ]
              refine wpAnyH_take (i := 13) (v := undef) rfl (by kernel_rfl) (by kernel_rfl) (by kernel_rfl) (fun _ _ _ h => h) (Or.inr ⟨by rfl, rfl⟩) HS.out ?_
              simp only [Act.put, List.getElem_toArray, List.getElem_cons_zero, List.getElem_cons_succ, List.setIfInBounds_toArray, List.set_cons_zero, List.set_cons_succ]
              refine wpAnyH_take (i := 14) (v := undef) rfl (by kernel_rfl) (by kernel_rfl) (by kernel_rfl) (fun _ _ _ h => h) (Or.inr ⟨by rfl, rfl⟩) HS.out ?_
              simp only [Act.put, List.getElem_toArray, List.getElem_cons_zero, List.getElem_cons_succ, List.setIfInBounds_toArray, List.set_cons_zero, List.set_cons_succ]
              refine wpAnyH_take (i := 15) (v := undef) rfl (by kernel_rfl) (by kernel_rfl) (by kernel_rfl) (fun _ _ _ h => h) (Or.inr ⟨by rfl, rfl⟩) HS.out ?_
              simp only [Act.put, List.getElem_toArray, List.getElem_cons_zero, List.getElem_cons_succ, List.setIfInBounds_toArray, List.set_cons_zero, List.set_cons_succ]
              refine wpAnyH_take (i := 16) (v := undef) rfl (by kernel_rfl) (by kernel_rfl) (by kernel_rfl) (fun _ _ _ h => h) (Or.inr ⟨by rfl, rfl⟩) HS.out ?_
              simp only [Act.put, List.getElem_toArray, List.getElem_cons_zero, List.getElem_cons_succ, List.setIfInBounds_toArray, List.set_cons_zero, List.set_cons_succ]
              refine wpAnyH_take (i := 17) (v := ?_) rfl (by kernel_rfl) (by kernel_rfl) (by kernel_rfl) (fun _ _ _ h => h) (Or.inl ⟨by rfl, ?q17⟩) HS.out ?_
              case q17 => intro w hSw; go_simp; rfl
              simp only [Act.put, List.getElem_toArray, List.getElem_cons_zero, List.getElem_cons_succ, List.setIfInBounds_toArray, List.set_cons_zero, List.set_cons_succ]
              refine wpAnyH_done (by kernel_rfl) ?_ _
              go_wp2
              refine ⟨⟨k + 1, by omega, by omega, by go_num, fun y h1 h2 => ?_, HS⟩, by simp [intOf]; omega⟩
              rcases Nat.lt_or_ge y k with h3 | h3
              · exact HNo.out y h1 h3
              · rw [show y = k by omega]
                exact fun h => Hd.out (HDf.out.1 h).1
end Go.Proofs.YtnafbchemcggpaaDoor
