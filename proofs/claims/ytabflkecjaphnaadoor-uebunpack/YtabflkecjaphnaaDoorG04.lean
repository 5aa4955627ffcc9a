/- Of the road to uebUnpackCard_holds: UbRUnp, UbSame, MarksMore, LentKit. -/
import Derived.Test.YtabflkecjaphnaaDoorG03
import Derived.Deep.RegionHeld
import Derived.Test.YtabflkecjaphnaaDoorG00
import Derived.Test.YtabflkecjaphnaaDoorG01
import Derived.Test.YtabflkecjaphnaaDoorG02
set_option linter.unusedVariables false
set_option linter.unusedSimpArgs false
namespace Go.Proofs.YtabflkecjaphnaaDoor
open Go Go.RowKit
theorem toList_len (s : ByteArray) : s.toList.length = s.size := by rw [ByteArray.toList_eq]; rfl
theorem leS_nil (s : ByteArray) : leS noS s = true := by
  unfold leS
  have h0 : noS.toList = [] := by rw [ByteArray.toList_eq]; rfl
  rw [h0]
  cases h : s.toList with
  | nil => rfl
  | cons a b => simp [Op.bytesLess]
theorem leS_some {s : ByteArray} (h : s.size ≠ 0) : leS s noS = false := by
  unfold leS
  have h0 : noS.toList = [] := by rw [ByteArray.toList_eq]; rfl
  rw [h0]
  cases hs : s.toList with
  | nil => have := toList_len s; rw [hs] at this; exact absurd this.symm h
  | cons a b => simp [Op.bytesLess]
theorem lastN_get {rs : List Rw} (h : 0 < rs.length) : lastN noS rs = (rs.getD (rs.length - 1) rw0).1 := by
  obtain ⟨t, r, rfl⟩ : ∃ t r, rs = t ++ [r] := ⟨rs.dropLast, rs.getLast (List.length_pos_iff.1 h), (List.dropLast_concat_getLast _).symm⟩
  rw [lastN_snoc]
  simp [List.getD]
theorem bel_drewN {B : Nat} {w W : World} (h : Below B w W) (q : Nat) : Below B w (W.drewN q) := h.trans ((Dr.one _ _).below _)
theorem no_row1 {l f y : List Int} {rs : List Rw} {k : Nat} (hf : l.drop k = fld f ++ y) (h : leS (bS f) (lastN noS rs) = true ∨ rs.length = 64) : ∀ r x, rs.length < 64 → okRow (lastN noS rs) r → l.drop k ≠ rowL r ++ x := by
  intro r x hl ok he
  unfold rowL at he
  rw [hf, List.append_assoc] at he
  obtain ⟨h1, h2⟩ := fld_inj he
  rcases h with h | h
  · have : bS f = r.1 := by rw [h1, bS_sB]
    rw [this, ok.1] at h
    cases h
  · omega
def RuP (w : World) (l : List Int) (e : Ending) (w' : World) : Prop := ∃ rv rs vs k ec, e = .returned (.tuple #[rv, .int .i64 ((k : Nat) : Int), .int .i64 ec]) ∧ UnpQ l rs k ec ∧ RwO w' w.heap.size rv rs vs ∧ Below w.heap.size w w'
def RuI (w : World) (l : List Int) (n : Nat) (v : Value) (k : Nat) (wr : World) : Prop :=
  ∃ rs vs, RwO wr w.heap.size v rs vs ∧ k ≤ n ∧ packL rs = l.take k ∧ mayT rs ∧ Below w.heap.size w wr
set_option maxRecDepth 100000 in
set_option maxHeartbeats 8000000 in
theorem runpack_any (w : World) (v : Value) (l : List Int) (h : HB w v l) (hk : KD w) :
    Calls Tryd.prog 8 #[v] w fun e w' => RuP w l e w' := by
  obtain ⟨p, c, rfl, hlc, hcm⟩ := h.open
  have HH := hid h
  have HK := hid hk
  have HBY := hid (show Byt8 l from h.2)
  obtain ⟨n, HN⟩ : ∃ n, Hid (l.length = n) := ⟨_, rfl⟩
  rw [HN.out] at hlc
  rw [HN.out]
  have hm63 : n ≤ 9223372036854775807 := by unfold maxLen at hcm; omega
  clear h hk
  go_enter Tryd.func8, Tryd.ntmps8
  go_wp2
  go_loopw [5, 6] (fun v at_ wr => ∃ k : Nat, at_ = .int .i64 (k : Int) ∧ Hid (RuI w l n v k wr)) (fun _ i _ => n - (intOf i).toNat)
  case atStart => exact ⟨0, rfl, [], [], RwO.nil _ _, Nat.zero_le _, by simp [packL], ⟨Nat.zero_le _, trivial⟩, Below.refl _ _⟩
  case round =>
    obtain ⟨k, rfl, HI⟩ := hrel
    obtain ⟨rs, vs, hown, hkn, hpk, hmay, hbel⟩ := HI.out
    by_cases hlt : k < n
    · have HO := hid hown
      have HP := hid hpk
      have HM := hid hmay
      have B0 := hid hbel
      have hs0 := hbel.size
      have hlen64 : rs.length ≤ 64 := hmay.1
      obtain ⟨m, HMm⟩ : ∃ x, Hid (rs.length = x) := ⟨_, rfl⟩
      rw [HMm.out] at hlen64
      obtain ⟨pr, cr, rfl⟩ : ∃ p c, u5 = .slice p m c := by
        rcases hown.1.2 with ⟨e, e0⟩ | ⟨g, cap, cur, e, _⟩
        · exact ⟨none, 0, by rw [e, ← HMm.out, e0]⟩
        · exact ⟨_, cap, by rw [e, HMm.out]⟩
      clear hown hpk hmay HI hbel
      obtain ⟨b, off, rfl⟩ : ∃ b off, p = some ⟨b, off, none⟩ := by
        obtain ⟨b, off, c', e, _⟩ := HH.out.ne (by have := HN.out; omega)
        injection e with e
        exact ⟨b, off, e⟩
      have C1 := rpiece_any wr b off c l k 64 (HH.out.below B0.out) (by have := HN.out; omega) (by omega) (HK.out.below B0.out)
      rw [HN.out] at C1
      have C1 := hid C1
      go_wp2_with fail
      refine C1.out.mono ?_
      rintro e w1 ⟨vf, nx, rfl, hq1, hb1⟩
      have B1 := hid (B0.out.trans (hb1.mono B0.out.size))
      have hs1 := hb1.size
      have HO1 := hid (HO.out.below hb1)
      have B01 := hid hb1
      clear hb1 C1
      rcases hq1 with ⟨f, x, hf1, hf2, rfl, hfb, hfo⟩ | ⟨rfl, rfl, hno⟩
      · obtain ⟨pf, cf, rfl⟩ := own_slc hfo
        have HFH := hid (HB.of_own hfo hfb)
        have hnl : k + (fld f).length ≤ n := by
          have := congrArg List.length hf1
          rw [List.length_append, List.length_drop, HN.out] at this
          omega
        have hx : x = l.drop (k + (fld f).length) := by
          rw [← List.drop_drop, hf1]; simp
        subst hx
        obtain ⟨e1, HE1⟩ : ∃ x, Hid (k + (fld f).length = x) := ⟨_, rfl⟩
        rw [HE1.out] at hf1 hnl
        rw [HE1.out]
        have HF1 := hid hf1
        clear hf1
        have hsz : (bS f).size = f.length := bS_size f
        obtain ⟨S, HSS⟩ : ∃ x, Hid (bS f = x) := ⟨_, rfl⟩
        by_cases hf0 : (f.length : Int) = 0
        · have hfe : f = [] := List.length_eq_zero_iff.1 (by omega)
          have HNO := hid (unp_err HP.out HM.out (by have := HN.out; omega) (no_row1 (rs := rs) HF1.out (Or.inl (by rw [hfe]; exact leS_nil _))))
          have HQ0 : Hid (((f.length : Int) == 0) = true) := by refine hid ?_; rw [beq_iff_eq]; exact hf0
          clear hf0 hfe
          go_wp2
          refine wp_region_held_drew (S := Below w1.heap.size w1) (by kernel_rfl) (Below.refl _ _).drew (fun hHeld => ?_)
          have HS := hid hHeld
          clear hHeld
          change wpAnyH _ _ _ _ _ _ _ _ (World.drew _)
          refine wpAnyH_take (i := 0) (v := ?_) rfl (by kernel_rfl) (by kernel_rfl) (by kernel_rfl) (fun _ _ _ h => h) (Or.inl ⟨by rfl, ?q0⟩) HS.out ?_
          case q0 => intro w hSw; have hneg : ¬ ((e1 : Int) < 0) := (by omega); have hq0 := HQ0.out; go_simp; rfl
          simp only [Act.put, List.getElem_toArray, List.getElem_cons_zero, List.getElem_cons_succ, List.setIfInBounds_toArray, List.set_cons_zero, List.set_cons_succ]
          refine wpAnyH_take (i := 1) (v := .bool false) rfl (by kernel_rfl) (by kernel_rfl) (by kernel_rfl) (fun _ _ _ h => h) (Or.inl ⟨by rfl, ?q1⟩) HS.out ?_
          case q1 => intro w hSw; have hneg : ¬ ((e1 : Int) < 0) := (by omega); have hq0 := HQ0.out; go_simp
          simp only [Act.put, List.getElem_toArray, List.getElem_cons_zero, List.getElem_cons_succ, List.setIfInBounds_toArray, List.set_cons_zero, List.set_cons_succ]
          refine wpAnyH_take (i := 2) (v := ?_) rfl (by kernel_rfl) (by kernel_rfl) (by kernel_rfl) (fun _ _ _ h => h) (Or.inl ⟨by rfl, ?q2⟩) HS.out ?_
          case q2 => intro w hSw; have hneg : ¬ ((e1 : Int) < 0) := (by omega); have hq0 := HQ0.out; go_simp; rfl
          simp only [Act.put, List.getElem_toArray, List.getElem_cons_zero, List.getElem_cons_succ, List.setIfInBounds_toArray, List.set_cons_zero, List.set_cons_succ]
          refine wpAnyH_take (i := 3) (v := ?_) rfl (by kernel_rfl) (by kernel_rfl) (by kernel_rfl) (fun _ _ _ h => h) (Or.inl ⟨by rfl, ?q3⟩) HS.out ?_
          case q3 => intro w hSw; have hneg : ¬ ((e1 : Int) < 0) := (by omega); have hq0 := HQ0.out; go_simp; rfl
          simp only [Act.put, List.getElem_toArray, List.getElem_cons_zero, List.getElem_cons_succ, List.setIfInBounds_toArray, List.set_cons_zero, List.set_cons_succ]
          refine wpAnyH_take (i := 4) (v := ?_) rfl (by kernel_rfl) (by kernel_rfl) (by kernel_rfl) (fun _ _ _ h => h) (Or.inl ⟨by rfl, ?q4⟩) HS.out ?_
          case q4 => intro w hSw; have hneg : ¬ ((e1 : Int) < 0) := (by omega); have hq0 := HQ0.out; go_simp; rfl
          simp only [Act.put, List.getElem_toArray, List.getElem_cons_zero, List.getElem_cons_succ, List.setIfInBounds_toArray, List.set_cons_zero, List.set_cons_succ]
          refine wpAnyH_take (i := 5) (v := .bool true) rfl (by kernel_rfl) (by kernel_rfl) (by kernel_rfl) (fun _ _ _ h => h) (Or.inl ⟨by rfl, ?q5⟩) HS.out ?_
          case q5 => intro w hSw; have hneg : ¬ ((e1 : Int) < 0) := (by omega); have hq0 := HQ0.out; go_simp
          simp only [Act.put, List.getElem_toArray, List.getElem_cons_zero, List.getElem_cons_succ, List.setIfInBounds_toArray, List.set_cons_zero, List.set_cons_succ]
          refine wpAnyH_take (i := 6) (v := .bool true) rfl (by kernel_rfl) (by kernel_rfl) (by kernel_rfl) (fun _ _ _ h => h) (Or.inl ⟨by rfl, ?q6⟩) HS.out ?_
          case q6 => intro w hSw; have hneg : ¬ ((e1 : Int) < 0) := (by omega); have hq0 := HQ0.out; go_simp
          simp only [Act.put, List.getElem_toArray, List.getElem_cons_zero, List.getElem_cons_succ, List.setIfInBounds_toArray, List.set_cons_zero, List.set_cons_succ]
          refine wpAnyH_take (i := 7) (v := ?_) rfl (by kernel_rfl) (by kernel_rfl) (by kernel_rfl) (fun _ _ _ h => h) (Or.inl ⟨by rfl, ?q7⟩) HS.out ?_
          case q7 => intro w hSw; have hneg : ¬ ((e1 : Int) < 0) := (by omega); have hq0 := HQ0.out; go_simp; rfl
          simp only [Act.put, List.getElem_toArray, List.getElem_cons_zero, List.getElem_cons_succ, List.setIfInBounds_toArray, List.set_cons_zero, List.set_cons_succ]
          refine wpAnyH_take (i := 8) (v := undef) rfl (by kernel_rfl) (by kernel_rfl) (by kernel_rfl) (fun _ _ _ h => h) (Or.inr ⟨by rfl, rfl⟩) HS.out ?_
          simp only [Act.put, List.getElem_toArray, List.getElem_cons_zero, List.getElem_cons_succ, List.setIfInBounds_toArray, List.set_cons_zero, List.set_cons_succ]
          refine wpAnyH_take (i := 9) (v := undef) rfl (by kernel_rfl) (by kernel_rfl) (by kernel_rfl) (fun _ _ _ h => h) (Or.inr ⟨by rfl, rfl⟩) HS.out ?_
          simp only [Act.put, List.getElem_toArray, List.getElem_cons_zero, List.getElem_cons_succ, List.setIfInBounds_toArray, List.set_cons_zero, List.set_cons_succ]
          refine wpAnyH_take (i := 10) (v := undef) rfl (by kernel_rfl) (by kernel_rfl) (by kernel_rfl) (fun _ _ _ h => h) (Or.inr ⟨by rfl, rfl⟩) HS.out ?_
          simp only [Act.put, List.getElem_toArray, List.getElem_cons_zero, List.getElem_cons_succ, List.setIfInBounds_toArray, List.set_cons_zero, List.set_cons_succ]
          refine wpAnyH_take (i := 11) (v := .bool true) rfl (by kernel_rfl) (by kernel_rfl) (by kernel_rfl) (fun _ _ _ h => h) (Or.inl ⟨by rfl, ?q11⟩) HS.out ?_
          case q11 => intro w hSw; have hneg : ¬ ((e1 : Int) < 0) := (by omega); have hq0 := HQ0.out; go_simp
          simp only [Act.put, List.getElem_toArray, List.getElem_cons_zero, List.getElem_cons_succ, List.setIfInBounds_toArray, List.set_cons_zero, List.set_cons_succ]
          refine wpAnyH_take (i := 12) (v := ?_) rfl (by kernel_rfl) (by kernel_rfl) (by kernel_rfl) (fun _ _ _ h => h) (Or.inl ⟨by rfl, ?q12⟩) HS.out ?_
          case q12 => intro w hSw; have hneg : ¬ ((e1 : Int) < 0) := (by omega); have hq0 := HQ0.out; go_simp; rfl
          simp only [Act.put, List.getElem_toArray, List.getElem_cons_zero, List.getElem_cons_succ, List.setIfInBounds_toArray, List.set_cons_zero, List.set_cons_succ]
          refine wpAnyH_take (i := 13) (v := undef) rfl (by kernel_rfl) (by kernel_rfl) (by kernel_rfl) (fun _ _ _ h => h) (Or.inr ⟨by rfl, rfl⟩) HS.out ?_
          simp only [Act.put, List.getElem_toArray, List.getElem_cons_zero, List.getElem_cons_succ, List.setIfInBounds_toArray, List.set_cons_zero, List.set_cons_succ]
          refine wpAnyH_take (i := 14) (v := undef) rfl (by kernel_rfl) (by kernel_rfl) (by kernel_rfl) (fun _ _ _ h => h) (Or.inr ⟨by rfl, rfl⟩) HS.out ?_
          simp only [Act.put, List.getElem_toArray, List.getElem_cons_zero, List.getElem_cons_succ, List.setIfInBounds_toArray, List.set_cons_zero, List.set_cons_succ]
          refine wpAnyH_take (i := 15) (v := undef) rfl (by kernel_rfl) (by kernel_rfl) (by kernel_rfl) (fun _ _ _ h => h) (Or.inr ⟨by rfl, rfl⟩) HS.out ?_
          simp only [Act.put, List.getElem_toArray, List.getElem_cons_zero, List.getElem_cons_succ, List.setIfInBounds_toArray, List.set_cons_zero, List.set_cons_succ]
          refine wpAnyH_take (i := 16) (v := undef) rfl (by kernel_rfl) (by kernel_rfl) (by kernel_rfl) (fun _ _ _ h => h) (Or.inr ⟨by rfl, rfl⟩) HS.out ?_
          simp only [Act.put, List.getElem_toArray, List.getElem_cons_zero, List.getElem_cons_succ, List.setIfInBounds_toArray, List.set_cons_zero, List.set_cons_succ]
          refine wpAnyH_take (i := 17) (v := undef) rfl (by kernel_rfl) (by kernel_rfl) (by kernel_rfl) (fun _ _ _ h => h) (Or.inr ⟨by rfl, rfl⟩) HS.out ?_
          simp only [Act.put, List.getElem_toArray, List.getElem_cons_zero, List.getElem_cons_succ, List.setIfInBounds_toArray, List.set_cons_zero, List.set_cons_succ]
          refine wpAnyH_take (i := 18) (v := undef) rfl (by kernel_rfl) (by kernel_rfl) (by kernel_rfl) (fun _ _ _ h => h) (Or.inr ⟨by rfl, rfl⟩) HS.out ?_
          simp only [Act.put, List.getElem_toArray, List.getElem_cons_zero, List.getElem_cons_succ, List.setIfInBounds_toArray, List.set_cons_zero, List.set_cons_succ]
          refine wpAnyH_take (i := 19) (v := undef) rfl (by kernel_rfl) (by kernel_rfl) (by kernel_rfl) (fun _ _ _ h => h) (Or.inr ⟨by rfl, rfl⟩) HS.out ?_
          simp only [Act.put, List.getElem_toArray, List.getElem_cons_zero, List.getElem_cons_succ, List.setIfInBounds_toArray, List.set_cons_zero, List.set_cons_succ]
          refine wpAnyH_take (i := 20) (v := undef) rfl (by kernel_rfl) (by kernel_rfl) (by kernel_rfl) (fun _ _ _ h => h) (Or.inr ⟨by rfl, rfl⟩) HS.out ?_
          simp only [Act.put, List.getElem_toArray, List.getElem_cons_zero, List.getElem_cons_succ, List.setIfInBounds_toArray, List.set_cons_zero, List.set_cons_succ]
          refine wpAnyH_take (i := 21) (v := undef) rfl (by kernel_rfl) (by kernel_rfl) (by kernel_rfl) (fun _ _ _ h => h) (Or.inr ⟨by rfl, rfl⟩) HS.out ?_
          simp only [Act.put, List.getElem_toArray, List.getElem_cons_zero, List.getElem_cons_succ, List.setIfInBounds_toArray, List.set_cons_zero, List.set_cons_succ]
          refine wpAnyH_take (i := 22) (v := undef) rfl (by kernel_rfl) (by kernel_rfl) (by kernel_rfl) (fun _ _ _ h => h) (Or.inr ⟨by rfl, rfl⟩) HS.out ?_
          simp only [Act.put, List.getElem_toArray, List.getElem_cons_zero, List.getElem_cons_succ, List.setIfInBounds_toArray, List.set_cons_zero, List.set_cons_succ]
          refine wpAnyH_take (i := 23) (v := undef) rfl (by kernel_rfl) (by kernel_rfl) (by kernel_rfl) (fun _ _ _ h => h) (Or.inr ⟨by rfl, rfl⟩) HS.out ?_
          simp only [Act.put, List.getElem_toArray, List.getElem_cons_zero, List.getElem_cons_succ, List.setIfInBounds_toArray, List.set_cons_zero, List.set_cons_succ]
          refine wpAnyH_take (i := 24) (v := undef) rfl (by kernel_rfl) (by kernel_rfl) (by kernel_rfl) (fun _ _ _ h => h) (Or.inr ⟨by rfl, rfl⟩) HS.out ?_
          simp only [Act.put, List.getElem_toArray, List.getElem_cons_zero, List.getElem_cons_succ, List.setIfInBounds_toArray, List.set_cons_zero, List.set_cons_succ]
          refine wpAnyH_take (i := 25) (v := undef) rfl (by kernel_rfl) (by kernel_rfl) (by kernel_rfl) (fun _ _ _ h => h) (Or.inr ⟨by rfl, rfl⟩) HS.out ?_
          simp only [Act.put, List.getElem_toArray, List.getElem_cons_zero, List.getElem_cons_succ, List.setIfInBounds_toArray, List.set_cons_zero, List.set_cons_succ]
          refine wpAnyH_take (i := 26) (v := undef) rfl (by kernel_rfl) (by kernel_rfl) (by kernel_rfl) (fun _ _ _ h => h) (Or.inr ⟨by rfl, rfl⟩) HS.out ?_
          simp only [Act.put, List.getElem_toArray, List.getElem_cons_zero, List.getElem_cons_succ, List.setIfInBounds_toArray, List.set_cons_zero, List.set_cons_succ]
          refine wpAnyH_take (i := 27) (v := undef) rfl (by kernel_rfl) (by kernel_rfl) (by kernel_rfl) (fun _ _ _ h => h) (Or.inr ⟨by rfl, rfl⟩) HS.out ?_
          simp only [Act.put, List.getElem_toArray, List.getElem_cons_zero, List.getElem_cons_succ, List.setIfInBounds_toArray, List.set_cons_zero, List.set_cons_succ]
          refine wpAnyH_take (i := 28) (v := .bool true) rfl (by kernel_rfl) (by kernel_rfl) (by kernel_rfl) (fun _ _ _ h => h) (Or.inl ⟨by rfl, ?q28⟩) HS.out ?_
          case q28 => intro w hSw; have hneg : ¬ ((e1 : Int) < 0) := (by omega); have hq0 := HQ0.out; go_simp
          simp only [Act.put, List.getElem_toArray, List.getElem_cons_zero, List.getElem_cons_succ, List.setIfInBounds_toArray, List.set_cons_zero, List.set_cons_succ]
          refine wpAnyH_done (by kernel_rfl) ?_ _
          go_wp2
          go_ret3
          exact ⟨_, [], [], k, 131, rfl, HNO.out, RwO.nil _ _, B1.out.drew⟩
        · have HQ0 : Hid (((f.length : Int) == 0) = false) := by refine hid ?_; rw [beq_eq_false_iff_ne]; exact hf0
          have HF0 := hid hf0
          clear hf0
          by_cases h64 : (m : Int) = 64
          · have HNO := hid (unp_err HP.out HM.out (by have := HN.out; omega) (no_row1 (rs := rs) HF1.out (Or.inr (by have := HMm.out; omega))))
            have HQ : Hid (((m : Int) == 64) = true) := by refine hid ?_; rw [beq_iff_eq]; exact h64
            clear h64
            go_wp2
            refine wp_region_held_drew (S := Below w1.heap.size w1) (by kernel_rfl) (Below.refl _ _).drew (fun hHeld => ?_)
            have HS := hid hHeld
            clear hHeld
            change wpAnyH _ _ _ _ _ _ _ _ (World.drew _)
            refine wpAnyH_take (i := 0) (v := ?_) rfl (by kernel_rfl) (by kernel_rfl) (by kernel_rfl) (fun _ _ _ h => h) (Or.inl ⟨by rfl, ?q0⟩) HS.out ?_
            case q0 => intro w hSw; have hneg : ¬ ((e1 : Int) < 0) := (by omega); have hq0 := HQ0.out; have hq := HQ.out; go_simp; rfl
            simp only [Act.put, List.getElem_toArray, List.getElem_cons_zero, List.getElem_cons_succ, List.setIfInBounds_toArray, List.set_cons_zero, List.set_cons_succ]
            refine wpAnyH_take (i := 1) (v := .bool false) rfl (by kernel_rfl) (by kernel_rfl) (by kernel_rfl) (fun _ _ _ h => h) (Or.inl ⟨by rfl, ?q1⟩) HS.out ?_
            case q1 => intro w hSw; have hneg : ¬ ((e1 : Int) < 0) := (by omega); have hq0 := HQ0.out; have hq := HQ.out; go_simp
            simp only [Act.put, List.getElem_toArray, List.getElem_cons_zero, List.getElem_cons_succ, List.setIfInBounds_toArray, List.set_cons_zero, List.set_cons_succ]
            refine wpAnyH_take (i := 2) (v := ?_) rfl (by kernel_rfl) (by kernel_rfl) (by kernel_rfl) (fun _ _ _ h => h) (Or.inl ⟨by rfl, ?q2⟩) HS.out ?_
            case q2 => intro w hSw; have hneg : ¬ ((e1 : Int) < 0) := (by omega); have hq0 := HQ0.out; have hq := HQ.out; go_simp; rfl
            simp only [Act.put, List.getElem_toArray, List.getElem_cons_zero, List.getElem_cons_succ, List.setIfInBounds_toArray, List.set_cons_zero, List.set_cons_succ]
            refine wpAnyH_take (i := 3) (v := ?_) rfl (by kernel_rfl) (by kernel_rfl) (by kernel_rfl) (fun _ _ _ h => h) (Or.inl ⟨by rfl, ?q3⟩) HS.out ?_
            case q3 => intro w hSw; have hneg : ¬ ((e1 : Int) < 0) := (by omega); have hq0 := HQ0.out; have hq := HQ.out; go_simp; rfl
            simp only [Act.put, List.getElem_toArray, List.getElem_cons_zero, List.getElem_cons_succ, List.setIfInBounds_toArray, List.set_cons_zero, List.set_cons_succ]
            refine wpAnyH_take (i := 4) (v := ?_) rfl (by kernel_rfl) (by kernel_rfl) (by kernel_rfl) (fun _ _ _ h => h) (Or.inl ⟨by rfl, ?q4⟩) HS.out ?_
            case q4 => intro w hSw; have hneg : ¬ ((e1 : Int) < 0) := (by omega); have hq0 := HQ0.out; have hq := HQ.out; go_simp; rfl
            simp only [Act.put, List.getElem_toArray, List.getElem_cons_zero, List.getElem_cons_succ, List.setIfInBounds_toArray, List.set_cons_zero, List.set_cons_succ]
            refine wpAnyH_take (i := 5) (v := .bool false) rfl (by kernel_rfl) (by kernel_rfl) (by kernel_rfl) (fun _ _ _ h => h) (Or.inl ⟨by rfl, ?q5⟩) HS.out ?_
            case q5 => intro w hSw; have hneg : ¬ ((e1 : Int) < 0) := (by omega); have hq0 := HQ0.out; have hq := HQ.out; go_simp
            simp only [Act.put, List.getElem_toArray, List.getElem_cons_zero, List.getElem_cons_succ, List.setIfInBounds_toArray, List.set_cons_zero, List.set_cons_succ]
            refine wpAnyH_take (i := 6) (v := .bool false) rfl (by kernel_rfl) (by kernel_rfl) (by kernel_rfl) (fun _ _ _ h => h) (Or.inl ⟨by rfl, ?q6⟩) HS.out ?_
            case q6 => intro w hSw; have hneg : ¬ ((e1 : Int) < 0) := (by omega); have hq0 := HQ0.out; have hq := HQ.out; go_simp
            simp only [Act.put, List.getElem_toArray, List.getElem_cons_zero, List.getElem_cons_succ, List.setIfInBounds_toArray, List.set_cons_zero, List.set_cons_succ]
            refine wpAnyH_take (i := 7) (v := ?_) rfl (by kernel_rfl) (by kernel_rfl) (by kernel_rfl) (fun _ _ _ h => h) (Or.inl ⟨by rfl, ?q7⟩) HS.out ?_
            case q7 => intro w hSw; have hneg : ¬ ((e1 : Int) < 0) := (by omega); have hq0 := HQ0.out; have hq := HQ.out; go_simp; rfl
            simp only [Act.put, List.getElem_toArray, List.getElem_cons_zero, List.getElem_cons_succ, List.setIfInBounds_toArray, List.set_cons_zero, List.set_cons_succ]
            refine wpAnyH_take (i := 8) (v := ?_) rfl (by kernel_rfl) (by kernel_rfl) (by kernel_rfl) (fun _ _ _ h => h) (Or.inl ⟨by rfl, ?q8⟩) HS.out ?_
            case q8 => intro w hSw; have hneg : ¬ ((e1 : Int) < 0) := (by omega); have hq0 := HQ0.out; have hq := HQ.out; go_simp; rfl
            simp only [Act.put, List.getElem_toArray, List.getElem_cons_zero, List.getElem_cons_succ, List.setIfInBounds_toArray, List.set_cons_zero, List.set_cons_succ]
            refine wpAnyH_take (i := 9) (v := ?_) rfl (by kernel_rfl) (by kernel_rfl) (by kernel_rfl) (fun _ _ _ h => h) (Or.inl ⟨by rfl, ?q9⟩) HS.out ?_
            case q9 => intro w hSw; have hneg : ¬ ((e1 : Int) < 0) := (by omega); have hq0 := HQ0.out; have hq := HQ.out; go_simp; rfl
            simp only [Act.put, List.getElem_toArray, List.getElem_cons_zero, List.getElem_cons_succ, List.setIfInBounds_toArray, List.set_cons_zero, List.set_cons_succ]
            refine wpAnyH_take (i := 10) (v := .bool true) rfl (by kernel_rfl) (by kernel_rfl) (by kernel_rfl) (fun _ _ _ h => h) (Or.inl ⟨by rfl, ?q10⟩) HS.out ?_
            case q10 => intro w hSw; have hneg : ¬ ((e1 : Int) < 0) := (by omega); have hq0 := HQ0.out; have hq := HQ.out; go_simp
            simp only [Act.put, List.getElem_toArray, List.getElem_cons_zero, List.getElem_cons_succ, List.setIfInBounds_toArray, List.set_cons_zero, List.set_cons_succ]
            refine wpAnyH_take (i := 11) (v := .bool true) rfl (by kernel_rfl) (by kernel_rfl) (by kernel_rfl) (fun _ _ _ h => h) (Or.inl ⟨by rfl, ?q11⟩) HS.out ?_
            case q11 => intro w hSw; have hneg : ¬ ((e1 : Int) < 0) := (by omega); have hq0 := HQ0.out; have hq := HQ.out; go_simp
            simp only [Act.put, List.getElem_toArray, List.getElem_cons_zero, List.getElem_cons_succ, List.setIfInBounds_toArray, List.set_cons_zero, List.set_cons_succ]
            refine wpAnyH_take (i := 12) (v := ?_) rfl (by kernel_rfl) (by kernel_rfl) (by kernel_rfl) (fun _ _ _ h => h) (Or.inl ⟨by rfl, ?q12⟩) HS.out ?_
            case q12 => intro w hSw; have hneg : ¬ ((e1 : Int) < 0) := (by omega); have hq0 := HQ0.out; have hq := HQ.out; go_simp; rfl
            simp only [Act.put, List.getElem_toArray, List.getElem_cons_zero, List.getElem_cons_succ, List.setIfInBounds_toArray, List.set_cons_zero, List.set_cons_succ]
            refine wpAnyH_take (i := 13) (v := undef) rfl (by kernel_rfl) (by kernel_rfl) (by kernel_rfl) (fun _ _ _ h => h) (Or.inr ⟨by rfl, rfl⟩) HS.out ?_
            simp only [Act.put, List.getElem_toArray, List.getElem_cons_zero, List.getElem_cons_succ, List.setIfInBounds_toArray, List.set_cons_zero, List.set_cons_succ]
            refine wpAnyH_take (i := 14) (v := undef) rfl (by kernel_rfl) (by kernel_rfl) (by kernel_rfl) (fun _ _ _ h => h) (Or.inr ⟨by rfl, rfl⟩) HS.out ?_
            simp only [Act.put, List.getElem_toArray, List.getElem_cons_zero, List.getElem_cons_succ, List.setIfInBounds_toArray, List.set_cons_zero, List.set_cons_succ]
            refine wpAnyH_take (i := 15) (v := undef) rfl (by kernel_rfl) (by kernel_rfl) (by kernel_rfl) (fun _ _ _ h => h) (Or.inr ⟨by rfl, rfl⟩) HS.out ?_
            simp only [Act.put, List.getElem_toArray, List.getElem_cons_zero, List.getElem_cons_succ, List.setIfInBounds_toArray, List.set_cons_zero, List.set_cons_succ]
            refine wpAnyH_take (i := 16) (v := undef) rfl (by kernel_rfl) (by kernel_rfl) (by kernel_rfl) (fun _ _ _ h => h) (Or.inr ⟨by rfl, rfl⟩) HS.out ?_
            simp only [Act.put, List.getElem_toArray, List.getElem_cons_zero, List.getElem_cons_succ, List.setIfInBounds_toArray, List.set_cons_zero, List.set_cons_succ]
            refine wpAnyH_take (i := 17) (v := undef) rfl (by kernel_rfl) (by kernel_rfl) (by kernel_rfl) (fun _ _ _ h => h) (Or.inr ⟨by rfl, rfl⟩) HS.out ?_
            simp only [Act.put, List.getElem_toArray, List.getElem_cons_zero, List.getElem_cons_succ, List.setIfInBounds_toArray, List.set_cons_zero, List.set_cons_succ]
            refine wpAnyH_take (i := 18) (v := undef) rfl (by kernel_rfl) (by kernel_rfl) (by kernel_rfl) (fun _ _ _ h => h) (Or.inr ⟨by rfl, rfl⟩) HS.out ?_
            simp only [Act.put, List.getElem_toArray, List.getElem_cons_zero, List.getElem_cons_succ, List.setIfInBounds_toArray, List.set_cons_zero, List.set_cons_succ]
            refine wpAnyH_take (i := 19) (v := undef) rfl (by kernel_rfl) (by kernel_rfl) (by kernel_rfl) (fun _ _ _ h => h) (Or.inr ⟨by rfl, rfl⟩) HS.out ?_
            simp only [Act.put, List.getElem_toArray, List.getElem_cons_zero, List.getElem_cons_succ, List.setIfInBounds_toArray, List.set_cons_zero, List.set_cons_succ]
            refine wpAnyH_take (i := 20) (v := undef) rfl (by kernel_rfl) (by kernel_rfl) (by kernel_rfl) (fun _ _ _ h => h) (Or.inr ⟨by rfl, rfl⟩) HS.out ?_
            simp only [Act.put, List.getElem_toArray, List.getElem_cons_zero, List.getElem_cons_succ, List.setIfInBounds_toArray, List.set_cons_zero, List.set_cons_succ]
            refine wpAnyH_take (i := 21) (v := undef) rfl (by kernel_rfl) (by kernel_rfl) (by kernel_rfl) (fun _ _ _ h => h) (Or.inr ⟨by rfl, rfl⟩) HS.out ?_
            simp only [Act.put, List.getElem_toArray, List.getElem_cons_zero, List.getElem_cons_succ, List.setIfInBounds_toArray, List.set_cons_zero, List.set_cons_succ]
            refine wpAnyH_take (i := 22) (v := undef) rfl (by kernel_rfl) (by kernel_rfl) (by kernel_rfl) (fun _ _ _ h => h) (Or.inr ⟨by rfl, rfl⟩) HS.out ?_
            simp only [Act.put, List.getElem_toArray, List.getElem_cons_zero, List.getElem_cons_succ, List.setIfInBounds_toArray, List.set_cons_zero, List.set_cons_succ]
            refine wpAnyH_take (i := 23) (v := undef) rfl (by kernel_rfl) (by kernel_rfl) (by kernel_rfl) (fun _ _ _ h => h) (Or.inr ⟨by rfl, rfl⟩) HS.out ?_
            simp only [Act.put, List.getElem_toArray, List.getElem_cons_zero, List.getElem_cons_succ, List.setIfInBounds_toArray, List.set_cons_zero, List.set_cons_succ]
            refine wpAnyH_take (i := 24) (v := undef) rfl (by kernel_rfl) (by kernel_rfl) (by kernel_rfl) (fun _ _ _ h => h) (Or.inr ⟨by rfl, rfl⟩) HS.out ?_
            simp only [Act.put, List.getElem_toArray, List.getElem_cons_zero, List.getElem_cons_succ, List.setIfInBounds_toArray, List.set_cons_zero, List.set_cons_succ]
            refine wpAnyH_take (i := 25) (v := undef) rfl (by kernel_rfl) (by kernel_rfl) (by kernel_rfl) (fun _ _ _ h => h) (Or.inr ⟨by rfl, rfl⟩) HS.out ?_
            simp only [Act.put, List.getElem_toArray, List.getElem_cons_zero, List.getElem_cons_succ, List.setIfInBounds_toArray, List.set_cons_zero, List.set_cons_succ]
            refine wpAnyH_take (i := 26) (v := undef) rfl (by kernel_rfl) (by kernel_rfl) (by kernel_rfl) (fun _ _ _ h => h) (Or.inr ⟨by rfl, rfl⟩) HS.out ?_
            simp only [Act.put, List.getElem_toArray, List.getElem_cons_zero, List.getElem_cons_succ, List.setIfInBounds_toArray, List.set_cons_zero, List.set_cons_succ]
            refine wpAnyH_take (i := 27) (v := undef) rfl (by kernel_rfl) (by kernel_rfl) (by kernel_rfl) (fun _ _ _ h => h) (Or.inr ⟨by rfl, rfl⟩) HS.out ?_
            simp only [Act.put, List.getElem_toArray, List.getElem_cons_zero, List.getElem_cons_succ, List.setIfInBounds_toArray, List.set_cons_zero, List.set_cons_succ]
            refine wpAnyH_take (i := 28) (v := .bool true) rfl (by kernel_rfl) (by kernel_rfl) (by kernel_rfl) (fun _ _ _ h => h) (Or.inl ⟨by rfl, ?q28⟩) HS.out ?_
            case q28 => intro w hSw; have hneg : ¬ ((e1 : Int) < 0) := (by omega); have hq0 := HQ0.out; have hq := HQ.out; go_simp
            simp only [Act.put, List.getElem_toArray, List.getElem_cons_zero, List.getElem_cons_succ, List.setIfInBounds_toArray, List.set_cons_zero, List.set_cons_succ]
            refine wpAnyH_done (by kernel_rfl) ?_ _
            go_wp2
            go_ret3
            exact ⟨_, [], [], k, 131, rfl, HNO.out, RwO.nil _ _, B1.out.drew⟩
          · have HQ : Hid (((m : Int) == 64) = false) := by refine hid ?_; rw [beq_eq_false_iff_ne]; exact h64
            have H64 := hid h64
            clear h64
            by_cases hm0 : (0 : Int) < (m : Int)
            · obtain ⟨pp, cc, epp, _, _, hrw⟩ := HO1.out.held.open
              injection epp with e1' e2' e3'
              obtain ⟨br, or, hpr, hbr, hcl⟩ := hrw (by have := HMm.out; omega)
              obtain ⟨uu, hr1, _⟩ := hcl (m - 1) (by have := HMm.out; omega)
              have hc1 := hr1 0 _ rfl
              rw [show rs.getD (m - 1) rw0 = rs.getD (rs.length - 1) rw0 by rw [HMm.out], ← lastN_get (by have := HMm.out; omega), Nat.add_zero] at hc1
              have hpr2 : pr = some ⟨br, or, none⟩ := by rw [e1']; exact hpr
              subst hpr2
              obtain ⟨last, HL⟩ : ∃ x, Hid (lastN noS rs = x) := ⟨_, rfl⟩
              rw [HL.out] at hc1
              have HC1 := hid hc1
              have HLC : Hid ((⟨br, or + (m - 1) * 2, none⟩ : Addr).block < w1.heap.size) := hbr
              have HQ1 : Hid (((0 : Int) < (m : Int)) ∧ ((m : Int) - 1 = ((m - 1 : Nat) : Int))) := hid ⟨hm0, by omega⟩
              clear hcl hr1 hrw e1' e2' e3' hpr hc1 hm0
              obtain ⟨d, HD⟩ : ∃ d, Hid ((Op.bytesLess S.toList last.toList || S.toList == last.toList) = d) := ⟨_, rfl⟩
              cases d with
              | true =>
                have HNO := hid (unp_err HP.out HM.out (by have := HN.out; omega) (no_row1 (rs := rs) HF1.out (Or.inl (by rw [HSS.out, HL.out]; exact HD.out))))
                go_wp2
                refine wp_region_held_drew (S := Below w1.heap.size w1) (by kernel_rfl) (Below.refl _ _).drew (fun hHeld => ?_)
                have HS := hid hHeld
                clear hHeld
                change wpAnyH _ _ _ _ _ _ _ _ (World.drew _)
                refine wpAnyH_take (i := 0) (v := ?_) rfl (by kernel_rfl) (by kernel_rfl) (by kernel_rfl) (fun _ _ _ h => h) (Or.inl ⟨by rfl, ?q0⟩) HS.out ?_
                case q0 => intro w hSw; have hneg : ¬ ((e1 : Int) < 0) := (by omega); have hq0 := HQ0.out; have hq := HQ.out; have s1 := (hSw.cell HLC.out).trans HC1.out; have s2 := conv_str (HFH.out.below hSw); rw [HSS.out] at s2; have hdd := HD.out; have hm1 := HQ1.out.1; have hm2 := HQ1.out.2; go_simp; rfl
                simp only [Act.put, List.getElem_toArray, List.getElem_cons_zero, List.getElem_cons_succ, List.setIfInBounds_toArray, List.set_cons_zero, List.set_cons_succ]
                refine wpAnyH_take (i := 1) (v := .bool false) rfl (by kernel_rfl) (by kernel_rfl) (by kernel_rfl) (fun _ _ _ h => h) (Or.inl ⟨by rfl, ?q1⟩) HS.out ?_
                case q1 => intro w hSw; have hneg : ¬ ((e1 : Int) < 0) := (by omega); have hq0 := HQ0.out; have hq := HQ.out; have s1 := (hSw.cell HLC.out).trans HC1.out; have s2 := conv_str (HFH.out.below hSw); rw [HSS.out] at s2; have hdd := HD.out; have hm1 := HQ1.out.1; have hm2 := HQ1.out.2; go_simp
                simp only [Act.put, List.getElem_toArray, List.getElem_cons_zero, List.getElem_cons_succ, List.setIfInBounds_toArray, List.set_cons_zero, List.set_cons_succ]
                refine wpAnyH_take (i := 2) (v := ?_) rfl (by kernel_rfl) (by kernel_rfl) (by kernel_rfl) (fun _ _ _ h => h) (Or.inl ⟨by rfl, ?q2⟩) HS.out ?_
                case q2 => intro w hSw; have hneg : ¬ ((e1 : Int) < 0) := (by omega); have hq0 := HQ0.out; have hq := HQ.out; have s1 := (hSw.cell HLC.out).trans HC1.out; have s2 := conv_str (HFH.out.below hSw); rw [HSS.out] at s2; have hdd := HD.out; have hm1 := HQ1.out.1; have hm2 := HQ1.out.2; go_simp; rfl
                simp only [Act.put, List.getElem_toArray, List.getElem_cons_zero, List.getElem_cons_succ, List.setIfInBounds_toArray, List.set_cons_zero, List.set_cons_succ]
                refine wpAnyH_take (i := 3) (v := ?_) rfl (by kernel_rfl) (by kernel_rfl) (by kernel_rfl) (fun _ _ _ h => h) (Or.inl ⟨by rfl, ?q3⟩) HS.out ?_
                case q3 => intro w hSw; have hneg : ¬ ((e1 : Int) < 0) := (by omega); have hq0 := HQ0.out; have hq := HQ.out; have s1 := (hSw.cell HLC.out).trans HC1.out; have s2 := conv_str (HFH.out.below hSw); rw [HSS.out] at s2; have hdd := HD.out; have hm1 := HQ1.out.1; have hm2 := HQ1.out.2; go_simp; rfl
                simp only [Act.put, List.getElem_toArray, List.getElem_cons_zero, List.getElem_cons_succ, List.setIfInBounds_toArray, List.set_cons_zero, List.set_cons_succ]
                refine wpAnyH_take (i := 4) (v := ?_) rfl (by kernel_rfl) (by kernel_rfl) (by kernel_rfl) (fun _ _ _ h => h) (Or.inl ⟨by rfl, ?q4⟩) HS.out ?_
                case q4 => intro w hSw; have hneg : ¬ ((e1 : Int) < 0) := (by omega); have hq0 := HQ0.out; have hq := HQ.out; have s1 := (hSw.cell HLC.out).trans HC1.out; have s2 := conv_str (HFH.out.below hSw); rw [HSS.out] at s2; have hdd := HD.out; have hm1 := HQ1.out.1; have hm2 := HQ1.out.2; go_simp; rfl
                simp only [Act.put, List.getElem_toArray, List.getElem_cons_zero, List.getElem_cons_succ, List.setIfInBounds_toArray, List.set_cons_zero, List.set_cons_succ]
                refine wpAnyH_take (i := 5) (v := .bool false) rfl (by kernel_rfl) (by kernel_rfl) (by kernel_rfl) (fun _ _ _ h => h) (Or.inl ⟨by rfl, ?q5⟩) HS.out ?_
                case q5 => intro w hSw; have hneg : ¬ ((e1 : Int) < 0) := (by omega); have hq0 := HQ0.out; have hq := HQ.out; have s1 := (hSw.cell HLC.out).trans HC1.out; have s2 := conv_str (HFH.out.below hSw); rw [HSS.out] at s2; have hdd := HD.out; have hm1 := HQ1.out.1; have hm2 := HQ1.out.2; go_simp
                simp only [Act.put, List.getElem_toArray, List.getElem_cons_zero, List.getElem_cons_succ, List.setIfInBounds_toArray, List.set_cons_zero, List.set_cons_succ]
                refine wpAnyH_take (i := 6) (v := .bool false) rfl (by kernel_rfl) (by kernel_rfl) (by kernel_rfl) (fun _ _ _ h => h) (Or.inl ⟨by rfl, ?q6⟩) HS.out ?_
                case q6 => intro w hSw; have hneg : ¬ ((e1 : Int) < 0) := (by omega); have hq0 := HQ0.out; have hq := HQ.out; have s1 := (hSw.cell HLC.out).trans HC1.out; have s2 := conv_str (HFH.out.below hSw); rw [HSS.out] at s2; have hdd := HD.out; have hm1 := HQ1.out.1; have hm2 := HQ1.out.2; go_simp
                simp only [Act.put, List.getElem_toArray, List.getElem_cons_zero, List.getElem_cons_succ, List.setIfInBounds_toArray, List.set_cons_zero, List.set_cons_succ]
                refine wpAnyH_take (i := 7) (v := ?_) rfl (by kernel_rfl) (by kernel_rfl) (by kernel_rfl) (fun _ _ _ h => h) (Or.inl ⟨by rfl, ?q7⟩) HS.out ?_
                case q7 => intro w hSw; have hneg : ¬ ((e1 : Int) < 0) := (by omega); have hq0 := HQ0.out; have hq := HQ.out; have s1 := (hSw.cell HLC.out).trans HC1.out; have s2 := conv_str (HFH.out.below hSw); rw [HSS.out] at s2; have hdd := HD.out; have hm1 := HQ1.out.1; have hm2 := HQ1.out.2; go_simp; rfl
                simp only [Act.put, List.getElem_toArray, List.getElem_cons_zero, List.getElem_cons_succ, List.setIfInBounds_toArray, List.set_cons_zero, List.set_cons_succ]
                refine wpAnyH_take (i := 8) (v := ?_) rfl (by kernel_rfl) (by kernel_rfl) (by kernel_rfl) (fun _ _ _ h => h) (Or.inl ⟨by rfl, ?q8⟩) HS.out ?_
                case q8 => intro w hSw; have hneg : ¬ ((e1 : Int) < 0) := (by omega); have hq0 := HQ0.out; have hq := HQ.out; have s1 := (hSw.cell HLC.out).trans HC1.out; have s2 := conv_str (HFH.out.below hSw); rw [HSS.out] at s2; have hdd := HD.out; have hm1 := HQ1.out.1; have hm2 := HQ1.out.2; go_simp; rfl
                simp only [Act.put, List.getElem_toArray, List.getElem_cons_zero, List.getElem_cons_succ, List.setIfInBounds_toArray, List.set_cons_zero, List.set_cons_succ]
                refine wpAnyH_take (i := 9) (v := ?_) rfl (by kernel_rfl) (by kernel_rfl) (by kernel_rfl) (fun _ _ _ h => h) (Or.inl ⟨by rfl, ?q9⟩) HS.out ?_
                case q9 => intro w hSw; have hneg : ¬ ((e1 : Int) < 0) := (by omega); have hq0 := HQ0.out; have hq := HQ.out; have s1 := (hSw.cell HLC.out).trans HC1.out; have s2 := conv_str (HFH.out.below hSw); rw [HSS.out] at s2; have hdd := HD.out; have hm1 := HQ1.out.1; have hm2 := HQ1.out.2; go_simp; rfl
                simp only [Act.put, List.getElem_toArray, List.getElem_cons_zero, List.getElem_cons_succ, List.setIfInBounds_toArray, List.set_cons_zero, List.set_cons_succ]
                refine wpAnyH_take (i := 10) (v := .bool false) rfl (by kernel_rfl) (by kernel_rfl) (by kernel_rfl) (fun _ _ _ h => h) (Or.inl ⟨by rfl, ?q10⟩) HS.out ?_
                case q10 => intro w hSw; have hneg : ¬ ((e1 : Int) < 0) := (by omega); have hq0 := HQ0.out; have hq := HQ.out; have s1 := (hSw.cell HLC.out).trans HC1.out; have s2 := conv_str (HFH.out.below hSw); rw [HSS.out] at s2; have hdd := HD.out; have hm1 := HQ1.out.1; have hm2 := HQ1.out.2; go_simp
                simp only [Act.put, List.getElem_toArray, List.getElem_cons_zero, List.getElem_cons_succ, List.setIfInBounds_toArray, List.set_cons_zero, List.set_cons_succ]
                refine wpAnyH_take (i := 11) (v := .bool false) rfl (by kernel_rfl) (by kernel_rfl) (by kernel_rfl) (fun _ _ _ h => h) (Or.inl ⟨by rfl, ?q11⟩) HS.out ?_
                case q11 => intro w hSw; have hneg : ¬ ((e1 : Int) < 0) := (by omega); have hq0 := HQ0.out; have hq := HQ.out; have s1 := (hSw.cell HLC.out).trans HC1.out; have s2 := conv_str (HFH.out.below hSw); rw [HSS.out] at s2; have hdd := HD.out; have hm1 := HQ1.out.1; have hm2 := HQ1.out.2; go_simp
                simp only [Act.put, List.getElem_toArray, List.getElem_cons_zero, List.getElem_cons_succ, List.setIfInBounds_toArray, List.set_cons_zero, List.set_cons_succ]
                refine wpAnyH_take (i := 12) (v := ?_) rfl (by kernel_rfl) (by kernel_rfl) (by kernel_rfl) (fun _ _ _ h => h) (Or.inl ⟨by rfl, ?q12⟩) HS.out ?_
                case q12 => intro w hSw; have hneg : ¬ ((e1 : Int) < 0) := (by omega); have hq0 := HQ0.out; have hq := HQ.out; have s1 := (hSw.cell HLC.out).trans HC1.out; have s2 := conv_str (HFH.out.below hSw); rw [HSS.out] at s2; have hdd := HD.out; have hm1 := HQ1.out.1; have hm2 := HQ1.out.2; go_simp; rfl
                simp only [Act.put, List.getElem_toArray, List.getElem_cons_zero, List.getElem_cons_succ, List.setIfInBounds_toArray, List.set_cons_zero, List.set_cons_succ]
                refine wpAnyH_take (i := 13) (v := ?_) rfl (by kernel_rfl) (by kernel_rfl) (by kernel_rfl) (fun _ _ _ h => h) (Or.inl ⟨by rfl, ?q13⟩) HS.out ?_
                case q13 => intro w hSw; have hneg : ¬ ((e1 : Int) < 0) := (by omega); have hq0 := HQ0.out; have hq := HQ.out; have s1 := (hSw.cell HLC.out).trans HC1.out; have s2 := conv_str (HFH.out.below hSw); rw [HSS.out] at s2; have hdd := HD.out; have hm1 := HQ1.out.1; have hm2 := HQ1.out.2; go_simp; rfl
                simp only [Act.put, List.getElem_toArray, List.getElem_cons_zero, List.getElem_cons_succ, List.setIfInBounds_toArray, List.set_cons_zero, List.set_cons_succ]
                refine wpAnyH_take (i := 14) (v := ?_) rfl (by kernel_rfl) (by kernel_rfl) (by kernel_rfl) (fun _ _ _ h => h) (Or.inl ⟨by rfl, ?q14⟩) HS.out ?_
                case q14 => intro w hSw; have hneg : ¬ ((e1 : Int) < 0) := (by omega); have hq0 := HQ0.out; have hq := HQ.out; have s1 := (hSw.cell HLC.out).trans HC1.out; have s2 := conv_str (HFH.out.below hSw); rw [HSS.out] at s2; have hdd := HD.out; have hm1 := HQ1.out.1; have hm2 := HQ1.out.2; go_simp; rfl
                simp only [Act.put, List.getElem_toArray, List.getElem_cons_zero, List.getElem_cons_succ, List.setIfInBounds_toArray, List.set_cons_zero, List.set_cons_succ]
                refine wpAnyH_take (i := 15) (v := .bool true) rfl (by kernel_rfl) (by kernel_rfl) (by kernel_rfl) (fun _ _ _ h => h) (Or.inl ⟨by rfl, ?q15⟩) HS.out ?_
                case q15 => intro w hSw; have hneg : ¬ ((e1 : Int) < 0) := (by omega); have hq0 := HQ0.out; have hq := HQ.out; have s1 := (hSw.cell HLC.out).trans HC1.out; have s2 := conv_str (HFH.out.below hSw); rw [HSS.out] at s2; have hdd := HD.out; have hm1 := HQ1.out.1; have hm2 := HQ1.out.2; go_simp; omega
                simp only [Act.put, List.getElem_toArray, List.getElem_cons_zero, List.getElem_cons_succ, List.setIfInBounds_toArray, List.set_cons_zero, List.set_cons_succ]
                refine wpAnyH_take (i := 16) (v := ?_) rfl (by kernel_rfl) (by kernel_rfl) (by kernel_rfl) (fun _ _ _ h => h) (Or.inl ⟨by rfl, ?q16⟩) HS.out ?_
                case q16 => intro w hSw; have hneg : ¬ ((e1 : Int) < 0) := (by omega); have hq0 := HQ0.out; have hq := HQ.out; have s1 := (hSw.cell HLC.out).trans HC1.out; have s2 := conv_str (HFH.out.below hSw); rw [HSS.out] at s2; have hdd := HD.out; have hm1 := HQ1.out.1; have hm2 := HQ1.out.2; go_simp; rfl
                simp only [Act.put, List.getElem_toArray, List.getElem_cons_zero, List.getElem_cons_succ, List.setIfInBounds_toArray, List.set_cons_zero, List.set_cons_succ]
                refine wpAnyH_take (i := 17) (v := ?_) rfl (by kernel_rfl) (by kernel_rfl) (by kernel_rfl) (fun _ _ _ h => h) (Or.inl ⟨by rfl, ?q17⟩) HS.out ?_
                case q17 => intro w hSw; have hneg : ¬ ((e1 : Int) < 0) := (by omega); have hq0 := HQ0.out; have hq := HQ.out; have s1 := (hSw.cell HLC.out).trans HC1.out; have s2 := conv_str (HFH.out.below hSw); rw [HSS.out] at s2; have hdd := HD.out; have hm1 := HQ1.out.1; have hm2 := HQ1.out.2; go_simp; rfl
                simp only [Act.put, List.getElem_toArray, List.getElem_cons_zero, List.getElem_cons_succ, List.setIfInBounds_toArray, List.set_cons_zero, List.set_cons_succ]
                refine wpAnyH_take (i := 18) (v := .string S) rfl (by kernel_rfl) (by kernel_rfl) (by kernel_rfl) (fun _ _ _ h => h) (Or.inl ⟨by rfl, ?q18⟩) HS.out ?_
                case q18 => intro w hSw; have hneg : ¬ ((e1 : Int) < 0) := (by omega); have hq0 := HQ0.out; have hq := HQ.out; have s1 := (hSw.cell HLC.out).trans HC1.out; have s2 := conv_str (HFH.out.below hSw); rw [HSS.out] at s2; have hdd := HD.out; have hm1 := HQ1.out.1; have hm2 := HQ1.out.2; go_simp
                simp only [Act.put, List.getElem_toArray, List.getElem_cons_zero, List.getElem_cons_succ, List.setIfInBounds_toArray, List.set_cons_zero, List.set_cons_succ]
                refine wpAnyH_take (i := 19) (v := ?_) rfl (by kernel_rfl) (by kernel_rfl) (by kernel_rfl) (fun _ _ _ h => h) (Or.inl ⟨by rfl, ?q19⟩) HS.out ?_
                case q19 => intro w hSw; have hneg : ¬ ((e1 : Int) < 0) := (by omega); have hq0 := HQ0.out; have hq := HQ.out; have s1 := (hSw.cell HLC.out).trans HC1.out; have s2 := conv_str (HFH.out.below hSw); rw [HSS.out] at s2; have hdd := HD.out; have hm1 := HQ1.out.1; have hm2 := HQ1.out.2; go_simp; rfl
                simp only [Act.put, List.getElem_toArray, List.getElem_cons_zero, List.getElem_cons_succ, List.setIfInBounds_toArray, List.set_cons_zero, List.set_cons_succ]
                refine wpAnyH_take (i := 20) (v := ?_) rfl (by kernel_rfl) (by kernel_rfl) (by kernel_rfl) (fun _ _ _ h => h) (Or.inl ⟨by rfl, ?q20⟩) HS.out ?_
                case q20 => intro w hSw; have hneg : ¬ ((e1 : Int) < 0) := (by omega); have hq0 := HQ0.out; have hq := HQ.out; have s1 := (hSw.cell HLC.out).trans HC1.out; have s2 := conv_str (HFH.out.below hSw); rw [HSS.out] at s2; have hdd := HD.out; have hm1 := HQ1.out.1; have hm2 := HQ1.out.2; go_simp; rfl
                simp only [Act.put, List.getElem_toArray, List.getElem_cons_zero, List.getElem_cons_succ, List.setIfInBounds_toArray, List.set_cons_zero, List.set_cons_succ]
                refine wpAnyH_take (i := 21) (v := ?_) rfl (by kernel_rfl) (by kernel_rfl) (by kernel_rfl) (fun _ _ _ h => h) (Or.inl ⟨by rfl, ?q21⟩) HS.out ?_
                case q21 => intro w hSw; have hneg : ¬ ((e1 : Int) < 0) := (by omega); have hq0 := HQ0.out; have hq := HQ.out; have s1 := (hSw.cell HLC.out).trans HC1.out; have s2 := conv_str (HFH.out.below hSw); rw [HSS.out] at s2; have hdd := HD.out; have hm1 := HQ1.out.1; have hm2 := HQ1.out.2; go_simp; rfl
                simp only [Act.put, List.getElem_toArray, List.getElem_cons_zero, List.getElem_cons_succ, List.setIfInBounds_toArray, List.set_cons_zero, List.set_cons_succ]
                refine wpAnyH_take (i := 22) (v := .int .i64 ((m - 1 : Nat) : Int)) rfl (by kernel_rfl) (by kernel_rfl) (by kernel_rfl) (fun _ _ _ h => h) (Or.inl ⟨by rfl, ?q22⟩) HS.out ?_
                case q22 => intro w hSw; have hneg : ¬ ((e1 : Int) < 0) := (by omega); have hq0 := HQ0.out; have hq := HQ.out; have s1 := (hSw.cell HLC.out).trans HC1.out; have s2 := conv_str (HFH.out.below hSw); rw [HSS.out] at s2; have hdd := HD.out; have hm1 := HQ1.out.1; have hm2 := HQ1.out.2; go_simp; rw [IntKind.wrap_i64]; omega
                simp only [Act.put, List.getElem_toArray, List.getElem_cons_zero, List.getElem_cons_succ, List.setIfInBounds_toArray, List.set_cons_zero, List.set_cons_succ]
                refine wpAnyH_take (i := 23) (v := .pointer (some ⟨br, or + (m - 1) * 2, none⟩)) rfl (by kernel_rfl) (by kernel_rfl) (by kernel_rfl) (fun _ _ _ h => h) (Or.inl ⟨by rfl, ?q23⟩) HS.out ?_
                case q23 => intro w hSw; have hneg : ¬ ((e1 : Int) < 0) := (by omega); have hq0 := HQ0.out; have hq := HQ.out; have s1 := (hSw.cell HLC.out).trans HC1.out; have s2 := conv_str (HFH.out.below hSw); rw [HSS.out] at s2; have hdd := HD.out; have hm1 := HQ1.out.1; have hm2 := HQ1.out.2; go_simp; intro hq9; omega
                simp only [Act.put, List.getElem_toArray, List.getElem_cons_zero, List.getElem_cons_succ, List.setIfInBounds_toArray, List.set_cons_zero, List.set_cons_succ]
                refine wpAnyH_take (i := 24) (v := .pointer (some ⟨br, or + (m - 1) * 2, none⟩)) rfl (by kernel_rfl) (by kernel_rfl) (by kernel_rfl) (fun _ _ _ h => h) (Or.inl ⟨by rfl, ?q24⟩) HS.out ?_
                case q24 => intro w hSw; have hneg : ¬ ((e1 : Int) < 0) := (by omega); have hq0 := HQ0.out; have hq := HQ.out; have s1 := (hSw.cell HLC.out).trans HC1.out; have s2 := conv_str (HFH.out.below hSw); rw [HSS.out] at s2; have hdd := HD.out; have hm1 := HQ1.out.1; have hm2 := HQ1.out.2; go_simp
                simp only [Act.put, List.getElem_toArray, List.getElem_cons_zero, List.getElem_cons_succ, List.setIfInBounds_toArray, List.set_cons_zero, List.set_cons_succ]
                refine wpAnyH_take (i := 25) (v := .string last) rfl (by kernel_rfl) (by kernel_rfl) (by kernel_rfl) (fun _ _ _ h => h) (Or.inl ⟨by rfl, ?q25⟩) HS.out ?_
                case q25 => intro w hSw; have hneg : ¬ ((e1 : Int) < 0) := (by omega); have hq0 := HQ0.out; have hq := HQ.out; have s1 := (hSw.cell HLC.out).trans HC1.out; have s2 := conv_str (HFH.out.below hSw); rw [HSS.out] at s2; have hdd := HD.out; have hm1 := HQ1.out.1; have hm2 := HQ1.out.2; go_simp
                simp only [Act.put, List.getElem_toArray, List.getElem_cons_zero, List.getElem_cons_succ, List.setIfInBounds_toArray, List.set_cons_zero, List.set_cons_succ]
                refine wpAnyH_take (i := 26) (v := .bool true) rfl (by kernel_rfl) (by kernel_rfl) (by kernel_rfl) (fun _ _ _ h => h) (Or.inl ⟨by rfl, ?q26⟩) HS.out ?_
                case q26 => intro w hSw; have hneg : ¬ ((e1 : Int) < 0) := (by omega); have hq0 := HQ0.out; have hq := HQ.out; have s1 := (hSw.cell HLC.out).trans HC1.out; have s2 := conv_str (HFH.out.below hSw); rw [HSS.out] at s2; have hdd := HD.out; have hm1 := HQ1.out.1; have hm2 := HQ1.out.2; go_simp
                simp only [Act.put, List.getElem_toArray, List.getElem_cons_zero, List.getElem_cons_succ, List.setIfInBounds_toArray, List.set_cons_zero, List.set_cons_succ]
                refine wpAnyH_take (i := 27) (v := .bool true) rfl (by kernel_rfl) (by kernel_rfl) (by kernel_rfl) (fun _ _ _ h => h) (Or.inl ⟨by rfl, ?q27⟩) HS.out ?_
                case q27 => intro w hSw; have hneg : ¬ ((e1 : Int) < 0) := (by omega); have hq0 := HQ0.out; have hq := HQ.out; have s1 := (hSw.cell HLC.out).trans HC1.out; have s2 := conv_str (HFH.out.below hSw); rw [HSS.out] at s2; have hdd := HD.out; have hm1 := HQ1.out.1; have hm2 := HQ1.out.2; go_simp
                simp only [Act.put, List.getElem_toArray, List.getElem_cons_zero, List.getElem_cons_succ, List.setIfInBounds_toArray, List.set_cons_zero, List.set_cons_succ]
                refine wpAnyH_take (i := 28) (v := .bool true) rfl (by kernel_rfl) (by kernel_rfl) (by kernel_rfl) (fun _ _ _ h => h) (Or.inl ⟨by rfl, ?q28⟩) HS.out ?_
                case q28 => intro w hSw; have hneg : ¬ ((e1 : Int) < 0) := (by omega); have hq0 := HQ0.out; have hq := HQ.out; have s1 := (hSw.cell HLC.out).trans HC1.out; have s2 := conv_str (HFH.out.below hSw); rw [HSS.out] at s2; have hdd := HD.out; have hm1 := HQ1.out.1; have hm2 := HQ1.out.2; go_simp
                simp only [Act.put, List.getElem_toArray, List.getElem_cons_zero, List.getElem_cons_succ, List.setIfInBounds_toArray, List.set_cons_zero, List.set_cons_succ]
                refine wpAnyH_done (by kernel_rfl) ?_ _
                go_wp2
                go_ret3
                exact ⟨_, [], [], k, 131, rfl, HNO.out, RwO.nil _ _, B1.out.drew⟩
              | false =>
                have HLE : Hid (leS S (lastN noS rs) = false) := by rw [HL.out]; exact HD.out
                go_wp2
                refine wp_region_held_drew (S := Below w1.heap.size w1) (by kernel_rfl) (Below.refl _ _).drew (fun hHeld => ?_)
                have HS := hid hHeld
                clear hHeld
                change wpAnyH _ _ _ _ _ _ _ _ (World.drew _)
                refine wpAnyH_take (i := 0) (v := ?_) rfl (by kernel_rfl) (by kernel_rfl) (by kernel_rfl) (fun _ _ _ h => h) (Or.inl ⟨by rfl, ?q0⟩) HS.out ?_
                case q0 => intro w hSw; have hneg : ¬ ((e1 : Int) < 0) := (by omega); have hq0 := HQ0.out; have hq := HQ.out; have s1 := (hSw.cell HLC.out).trans HC1.out; have s2 := conv_str (HFH.out.below hSw); rw [HSS.out] at s2; have hdd := HD.out; have hm1 := HQ1.out.1; have hm2 := HQ1.out.2; go_simp; rfl
                simp only [Act.put, List.getElem_toArray, List.getElem_cons_zero, List.getElem_cons_succ, List.setIfInBounds_toArray, List.set_cons_zero, List.set_cons_succ]
                refine wpAnyH_take (i := 1) (v := .bool false) rfl (by kernel_rfl) (by kernel_rfl) (by kernel_rfl) (fun _ _ _ h => h) (Or.inl ⟨by rfl, ?q1⟩) HS.out ?_
                case q1 => intro w hSw; have hneg : ¬ ((e1 : Int) < 0) := (by omega); have hq0 := HQ0.out; have hq := HQ.out; have s1 := (hSw.cell HLC.out).trans HC1.out; have s2 := conv_str (HFH.out.below hSw); rw [HSS.out] at s2; have hdd := HD.out; have hm1 := HQ1.out.1; have hm2 := HQ1.out.2; go_simp
                simp only [Act.put, List.getElem_toArray, List.getElem_cons_zero, List.getElem_cons_succ, List.setIfInBounds_toArray, List.set_cons_zero, List.set_cons_succ]
                refine wpAnyH_take (i := 2) (v := ?_) rfl (by kernel_rfl) (by kernel_rfl) (by kernel_rfl) (fun _ _ _ h => h) (Or.inl ⟨by rfl, ?q2⟩) HS.out ?_
                case q2 => intro w hSw; have hneg : ¬ ((e1 : Int) < 0) := (by omega); have hq0 := HQ0.out; have hq := HQ.out; have s1 := (hSw.cell HLC.out).trans HC1.out; have s2 := conv_str (HFH.out.below hSw); rw [HSS.out] at s2; have hdd := HD.out; have hm1 := HQ1.out.1; have hm2 := HQ1.out.2; go_simp; rfl
                simp only [Act.put, List.getElem_toArray, List.getElem_cons_zero, List.getElem_cons_succ, List.setIfInBounds_toArray, List.set_cons_zero, List.set_cons_succ]
                refine wpAnyH_take (i := 3) (v := ?_) rfl (by kernel_rfl) (by kernel_rfl) (by kernel_rfl) (fun _ _ _ h => h) (Or.inl ⟨by rfl, ?q3⟩) HS.out ?_
                case q3 => intro w hSw; have hneg : ¬ ((e1 : Int) < 0) := (by omega); have hq0 := HQ0.out; have hq := HQ.out; have s1 := (hSw.cell HLC.out).trans HC1.out; have s2 := conv_str (HFH.out.below hSw); rw [HSS.out] at s2; have hdd := HD.out; have hm1 := HQ1.out.1; have hm2 := HQ1.out.2; go_simp; rfl
                simp only [Act.put, List.getElem_toArray, List.getElem_cons_zero, List.getElem_cons_succ, List.setIfInBounds_toArray, List.set_cons_zero, List.set_cons_succ]
                refine wpAnyH_take (i := 4) (v := ?_) rfl (by kernel_rfl) (by kernel_rfl) (by kernel_rfl) (fun _ _ _ h => h) (Or.inl ⟨by rfl, ?q4⟩) HS.out ?_
                case q4 => intro w hSw; have hneg : ¬ ((e1 : Int) < 0) := (by omega); have hq0 := HQ0.out; have hq := HQ.out; have s1 := (hSw.cell HLC.out).trans HC1.out; have s2 := conv_str (HFH.out.below hSw); rw [HSS.out] at s2; have hdd := HD.out; have hm1 := HQ1.out.1; have hm2 := HQ1.out.2; go_simp; rfl
                simp only [Act.put, List.getElem_toArray, List.getElem_cons_zero, List.getElem_cons_succ, List.setIfInBounds_toArray, List.set_cons_zero, List.set_cons_succ]
                refine wpAnyH_take (i := 5) (v := .bool false) rfl (by kernel_rfl) (by kernel_rfl) (by kernel_rfl) (fun _ _ _ h => h) (Or.inl ⟨by rfl, ?q5⟩) HS.out ?_
                case q5 => intro w hSw; have hneg : ¬ ((e1 : Int) < 0) := (by omega); have hq0 := HQ0.out; have hq := HQ.out; have s1 := (hSw.cell HLC.out).trans HC1.out; have s2 := conv_str (HFH.out.below hSw); rw [HSS.out] at s2; have hdd := HD.out; have hm1 := HQ1.out.1; have hm2 := HQ1.out.2; go_simp
                simp only [Act.put, List.getElem_toArray, List.getElem_cons_zero, List.getElem_cons_succ, List.setIfInBounds_toArray, List.set_cons_zero, List.set_cons_succ]
                refine wpAnyH_take (i := 6) (v := .bool false) rfl (by kernel_rfl) (by kernel_rfl) (by kernel_rfl) (fun _ _ _ h => h) (Or.inl ⟨by rfl, ?q6⟩) HS.out ?_
                case q6 => intro w hSw; have hneg : ¬ ((e1 : Int) < 0) := (by omega); have hq0 := HQ0.out; have hq := HQ.out; have s1 := (hSw.cell HLC.out).trans HC1.out; have s2 := conv_str (HFH.out.below hSw); rw [HSS.out] at s2; have hdd := HD.out; have hm1 := HQ1.out.1; have hm2 := HQ1.out.2; go_simp
                simp only [Act.put, List.getElem_toArray, List.getElem_cons_zero, List.getElem_cons_succ, List.setIfInBounds_toArray, List.set_cons_zero, List.set_cons_succ]
                refine wpAnyH_take (i := 7) (v := ?_) rfl (by kernel_rfl) (by kernel_rfl) (by kernel_rfl) (fun _ _ _ h => h) (Or.inl ⟨by rfl, ?q7⟩) HS.out ?_
                case q7 => intro w hSw; have hneg : ¬ ((e1 : Int) < 0) := (by omega); have hq0 := HQ0.out; have hq := HQ.out; have s1 := (hSw.cell HLC.out).trans HC1.out; have s2 := conv_str (HFH.out.below hSw); rw [HSS.out] at s2; have hdd := HD.out; have hm1 := HQ1.out.1; have hm2 := HQ1.out.2; go_simp; rfl
                simp only [Act.put, List.getElem_toArray, List.getElem_cons_zero, List.getElem_cons_succ, List.setIfInBounds_toArray, List.set_cons_zero, List.set_cons_succ]
                refine wpAnyH_take (i := 8) (v := ?_) rfl (by kernel_rfl) (by kernel_rfl) (by kernel_rfl) (fun _ _ _ h => h) (Or.inl ⟨by rfl, ?q8⟩) HS.out ?_
                case q8 => intro w hSw; have hneg : ¬ ((e1 : Int) < 0) := (by omega); have hq0 := HQ0.out; have hq := HQ.out; have s1 := (hSw.cell HLC.out).trans HC1.out; have s2 := conv_str (HFH.out.below hSw); rw [HSS.out] at s2; have hdd := HD.out; have hm1 := HQ1.out.1; have hm2 := HQ1.out.2; go_simp; rfl
                simp only [Act.put, List.getElem_toArray, List.getElem_cons_zero, List.getElem_cons_succ, List.setIfInBounds_toArray, List.set_cons_zero, List.set_cons_succ]
                refine wpAnyH_take (i := 9) (v := ?_) rfl (by kernel_rfl) (by kernel_rfl) (by kernel_rfl) (fun _ _ _ h => h) (Or.inl ⟨by rfl, ?q9⟩) HS.out ?_
                case q9 => intro w hSw; have hneg : ¬ ((e1 : Int) < 0) := (by omega); have hq0 := HQ0.out; have hq := HQ.out; have s1 := (hSw.cell HLC.out).trans HC1.out; have s2 := conv_str (HFH.out.below hSw); rw [HSS.out] at s2; have hdd := HD.out; have hm1 := HQ1.out.1; have hm2 := HQ1.out.2; go_simp; rfl
                simp only [Act.put, List.getElem_toArray, List.getElem_cons_zero, List.getElem_cons_succ, List.setIfInBounds_toArray, List.set_cons_zero, List.set_cons_succ]
                refine wpAnyH_take (i := 10) (v := .bool false) rfl (by kernel_rfl) (by kernel_rfl) (by kernel_rfl) (fun _ _ _ h => h) (Or.inl ⟨by rfl, ?q10⟩) HS.out ?_
                case q10 => intro w hSw; have hneg : ¬ ((e1 : Int) < 0) := (by omega); have hq0 := HQ0.out; have hq := HQ.out; have s1 := (hSw.cell HLC.out).trans HC1.out; have s2 := conv_str (HFH.out.below hSw); rw [HSS.out] at s2; have hdd := HD.out; have hm1 := HQ1.out.1; have hm2 := HQ1.out.2; go_simp
                simp only [Act.put, List.getElem_toArray, List.getElem_cons_zero, List.getElem_cons_succ, List.setIfInBounds_toArray, List.set_cons_zero, List.set_cons_succ]
                refine wpAnyH_take (i := 11) (v := .bool false) rfl (by kernel_rfl) (by kernel_rfl) (by kernel_rfl) (fun _ _ _ h => h) (Or.inl ⟨by rfl, ?q11⟩) HS.out ?_
                case q11 => intro w hSw; have hneg : ¬ ((e1 : Int) < 0) := (by omega); have hq0 := HQ0.out; have hq := HQ.out; have s1 := (hSw.cell HLC.out).trans HC1.out; have s2 := conv_str (HFH.out.below hSw); rw [HSS.out] at s2; have hdd := HD.out; have hm1 := HQ1.out.1; have hm2 := HQ1.out.2; go_simp
                simp only [Act.put, List.getElem_toArray, List.getElem_cons_zero, List.getElem_cons_succ, List.setIfInBounds_toArray, List.set_cons_zero, List.set_cons_succ]
                refine wpAnyH_take (i := 12) (v := ?_) rfl (by kernel_rfl) (by kernel_rfl) (by kernel_rfl) (fun _ _ _ h => h) (Or.inl ⟨by rfl, ?q12⟩) HS.out ?_
                case q12 => intro w hSw; have hneg : ¬ ((e1 : Int) < 0) := (by omega); have hq0 := HQ0.out; have hq := HQ.out; have s1 := (hSw.cell HLC.out).trans HC1.out; have s2 := conv_str (HFH.out.below hSw); rw [HSS.out] at s2; have hdd := HD.out; have hm1 := HQ1.out.1; have hm2 := HQ1.out.2; go_simp; rfl
                simp only [Act.put, List.getElem_toArray, List.getElem_cons_zero, List.getElem_cons_succ, List.setIfInBounds_toArray, List.set_cons_zero, List.set_cons_succ]
                refine wpAnyH_take (i := 13) (v := ?_) rfl (by kernel_rfl) (by kernel_rfl) (by kernel_rfl) (fun _ _ _ h => h) (Or.inl ⟨by rfl, ?q13⟩) HS.out ?_
                case q13 => intro w hSw; have hneg : ¬ ((e1 : Int) < 0) := (by omega); have hq0 := HQ0.out; have hq := HQ.out; have s1 := (hSw.cell HLC.out).trans HC1.out; have s2 := conv_str (HFH.out.below hSw); rw [HSS.out] at s2; have hdd := HD.out; have hm1 := HQ1.out.1; have hm2 := HQ1.out.2; go_simp; rfl
                simp only [Act.put, List.getElem_toArray, List.getElem_cons_zero, List.getElem_cons_succ, List.setIfInBounds_toArray, List.set_cons_zero, List.set_cons_succ]
                refine wpAnyH_take (i := 14) (v := ?_) rfl (by kernel_rfl) (by kernel_rfl) (by kernel_rfl) (fun _ _ _ h => h) (Or.inl ⟨by rfl, ?q14⟩) HS.out ?_
                case q14 => intro w hSw; have hneg : ¬ ((e1 : Int) < 0) := (by omega); have hq0 := HQ0.out; have hq := HQ.out; have s1 := (hSw.cell HLC.out).trans HC1.out; have s2 := conv_str (HFH.out.below hSw); rw [HSS.out] at s2; have hdd := HD.out; have hm1 := HQ1.out.1; have hm2 := HQ1.out.2; go_simp; rfl
                simp only [Act.put, List.getElem_toArray, List.getElem_cons_zero, List.getElem_cons_succ, List.setIfInBounds_toArray, List.set_cons_zero, List.set_cons_succ]
                refine wpAnyH_take (i := 15) (v := .bool true) rfl (by kernel_rfl) (by kernel_rfl) (by kernel_rfl) (fun _ _ _ h => h) (Or.inl ⟨by rfl, ?q15⟩) HS.out ?_
                case q15 => intro w hSw; have hneg : ¬ ((e1 : Int) < 0) := (by omega); have hq0 := HQ0.out; have hq := HQ.out; have s1 := (hSw.cell HLC.out).trans HC1.out; have s2 := conv_str (HFH.out.below hSw); rw [HSS.out] at s2; have hdd := HD.out; have hm1 := HQ1.out.1; have hm2 := HQ1.out.2; go_simp; omega
                simp only [Act.put, List.getElem_toArray, List.getElem_cons_zero, List.getElem_cons_succ, List.setIfInBounds_toArray, List.set_cons_zero, List.set_cons_succ]
                refine wpAnyH_take (i := 16) (v := ?_) rfl (by kernel_rfl) (by kernel_rfl) (by kernel_rfl) (fun _ _ _ h => h) (Or.inl ⟨by rfl, ?q16⟩) HS.out ?_
                case q16 => intro w hSw; have hneg : ¬ ((e1 : Int) < 0) := (by omega); have hq0 := HQ0.out; have hq := HQ.out; have s1 := (hSw.cell HLC.out).trans HC1.out; have s2 := conv_str (HFH.out.below hSw); rw [HSS.out] at s2; have hdd := HD.out; have hm1 := HQ1.out.1; have hm2 := HQ1.out.2; go_simp; rfl
                simp only [Act.put, List.getElem_toArray, List.getElem_cons_zero, List.getElem_cons_succ, List.setIfInBounds_toArray, List.set_cons_zero, List.set_cons_succ]
                refine wpAnyH_take (i := 17) (v := ?_) rfl (by kernel_rfl) (by kernel_rfl) (by kernel_rfl) (fun _ _ _ h => h) (Or.inl ⟨by rfl, ?q17⟩) HS.out ?_
                case q17 => intro w hSw; have hneg : ¬ ((e1 : Int) < 0) := (by omega); have hq0 := HQ0.out; have hq := HQ.out; have s1 := (hSw.cell HLC.out).trans HC1.out; have s2 := conv_str (HFH.out.below hSw); rw [HSS.out] at s2; have hdd := HD.out; have hm1 := HQ1.out.1; have hm2 := HQ1.out.2; go_simp; rfl
                simp only [Act.put, List.getElem_toArray, List.getElem_cons_zero, List.getElem_cons_succ, List.setIfInBounds_toArray, List.set_cons_zero, List.set_cons_succ]
                refine wpAnyH_take (i := 18) (v := .string S) rfl (by kernel_rfl) (by kernel_rfl) (by kernel_rfl) (fun _ _ _ h => h) (Or.inl ⟨by rfl, ?q18⟩) HS.out ?_
                case q18 => intro w hSw; have hneg : ¬ ((e1 : Int) < 0) := (by omega); have hq0 := HQ0.out; have hq := HQ.out; have s1 := (hSw.cell HLC.out).trans HC1.out; have s2 := conv_str (HFH.out.below hSw); rw [HSS.out] at s2; have hdd := HD.out; have hm1 := HQ1.out.1; have hm2 := HQ1.out.2; go_simp
                simp only [Act.put, List.getElem_toArray, List.getElem_cons_zero, List.getElem_cons_succ, List.setIfInBounds_toArray, List.set_cons_zero, List.set_cons_succ]
                refine wpAnyH_take (i := 19) (v := ?_) rfl (by kernel_rfl) (by kernel_rfl) (by kernel_rfl) (fun _ _ _ h => h) (Or.inl ⟨by rfl, ?q19⟩) HS.out ?_
                case q19 => intro w hSw; have hneg : ¬ ((e1 : Int) < 0) := (by omega); have hq0 := HQ0.out; have hq := HQ.out; have s1 := (hSw.cell HLC.out).trans HC1.out; have s2 := conv_str (HFH.out.below hSw); rw [HSS.out] at s2; have hdd := HD.out; have hm1 := HQ1.out.1; have hm2 := HQ1.out.2; go_simp; rfl
                simp only [Act.put, List.getElem_toArray, List.getElem_cons_zero, List.getElem_cons_succ, List.setIfInBounds_toArray, List.set_cons_zero, List.set_cons_succ]
                refine wpAnyH_take (i := 20) (v := ?_) rfl (by kernel_rfl) (by kernel_rfl) (by kernel_rfl) (fun _ _ _ h => h) (Or.inl ⟨by rfl, ?q20⟩) HS.out ?_
                case q20 => intro w hSw; have hneg : ¬ ((e1 : Int) < 0) := (by omega); have hq0 := HQ0.out; have hq := HQ.out; have s1 := (hSw.cell HLC.out).trans HC1.out; have s2 := conv_str (HFH.out.below hSw); rw [HSS.out] at s2; have hdd := HD.out; have hm1 := HQ1.out.1; have hm2 := HQ1.out.2; go_simp; rfl
                simp only [Act.put, List.getElem_toArray, List.getElem_cons_zero, List.getElem_cons_succ, List.setIfInBounds_toArray, List.set_cons_zero, List.set_cons_succ]
                refine wpAnyH_take (i := 21) (v := ?_) rfl (by kernel_rfl) (by kernel_rfl) (by kernel_rfl) (fun _ _ _ h => h) (Or.inl ⟨by rfl, ?q21⟩) HS.out ?_
                case q21 => intro w hSw; have hneg : ¬ ((e1 : Int) < 0) := (by omega); have hq0 := HQ0.out; have hq := HQ.out; have s1 := (hSw.cell HLC.out).trans HC1.out; have s2 := conv_str (HFH.out.below hSw); rw [HSS.out] at s2; have hdd := HD.out; have hm1 := HQ1.out.1; have hm2 := HQ1.out.2; go_simp; rfl
                simp only [Act.put, List.getElem_toArray, List.getElem_cons_zero, List.getElem_cons_succ, List.setIfInBounds_toArray, List.set_cons_zero, List.set_cons_succ]
                refine wpAnyH_take (i := 22) (v := .int .i64 ((m - 1 : Nat) : Int)) rfl (by kernel_rfl) (by kernel_rfl) (by kernel_rfl) (fun _ _ _ h => h) (Or.inl ⟨by rfl, ?q22⟩) HS.out ?_
                case q22 => intro w hSw; have hneg : ¬ ((e1 : Int) < 0) := (by omega); have hq0 := HQ0.out; have hq := HQ.out; have s1 := (hSw.cell HLC.out).trans HC1.out; have s2 := conv_str (HFH.out.below hSw); rw [HSS.out] at s2; have hdd := HD.out; have hm1 := HQ1.out.1; have hm2 := HQ1.out.2; go_simp; rw [IntKind.wrap_i64]; omega
                simp only [Act.put, List.getElem_toArray, List.getElem_cons_zero, List.getElem_cons_succ, List.setIfInBounds_toArray, List.set_cons_zero, List.set_cons_succ]
                refine wpAnyH_take (i := 23) (v := .pointer (some ⟨br, or + (m - 1) * 2, none⟩)) rfl (by kernel_rfl) (by kernel_rfl) (by kernel_rfl) (fun _ _ _ h => h) (Or.inl ⟨by rfl, ?q23⟩) HS.out ?_
                case q23 => intro w hSw; have hneg : ¬ ((e1 : Int) < 0) := (by omega); have hq0 := HQ0.out; have hq := HQ.out; have s1 := (hSw.cell HLC.out).trans HC1.out; have s2 := conv_str (HFH.out.below hSw); rw [HSS.out] at s2; have hdd := HD.out; have hm1 := HQ1.out.1; have hm2 := HQ1.out.2; go_simp; intro hq9; omega
                simp only [Act.put, List.getElem_toArray, List.getElem_cons_zero, List.getElem_cons_succ, List.setIfInBounds_toArray, List.set_cons_zero, List.set_cons_succ]
                refine wpAnyH_take (i := 24) (v := .pointer (some ⟨br, or + (m - 1) * 2, none⟩)) rfl (by kernel_rfl) (by kernel_rfl) (by kernel_rfl) (fun _ _ _ h => h) (Or.inl ⟨by rfl, ?q24⟩) HS.out ?_
                case q24 => intro w hSw; have hneg : ¬ ((e1 : Int) < 0) := (by omega); have hq0 := HQ0.out; have hq := HQ.out; have s1 := (hSw.cell HLC.out).trans HC1.out; have s2 := conv_str (HFH.out.below hSw); rw [HSS.out] at s2; have hdd := HD.out; have hm1 := HQ1.out.1; have hm2 := HQ1.out.2; go_simp
                simp only [Act.put, List.getElem_toArray, List.getElem_cons_zero, List.getElem_cons_succ, List.setIfInBounds_toArray, List.set_cons_zero, List.set_cons_succ]
                refine wpAnyH_take (i := 25) (v := .string last) rfl (by kernel_rfl) (by kernel_rfl) (by kernel_rfl) (fun _ _ _ h => h) (Or.inl ⟨by rfl, ?q25⟩) HS.out ?_
                case q25 => intro w hSw; have hneg : ¬ ((e1 : Int) < 0) := (by omega); have hq0 := HQ0.out; have hq := HQ.out; have s1 := (hSw.cell HLC.out).trans HC1.out; have s2 := conv_str (HFH.out.below hSw); rw [HSS.out] at s2; have hdd := HD.out; have hm1 := HQ1.out.1; have hm2 := HQ1.out.2; go_simp
                simp only [Act.put, List.getElem_toArray, List.getElem_cons_zero, List.getElem_cons_succ, List.setIfInBounds_toArray, List.set_cons_zero, List.set_cons_succ]
                refine wpAnyH_take (i := 26) (v := .bool false) rfl (by kernel_rfl) (by kernel_rfl) (by kernel_rfl) (fun _ _ _ h => h) (Or.inl ⟨by rfl, ?q26⟩) HS.out ?_
                case q26 => intro w hSw; have hneg : ¬ ((e1 : Int) < 0) := (by omega); have hq0 := HQ0.out; have hq := HQ.out; have s1 := (hSw.cell HLC.out).trans HC1.out; have s2 := conv_str (HFH.out.below hSw); rw [HSS.out] at s2; have hdd := HD.out; have hm1 := HQ1.out.1; have hm2 := HQ1.out.2; go_simp
                simp only [Act.put, List.getElem_toArray, List.getElem_cons_zero, List.getElem_cons_succ, List.setIfInBounds_toArray, List.set_cons_zero, List.set_cons_succ]
                refine wpAnyH_take (i := 27) (v := .bool false) rfl (by kernel_rfl) (by kernel_rfl) (by kernel_rfl) (fun _ _ _ h => h) (Or.inl ⟨by rfl, ?q27⟩) HS.out ?_
                case q27 => intro w hSw; have hneg : ¬ ((e1 : Int) < 0) := (by omega); have hq0 := HQ0.out; have hq := HQ.out; have s1 := (hSw.cell HLC.out).trans HC1.out; have s2 := conv_str (HFH.out.below hSw); rw [HSS.out] at s2; have hdd := HD.out; have hm1 := HQ1.out.1; have hm2 := HQ1.out.2; go_simp
                simp only [Act.put, List.getElem_toArray, List.getElem_cons_zero, List.getElem_cons_succ, List.setIfInBounds_toArray, List.set_cons_zero, List.set_cons_succ]
                refine wpAnyH_take (i := 28) (v := .bool false) rfl (by kernel_rfl) (by kernel_rfl) (by kernel_rfl) (fun _ _ _ h => h) (Or.inl ⟨by rfl, ?q28⟩) HS.out ?_
                case q28 => intro w hSw; have hneg : ¬ ((e1 : Int) < 0) := (by omega); have hq0 := HQ0.out; have hq := HQ.out; have s1 := (hSw.cell HLC.out).trans HC1.out; have s2 := conv_str (HFH.out.below hSw); rw [HSS.out] at s2; have hdd := HD.out; have hm1 := HQ1.out.1; have hm2 := HQ1.out.2; go_simp
                simp only [Act.put, List.getElem_toArray, List.getElem_cons_zero, List.getElem_cons_succ, List.setIfInBounds_toArray, List.set_cons_zero, List.set_cons_succ]
                refine wpAnyH_done (by kernel_rfl) ?_ _
                have C2 := rpiece_any (World.drew w1) b off c l e1 65536 ((HH.out.below B1.out).below ((Below.refl _ _).drew)) (by have := HN.out; omega) (by omega) (HK.out.below B1.out.drew)
                rw [HN.out] at C2
                have C2 := hid C2
                go_wp2_with fail
                refine C2.out.mono ?_
                rintro e w2 ⟨vg, ny, rfl, hq2, hb2⟩
                have B2 := hid (B1.out.drew.trans (hb2.mono B1.out.size))
                have hs2 : w1.heap.size ≤ w2.heap.size := hb2.size
                have hb12 : Below w1.heap.size w1 w2 := ((Below.refl _ w1).drew).trans hb2
                have HFH2 := hid (HFH.out.below hb12)
                have HO2 := hid (HO.out.below (B01.out.trans (hb12.mono B01.out.size)))
                have B02 := hid (B01.out.trans (hb12.mono B01.out.size))
                clear hb2 C2 hb12
                rcases hq2 with ⟨g, x, hg1, hg2, rfl, hgb, hgo⟩ | ⟨rfl, rfl, hno⟩
                · obtain ⟨pg, cg, rfl⟩ := own_slc hgo
                  have HGO : Hid (w2.ownsRow wr.heap.size 5 1 (.slice pg g.length cg) g.length (g.map (Value.int .u8))) := own_mono hgo (show wr.heap.size ≤ w1.heap.size by omega)
                  have hx : x = l.drop (e1 + (fld g).length) := by rw [← List.drop_drop, hg1]; simp
                  subst hx
                  have hnl2 : e1 + (fld g).length ≤ n := by
                    have := congrArg List.length hg1
                    rw [List.length_append, List.length_drop, List.length_drop, HN.out] at this
                    omega
                  obtain ⟨e2, HE2⟩ : ∃ x, Hid (e1 + (fld g).length = x) := ⟨_, rfl⟩
                  rw [HE2.out] at hg1 hnl2
                  rw [HE2.out]
                  have hd : l.drop k = rowL (S, g) ++ l.drop e2 := by
                    rw [HF1.out, hg1]
                    unfold rowL
                    rw [← HSS.out, sB_bS hfb, List.append_assoc]
                  have hken : k < e2 := drop_lt (by have := HN.out; omega) (row_len (S, g)) (by have := HN.out; omega) hd
                  have HDD := hid hd
                  have HGB := hid hgb
                  have qcv := conv_str HFH2.out
                  rw [HSS.out] at qcv
                  have HOW : Hid (w2.ownsRow w.heap.size 39 2 (.slice (some ⟨br, or, none⟩) m cr) m (rcs rs vs)) := by
                    refine hid ?_
                    have := HO2.out.1
                    rw [HMm.out] at this
                    exact this
                  clear hgo hg1 hd hgb
                  go_wp2_with (at_builtin; refine wpList_append_rw rfl _ _ rfl w.heap.size _ m _ rfl (HOW.out.alloc _) w2.heap.size 1 S (.slice pg g.length cg) rfl rfl (by simp) (by simp) ?q1 ?q2 ?_)
                  case q1 => omega
                  case q2 => simp; omega
                  intro v4 w4 hown4 hg4 hp4
                  have HR : Hid (RuI w l n v4 e2 w4) := by
                    rw [← HMm.out] at hown4
                    refine hid ⟨rs ++ [(S, g)], vs ++ [.slice pg g.length cg], HO.out.push B02.out HGO.out HGB.out (by omega) hown4 hg4 ?_, by omega, ?_, ?_, ?_⟩
                    · rcases hp4 with e | e
                      · exact Or.inl e
                      · exact Or.inr (by rw [e]; simp)
                    · rw [packL_snoc, HP.out]
                      exact take_ext HDD.out
                    · have h1 := HM.out
                      refine ⟨by rw [List.length_append, List.length_singleton, HMm.out]; have := H64.out; omega, ?_⟩
                      rw [okRows_snoc]
                      exact ⟨h1.2, HLE.out, by show S.size ≤ 64; rw [← HSS.out, bS_size]; omega, hg2⟩
                    · exact (B2.out.alloc (by omega) _).grown hg4 (by simp; omega) (fun q e => (HOW.out.lt q e).1)
                  clear hown4 hg4 hp4
                  go_wp2
                  exact ⟨⟨e2, by go_num, HR⟩, by simp [intOf]; omega⟩
                · have HNO := hid (unp_err HP.out HM.out (by have := HN.out; omega) (no_value HF1.out hno))
                  clear hno
                  go_wp2
                  go_ret3
                  exact ⟨_, [], [], k, 131, rfl, HNO.out, RwO.nil _ _, B2.out⟩
            · have hmz : m = 0 := by omega
              subst hmz
              have hrs : rs = [] := List.length_eq_zero_iff.1 HMm.out
              have HLE : Hid (leS S (lastN noS rs) = false) := by
                refine hid ?_
                rw [hrs]
                refine leS_some ?_
                rw [← HSS.out, hsz]
                have := HF0.out
                omega
              have HQ1 : Hid (¬ ((0 : Int) < ((0 : Nat) : Int))) := hid hm0
              clear hm0 hrs
              go_wp2
              refine wp_region_held_drew (S := Below w1.heap.size w1) (by kernel_rfl) (Below.refl _ _).drew (fun hHeld => ?_)
              have HS := hid hHeld
              clear hHeld
              change wpAnyH _ _ _ _ _ _ _ _ (World.drew _)
              refine wpAnyH_take (i := 0) (v := ?_) rfl (by kernel_rfl) (by kernel_rfl) (by kernel_rfl) (fun _ _ _ h => h) (Or.inl ⟨by rfl, ?q0⟩) HS.out ?_
              case q0 => intro w hSw; have hneg : ¬ ((e1 : Int) < 0) := (by omega); have hq0 := HQ0.out; have hq := HQ.out; have hq1 := HQ1.out; go_simp; rfl
              simp only [Act.put, List.getElem_toArray, List.getElem_cons_zero, List.getElem_cons_succ, List.setIfInBounds_toArray, List.set_cons_zero, List.set_cons_succ]
              refine wpAnyH_take (i := 1) (v := .bool false) rfl (by kernel_rfl) (by kernel_rfl) (by kernel_rfl) (fun _ _ _ h => h) (Or.inl ⟨by rfl, ?q1⟩) HS.out ?_
              case q1 => intro w hSw; have hneg : ¬ ((e1 : Int) < 0) := (by omega); have hq0 := HQ0.out; have hq := HQ.out; have hq1 := HQ1.out; go_simp
              simp only [Act.put, List.getElem_toArray, List.getElem_cons_zero, List.getElem_cons_succ, List.setIfInBounds_toArray, List.set_cons_zero, List.set_cons_succ]
              refine wpAnyH_take (i := 2) (v := ?_) rfl (by kernel_rfl) (by kernel_rfl) (by kernel_rfl) (fun _ _ _ h => h) (Or.inl ⟨by rfl, ?q2⟩) HS.out ?_
              case q2 => intro w hSw; have hneg : ¬ ((e1 : Int) < 0) := (by omega); have hq0 := HQ0.out; have hq := HQ.out; have hq1 := HQ1.out; go_simp; rfl
              simp only [Act.put, List.getElem_toArray, List.getElem_cons_zero, List.getElem_cons_succ, List.setIfInBounds_toArray, List.set_cons_zero, List.set_cons_succ]
              refine wpAnyH_take (i := 3) (v := ?_) rfl (by kernel_rfl) (by kernel_rfl) (by kernel_rfl) (fun _ _ _ h => h) (Or.inl ⟨by rfl, ?q3⟩) HS.out ?_
              case q3 => intro w hSw; have hneg : ¬ ((e1 : Int) < 0) := (by omega); have hq0 := HQ0.out; have hq := HQ.out; have hq1 := HQ1.out; go_simp; rfl
              simp only [Act.put, List.getElem_toArray, List.getElem_cons_zero, List.getElem_cons_succ, List.setIfInBounds_toArray, List.set_cons_zero, List.set_cons_succ]
              refine wpAnyH_take (i := 4) (v := ?_) rfl (by kernel_rfl) (by kernel_rfl) (by kernel_rfl) (fun _ _ _ h => h) (Or.inl ⟨by rfl, ?q4⟩) HS.out ?_
              case q4 => intro w hSw; have hneg : ¬ ((e1 : Int) < 0) := (by omega); have hq0 := HQ0.out; have hq := HQ.out; have hq1 := HQ1.out; go_simp; rfl
              simp only [Act.put, List.getElem_toArray, List.getElem_cons_zero, List.getElem_cons_succ, List.setIfInBounds_toArray, List.set_cons_zero, List.set_cons_succ]
              refine wpAnyH_take (i := 5) (v := .bool false) rfl (by kernel_rfl) (by kernel_rfl) (by kernel_rfl) (fun _ _ _ h => h) (Or.inl ⟨by rfl, ?q5⟩) HS.out ?_
              case q5 => intro w hSw; have hneg : ¬ ((e1 : Int) < 0) := (by omega); have hq0 := HQ0.out; have hq := HQ.out; have hq1 := HQ1.out; go_simp
              simp only [Act.put, List.getElem_toArray, List.getElem_cons_zero, List.getElem_cons_succ, List.setIfInBounds_toArray, List.set_cons_zero, List.set_cons_succ]
              refine wpAnyH_take (i := 6) (v := .bool false) rfl (by kernel_rfl) (by kernel_rfl) (by kernel_rfl) (fun _ _ _ h => h) (Or.inl ⟨by rfl, ?q6⟩) HS.out ?_
              case q6 => intro w hSw; have hneg : ¬ ((e1 : Int) < 0) := (by omega); have hq0 := HQ0.out; have hq := HQ.out; have hq1 := HQ1.out; go_simp
              simp only [Act.put, List.getElem_toArray, List.getElem_cons_zero, List.getElem_cons_succ, List.setIfInBounds_toArray, List.set_cons_zero, List.set_cons_succ]
              refine wpAnyH_take (i := 7) (v := ?_) rfl (by kernel_rfl) (by kernel_rfl) (by kernel_rfl) (fun _ _ _ h => h) (Or.inl ⟨by rfl, ?q7⟩) HS.out ?_
              case q7 => intro w hSw; have hneg : ¬ ((e1 : Int) < 0) := (by omega); have hq0 := HQ0.out; have hq := HQ.out; have hq1 := HQ1.out; go_simp; rfl
              simp only [Act.put, List.getElem_toArray, List.getElem_cons_zero, List.getElem_cons_succ, List.setIfInBounds_toArray, List.set_cons_zero, List.set_cons_succ]
              refine wpAnyH_take (i := 8) (v := ?_) rfl (by kernel_rfl) (by kernel_rfl) (by kernel_rfl) (fun _ _ _ h => h) (Or.inl ⟨by rfl, ?q8⟩) HS.out ?_
              case q8 => intro w hSw; have hneg : ¬ ((e1 : Int) < 0) := (by omega); have hq0 := HQ0.out; have hq := HQ.out; have hq1 := HQ1.out; go_simp; rfl
              simp only [Act.put, List.getElem_toArray, List.getElem_cons_zero, List.getElem_cons_succ, List.setIfInBounds_toArray, List.set_cons_zero, List.set_cons_succ]
              refine wpAnyH_take (i := 9) (v := ?_) rfl (by kernel_rfl) (by kernel_rfl) (by kernel_rfl) (fun _ _ _ h => h) (Or.inl ⟨by rfl, ?q9⟩) HS.out ?_
              case q9 => intro w hSw; have hneg : ¬ ((e1 : Int) < 0) := (by omega); have hq0 := HQ0.out; have hq := HQ.out; have hq1 := HQ1.out; go_simp; rfl
              simp only [Act.put, List.getElem_toArray, List.getElem_cons_zero, List.getElem_cons_succ, List.setIfInBounds_toArray, List.set_cons_zero, List.set_cons_succ]
              refine wpAnyH_take (i := 10) (v := .bool false) rfl (by kernel_rfl) (by kernel_rfl) (by kernel_rfl) (fun _ _ _ h => h) (Or.inl ⟨by rfl, ?q10⟩) HS.out ?_
              case q10 => intro w hSw; have hneg : ¬ ((e1 : Int) < 0) := (by omega); have hq0 := HQ0.out; have hq := HQ.out; have hq1 := HQ1.out; go_simp
              simp only [Act.put, List.getElem_toArray, List.getElem_cons_zero, List.getElem_cons_succ, List.setIfInBounds_toArray, List.set_cons_zero, List.set_cons_succ]
              refine wpAnyH_take (i := 11) (v := .bool false) rfl (by kernel_rfl) (by kernel_rfl) (by kernel_rfl) (fun _ _ _ h => h) (Or.inl ⟨by rfl, ?q11⟩) HS.out ?_
              case q11 => intro w hSw; have hneg : ¬ ((e1 : Int) < 0) := (by omega); have hq0 := HQ0.out; have hq := HQ.out; have hq1 := HQ1.out; go_simp
              simp only [Act.put, List.getElem_toArray, List.getElem_cons_zero, List.getElem_cons_succ, List.setIfInBounds_toArray, List.set_cons_zero, List.set_cons_succ]
              refine wpAnyH_take (i := 12) (v := ?_) rfl (by kernel_rfl) (by kernel_rfl) (by kernel_rfl) (fun _ _ _ h => h) (Or.inl ⟨by rfl, ?q12⟩) HS.out ?_
              case q12 => intro w hSw; have hneg : ¬ ((e1 : Int) < 0) := (by omega); have hq0 := HQ0.out; have hq := HQ.out; have hq1 := HQ1.out; go_simp; rfl
              simp only [Act.put, List.getElem_toArray, List.getElem_cons_zero, List.getElem_cons_succ, List.setIfInBounds_toArray, List.set_cons_zero, List.set_cons_succ]
              refine wpAnyH_take (i := 13) (v := ?_) rfl (by kernel_rfl) (by kernel_rfl) (by kernel_rfl) (fun _ _ _ h => h) (Or.inl ⟨by rfl, ?q13⟩) HS.out ?_
              case q13 => intro w hSw; have hneg : ¬ ((e1 : Int) < 0) := (by omega); have hq0 := HQ0.out; have hq := HQ.out; have hq1 := HQ1.out; go_simp; rfl
              simp only [Act.put, List.getElem_toArray, List.getElem_cons_zero, List.getElem_cons_succ, List.setIfInBounds_toArray, List.set_cons_zero, List.set_cons_succ]
              refine wpAnyH_take (i := 14) (v := ?_) rfl (by kernel_rfl) (by kernel_rfl) (by kernel_rfl) (fun _ _ _ h => h) (Or.inl ⟨by rfl, ?q14⟩) HS.out ?_
              case q14 => intro w hSw; have hneg : ¬ ((e1 : Int) < 0) := (by omega); have hq0 := HQ0.out; have hq := HQ.out; have hq1 := HQ1.out; go_simp; rfl
              simp only [Act.put, List.getElem_toArray, List.getElem_cons_zero, List.getElem_cons_succ, List.setIfInBounds_toArray, List.set_cons_zero, List.set_cons_succ]
              refine wpAnyH_take (i := 15) (v := .bool false) rfl (by kernel_rfl) (by kernel_rfl) (by kernel_rfl) (fun _ _ _ h => h) (Or.inl ⟨by rfl, ?q15⟩) HS.out ?_
              case q15 => intro w hSw; have hneg : ¬ ((e1 : Int) < 0) := (by omega); have hq0 := HQ0.out; have hq := HQ.out; have hq1 := HQ1.out; go_simp
              simp only [Act.put, List.getElem_toArray, List.getElem_cons_zero, List.getElem_cons_succ, List.setIfInBounds_toArray, List.set_cons_zero, List.set_cons_succ]
              refine wpAnyH_take (i := 16) (v := ?_) rfl (by kernel_rfl) (by kernel_rfl) (by kernel_rfl) (fun _ _ _ h => h) (Or.inl ⟨by rfl, ?q16⟩) HS.out ?_
              case q16 => intro w hSw; have hneg : ¬ ((e1 : Int) < 0) := (by omega); have hq0 := HQ0.out; have hq := HQ.out; have hq1 := HQ1.out; go_simp; rfl
              simp only [Act.put, List.getElem_toArray, List.getElem_cons_zero, List.getElem_cons_succ, List.setIfInBounds_toArray, List.set_cons_zero, List.set_cons_succ]
              refine wpAnyH_take (i := 17) (v := undef) rfl (by kernel_rfl) (by kernel_rfl) (by kernel_rfl) (fun _ _ _ h => h) (Or.inr ⟨by rfl, rfl⟩) HS.out ?_
              simp only [Act.put, List.getElem_toArray, List.getElem_cons_zero, List.getElem_cons_succ, List.setIfInBounds_toArray, List.set_cons_zero, List.set_cons_succ]
              refine wpAnyH_take (i := 18) (v := undef) rfl (by kernel_rfl) (by kernel_rfl) (by kernel_rfl) (fun _ _ _ h => h) (Or.inr ⟨by rfl, rfl⟩) HS.out ?_
              simp only [Act.put, List.getElem_toArray, List.getElem_cons_zero, List.getElem_cons_succ, List.setIfInBounds_toArray, List.set_cons_zero, List.set_cons_succ]
              refine wpAnyH_take (i := 19) (v := undef) rfl (by kernel_rfl) (by kernel_rfl) (by kernel_rfl) (fun _ _ _ h => h) (Or.inr ⟨by rfl, rfl⟩) HS.out ?_
              simp only [Act.put, List.getElem_toArray, List.getElem_cons_zero, List.getElem_cons_succ, List.setIfInBounds_toArray, List.set_cons_zero, List.set_cons_succ]
              refine wpAnyH_take (i := 20) (v := undef) rfl (by kernel_rfl) (by kernel_rfl) (by kernel_rfl) (fun _ _ _ h => h) (Or.inr ⟨by rfl, rfl⟩) HS.out ?_
              simp only [Act.put, List.getElem_toArray, List.getElem_cons_zero, List.getElem_cons_succ, List.setIfInBounds_toArray, List.set_cons_zero, List.set_cons_succ]
              refine wpAnyH_take (i := 21) (v := undef) rfl (by kernel_rfl) (by kernel_rfl) (by kernel_rfl) (fun _ _ _ h => h) (Or.inr ⟨by rfl, rfl⟩) HS.out ?_
              simp only [Act.put, List.getElem_toArray, List.getElem_cons_zero, List.getElem_cons_succ, List.setIfInBounds_toArray, List.set_cons_zero, List.set_cons_succ]
              refine wpAnyH_take (i := 22) (v := undef) rfl (by kernel_rfl) (by kernel_rfl) (by kernel_rfl) (fun _ _ _ h => h) (Or.inr ⟨by rfl, rfl⟩) HS.out ?_
              simp only [Act.put, List.getElem_toArray, List.getElem_cons_zero, List.getElem_cons_succ, List.setIfInBounds_toArray, List.set_cons_zero, List.set_cons_succ]
              refine wpAnyH_take (i := 23) (v := undef) rfl (by kernel_rfl) (by kernel_rfl) (by kernel_rfl) (fun _ _ _ h => h) (Or.inr ⟨by rfl, rfl⟩) HS.out ?_
              simp only [Act.put, List.getElem_toArray, List.getElem_cons_zero, List.getElem_cons_succ, List.setIfInBounds_toArray, List.set_cons_zero, List.set_cons_succ]
              refine wpAnyH_take (i := 24) (v := undef) rfl (by kernel_rfl) (by kernel_rfl) (by kernel_rfl) (fun _ _ _ h => h) (Or.inr ⟨by rfl, rfl⟩) HS.out ?_
              simp only [Act.put, List.getElem_toArray, List.getElem_cons_zero, List.getElem_cons_succ, List.setIfInBounds_toArray, List.set_cons_zero, List.set_cons_succ]
              refine wpAnyH_take (i := 25) (v := undef) rfl (by kernel_rfl) (by kernel_rfl) (by kernel_rfl) (fun _ _ _ h => h) (Or.inr ⟨by rfl, rfl⟩) HS.out ?_
              simp only [Act.put, List.getElem_toArray, List.getElem_cons_zero, List.getElem_cons_succ, List.setIfInBounds_toArray, List.set_cons_zero, List.set_cons_succ]
              refine wpAnyH_take (i := 26) (v := undef) rfl (by kernel_rfl) (by kernel_rfl) (by kernel_rfl) (fun _ _ _ h => h) (Or.inr ⟨by rfl, rfl⟩) HS.out ?_
              simp only [Act.put, List.getElem_toArray, List.getElem_cons_zero, List.getElem_cons_succ, List.setIfInBounds_toArray, List.set_cons_zero, List.set_cons_succ]
              refine wpAnyH_take (i := 27) (v := .bool false) rfl (by kernel_rfl) (by kernel_rfl) (by kernel_rfl) (fun _ _ _ h => h) (Or.inl ⟨by rfl, ?q27⟩) HS.out ?_
              case q27 => intro w hSw; have hneg : ¬ ((e1 : Int) < 0) := (by omega); have hq0 := HQ0.out; have hq := HQ.out; have hq1 := HQ1.out; go_simp
              simp only [Act.put, List.getElem_toArray, List.getElem_cons_zero, List.getElem_cons_succ, List.setIfInBounds_toArray, List.set_cons_zero, List.set_cons_succ]
              refine wpAnyH_take (i := 28) (v := .bool false) rfl (by kernel_rfl) (by kernel_rfl) (by kernel_rfl) (fun _ _ _ h => h) (Or.inl ⟨by rfl, ?q28⟩) HS.out ?_
              case q28 => intro w hSw; have hneg : ¬ ((e1 : Int) < 0) := (by omega); have hq0 := HQ0.out; have hq := HQ.out; have hq1 := HQ1.out; go_simp
              simp only [Act.put, List.getElem_toArray, List.getElem_cons_zero, List.getElem_cons_succ, List.setIfInBounds_toArray, List.set_cons_zero, List.set_cons_succ]
              refine wpAnyH_done (by kernel_rfl) ?_ _
              have C2 := rpiece_any (World.drew w1) b off c l e1 65536 ((HH.out.below B1.out).below ((Below.refl _ _).drew)) (by have := HN.out; omega) (by omega) (HK.out.below B1.out.drew)
              rw [HN.out] at C2
              have C2 := hid C2
              go_wp2_with fail
              refine C2.out.mono ?_
              rintro e w2 ⟨vg, ny, rfl, hq2, hb2⟩
              have B2 := hid (B1.out.drew.trans (hb2.mono B1.out.size))
              have hs2 : w1.heap.size ≤ w2.heap.size := hb2.size
              have hb12 : Below w1.heap.size w1 w2 := ((Below.refl _ w1).drew).trans hb2
              have HFH2 := hid (HFH.out.below hb12)
              have HO2 := hid (HO.out.below (B01.out.trans (hb12.mono B01.out.size)))
              have B02 := hid (B01.out.trans (hb12.mono B01.out.size))
              clear hb2 C2 hb12
              rcases hq2 with ⟨g, x, hg1, hg2, rfl, hgb, hgo⟩ | ⟨rfl, rfl, hno⟩
              · obtain ⟨pg, cg, rfl⟩ := own_slc hgo
                have HGO : Hid (w2.ownsRow wr.heap.size 5 1 (.slice pg g.length cg) g.length (g.map (Value.int .u8))) := own_mono hgo (show wr.heap.size ≤ w1.heap.size by omega)
                have hx : x = l.drop (e1 + (fld g).length) := by rw [← List.drop_drop, hg1]; simp
                subst hx
                have hnl2 : e1 + (fld g).length ≤ n := by
                  have := congrArg List.length hg1
                  rw [List.length_append, List.length_drop, List.length_drop, HN.out] at this
                  omega
                obtain ⟨e2, HE2⟩ : ∃ x, Hid (e1 + (fld g).length = x) := ⟨_, rfl⟩
                rw [HE2.out] at hg1 hnl2
                rw [HE2.out]
                have hd : l.drop k = rowL (S, g) ++ l.drop e2 := by
                  rw [HF1.out, hg1]
                  unfold rowL
                  rw [← HSS.out, sB_bS hfb, List.append_assoc]
                have hken : k < e2 := drop_lt (by have := HN.out; omega) (row_len (S, g)) (by have := HN.out; omega) hd
                have HDD := hid hd
                have HGB := hid hgb
                have qcv := conv_str HFH2.out
                rw [HSS.out] at qcv
                have HOW : Hid (w2.ownsRow w.heap.size 39 2 (.slice pr 0 cr) 0 (rcs rs vs)) := by
                  refine hid ?_
                  have := HO2.out.1
                  rw [HMm.out] at this
                  exact this
                clear hgo hg1 hd hgb
                go_wp2_with (at_builtin; refine wpList_append_rw rfl _ _ rfl w.heap.size _ 0 _ rfl (HOW.out.alloc _) w2.heap.size 1 S (.slice pg g.length cg) rfl rfl (by simp) (by simp) ?q1 ?q2 ?_)
                case q1 => omega
                case q2 => simp; omega
                intro v4 w4 hown4 hg4 hp4
                have HR : Hid (RuI w l n v4 e2 w4) := by
                  have hown4 : w4.ownsRow w.heap.size 39 2 v4 (rs.length + 1) (rcs rs vs ++ [Value.string S, Value.slice pg g.length cg]) := by rw [HMm.out]; exact hown4
                  refine hid ⟨rs ++ [(S, g)], vs ++ [.slice pg g.length cg], HO.out.push B02.out HGO.out HGB.out (by omega) hown4 hg4 ?_, by omega, ?_, ?_, ?_⟩
                  · rcases hp4 with e | e
                    · exact Or.inl e
                    · exact Or.inr (by rw [e]; simp)
                  · rw [packL_snoc, HP.out]
                    exact take_ext HDD.out
                  · have h1 := HM.out
                    refine ⟨by rw [List.length_append, List.length_singleton, HMm.out]; have := H64.out; omega, ?_⟩
                    rw [okRows_snoc]
                    exact ⟨h1.2, HLE.out, by show S.size ≤ 64; rw [← HSS.out, bS_size]; omega, hg2⟩
                  · exact (B2.out.alloc (by omega) _).grown hg4 (by simp; omega) (fun q e => (HOW.out.lt q e).1)
                clear hown4 hg4 hp4
                go_wp2
                exact ⟨⟨e2, by go_num, HR⟩, by simp [intOf]; omega⟩
              · have HNO := hid (unp_err HP.out HM.out (by have := HN.out; omega) (no_value HF1.out hno))
                clear hno
                go_wp2
                go_ret3
                exact ⟨_, [], [], k, 131, rfl, HNO.out, RwO.nil _ _, B2.out⟩
      · have HNO := hid (unp_err HP.out HM.out (by have := HN.out; omega) (no_name hno))
        clear hno
        go_wp2
        go_quiet (fail)
        go_wp2
        go_ret3
        exact ⟨_, [], [], k, 131, rfl, HNO.out, RwO.nil _ _, bel_drewN B1.out _⟩
    · have HQ : Hid (UnpQ l rs 0 0) := by
        refine hid (Or.inl ⟨rfl, rfl, hmay, ?_⟩)
        rw [hpk, List.take_of_length_le (by have := HN.out; omega)]
      have HO := hid hown
      have B0 := hid hbel
      clear hown hpk hmay HI hbel
      go_wp2
      go_ret3
      exact ⟨_, rs, vs, 0, 0, rfl, HQ.out, HO.out, B0.out⟩
theorem take_stepR {la lb : List Rw} {k : Nat} (ha : k < la.length) (hb : k < lb.length) (h : la.take k = lb.take k) (e : la.getD k rw0 = lb.getD k rw0) : la.take (k + 1) = lb.take (k + 1) := by
  rw [List.take_succ_eq_append_getElem ha, List.take_succ_eq_append_getElem hb, h]
  have e1 : la.getD k rw0 = la[k] := by simp [List.getD, List.getElem?_eq_getElem ha]
  have e2 : lb.getD k rw0 = lb[k] := by simp [List.getD, List.getElem?_eq_getElem hb]
  rw [e1, e2] at e
  rw [e]
set_option maxRecDepth 100000 in
set_option maxHeartbeats 2000000 in
theorem sameRows_any (w : World) (va vb : Value) (la lb : List Rw) (ha : HRw w va la) (hb : HRw w vb lb) :
    Calls Tryd.prog 9 #[va, vb] w fun e w' => e = .returned (.bool (decide (la = lb))) ∧ Dr w w' := by
  obtain ⟨p1, c1, rfl, hc1, hm1, hk1⟩ := ha.open
  obtain ⟨p2, c2, rfl, hc2, hm2, hk2⟩ := hb.open
  unfold maxLen at hm1 hm2
  by_cases hlen : la.length = lb.length
  · have HLN : Hid (la.length = lb.length) := hlen
    rw [← hlen]
    have H1 := hid hk1
    have H2 := hid hk2
    obtain ⟨n, HN⟩ : ∃ n, Hid (la.length = n) := ⟨_, rfl⟩
    have hm63 : n ≤ 9223372036854775807 := by rw [← HN.out]; omega
    rw [HN.out]
    clear hlen hk1 hk2 ha hb hc1 hc2
    go_enter Tryd.func9, Tryd.ntmps9
    go_wp2
    go_loopw [5] (fun i wr => ∃ k : Nat, k ≤ n ∧ i = .int .i64 (k : Int) ∧ Hid (la.take k = lb.take k) ∧ Hid (Dr w wr)) (fun i _ => n - (intOf i).toNat)
    case atStart => exact ⟨0, Nat.zero_le _, rfl, rfl, Dr.refl _⟩
    case round =>
      obtain ⟨k, hk, rfl, HT, HD⟩ := hrel
      by_cases hlt : k < n
      · obtain ⟨b1, o1, rfl, _, h1⟩ := H1.out (by have := HN.out; omega)
        obtain ⟨b2, o2, rfl, _, h2⟩ := H2.out (by have := HN.out; have := HLN.out; omega)
        obtain ⟨u1, r1, e1⟩ := h1 k (by have := HN.out; omega)
        obtain ⟨u2, r2, e2⟩ := h2 k (by have := HN.out; have := HLN.out; omega)
        obtain ⟨⟨s, x⟩, HX⟩ : ∃ x, Hid (la.getD k rw0 = x) := ⟨_, rfl⟩
        obtain ⟨⟨t, y⟩, HY⟩ : ∃ x, Hid (lb.getD k rw0 = x) := ⟨_, rfl⟩
        rw [HX.out] at r1 e1
        rw [HY.out] at r2 e2
        have g1 := (HD.out.cell _).trans (r1 0 _ rfl)
        have g2 := (HD.out.cell _).trans (r2 0 _ rfl)
        have g3 := (HD.out.cell _).trans (r1 1 _ rfl)
        have g4 := (HD.out.cell _).trans (r2 1 _ rfl)
        rw [Nat.add_zero] at g1 g2
        replace e1 := e1.dr HD.out
        replace e2 := e2.dr HD.out
        obtain ⟨q1, d1, z1, _, _⟩ := e1.open
        obtain ⟨q2, d2, z2, _, _⟩ := e2.open
        subst z1 z2
        have E1 := hid e1
        have E2 := hid e2
        clear e1 e2 h1 h2 r1 r2
        have NO : Hid (la.getD k rw0 ≠ lb.getD k rw0 → decide (la = lb) = false) := hid fun q => decide_eq_false (fun h => q (by rw [h]))
        by_cases hst : s = t
        · subst hst
          have hne : (s.toList == s.toList) = true := by simp
          by_cases he : x = y
          · have hd : decide (x = y) = true := by simpa using he
            have HE := hid he
            clear he
            go_wp2
            go_quiet ((go_at_call 14; exact Calls.quiet_of (sameBytes_any _ _ _ x y (E1.out.later fun _ _ hx => hx) (E2.out.later fun _ _ hx => hx))))
            go_wp2
            exact ⟨⟨k + 1, by omega, by go_num, take_stepR (by have := HN.out; omega) (by have := HN.out; have := HLN.out; omega) HT.out (by rw [HX.out, HY.out, HE.out]), HD.out.drewN _⟩, by simp [intOf]; omega⟩
          · have hd : decide (x = y) = false := by simpa using he
            have F := hid (NO.out (by rw [HX.out, HY.out]; intro q; exact he (congrArg Prod.snd q)))
            clear he
            go_wp2
            go_quiet ((go_at_call 14; exact Calls.quiet_of (sameBytes_any _ _ _ x y (E1.out.later fun _ _ hx => hx) (E2.out.later fun _ _ hx => hx))))
            go_wp2
            go_ret
            exact ⟨by rw [F.out]; rfl, HD.out.drewN _⟩
        · have hne : (s.toList == t.toList) = false := by rw [eq_iff_sB]; exact decide_eq_false (fun e => hst (sB_inj e))
          have F := hid (NO.out (by rw [HX.out, HY.out]; intro q; exact hst (congrArg Prod.fst q)))
          clear hst
          go_wp2
          go_quiet (fail)
          go_wp2
          go_ret
          exact ⟨by rw [F.out]; rfl, HD.out.drewN _⟩
      · have e : la = lb := by
          have h1 := List.take_of_length_le (show la.length ≤ k by have := HN.out; omega)
          have h2 := List.take_of_length_le (show lb.length ≤ k by have := HN.out; have := HLN.out; omega)
          rw [← h1, ← h2, HT.out]
        have F : Hid (decide (la = lb) = true) := by simp [e, Hid]
        go_wp2
        go_ret
        exact ⟨by rw [F.out]; rfl, HD.out⟩
  · have hne : ((la.length : Int) != (lb.length : Int)) = true := by rw [bne_iff_ne]; omega
    have F : Hid (decide (la = lb) = false) := decide_eq_false (fun e => hlen (by rw [e]))
    clear hlen hk1 hk2 ha hb
    go_enter Tryd.func9, Tryd.ntmps9
    go_wp2
    go_ret
    exact ⟨by rw [F.out]; rfl, Dr.refl _⟩
end Go.Proofs.YtabflkecjaphnaaDoor
namespace Go.Proofs.YtabflkecjaphnaaDoor
open Go.RowKit
set_option maxHeartbeats 1000000 in
theorem over_byt (w : World) (B : Nat) (v : Value) (l : List Int) (h : w.ownsRow B 5 1 v l.length (l.map (Value.int .u8))) (hl : ∀ x ∈ l, 0 ≤ x ∧ x < 256) (hn : l.length ≤ 140737488355328) :
    Calls Tryd.prog 7 #[v] w fun e w' => e = .returned (.tuple #[]) ∧ (∃ l' : List Int, l'.length = l.length ∧ (∀ x ∈ l', 0 ≤ x ∧ x < 256) ∧ w'.ownsRow B 5 1 v l.length (l'.map (Value.int .u8))) ∧ w.grownBy w' v.ownBlock := by
  obtain ⟨n, hnl⟩ : ∃ n, n = l.length := ⟨_, rfl⟩
  rw [← hnl] at h hn ⊢
  rcases h.2 with ⟨rfl, h0⟩ | ⟨g, cap, cur, rfl, hbg, hg, hnc, hcm, hcs, htake⟩
  · subst h0
    clear hnl h
    go_enter Tryd.func7, Tryd.ntmps7
    go_wp2
    go_loop [2] (fun i => i = .int .i64 0) (fun _ => 0)
    case atStart => rfl
    case round =>
      subst hrel
      go_wp2
      go_end0
      exact ⟨rfl, World.ownsRow_nil _ _ _ _, ⟨rfl, rfl, rfl, Nat.le_refl _, fun _ _ _ => rfl⟩⟩
  · have HO : Hid (∃ l' : List Int, l'.length = n ∧ (∀ x ∈ l', 0 ≤ x ∧ x < 256) ∧ w.ownsRow B 5 1 (.slice (some ⟨g, 0, none⟩) n cap) n (l'.map (Value.int .u8))) := ⟨l, hnl.symm, hl, h⟩
    clear h hg htake hcs hbg hl hnl
    unfold maxLen at hcm
    go_enter Tryd.func7, Tryd.ntmps7
    go_wp2
    go_loopw [2] (fun i wr => ∃ k : Nat, k ≤ n ∧ i = .int .i64 k ∧ Hid (∃ l' : List Int, l'.length = n ∧ (∀ x ∈ l', 0 ≤ x ∧ x < 256) ∧ wr.ownsRow B 5 1 (.slice (some ⟨g, 0, none⟩) n cap) n (l'.map (Value.int .u8))) ∧ Hid (w.grownBy wr (some g))) (fun i _ => n - (intOf i).toNat)
    case atStart => exact ⟨0, Nat.zero_le _, rfl, HO, ⟨rfl, rfl, rfl, Nat.le_refl _, fun _ _ _ => rfl⟩⟩
    case round =>
      clear HO
      obtain ⟨k, hk, rfl, HY, HG⟩ := hrel
      by_cases hlt : k < n
      · obtain ⟨l', hl', hby', hy⟩ := HY.out
        have hc := hy.cellAt k (by omega)
        have hfz := hy.frozenAt k
        obtain ⟨z, hz⟩ : ∃ z, (l'.map (Value.int .u8))[k]? = some z := ⟨_, List.getElem?_eq_getElem (by rw [List.length_map]; omega)⟩
        rw [hz] at hc
        have HYY := hid hy
        have HL' := hid hl'
        have HBY := hid hby'
        clear hz hy hl' hby' HY
        go_wp2_with fail
        have e1 : ((k : Int) + 3) = ((k + 3 : Nat) : Int) := by omega
        rw [e1]
        refine (mark_any wr 7 (k + 3) (by omega) (by omega)).mono ?_
        rintro e wz ⟨rfl, hw⟩
        have hw' := hw.symm
        subst hw'
        clear hw e1
        go_wp2
        refine ⟨⟨k + 1, by omega, by go_num, ⟨l'.set k (mkB 7 (k + 3)), by rw [List.length_set]; exact HL'.out, fun x hx => ?_, by rw [List.map_set]; exact (HYY.out.stored k _).1⟩, ⟨HG.out.os, HG.out.tape, HG.out.output, by simpa using HG.out.size, fun i hi hne => by
          rw [heap_setCell_other _ _ _ _ (fun e => hne (by simp [e]))]
          exact HG.out.block i hi hne⟩⟩, by simp [intOf]; omega⟩
        rcases List.mem_or_eq_of_mem_set hx with h1 | h1
        · exact HBY.out x h1
        · rw [h1]; exact mkB_byt _ _
      · go_wp2
        go_end0
        exact ⟨rfl, HY.out, HG.out⟩
end Go.Proofs.YtabflkecjaphnaaDoor
namespace Go.Proofs.YtabflkecjaphnaaDoor
open Go Go.RowKit
theorem HV.three (w : World) (a b c : Value) : HV (w.alloc (.cells #[a, b, c] 22)) (.slice (some ⟨w.heap.size, 0, none⟩) 3 3) [a, b, c] := by
  refine ⟨_, _, rfl, by simp, by decide, fun _ => ⟨w.heap.size, 0, rfl, ⟨_, _, heap_alloc_new w _⟩, fun k hk => ?_⟩⟩
  match k, hk with
  | 0, _ => simp
  | 1, _ => simp
  | 2, _ => simp
theorem lent_part {w : World} {B : Nat} {v : Value} {l : List Int} (h : w.ownsRow B 5 1 v (lent l).length ((lent l).map (Value.int .u8))) (hby : ∀ x ∈ l, 0 ≤ x ∧ x < 256) :
    ∃ g c, v = .slice (some ⟨g, 0, none⟩) (l.length + 70) c ∧ B ≤ g ∧ g < w.heap.size ∧ l.length + 70 ≤ c ∧ c ≤ 9223372036854775807 ∧ HB w (.slice (some ⟨g, 0, none⟩) l.length c) l ∧ HB w (.slice (some ⟨g, 0, none⟩) (l.length + 70) c) (lent l) := by
  have hf := HB.of_own h (lent_byt hby)
  have hll := lent_length l
  rcases h.2 with ⟨_, e0⟩ | ⟨g, cap, cur, rfl, hb, hh, hn, hm, _⟩
  · omega
  · unfold maxLen at hm
    refine ⟨g, cap, by rw [hll], hb, (Array.getElem?_eq_some_iff.1 hh).1, by omega, hm, ?_, by rw [hll] at hf; exact hf⟩
    have h3 := hf.sliced 0 l.length cap (Nat.zero_le _) (by omega) (by omega) (Nat.le_refl _)
    rw [lent_take] at h3
    have e : (if cap = 0 then (some (⟨g, 0, none⟩ : Addr)) else (some (⟨g, 0, none⟩ : Addr)).map (·.add 0)) = some ⟨g, 0, none⟩ := by
      split
      · rfl
      · simp [Addr.add]
    rw [e] at h3
    simpa using h3
theorem own_pre {w : World} {B g n c : Nat} {l : List Int} (h : w.ownsRow B 5 1 (.slice (some ⟨g, 0, none⟩) n c) l.length (l.map (Value.int .u8))) (hl : ∀ x ∈ l, 0 ≤ x ∧ x < 256) (m : Nat) (hm : m ≤ l.length) (hmc : m ≤ c) : HB w (.slice (some ⟨g, 0, none⟩) m c) (l.take m) := by
  have hf := HB.of_own h hl
  obtain ⟨p, c', e, h1, h2⟩ := hf.open
  simp only [Value.slice.injEq] at e
  obtain ⟨rfl, rfl, rfl⟩ := e
  have h3 := hf.sliced 0 m c (Nat.zero_le _) hm (by omega) (Nat.le_refl _)
  have e : (if c = 0 then (some (⟨g, 0, none⟩ : Addr)) else (some (⟨g, 0, none⟩ : Addr)).map (·.add 0)) = some ⟨g, 0, none⟩ := by
    split
    · rfl
    · simp [Addr.add]
  rw [e] at h3
  simpa using h3
theorem own_other {w w' : World} {B n g : Nat} {e : TypeId} {v : Value} {xs : List Value} (h : w.ownsRow B e 1 v n xs) (hg : w.grownBy w' (some g)) (hb : g < B) : w'.ownsRow B e 1 v n xs :=
  h.kept hg (by
    rcases none_or v.ownBlock with q | q
    · exact .inl q
    · exact .inr fun e => by have := (h.lt g e).1; omega)
theorem HB.other {w w' : World} {u : Value} {l : List Int} {g : Nat} (h : HB w u l) (hg : w.grownBy w' (some g)) (hr : u.ownBlock = none ∨ u.ownBlock ≠ some g) : HB w' u l := h.away hg hr
end Go.Proofs.YtabflkecjaphnaaDoor
