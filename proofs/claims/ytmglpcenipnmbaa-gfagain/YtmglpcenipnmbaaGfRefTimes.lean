/- The document's Times of layer 6, walked. -/
import Derived.Test.YtmglpcenipnmbaaGfRefProd
set_option linter.unusedSimpArgs false
set_option linter.unusedVariables false
namespace Go.Proofs.Ytmglpcenipnmbaa
open Go Go.RowKit

theorem cutN_congr {l m : List Int} : ∀ k, (∀ i, i < k → gN l i = gN m i) → cutN l k = cutN m k
  | 0, _ => rfl
  | k + 1, h => by rw [cutN, cutN, h k (by omega), cutN_congr k fun i hi => h i (by omega)]
theorem cut_ext (N : Nat) (f : Nat → Nat) (h : f N = 0) : cutL (tabL (N + 1) f) = cutL (tabL N f) := by
  have e1 : cutN (tabL (N + 1) f) (N + 1) = cutN (tabL N f) N := by
    rw [cutN, if_pos (by rw [gN_tabL _ _ _ (by omega)]; exact h)]
    exact cutN_congr N fun i hi => by rw [gN_tabL _ _ _ (by omega), gN_tabL _ _ _ hi]
  unfold cutL
  rw [tabL_length, tabL_length, e1]
  have hle := cutN_le (tabL N f) N
  refine List.ext_getElem (by rw [List.length_take, List.length_take, tabL_length, tabL_length]; omega) fun j h1 h2 => ?_
  simp [tabL]
theorem cut_more (N : Nat) (f : Nat → Nat) : ∀ k, (∀ i, N ≤ i → f i = 0) → cutL (tabL (N + k) f) = cutL (tabL N f)
  | 0, _ => rfl
  | k + 1, h => by rw [← Nat.add_assoc, cut_ext _ f (h _ (by omega)), cut_more N f k h]
theorem cvF_far (f : Nat → Nat) (hf : ∀ i, f i < 256) (P : List Int) : ∀ n i, n + P.length ≤ i + 1 → cvF f P n i = 0
  | 0, _, _ => rfl
  | n + 1, i, h => by
    rw [cvF, cvF_far f hf P n i (by omega), Nat.zero_xor, sh]
    split
    · rw [gN_out P _ (by omega), zero_prod _ (hf n)]
    · rfl
theorem timesL_eq (A P : List Int) (hA : ∀ c ∈ A, 0 ≤ c ∧ c < 256) (h : A.length + P.length ≠ 0) : timesL A P = cutL (tabL (A.length + P.length - 1) (cvF (gN A) P A.length)) := by
  unfold timesL
  rw [tabL_congr _ fun i _ => cv_all A P i]
  obtain ⟨N, hN⟩ : ∃ N, A.length + P.length = N + 1 := ⟨A.length + P.length - 1, by omega⟩
  rw [hN, Nat.add_sub_cancel]
  exact cut_ext N _ (cvF_far _ (gN_lt hA) P _ _ (by omega))
theorem nil_times (A P : List Int) (hA : ∀ c ∈ A, 0 ≤ c ∧ c < 256) (h : A.length = 0 ∨ P.length = 0) : (timesL A P).length = 0 := by
  unfold timesL
  rw [cutL_length]
  have := cutN_small (tabL (A.length + P.length) (cv A P A.length)) 0 (fun i _ => by
    by_cases hi : i < A.length + P.length
    · rw [gN_tabL _ _ _ hi, cv_all]
      rcases h with h | h
      · rw [h]; rfl
      · have : ∀ n, cvF (gN A) P n i = 0 := fun n => by
          induction n with
          | zero => rfl
          | succ n ih =>
            rw [cvF, ih, Nat.zero_xor, sh]
            split
            · rw [gN_out P _ (by omega), zero_prod _ (gN_lt hA n)]
            · rfl
        exact this _
    · exact gN_out _ i (by rw [tabL_length]; omega)) (tabL (A.length + P.length) (cv A P A.length)).length
  omega
set_option maxRecDepth 100000 in
set_option maxHeartbeats 4000000 in
theorem rproduct_none (w : World) (pa pb : Option Addr) (ca cb : Nat) (A P : List Int) (h : A.length = 0 ∨ P.length = 0) :
    Calls Try.prog 60 #[.slice pa A.length ca, .slice pb P.length cb] w fun e w' => e = .returned (.slice none 0 0) ∧ w' = w := by
  by_cases h0 : A.length = 0
  · have ha0 : ((A.length : Int) == 0) = true := by rw [h0]; rfl
    clear h h0
    go_enter Try.func60, Try.ntmps60
    go_wp2
    go_ret
    exact ⟨rfl, rfl⟩
  · have ha0 : ((A.length : Int) == 0) = false := by simpa using h0
    have hp0 : ((P.length : Int) == 0) = true := by rcases h with h | h; exact absurd h h0; rw [h]; rfl
    clear h h0
    go_enter Try.func60, Try.ntmps60
    go_wp2
    go_ret
    exact ⟨rfl, rfl⟩
theorem rproduct_v (w : World) (pa pb : Option Addr) (ca cb : Nat) (A P : List Int) (hA : HB w (.slice pa A.length ca) A) (hP : HB w (.slice pb P.length cb) P) (hn : A.length + P.length ≤ 140737488355328) :
    Calls Try.prog 60 #[.slice pa A.length ca, .slice pb P.length cb] w fun e w' => ∃ v', e = .returned v' ∧ w'.ownsRow w.heap.size 5 1 v' (timesL A P).length ((timesL A P).map (Value.int .u8)) ∧ Below w.heap.size w w' := by
  by_cases h : A.length = 0 ∨ P.length = 0
  · refine (rproduct_none w pa pb ca cb A P h).mono ?_
    rintro e w' ⟨rfl, rfl⟩
    have h0 := nil_times A P hA.2 h
    have : timesL A P = [] := List.length_eq_zero_iff.1 h0
    rw [this]
    exact ⟨_, rfl, World.ownsRow_nil _ _ _ _, Below.refl _ _⟩
  · rw [timesL_eq A P hA.2 (by omega)]
    exact rproduct_any w pa pb ca cb A P hA hP (by omega) (by omega) hn
set_option maxRecDepth 100000 in
set_option maxHeartbeats 4000000 in
theorem rtimes_ok (w : World) (pa pb : Option Addr) (ca cb : Nat) (A P : List Int) (hA : HB w (.slice pa A.length ca) A) (hP : HB w (.slice pb P.length cb) P) (h1 : (cutL A).length ≤ 256) (h2 : (cutL P).length ≤ 256) :
    Calls Try.prog 41 #[.slice pa A.length ca, .slice pb P.length cb] w fun e w' => ∃ v', e = .returned (.tuple #[v', .int .i64 0]) ∧ w'.ownsRow w.heap.size 5 1 v' (timesL (cutL A) (cutL P)).length ((timesL (cutL A) (cutL P)).map (Value.int .u8)) ∧ Below w.heap.size w w' := by
  have CA := hid (rcut_any w pa ca A hA)
  have CP := hid (rcut_any w pb cb P hP)
  have HA := hid (cutL_hb hA)
  have HP := hid (cutL_hb hP)
  rw [← cutL_length] at CA CP
  obtain ⟨A', HA'⟩ : ∃ A', Hid (cutL A = A') := ⟨_, rfl⟩
  obtain ⟨P', HP'⟩ : ∃ P', Hid (cutL P = P') := ⟨_, rfl⟩
  rw [HA'.out] at CA HA h1 ⊢
  rw [HP'.out] at CP HP h2 ⊢
  have CM := hid (rproduct_v w pa pb ca cb A' P' HA.out HP.out (by omega))
  have g1 : ¬ (256 : Int) < (A'.length : Int) := by omega
  have g2 : ¬ (256 : Int) < (P'.length : Int) := by omega
  clear hA hP
  go_enter Try.func41, Try.ntmps41
  go_wp2_with fail
  refine CA.out.mono ?_
  rintro e w1 ⟨rfl, hw⟩
  subst hw
  clear CA
  go_wp2_with fail
  refine CP.out.mono ?_
  rintro e w2 ⟨rfl, hw⟩
  subst hw
  clear CP
  go_wp2_with fail
  refine CM.out.mono ?_
  rintro e w3 ⟨v', rfl, hO, hB⟩
  have HO := hid hO
  have B3 := hid hB
  clear hO hB CM
  go_wp2
  go_ret2
  exact ⟨_, rfl, HO.out, B3.out⟩
set_option maxRecDepth 100000 in
set_option maxHeartbeats 4000000 in
theorem rtimes_long (w : World) (pa pb : Option Addr) (ca cb : Nat) (A P : List Int) (hA : HB w (.slice pa A.length ca) A) (hP : HB w (.slice pb P.length cb) P) (h1 : ¬ ((cutL A).length ≤ 256 ∧ (cutL P).length ≤ 256)) :
    Calls Try.prog 41 #[.slice pa A.length ca, .slice pb P.length cb] w fun e w' => e = .returned (.tuple #[.slice none 0 0, .int .i64 61]) ∧ w' = w := by
  have CA := hid (rcut_any w pa ca A hA)
  have CP := hid (rcut_any w pb cb P hP)
  rw [← cutL_length] at CA CP
  obtain ⟨A', HA'⟩ : ∃ A', Hid (cutL A = A') := ⟨_, rfl⟩
  obtain ⟨P', HP'⟩ : ∃ P', Hid (cutL P = P') := ⟨_, rfl⟩
  rw [HA'.out] at CA h1
  rw [HP'.out] at CP h1
  clear hA hP
  go_enter Try.func41, Try.ntmps41
  go_wp2_with fail
  refine CA.out.mono ?_
  rintro e w1 ⟨rfl, hw⟩
  subst hw
  clear CA
  go_wp2_with fail
  refine CP.out.mono ?_
  rintro e w2 ⟨rfl, hw⟩
  subst hw
  clear CP
  by_cases hgt : (256 : Int) < (A'.length : Int)
  · clear h1
    go_wp2
    go_ret2
    exact ⟨rfl, rfl⟩
  · have g1 : (256 : Int) < (P'.length : Int) := by omega
    clear h1
    go_wp2
    go_ret2
    exact ⟨rfl, rfl⟩
end Go.Proofs.Ytmglpcenipnmbaa
