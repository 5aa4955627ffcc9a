/- gf.Times, walked. -/
import Derived.Test.YtmglpcenipnmbaaGfMult
set_option linter.unusedSimpArgs false
set_option linter.unusedVariables false
namespace Go.Proofs.Ytmglpcenipnmbaa
open Go Go.RowKit

theorem HB.firstN {w : World} {p : Option Addr} {c : Nat} {l : List Int} (h : HB w (.slice p l.length c) l) (n : Nat) (hn : n ≤ l.length) : HB w (.slice p n c) (l.take n) := by
  obtain ⟨⟨p', c', e, h2, h3, h6, h4⟩, h5⟩ := h
  simp only [Value.slice.injEq, true_and] at e
  obtain ⟨rfl, rfl⟩ := e
  have hl : (l.take n).length = n := by rw [List.length_take]; omega
  refine ⟨⟨p, c, by rw [hl], by omega, h3, h6, fun hne => ?_⟩, fun x hx => h5 x (List.mem_of_mem_take hx)⟩
  have h0 : 0 < n := by rw [← hl]; exact List.length_pos_iff.2 hne
  obtain ⟨b, off, rfl, hh⟩ := h4 (List.length_pos_iff.1 (by omega))
  refine ⟨b, off, rfl, fun j hj => ?_⟩
  rw [hl] at hj
  rw [hh j (by omega)]
  simp [List.getD, List.getElem?_take, hj]
theorem own_take {w : World} {B g n c : Nat} {e : TypeId} {xs : List Value} (h : w.ownsRow B e 1 (.slice (some ⟨g, 0, none⟩) n c) n xs) (m : Nat) (hm : m ≤ n) : w.ownsRow B e 1 (.slice (some ⟨g, 0, none⟩) m c) m (xs.take m) := by
  have hl := h.1
  rcases h.2 with ⟨h', _⟩ | ⟨g', cap', cur, h', hb, hg, hnc, hcm, hcs, htake⟩
  · simp at h'
  · simp only [Value.slice.injEq, Option.some.injEq, Addr.mk.injEq, and_true, true_and] at h'
    obtain ⟨rfl, rfl⟩ := h'
    refine ⟨by rw [List.length_take]; omega, .inr ⟨g, c, cur, rfl, hb, hg, by omega, hcm, hcs, ?_⟩⟩
    rw [← htake, List.take_take]
    congr 1
    omega
theorem cutL_hb {w : World} {p : Option Addr} {c : Nat} {l : List Int} (h : HB w (.slice p l.length c) l) : HB w (.slice p (cutL l).length c) (cutL l) := by
  rw [cutL_length]
  exact h.firstN _ (cutN_le _ _)
/-- What Times makes of two polynomials without noughts behind. -/
def timesL (A P : List Int) : List Int := cutL (tabL (A.length + P.length) (cv A P A.length))
theorem run_max (w : World) (a b : Int) (T U : TypeId) : (Builtin.max_ #[T, T] U #[.int .i64 a, .int .i64 b]).run Try.prog w = .ok (.int .i64 (if b > a then b else a)) w := by
  simp [Builtin.max_, List.foldlM, Builtin.max2]

set_option maxRecDepth 100000 in
set_option maxHeartbeats 4000000 in
theorem times_ok (w : World) (pa pb : Option Addr) (ca cb : Nat) (A P : List Int) (hA : HB w (.slice pa A.length ca) A) (hP : HB w (.slice pb P.length cb) P) (h1 : (cutL A).length ≤ 256) (h2 : (cutL P).length ≤ 256) :
    Calls Try.prog 39 #[.slice pa A.length ca, .slice pb P.length cb] w fun e w' => ∃ v', e = .returned (.tuple #[v', .int .i64 0]) ∧ w'.ownsRow w.heap.size 5 1 v' (timesL (cutL A) (cutL P)).length ((timesL (cutL A) (cutL P)).map (Value.int .u8)) ∧ Below w.heap.size w w' := by
  have CA := hid (trimmed_any w pa ca A hA)
  have CP := hid (trimmed_any w pb cb P hP)
  have HA := hid (cutL_hb hA)
  have HP := hid (cutL_hb hP)
  rw [← cutL_length] at CA CP
  obtain ⟨A', HA'⟩ : ∃ A', Hid (cutL A = A') := ⟨_, rfl⟩
  obtain ⟨P', HP'⟩ : ∃ P', Hid (cutL P = P') := ⟨_, rfl⟩
  rw [HA'.out] at CA HA h1 ⊢
  rw [HP'.out] at CP HP h2 ⊢
  have CM := hid (multiplied_any w pa pb ca cb A' P' HA.out HP.out (by omega))
  have HT : Hid (∀ i, cv A' P' A'.length i < 256) := fun i => cv_lt (fun k => (HP.out.gN k).2) _ i
  have g1 : ¬ (256 : Int) < (A'.length : Int) := by omega
  have g2 : ¬ (256 : Int) < (P'.length : Int) := by omega
  clear hA hP
  go_enter Try.func39, Try.ntmps39
  go_wp2_with fail
  refine CA.out.mono ?_
  rintro e w1 ⟨rfl, hw⟩
  subst hw
  clear CA
  go_wp2_with fail
  refine CP.out.mono ?_
  rintro e w2 ⟨rfl, hw⟩
  subst hw
  clear CP
  by_cases hgt : (A'.length : Int) < (P'.length : Int)
  all_goals
    go_wp2_with fail
    refine CM.out.mono ?_
    rintro e w3 ⟨g, rfl, hO, hB⟩
    have HO := hid hO
    have B3 := hid hB
    have hTH := HB.of_own (l := tabL (A'.length + P'.length) (cv A' P' A'.length)) (by rw [tabL_length]; exact hO) (tabL_byt _ HT.out)
    clear hO hB CM
    obtain ⟨T, HTT⟩ : ∃ T, Hid (tabL (A'.length + P'.length) (cv A' P' A'.length) = T) := ⟨_, rfl⟩
    have hTl : T.length = A'.length + P'.length := by rw [← HTT.out, tabL_length]
    have hTL : Hid (timesL A' P' = cutL T) := by rw [← HTT.out]; exact rfl
    rw [HTT.out] at hTH HO
    obtain ⟨n, HN⟩ : ∃ n, Hid (A'.length + P'.length = n) := ⟨_, rfl⟩
    rw [HN.out] at HO hTl hTH ⊢
    subst hTl
    have CT := hid (trimmed_any w3 _ _ T hTH)
    clear hTH
    have HR : Hid (w3.ownsRow w2.heap.size 5 1 (.slice (some ⟨g, 0, none⟩) (cutN T T.length) T.length) (timesL A' P').length ((timesL A' P').map (Value.int .u8))) := by
      have := own_take HO.out (cutN T T.length) (cutN_le _ _)
      rw [hTL.out, cutL_length]
      unfold cutL
      rw [List.map_take]
      exact this
    clear HO
    go_wp2_with fail
    refine CT.out.mono ?_
    rintro e w4 ⟨rfl, hw⟩
    subst hw
    clear CT
    go_wp2
    go_ret2
    exact ⟨_, rfl, HR.out, B3.out⟩
set_option maxRecDepth 100000 in
set_option maxHeartbeats 4000000 in
theorem times_long (w : World) (pa pb : Option Addr) (ca cb : Nat) (A P : List Int) (hA : HB w (.slice pa A.length ca) A) (hP : HB w (.slice pb P.length cb) P) (h1 : ¬ ((cutL A).length ≤ 256 ∧ (cutL P).length ≤ 256)) :
    Calls Try.prog 39 #[.slice pa A.length ca, .slice pb P.length cb] w fun e w' => e = .returned (.tuple #[.slice none 0 0, .int .i64 61]) ∧ w' = w := by
  have CA := hid (trimmed_any w pa ca A hA)
  have CP := hid (trimmed_any w pb cb P hP)
  rw [← cutL_length] at CA CP
  obtain ⟨A', HA'⟩ : ∃ A', Hid (cutL A = A') := ⟨_, rfl⟩
  obtain ⟨P', HP'⟩ : ∃ P', Hid (cutL P = P') := ⟨_, rfl⟩
  rw [HA'.out] at CA h1
  rw [HP'.out] at CP h1
  clear hA hP
  go_enter Try.func39, Try.ntmps39
  go_wp2_with fail
  refine CA.out.mono ?_
  rintro e w1 ⟨rfl, hw⟩
  subst hw
  clear CA
  go_wp2_with fail
  refine CP.out.mono ?_
  rintro e w2 ⟨rfl, hw⟩
  subst hw
  clear CP
  by_cases hgt : (A'.length : Int) < (P'.length : Int)
  · have g1 : (256 : Int) < (P'.length : Int) := by omega
    go_wp2
    go_ret2
    exact ⟨rfl, rfl⟩
  · have g1 : (256 : Int) < (A'.length : Int) := by omega
    go_wp2
    go_ret2
    exact ⟨rfl, rfl⟩
end Go.Proofs.Ytmglpcenipnmbaa
