/- BaseLetters, walked. -/
import Derived.Test.YtcgecflebplgaaaBsLettersW
import Derived.Test.YtcgecflebplgaaaBsRLetters
import Derived.Test.YtcgecflebplgaaaLentKit
import Derived.Test.YtcgecflebplgaaaSameBytes
set_option linter.unusedSimpArgs false
set_option linter.unusedVariables false
namespace Go.Proofs.Ytcgecflebplgaaa
open Go Go.RowKit

set_option maxRecDepth 100000 in
set_option maxHeartbeats 4000000 in
theorem letters_walk (w : World) (v : Value) (l : List Int) (n : Int) (hv : HB w v l) (hl : l.length ≤ 1048576) (hn : -9223372036854775808 ≤ n ∧ n ≤ 9223372036854775807) :
    Calls Try.prog 3 #[v, .int .i64 n] w fun r w' => r = .returned (.bool true) ∧ Below w.heap.size w w' := by
  have HA := hid hv
  obtain ⟨p, c, rfl, _, hc⟩ := hv.open
  clear hv
  unfold maxLen at hc
  obtain ⟨S, HS⟩ : ∃ S, Hid (bS (lettersL l) = S) := ⟨_, rfl⟩
  have heq : (S.toList == S.toList) = true := by simp
  have CL : Hid (∀ W v, HB W v l → Calls Try.prog 10 #[v] W fun e w' => e = .returned (.string S) ∧ Below W.heap.size W w') := by
    refine hid fun W v h => ?_
    have := letters_any W v l h (by omega)
    rwa [HS.out] at this
  have CR : Hid (∀ W v, HB W v l → Calls Try.prog 13 #[v] W fun e w' => e = .returned (.string S) ∧ Below W.heap.size W w') := by
    refine hid fun W v h => ?_
    have := rletters_any W v l h (by omega)
    rwa [HS.out] at this
  have CN : Hid (∀ W (n : Int), -9223372036854775808 ≤ n → n ≤ 1152921504606846975 → Calls Try.prog 14 #[.int .i64 n] W fun e w' => e = .returned (.int .i64 (lenI n)) ∧ w' = W) := hid length_any
  go_enter Try.func3, Try.ntmps3
  go_wp2_with fail
  refine (lent_any w _ l HA.out (by omega)).mono ?_
  rintro e1 w1 ⟨vx, rfl, hox, hB1⟩
  obtain ⟨gx, cx, ex, hgx, hgx1, hcx, hcx2, hx0, hfx⟩ := lent_part hox HA.out.2
  have OX := hid hox
  have X0 := hid hx0
  have XF := hid hfx
  have B1 := hid hB1
  have hcx' : l.length ≤ cx := by omega
  clear hox hx0 hfx hB1
  subst ex
  go_wp2_with fail
  refine (CL.out w1 _ X0.out).mono ?_
  rintro e2 w2 ⟨rfl, hB2⟩
  have B2 := hid (B1.out.trans (hB2.mono B1.out.size))
  have OX2 := hid (own_below OX.out hB2)
  have XF2 := hid (XF.out.below hB2)
  clear hB2 OX X0 XF B1
  go_wp2_with fail
  refine (kept_any w2 _ _ (lent l) l XF2.out (HA.out.below B2.out) (by omega)).mono ?_
  rintro e3 w3 ⟨rfl, hB3⟩
  have hdt : decide (lent l = lent l) = true := by simp
  rw [hdt]
  have B3 := hid (B2.out.trans (hB3.mono B2.out.size))
  have OX3 := hid (own_below OX2.out hB3)
  clear hB3 OX2 XF2 B2
  go_wp2_with fail
  have hol := lent_length l
  have CO := over_any w3 w.heap.size _ _ _ OX3.out (by omega)
  refine CO.mono ?_
  clear CO
  rintro e4 w4 ⟨rfl, _, hg4⟩
  have B4 := hid (B3.out.grown hg4 B3.out.size (fun k e => (OX3.out.lt k e).1))
  clear hg4 OX3 B3
  have CR4 := hid (CR.out w4 _ (HA.out.below B4.out))
  by_cases h1 : n > 1152921504606846975
  · go_wp2_with fail
    refine CR4.out.mono ?_
    rintro e5 w5 ⟨rfl, hB5⟩
    have B5 := hid (B4.out.trans (hB5.mono B4.out.size))
    clear hB5
    go_wp2_with fail
    refine (CN.out w5 1 (by omega) (by omega)).mono ?_
    rintro e6 w6 ⟨rfl, rfl⟩
    have hln : lenI 1 = 2 := by decide
    rw [hln]
    go_wp2
    go_ret
    exact ⟨by simp, B5.out⟩
  · by_cases h2 : 0 < n
    · have hln : lenI n = n / 5 * 8 + (n % 5 * 8 + 4) / 5 := by unfold lenI; rw [if_neg (by omega)]
      go_wp2_with fail
      refine CR4.out.mono ?_
      rintro e5 w5 ⟨rfl, hB5⟩
      have B5 := hid (B4.out.trans (hB5.mono B4.out.size))
      clear hB5
      go_wp2_with fail
      refine (CN.out w5 n (by omega) (by omega)).mono ?_
      rintro e6 w6 ⟨rfl, rfl⟩
      rw [hln]
      go_wp2
      go_ret
      exact ⟨by simp, B5.out⟩
    · have hln : lenI n = 0 := by unfold lenI; rw [if_pos (by omega)]
      go_wp2_with fail
      refine CR4.out.mono ?_
      rintro e5 w5 ⟨rfl, hB5⟩
      have B5 := hid (B4.out.trans (hB5.mono B4.out.size))
      clear hB5
      go_wp2_with fail
      refine (CN.out w5 n (by omega) (by omega)).mono ?_
      rintro e6 w6 ⟨rfl, rfl⟩
      rw [hln]
      go_wp2
      go_ret
      exact ⟨by simp, B5.out⟩
end Go.Proofs.Ytcgecflebplgaaa
