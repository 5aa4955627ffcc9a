/- The document's Bytes, walked. -/
import Derived.Test.YtcgecflebplgaaaBsRLetters
import Derived.Test.YtcgecflebplgaaaBsBytesM
import Derived.Test.YtcgecflebplgaaaBsFields
import Derived.OwnWalk
set_option linter.unusedSimpArgs false
set_option linter.unusedVariables false
namespace Go.Proofs.Ytcgecflebplgaaa
open Go Go.RowKit

theorem val_none (c : Int) (h : ∀ j, j < 32 → alph.getD j 0 ≠ c) : val c = -1 := by
  apply Classical.byContradiction
  intro hn
  have h1 := val_lt c
  exact h (val c).toNat (by omega) (alph_val c (by omega))
set_option maxRecDepth 100000 in
set_option maxHeartbeats 1000000 in
theorem value_any (w : World) (c : Int) (hc : 0 ≤ c ∧ c < 256) : Calls Try.prog 31 #[.int .u8 c] w fun e w' => e = .returned (.int .i64 (val c)) ∧ w' = w := by
  go_enter Try.func31, Try.ntmps31
  go_wp2
  go_loopw [3] (fun i wr => ∃ I : Nat, I ≤ 32 ∧ i = .int .i64 (I : Int) ∧ Hid (∀ j, j < I → alph.getD j 0 ≠ c) ∧ wr = w) (fun i _ => 32 - (intOf i).toNat)
  case atStart => exact ⟨0, by omega, rfl, hid (fun j hj => by omega), rfl⟩
  case round =>
    obtain ⟨I, hI, rfl, HN, rfl⟩ := hrel
    by_cases hlt : I < 32
    · have q3 := idx_alph wr (I : Int) (by omega) (by omega)
      rw [Int.toNat_natCast] at q3
      have HV := hid (val_alph I hlt)
      obtain ⟨y, Hy⟩ : ∃ y, Hid (alph.getD I 0 = y) := ⟨_, rfl⟩
      rw [Hy.out] at q3 HV
      have q4 : (Instr.index 9 (.string ⟨#[97, 98, 99, 100, 101, 102, 103, 104, 105, 106, 107, 108, 109, 110, 111, 112, 113, 114, 115, 116, 117, 118, 119, 120, 121, 122, 50, 51, 52, 53, 54, 55]⟩) (.int .i64 (I : Int))).run Try.prog wr = .ok (.int .u8 y) wr := q3
      clear q3
      by_cases he : y = c
      · subst he
        go_wp2
        go_ret
        exact ⟨by rw [HV.out]; rfl, rfl⟩
      · have hne : (y == c) = false := by simpa using he
        have HN2 : Hid (∀ j, j < I + 1 → alph.getD j 0 ≠ c) := by
          refine hid fun j hj => ?_
          by_cases hji : j < I
          · exact HN.out j hji
          · have : j = I := by omega
            subst this
            rw [Hy.out]
            exact he
        go_wp2
        exact ⟨⟨I + 1, by omega, by go_num, HN2, trivial⟩, by simp [intOf]; omega⟩
    · have hv : val c = -1 := val_none c (fun j hj => HN.out j (by omega))
      have HV := hid hv
      clear hv
      go_wp2
      go_ret
      exact ⟨by rw [HV.out]; rfl, rfl⟩
set_option maxHeartbeats 1000000 in
theorem rlength_any (w : World) (n : Nat) (h : n ≤ 1152921504606846975) : Calls Try.prog 32 #[.int .i64 (n : Int)] w fun e w' => e = .returned (.int .i64 (lenL n : Int)) ∧ w' = w := by
  by_cases h0 : n < 1
  · have e : n = 0 := by omega
    subst e
    go_enter Try.func32, Try.ntmps32
    go_wp2
    go_ret
    exact ⟨rfl, rfl⟩
  · go_enter Try.func32, Try.ntmps32
    go_wp2
    go_ret
    refine ⟨congrArg (fun x => Ending.returned (Value.int .i64 x)) (show (8 * (n : Int) + 4) / 5 = (lenL n : Int) from ?_), rfl⟩
    unfold lenL
    omega
end Go.Proofs.Ytcgecflebplgaaa
