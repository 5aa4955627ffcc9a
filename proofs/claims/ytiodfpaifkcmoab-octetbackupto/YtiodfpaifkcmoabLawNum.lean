/- The law file's own width, cut, big and small, walked. -/
import Derived.Test.YtiodfpaifkcmoabNumbers
import Derived.Test.YtiodfpaifkcmoabFrameMath
namespace Go.Proofs.Ytiodfpaifkcmoab
open Go.RowKit

/-- The width that is meant. -/
def wd (w : Int) : Nat := if w = 1 then 1 else if w = 2 then 2 else if w = 4 then 4 else 8

theorem wd_cases (w : Int) : (w = 1 ∧ wd w = 1) ∨ (w = 2 ∧ wd w = 2) ∨ (w = 4 ∧ wd w = 4) ∨ ((w == 1) = false ∧ (w == 2) = false ∧ (w == 4) = false ∧ wd w = 8) := by
  by_cases h1 : w = 1
  · subst h1; exact .inl ⟨rfl, rfl⟩
  · by_cases h2 : w = 2
    · subst h2; exact .inr (.inl ⟨rfl, rfl⟩)
    · by_cases h4 : w = 4
      · subst h4; exact .inr (.inr (.inl ⟨rfl, rfl⟩))
      · exact .inr (.inr (.inr ⟨by simpa using h1, by simpa using h2, by simpa using h4, by simp [wd, h1, h2, h4]⟩))

theorem bigL_cut (r x : Nat) : bigL r (x % 256 ^ r) = bigL r x := by
  have h := bigL_mod r (x % 256 ^ r) (x / 256 ^ r)
  rw [Nat.div_add_mod' x (256 ^ r)] at h
  exact h.symm

set_option maxHeartbeats 400000 in
theorem lwidth_any (W : World) (w : Int) : Calls Try.prog 10 #[.int .i64 w] W fun e W' => e = .returned (.int .i64 (wd w)) ∧ W' = W := by
  rcases wd_cases w with ⟨rfl, h⟩ | ⟨rfl, h⟩ | ⟨rfl, h⟩ | ⟨h1, h2, h4, h⟩
  all_goals rw [h]
  all_goals clear h
  all_goals go_enter Try.func10, Try.ntmps10
  all_goals go_wp2
  all_goals go_ret
  all_goals exact ⟨rfl, rfl⟩

set_option maxHeartbeats 400000 in
theorem lcut_any (W : World) (x : Nat) (hx : x < 18446744073709551616) (w : Int) : Calls Try.prog 9 #[.int .u64 (x : Int), .int .i64 w] W fun e W' => e = .returned (.int .u64 ((x % 256 ^ wd w : Nat) : Int)) ∧ W' = W := by
  have hw := lwidth_any W w
  have hc := wd_cases w
  rcases hc with ⟨-, h⟩ | ⟨-, h⟩ | ⟨-, h⟩ | ⟨-, -, -, h⟩
  all_goals rw [h] at hw ⊢
  all_goals have HW := hid hw
  all_goals clear hw
  all_goals go_enter Try.func9, Try.ntmps9
  all_goals go_wp2_with (go_at_call 10; refine HW.out.mono ?_; rintro e w' ⟨rfl, hw⟩; have hw' := hw.symm; subst hw'; clear hw)
  all_goals go_ret
  all_goals refine ⟨?_, rfl⟩
  all_goals first | rfl | (congr 2; omega) | (rw [Nat.mod_eq_of_lt hx]; rfl)

set_option maxHeartbeats 1000000 in
theorem lbig_any (W : World) (x : Nat) (hx : x < 18446744073709551616) (w : Int) : Calls Try.prog 7 #[.int .u64 (x : Int), .int .i64 w] W fun e W' => ∃ v', e = .returned v' ∧ W'.ownsRow W.heap.size 5 1 v' (wd w) ((bigL (wd w) x).map (Value.int .u8)) ∧ Below W.heap.size W W' := by
  have hw := lwidth_any W w
  have hc := wd_cases w
  rcases hc with ⟨-, h⟩ | ⟨-, h⟩ | ⟨-, h⟩ | ⟨-, -, -, h⟩
  all_goals rw [h] at hw ⊢
  all_goals have HW := hid hw
  all_goals clear hw h
  · have hbg := big_uint8 (x % 256) (by omega) W
    rw [show bigL 1 (x % 256) = bigL 1 x from bigL_cut 1 x] at hbg
    rw [show ((x % 256 : Nat) : Int) = (x : Int) % 256 by omega] at hbg
    have HBg := hid hbg
    clear hbg
    go_enter Try.func7, Try.ntmps7
    go_wp2_with (go_at_call 10; refine HW.out.mono ?_; rintro e w' ⟨rfl, hw⟩; have hw' := hw.symm; subst hw'; clear hw)
    refine HBg.out.mono ?_
    rintro e W2 ⟨v2, rfl, ho, hB⟩
    have HO := hid ho
    have HBB := hid hB
    clear ho hB
    go_wp2
    go_ret
    exact ⟨_, rfl, HO.out, HBB.out⟩
  · have hbg := big_uint16 (x % 65536) (by omega) W
    rw [show bigL 2 (x % 65536) = bigL 2 x from bigL_cut 2 x] at hbg
    rw [show ((x % 65536 : Nat) : Int) = (x : Int) % 65536 by omega] at hbg
    have HBg := hid hbg
    clear hbg
    go_enter Try.func7, Try.ntmps7
    go_wp2_with (go_at_call 10; refine HW.out.mono ?_; rintro e w' ⟨rfl, hw⟩; have hw' := hw.symm; subst hw'; clear hw)
    refine HBg.out.mono ?_
    rintro e W2 ⟨v2, rfl, ho, hB⟩
    have HO := hid ho
    have HBB := hid hB
    clear ho hB
    go_wp2
    go_ret
    exact ⟨_, rfl, HO.out, HBB.out⟩
  · have hbg := big_uint32 (x % 4294967296) (by omega) W
    rw [show bigL 4 (x % 4294967296) = bigL 4 x from bigL_cut 4 x] at hbg
    rw [show ((x % 4294967296 : Nat) : Int) = (x : Int) % 4294967296 by omega] at hbg
    have HBg := hid hbg
    clear hbg
    go_enter Try.func7, Try.ntmps7
    go_wp2_with (go_at_call 10; refine HW.out.mono ?_; rintro e w' ⟨rfl, hw⟩; have hw' := hw.symm; subst hw'; clear hw)
    refine HBg.out.mono ?_
    rintro e W2 ⟨v2, rfl, ho, hB⟩
    have HO := hid ho
    have HBB := hid hB
    clear ho hB
    go_wp2
    go_ret
    exact ⟨_, rfl, HO.out, HBB.out⟩
  · have hbg := big_uint64 x (by omega) W
    have HBg := hid hbg
    clear hbg
    go_enter Try.func7, Try.ntmps7
    go_wp2_with (go_at_call 10; refine HW.out.mono ?_; rintro e w' ⟨rfl, hw⟩; have hw' := hw.symm; subst hw'; clear hw)
    refine HBg.out.mono ?_
    rintro e W2 ⟨v2, rfl, ho, hB⟩
    have HO := hid ho
    have HBB := hid hB
    clear ho hB
    go_wp2
    go_ret
    exact ⟨_, rfl, HO.out, HBB.out⟩

set_option maxHeartbeats 1000000 in
theorem lsmall_any (W : World) (v : Value) (l : List Int) (hl : HB W v l) (w : Int) : Calls Try.prog 8 #[v, .int .i64 w] W fun e W' => e = .returned (.tuple #[.int .u64 (smallNo (wd w) l), .int .i64 (smallErr (wd w) l)]) ∧ W' = W := by
  have hw := lwidth_any W w
  have hby := hl.2
  have hc := wd_cases w
  have HLl := hid hl
  obtain ⟨p, c, e, _, _⟩ := hl.open
  clear hl
  subst e
  rcases hc with ⟨-, h⟩ | ⟨-, h⟩ | ⟨-, h⟩ | ⟨-, -, -, h⟩
  all_goals rw [h] at hw ⊢
  all_goals have HW := hid hw
  all_goals clear hw h
  · have hsm := small_uint8 W _ l HLl.out
    have hlt : smallNo 1 l < 256 := by
      unfold smallNo
      split
      · rename_i e
        have := valL_lt l hby
        rw [e] at this
        omega
      · omega
    obtain ⟨y, HY⟩ : ∃ y, Hid (smallNo 1 l = y) := ⟨_, rfl⟩
    obtain ⟨z, HZ⟩ : ∃ z, Hid (smallErr 1 l = z) := ⟨_, rfl⟩
    rw [HY.out, HZ.out] at hsm ⊢
    rw [HY.out] at hlt
    have HS := hid hsm
    clear hsm
    go_enter Try.func8, Try.ntmps8
    go_wp2_with (go_at_call 10; refine HW.out.mono ?_; rintro e w' ⟨rfl, hw⟩; have hw' := hw.symm; subst hw'; clear hw)
    refine HS.out.mono ?_
    rintro e w' ⟨rfl, hw⟩
    have hw' := hw.symm
    subst hw'
    clear hw
    go_wp2
    go_ret2
    exact ⟨by first | rfl | (congr 4; omega), rfl⟩
  · have hsm := small_uint16 W _ l HLl.out
    have hlt : smallNo 2 l < 65536 := by
      unfold smallNo
      split
      · rename_i e
        have := valL_lt l hby
        rw [e] at this
        omega
      · omega
    obtain ⟨y, HY⟩ : ∃ y, Hid (smallNo 2 l = y) := ⟨_, rfl⟩
    obtain ⟨z, HZ⟩ : ∃ z, Hid (smallErr 2 l = z) := ⟨_, rfl⟩
    rw [HY.out, HZ.out] at hsm ⊢
    rw [HY.out] at hlt
    have HS := hid hsm
    clear hsm
    go_enter Try.func8, Try.ntmps8
    go_wp2_with (go_at_call 10; refine HW.out.mono ?_; rintro e w' ⟨rfl, hw⟩; have hw' := hw.symm; subst hw'; clear hw)
    refine HS.out.mono ?_
    rintro e w' ⟨rfl, hw⟩
    have hw' := hw.symm
    subst hw'
    clear hw
    go_wp2
    go_ret2
    exact ⟨by first | rfl | (congr 4; omega), rfl⟩
  · have hsm := small_uint32 W _ l HLl.out
    have hlt : smallNo 4 l < 4294967296 := by
      unfold smallNo
      split
      · rename_i e
        have := valL_lt l hby
        rw [e] at this
        omega
      · omega
    obtain ⟨y, HY⟩ : ∃ y, Hid (smallNo 4 l = y) := ⟨_, rfl⟩
    obtain ⟨z, HZ⟩ : ∃ z, Hid (smallErr 4 l = z) := ⟨_, rfl⟩
    rw [HY.out, HZ.out] at hsm ⊢
    rw [HY.out] at hlt
    have HS := hid hsm
    clear hsm
    go_enter Try.func8, Try.ntmps8
    go_wp2_with (go_at_call 10; refine HW.out.mono ?_; rintro e w' ⟨rfl, hw⟩; have hw' := hw.symm; subst hw'; clear hw)
    refine HS.out.mono ?_
    rintro e w' ⟨rfl, hw⟩
    have hw' := hw.symm
    subst hw'
    clear hw
    go_wp2
    go_ret2
    exact ⟨by first | rfl | (congr 4; omega), rfl⟩
  · have hsm := small_uint64 W _ l HLl.out
    have hlt : smallNo 8 l < 18446744073709551616 := by
      unfold smallNo
      split
      · rename_i e
        have := valL_lt l hby
        rw [e] at this
        omega
      · omega
    obtain ⟨y, HY⟩ : ∃ y, Hid (smallNo 8 l = y) := ⟨_, rfl⟩
    obtain ⟨z, HZ⟩ : ∃ z, Hid (smallErr 8 l = z) := ⟨_, rfl⟩
    rw [HY.out, HZ.out] at hsm ⊢
    rw [HY.out] at hlt
    have HS := hid hsm
    clear hsm
    go_enter Try.func8, Try.ntmps8
    go_wp2_with (go_at_call 10; refine HW.out.mono ?_; rintro e w' ⟨rfl, hw⟩; have hw' := hw.symm; subst hw'; clear hw)
    refine HS.out.mono ?_
    rintro e w' ⟨rfl, hw⟩
    have hw' := hw.symm
    subst hw'
    clear hw
    go_wp2
    go_ret2
    exact ⟨by first | rfl | (congr 4; omega), rfl⟩
end Go.Proofs.Ytiodfpaifkcmoab
