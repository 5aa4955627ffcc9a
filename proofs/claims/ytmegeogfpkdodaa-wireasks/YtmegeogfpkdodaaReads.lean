/- octet's number at each width, and the Reader's Byte, Word, Long, walked at a reader that NewReader made. -/
import Derived.Test.YtmegeogfpkdodaaNumbers
import Derived.Test.YtmegeogfpkdodaaReader
namespace Go.Proofs.Ytmegeogfpkdodaa
open Go.RowKit

set_option maxHeartbeats 1000000 in
theorem number_uint8 (w : World) (g : Nat) (f : Bool) (l : List Int) (h : RD w g true f l) : Calls Try.prog 90 #[.pointer (some ⟨g, 0, none⟩)] w fun e w' => e = .returned (.int .u8 (smallNo 1 (taken l 1))) ∧ RD w' g true (f || !okTake l 1) (leftAt l 1) ∧ w.grownBy w' (some g) := by
  go_enter Try.func90, Try.ntmps90
  go_wp2_with fail
  refine (width_uint8 _).mono ?_
  rintro e w' ⟨rfl, hw⟩
  have hw' := hw.symm
  subst hw'
  clear hw
  go_wp2_with fail
  refine (take_any w g f l 1 h).mono ?_
  rintro e w1 ⟨v1, rfl, hb1, hr1, hg1⟩
  have HB1 := hid hb1
  have HR1 := hid hr1
  have HG1 := hid hg1
  obtain ⟨p, c, e, _, _⟩ := hb1.open
  clear hb1 hr1 hg1
  subst e
  go_wp2_with fail
  refine (small_uint8 w1 _ _ HB1.out).mono ?_
  rintro e w2 ⟨rfl, hw⟩
  have hw' := hw.symm
  subst hw'
  clear hw
  go_wp2
  go_ret
  exact ⟨rfl, HR1.out, HG1.out⟩

set_option maxHeartbeats 1000000 in
theorem byte_any (w : World) (g : Nat) (f : Bool) (l : List Int) (h : RD w g true f l) : Calls Try.prog 76 #[.pointer (some ⟨g, 0, none⟩)] w fun e w' => e = .returned (.int .u8 (smallNo 1 (taken l 1))) ∧ RD w' g true (f || !okTake l 1) (leftAt l 1) ∧ w.grownBy w' (some g) := by
  go_enter Try.func76, Try.ntmps76
  go_wp2_with fail
  refine (number_uint8 w g f l h).mono ?_
  rintro e w1 ⟨rfl, hr, hg⟩
  go_wp2
  go_ret
  exact ⟨rfl, hr, hg⟩

set_option maxHeartbeats 1000000 in
theorem number_uint32 (w : World) (g : Nat) (f : Bool) (l : List Int) (h : RD w g true f l) : Calls Try.prog 96 #[.pointer (some ⟨g, 0, none⟩)] w fun e w' => e = .returned (.int .u32 (smallNo 4 (taken l 4))) ∧ RD w' g true (f || !okTake l 4) (leftAt l 4) ∧ w.grownBy w' (some g) := by
  go_enter Try.func96, Try.ntmps96
  go_wp2_with fail
  refine (width_uint32 _).mono ?_
  rintro e w' ⟨rfl, hw⟩
  have hw' := hw.symm
  subst hw'
  clear hw
  go_wp2_with fail
  refine (take_any w g f l 4 h).mono ?_
  rintro e w1 ⟨v1, rfl, hb1, hr1, hg1⟩
  have HB1 := hid hb1
  have HR1 := hid hr1
  have HG1 := hid hg1
  obtain ⟨p, c, e, _, _⟩ := hb1.open
  clear hb1 hr1 hg1
  subst e
  go_wp2_with fail
  refine (small_uint32 w1 _ _ HB1.out).mono ?_
  rintro e w2 ⟨rfl, hw⟩
  have hw' := hw.symm
  subst hw'
  clear hw
  go_wp2
  go_ret
  exact ⟨rfl, HR1.out, HG1.out⟩

set_option maxHeartbeats 1000000 in
theorem word_any (w : World) (g : Nat) (f : Bool) (l : List Int) (h : RD w g true f l) : Calls Try.prog 91 #[.pointer (some ⟨g, 0, none⟩)] w fun e w' => e = .returned (.int .u32 (smallNo 4 (taken l 4))) ∧ RD w' g true (f || !okTake l 4) (leftAt l 4) ∧ w.grownBy w' (some g) := by
  go_enter Try.func91, Try.ntmps91
  go_wp2_with fail
  refine (number_uint32 w g f l h).mono ?_
  rintro e w1 ⟨rfl, hr, hg⟩
  go_wp2
  go_ret
  exact ⟨rfl, hr, hg⟩

set_option maxHeartbeats 1000000 in
theorem number_uint64 (w : World) (g : Nat) (f : Bool) (l : List Int) (h : RD w g true f l) : Calls Try.prog 97 #[.pointer (some ⟨g, 0, none⟩)] w fun e w' => e = .returned (.int .u64 (smallNo 8 (taken l 8))) ∧ RD w' g true (f || !okTake l 8) (leftAt l 8) ∧ w.grownBy w' (some g) := by
  go_enter Try.func97, Try.ntmps97
  go_wp2_with fail
  refine (width_uint64 _).mono ?_
  rintro e w' ⟨rfl, hw⟩
  have hw' := hw.symm
  subst hw'
  clear hw
  go_wp2_with fail
  refine (take_any w g f l 8 h).mono ?_
  rintro e w1 ⟨v1, rfl, hb1, hr1, hg1⟩
  have HB1 := hid hb1
  have HR1 := hid hr1
  have HG1 := hid hg1
  obtain ⟨p, c, e, _, _⟩ := hb1.open
  clear hb1 hr1 hg1
  subst e
  go_wp2_with fail
  refine (small_uint64 w1 _ _ HB1.out).mono ?_
  rintro e w2 ⟨rfl, hw⟩
  have hw' := hw.symm
  subst hw'
  clear hw
  go_wp2
  go_ret
  exact ⟨rfl, HR1.out, HG1.out⟩

set_option maxHeartbeats 1000000 in
theorem long_any (w : World) (g : Nat) (f : Bool) (l : List Int) (h : RD w g true f l) : Calls Try.prog 92 #[.pointer (some ⟨g, 0, none⟩)] w fun e w' => e = .returned (.int .u64 (smallNo 8 (taken l 8))) ∧ RD w' g true (f || !okTake l 8) (leftAt l 8) ∧ w.grownBy w' (some g) := by
  go_enter Try.func92, Try.ntmps92
  go_wp2_with fail
  refine (number_uint64 w g f l h).mono ?_
  rintro e w1 ⟨rfl, hr, hg⟩
  go_wp2
  go_ret
  exact ⟨rfl, hr, hg⟩
end Go.Proofs.Ytmegeogfpkdodaa
