/- awake, walked. -/
import Derived.Test.YtajdopmhdagehaaCksC
import Derived.Test.YtajdopmhdagehaaCksEq
set_option linter.unusedVariables false
set_option linter.unusedSimpArgs false
namespace Go.Proofs.Ytajdopmhdagehaa.Ds
open Go.Proofs.Ytajdopmhdagehaa
open Go Go.RowKit

set_option maxRecDepth 100000 in
set_option maxHeartbeats 16000000 in
theorem awake_any (w : World) : Calls Try.prog 11 #[] w fun e w' => e = .returned (.bool true) ∧ Below w.heap.size w w' := by
  have HEQ := run_eql_due
  go_enter Try.func11, Try.ntmps11
  have CC := hid (cnew_ok w 5 (by decide))
  go_wp2_with fail
  refine CC.out.mono ?_
  rintro e w1 ⟨c1, rfl, hk, hb⟩
  have B1 : Hid (Below w.heap.size w w1) := hid hb
  have LO1 : Hid (∀ k, (fun k => w.heap.size ≤ k ∧ k < w1.heap.size) k → w.heap.size ≤ k) := hid fun k hk => hk.1
  have K1 := hid hk
  obtain ⟨S1, HS1⟩ : ∃ S1, Hid ((fun k => w.heap.size ≤ k ∧ k < w1.heap.size) = S1) := ⟨_, rfl⟩
  rw [HS1.out] at K1 LO1
  clear hk hb CC HS1
  have CC := hid (cset_ok K1.out 7 (by decide) ⟨#[97]⟩ (by decide))
  go_wp2_with fail
  refine CC.out.mono ?_
  rintro e w2 ⟨rfl, b2, S2, hk, he, hs⟩
  have LO2 : Hid (∀ k, S2 k → w.heap.size ≤ k) := hid fun k hk => by
    rcases hs k hk with q | q
    · exact LO1.out k q
    · have := B1.out.size; omega
  have B2 : Hid (Below w.heap.size w w2) := hid (B1.out.trans (he.below B1.out.size LO1.out))
  have K2 : Hid (CK w2 c1 5 [⟨b2, 0, ((0 : Int), 7, ⟨#[97]⟩)⟩] 1 S2) := hid hk
  clear hk he hs CC K1
  have CC := hid (cset_ok K2.out 6 (by decide) ⟨#[98]⟩ (by decide))
  go_wp2_with fail
  refine CC.out.mono ?_
  rintro e w3 ⟨rfl, b3, S3, hk, he, hs⟩
  have LO3 : Hid (∀ k, S3 k → w.heap.size ≤ k) := hid fun k hk => by
    rcases hs k hk with q | q
    · exact LO2.out k q
    · have := B2.out.size; omega
  have B3 : Hid (Below w.heap.size w w3) := hid (B2.out.trans (he.below B2.out.size LO2.out))
  have K3 : Hid (CK w3 c1 5 [⟨b3, 1, ((1 : Int), 6, ⟨#[98]⟩)⟩, ⟨b2, 0, ((0 : Int), 7, ⟨#[97]⟩)⟩] 2 S3) := hid hk
  clear hk he hs CC K2
  have CC := hid (cset_bad K3.out (4) (by decide) ⟨#[101]⟩)
  rw [show rcE 5 (4) = 180 from by decide] at CC
  go_wp2_with fail
  refine CC.out.mono ?_
  rintro e w4 ⟨rfl, hk, he⟩
  have B4 : Hid (Below w.heap.size w w4) := hid (B3.out.trans (he.below B3.out.size LO3.out))
  have K4 : Hid (CK w4 c1 5 [⟨b3, 1, ((1 : Int), 6, ⟨#[98]⟩)⟩, ⟨b2, 0, ((0 : Int), 7, ⟨#[97]⟩)⟩] 2 S3) := hid hk
  clear hk he CC
  clear K3
  have CC := hid (cnext_some (r := ⟨b3, 1, ((1 : Int), 6, ⟨#[98]⟩)⟩) (M2 := [⟨b2, 0, ((0 : Int), 7, ⟨#[97]⟩)⟩]) K4.out (List.perm_middle (α := Rw Pr) (l₁ := []) (a := ⟨b3, 1, ((1 : Int), 6, ⟨#[98]⟩)⟩) (l₂ := [⟨b2, 0, ((0 : Int), 7, ⟨#[97]⟩)⟩])) (by simp [ahd, keyD]))
  go_wp2_with fail
  refine CC.out.mono ?_
  rintro e w5 ⟨rfl, hk, he⟩
  have B5 : Hid (Below w.heap.size w w5) := hid (B4.out.trans (he.below B4.out.size LO3.out))
  have K5 : Hid (CK w5 c1 5 [⟨b3, 1, ((1 : Int), 6, ⟨#[98]⟩)⟩, ⟨b2, 0, ((0 : Int), 7, ⟨#[97]⟩)⟩] 2 S3) := hid hk
  clear hk he CC
  clear K4
  have CC := hid (ctake_some (r := ⟨b3, 1, ((1 : Int), 6, ⟨#[98]⟩)⟩) (M2 := [⟨b2, 0, ((0 : Int), 7, ⟨#[97]⟩)⟩]) K5.out (List.perm_middle (α := Rw Pr) (l₁ := []) (a := ⟨b3, 1, ((1 : Int), 6, ⟨#[98]⟩)⟩) (l₂ := [⟨b2, 0, ((0 : Int), 7, ⟨#[97]⟩)⟩])) (by simp [ahd, keyD]))
  go_wp2_with fail
  refine CC.out.mono ?_
  rintro e w6 ⟨rfl, hk, he⟩
  have B6 : Hid (Below w.heap.size w w6) := hid (B5.out.trans (he.below B5.out.size LO3.out))
  have K6 : Hid (CK w6 c1 6 [⟨b2, 0, ((0 : Int), 7, ⟨#[97]⟩)⟩] 2 S3) := hid hk
  clear hk he CC
  clear K5
  go_wp2_with fail
  have B7 := hid (B6.out.alloc B6.out.size (.cells #[.int .i64 1, .int .i64 6, .string ⟨#[98]⟩] 56))
  have K7 := hid (K6.out.below ((Below.refl _ _).alloc (Nat.le_refl _) (.cells #[.int .i64 1, .int .i64 6, .string ⟨#[98]⟩] 56)))
  have HX7 := hid (heap_alloc_new w6 (.cells #[.int .i64 1, .int .i64 6, .string ⟨#[98]⟩] 56))
  obtain ⟨w7, HW7⟩ : ∃ W, Hid (w6.alloc (.cells #[.int .i64 1, .int .i64 6, .string ⟨#[98]⟩] 56) = W) := ⟨_, rfl⟩
  obtain ⟨x7, HXB7⟩ : ∃ x, Hid (w6.heap.size = x) := ⟨_, rfl⟩
  rw [HW7.out] at B7 K7 HX7
  rw [HXB7.out] at HX7
  rw [HW7.out, HXB7.out]
  clear K6
  have CC := hid (cnow_ok K7.out)
  refine CC.out.mono ?_
  rintro e wz ⟨rfl, hw⟩
  rw [hw]
  clear hw CC
  have CC := hid (clen_ok K7.out)
  go_wp2_with fail
  refine CC.out.mono ?_
  rintro e wz ⟨rfl, hw⟩
  rw [hw]
  clear hw CC
  go_wp2_with fail
  go_ret
  exact ⟨rfl, B7.out⟩
end Go.Proofs.Ytajdopmhdagehaa.Ds
