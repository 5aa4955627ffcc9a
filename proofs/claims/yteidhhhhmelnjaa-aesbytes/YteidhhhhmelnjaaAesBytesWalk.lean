/- AesBytes, walked. -/
import Derived.Test.YteidhhhhmelnjaaAesRef
namespace Go.Proofs.Yteidhhhhmelnjaa
open Go.RowKit

set_option maxRecDepth 100000 in
set_option maxHeartbeats 4000000 in
theorem bytes_walk (w : World) (a b : Nat) (ha : a < 256) (hb : b < 256) : Calls Try.prog 3 #[.int .u8 (a : Int), .int .u8 (b : Int)] w fun e w' => e = .returned (.bool true) ∧ Below w.heap.size w w' := by
  obtain ⟨p, HP⟩ : ∃ p, Hid (prod a b = p) := ⟨_, rfl⟩
  obtain ⟨i, HI⟩ : ∃ i, Hid (inv a = i) := ⟨_, rfl⟩
  obtain ⟨s, HS⟩ : ∃ s, Hid (sub a = s) := ⟨_, rfl⟩
  obtain ⟨u, HU⟩ : ∃ u, Hid (unsub a = u) := ⟨_, rfl⟩
  have C1 : Hid (∀ w, Calls Try.prog 9 #[.int .u8 (a : Int), .int .u8 (b : Int)] w fun e w' => e = .returned (.int .u8 (p : Int)) ∧ w' = w) := by rw [← HP.out]; exact fun w => product_any w a b ha hb
  have C2 : Hid (∀ w, Calls Try.prog 10 #[.int .u8 (a : Int), .int .u8 (b : Int)] w fun e w' => e = .returned (.int .u8 (p : Int)) ∧ w' = w) := by rw [← HP.out]; exact fun w => rproduct_any w a b ha hb
  have C3 : Hid (∀ w, Calls Try.prog 11 #[.int .u8 (a : Int)] w fun e w' => e = .returned (.int .u8 (i : Int)) ∧ Below w.heap.size w w') := by rw [← HI.out]; exact fun w => inverse_any w a ha
  have C4 : Hid (∀ w, Calls Try.prog 12 #[.int .u8 (a : Int)] w fun e w' => e = .returned (.int .u8 (i : Int)) ∧ w' = w) := by rw [← HI.out, inv_rinv a ha]; exact fun w => rinverse_any w a ha
  have C5 : Hid (∀ w, Calls Try.prog 13 #[.int .u8 (a : Int)] w fun e w' => e = .returned (.int .u8 (s : Int)) ∧ Below w.heap.size w w') := by rw [← HS.out]; exact fun w => sub_any w a ha
  have C6 : Hid (∀ w, Calls Try.prog 14 #[.int .u8 (a : Int)] w fun e w' => e = .returned (.int .u8 (s : Int)) ∧ w' = w) := by rw [← HS.out, ← sub_rsub a ha]; exact fun w => rsub_any w a ha
  have C7 : Hid (∀ w, Calls Try.prog 15 #[.int .u8 (a : Int)] w fun e w' => e = .returned (.int .u8 (u : Int)) ∧ Below w.heap.size w w') := by rw [← HU.out]; exact fun w => unsub_any w a ha
  have C8 : Hid (∀ w, Calls Try.prog 16 #[.int .u8 (a : Int)] w fun e w' => e = .returned (.int .u8 (u : Int)) ∧ w' = w) := by rw [← HU.out]; exact fun w => runsub_any w a ha
  go_enter Try.func3, Try.ntmps3
  go_wp2_with fail
  refine (C1.out w).mono ?_
  rintro e w1 ⟨rfl, hw⟩
  subst hw
  go_wp2_with fail
  refine (C2.out w1).mono ?_
  rintro e w2 ⟨rfl, hw⟩
  subst hw
  go_wp2_with fail
  refine (C3.out w2).mono ?_
  rintro e w3 ⟨rfl, hb3⟩
  have B3 := hid hb3
  clear hb3
  go_wp2_with fail
  refine (C4.out w3).mono ?_
  rintro e w4 ⟨rfl, hw⟩
  subst hw
  go_wp2_with fail
  refine (C5.out w4).mono ?_
  rintro e w5 ⟨rfl, hb5⟩
  have B5 := hid (B3.out.trans (hb5.mono B3.out.size))
  clear hb5
  go_wp2_with fail
  refine (C6.out w5).mono ?_
  rintro e w6 ⟨rfl, hw⟩
  subst hw
  go_wp2_with fail
  refine (C7.out w6).mono ?_
  rintro e w7 ⟨rfl, hb7⟩
  have B7 := hid (B5.out.trans (hb7.mono B5.out.size))
  clear hb7
  go_wp2_with fail
  refine (C8.out w7).mono ?_
  rintro e w8 ⟨rfl, hw⟩
  subst hw
  go_wp2
  go_ret
  exact ⟨rfl, B7.out⟩
end Go.Proofs.Yteidhhhhmelnjaa
