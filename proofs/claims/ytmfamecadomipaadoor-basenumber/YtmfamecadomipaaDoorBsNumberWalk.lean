/- BaseNumber, walked. -/
import Derived.Test.YtmfamecadomipaaDoorBsRNum
set_option linter.unusedSimpArgs false
set_option linter.unusedVariables false
namespace Go.Proofs.YtmfamecadomipaaDoor
open Go Go.RowKit

set_option maxRecDepth 100000 in
set_option maxHeartbeats 2000000 in
theorem number_walk (w : World) (x most : Int) (s : ByteArray) (hx : -9223372036854775808 ≤ x ∧ x ≤ 9223372036854775807) (hm : -9223372036854775808 ≤ most ∧ most ≤ 9223372036854775807) (hs : s.size ≤ 281474976710656) (hk : KD w) :
    Calls Tryd.prog 3 #[.int .i64 x, .string s, .int .i64 most] w fun r w' => r = .returned (.bool true) ∧ Below w.heap.size w w' := by
  have CN : Hid (∀ W, KD W → Calls Tryd.prog 7 #[.int .i64 x] W fun e w' => e = .returned (.tuple #[.string (nS x), .int .i64 (nE x)]) ∧ Below W.heap.size W w') := hid fun W h => number_any W x hx.1 hx.2 h
  have RN : Hid (∀ W, Calls Tryd.prog 8 #[.int .i64 x] W fun e w' => e = .returned (.tuple #[.string (nS x), .int .i64 (nE x)]) ∧ Below W.heap.size W w') := hid fun W => rnumber_any W x hx.1 hx.2
  have CR : Hid (∀ W, KD W → Calls Tryd.prog 9 #[.string s, .int .i64 most] W fun e w' => e = .returned (.tuple #[.int .i64 (rdV s.data.toList most), .int .i64 (rdE s.data.toList most)]) ∧ Below W.heap.size W w') := hid fun W h => read_any W s most hs hm.1 hm.2 h
  have RR : Hid (∀ W, Calls Tryd.prog 10 #[.string s, .int .i64 most] W fun e w' => e = .returned (.tuple #[.int .i64 (rdV s.data.toList most), .int .i64 (rdE s.data.toList most)]) ∧ Below W.heap.size W w') := hid fun W => rread_any W s most hs hm.1 hm.2
  obtain ⟨S, HS⟩ : ∃ S, Hid (nS x = S) := ⟨_, rfl⟩
  obtain ⟨E, HE⟩ : ∃ S, Hid (nE x = S) := ⟨_, rfl⟩
  obtain ⟨V, HV⟩ : ∃ S, Hid (rdV s.data.toList most = S) := ⟨_, rfl⟩
  obtain ⟨G, HG⟩ : ∃ S, Hid (rdE s.data.toList most = S) := ⟨_, rfl⟩
  rw [HS.out, HE.out] at CN RN
  rw [HV.out, HG.out] at CR RR
  have heq : (S.toList == S.toList) = true := by simp
  have K0 := hid hk
  clear hk
  go_enter Tryd.func3, Tryd.ntmps3
  go_wp2_with fail
  refine (CN.out w K0.out).mono ?_
  rintro e1 w1 ⟨rfl, hB1⟩
  have B1 := hid hB1
  clear hB1
  go_wp2_with fail
  refine (RN.out w1).mono ?_
  rintro e2 w2 ⟨rfl, hB2⟩
  have B2 := hid (B1.out.trans (hB2.mono B1.out.size))
  clear hB2 B1
  go_wp2_with fail
  refine (CR.out w2 (K0.out.below B2.out)).mono ?_
  rintro e3 w3 ⟨rfl, hB3⟩
  have B3 := hid (B2.out.trans (hB3.mono B2.out.size))
  clear hB3 B2
  go_wp2_with fail
  refine (RR.out w3).mono ?_
  rintro e4 w4 ⟨rfl, hB4⟩
  have B4 := hid (B3.out.trans (hB4.mono B3.out.size))
  clear hB4 B3
  go_wp2
  go_ret
  exact ⟨by simp, B4.out⟩
end Go.Proofs.YtmfamecadomipaaDoor
