/- BaseBytes, walked. -/
import Derived.Test.YtcgecflebplgaaaBsBytesW
import Derived.Test.YtcgecflebplgaaaBsRBytesW
import Derived.Test.YtcgecflebplgaaaBsApart3
import Derived.Test.YtcgecflebplgaaaSameBytes
set_option linter.unusedSimpArgs false
set_option linter.unusedVariables false
namespace Go.Proofs.Ytcgecflebplgaaa
open Go Go.RowKit

set_option maxRecDepth 100000 in
set_option maxHeartbeats 8000000 in
theorem bytes_walk (w : World) (s o : ByteArray) (hs : s.size ≤ 140737488351232) (ho : o.size ≤ 140737488351232) :
    Calls Try.prog 4 #[.string s, .string o] w fun r w' => r = .returned (.bool true) ∧ Below w.heap.size w w' := by
  have hsl : (byL (sB s)).length ≤ 140737488351232 := by have := byL_length (sB s); rw [sB_length] at this; omega
  have hol : (byL (sB o)).length ≤ 140737488351232 := by have := byL_length (sB o); rw [sB_length] at this; omega
  obtain ⟨P1, HP1⟩ : ∃ x, Hid (byP (sB s) = x) := ⟨_, rfl⟩
  obtain ⟨P2, HP2⟩ : ∃ x, Hid (byP (sB o) = x) := ⟨_, rfl⟩
  obtain ⟨E1, HE1⟩ : ∃ x, Hid (byE (sB s) = x) := ⟨_, rfl⟩
  obtain ⟨E2, HE2⟩ : ∃ x, Hid (byE (sB o) = x) := ⟨_, rfl⟩
  have BY1 := hid (byL_byt (sB s))
  have BY2 := hid (byL_byt (sB o))
  obtain ⟨L1, HL1⟩ : ∃ x, Hid (byL (sB s) = x) := ⟨_, rfl⟩
  obtain ⟨L2, HL2⟩ : ∃ x, Hid (byL (sB o) = x) := ⟨_, rfl⟩
  have CS : Hid (∀ W, Calls Try.prog 16 #[.string s] W fun e w' => ∃ v', e = .returned (.tuple #[v', .int .i64 P1, .int .i64 E1]) ∧ w'.ownsRow W.heap.size 5 1 v' L1.length (L1.map (Value.int .u8)) ∧ Below W.heap.size W w') := by
    refine hid fun W => ?_
    rw [← HP1.out, ← HE1.out, ← HL1.out]
    exact bytes_any W s (by omega)
  have CO : Hid (∀ W, Calls Try.prog 16 #[.string o] W fun e w' => ∃ v', e = .returned (.tuple #[v', .int .i64 P2, .int .i64 E2]) ∧ w'.ownsRow W.heap.size 5 1 v' L2.length (L2.map (Value.int .u8)) ∧ Below W.heap.size W w') := by
    refine hid fun W => ?_
    rw [← HP2.out, ← HE2.out, ← HL2.out]
    exact bytes_any W o (by omega)
  have RS : Hid (∀ W, Calls Try.prog 15 #[.string s] W fun e w' => ∃ v', e = .returned (.tuple #[v', .int .i64 P1, .int .i64 E1]) ∧ w'.ownsRow W.heap.size 5 1 v' L1.length (L1.map (Value.int .u8)) ∧ Below W.heap.size W w') := by
    refine hid fun W => ?_
    rw [← HP1.out, ← HE1.out, ← HL1.out]
    exact rbytes_any W s (by omega)
  have RO : Hid (∀ W, Calls Try.prog 15 #[.string o] W fun e w' => ∃ v', e = .returned (.tuple #[v', .int .i64 P2, .int .i64 E2]) ∧ w'.ownsRow W.heap.size 5 1 v' L2.length (L2.map (Value.int .u8)) ∧ Below W.heap.size W w') := by
    refine hid fun W => ?_
    rw [← HP2.out, ← HE2.out, ← HL2.out]
    exact rbytes_any W o (by omega)
  rw [HL1.out] at hsl BY1
  rw [HL2.out] at hol BY2
  have HLN := hid (And.intro hsl hol)
  clear hsl hol hs ho
  go_enter Try.func4, Try.ntmps4
  go_wp2_with fail
  refine (RS.out w).mono ?_
  rintro e1 w1 ⟨vw, rfl, hw, hB1⟩
  obtain ⟨pw, cw, rfl⟩ := own_slc hw
  have OW1 := hid hw
  have B1 := hid hB1
  clear hw hB1
  go_wp2_with fail
  refine (RO.out w1).mono ?_
  rintro e2 w2 ⟨vx, rfl, hx, hB2⟩
  obtain ⟨px, cx, rfl⟩ := own_slc hx
  have OW2 := hid (own_below OW1.out hB2)
  have OX2 := hid hx
  have B2 := hid (B1.out.trans (hB2.mono B1.out.size))
  clear hx hB2 OW1
  go_wp2_with fail
  refine (CS.out w2).mono ?_
  rintro e3 w3 ⟨va, rfl, ha, hB3⟩
  obtain ⟨pa, ca, rfl⟩ := own_slc ha
  have OW3 := hid (own_below OW2.out hB3)
  have OX3 := hid (own_below OX2.out hB3)
  have OA3 := hid ha
  have B3 := hid (B2.out.trans (hB3.mono B2.out.size))
  have hs23 := hid hB3.size
  clear ha hB3 OW2 OX2
  go_wp2_with fail
  refine (CO.out w3).mono ?_
  rintro e4 w4 ⟨vb, rfl, hb, hB4⟩
  obtain ⟨pb, cb, rfl⟩ := own_slc hb
  have NAB := hid (own_ne OA3.out hb (Nat.le_refl _))
  have OW4 := hid (own_below OW3.out hB4)
  have OX4 := hid (own_below OX3.out hB4)
  have OA4 := hid (own_below OA3.out hB4)
  have OB4 := hid hb
  have B4 := hid (B3.out.trans (hB4.mono B3.out.size))
  have hs34 := hid hB4.size
  clear hb hB4 OW3 OX3 OA3
  go_wp2_with fail
  refine (CS.out w4).mono ?_
  rintro e5 w5 ⟨vc, rfl, hc, hB5⟩
  obtain ⟨pc, cc, rfl⟩ := own_slc hc
  have NAC := hid (own_ne OA4.out hc (Nat.le_refl _))
  have NBC := hid (own_ne OB4.out hc (Nat.le_refl _))
  have OW5 := hid (own_below OW4.out hB5)
  have OX5 := hid (own_below OX4.out hB5)
  have OA5 := hid (own_below OA4.out hB5)
  have OB5 := hid (own_below OB4.out hB5)
  have OC5 := hid hc
  have B5 := hid (B4.out.trans (hB5.mono B4.out.size))
  clear hc hB5 OW4 OX4 OA4 OB4
  go_wp2_with fail
  refine (sameBytes_any w5 _ _ L1 L1 (HB.of_own OA5.out BY1.out) (HB.of_own OW5.out BY1.out)).mono ?_
  rintro e6 w6 ⟨rfl, hD6⟩
  rw [decide_eq_true rfl]
  have D6 := hid hD6
  clear hD6
  go_wp2_with fail
  refine (sameBytes_any w6 _ _ L2 L2 ((HB.of_own OB5.out BY2.out).dr D6.out) ((HB.of_own OX5.out BY2.out).dr D6.out)).mono ?_
  rintro e7 w7 ⟨rfl, hD7⟩
  rw [decide_eq_true rfl]
  have D7 := hid (D6.out.trans hD7)
  clear hD7 D6
  go_wp2_with fail
  refine (sameBytes_any w7 _ _ L1 L1 ((HB.of_own OC5.out BY1.out).dr D7.out) ((HB.of_own OW5.out BY1.out).dr D7.out)).mono ?_
  rintro e8 w8 ⟨rfl, hD8⟩
  rw [decide_eq_true rfl]
  have BD := hid ((D7.out.trans hD8).below w5.heap.size)
  clear hD8 D7
  have OA8 := hid (own_mono (own_below OA5.out BD.out) B2.out.size)
  have OB8 := hid (own_mono (own_below OB5.out BD.out) B3.out.size)
  have OC8 := hid (own_mono (own_below OC5.out BD.out) B4.out.size)
  have B8 := hid (B5.out.trans (BD.out.mono B5.out.size))
  clear OA5 OB5 OC5 OW5 OX5 BD B5 B4 B3 B2 B1
  go_wp2_with fail
  refine (apart3 w8 w.heap.size _ _ _ L1 L2 L1 OA8.out OB8.out OC8.out NAB.out NAC.out NBC.out B8.out.size HLN.out.1 HLN.out.2 HLN.out.1).mono ?_
  rintro e9 w9 ⟨rfl, hB9⟩
  go_wp2
  go_ret
  exact ⟨rfl, B8.out.trans hB9⟩
end Go.Proofs.Ytcgecflebplgaaa
