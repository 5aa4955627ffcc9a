/- Of the road to rsFar_holds: RsFarWalk. -/
import Derived.Test.YtmlhfjflkcenkaaG07
import Derived.Test.YtmlhfjflkcenkaaG08
set_option linter.unusedVariables false
set_option linter.unusedSimpArgs false
namespace Go.Proofs.Ytmlhfjflkcenkaa
open Go Go.RowKit
set_option maxRecDepth 100000 in
set_option maxHeartbeats 64000000 in
theorem far_walk (w : World) (va vb : Value) (la lb : List Int) (k n : Int) (ha : HB w va la) (hb : HB w vb lb) (hla : la.length ≤ 140737488351232) (hlb : lb.length ≤ 140737488351232) :
    Calls Try.prog 4 #[.int .i64 k, .int .i64 n, va, vb] w fun e w' => e = .returned (.bool true) ∧ Below w.heap.size w w' := by
  have C0 := hid (lives_any w)
  have HA0 := hid ha
  have HB0 := hid hb
  obtain ⟨pa, ca, rfl, hlca, hcma⟩ := ha.open
  obtain ⟨pb, cb, rfl, hlcb, hcmb⟩ := hb.open
  unfold maxLen at hcma hcmb
  clear ha hb
  by_cases hbad : k < 1 ∨ k > n ∨ n > 255
  · have CN := hid fun W => rsnew_bad W k n hbad
    obtain ⟨N, HN⟩ : ∃ x, Hid (la.length = x) := ⟨_, rfl⟩
    obtain ⟨N2, HN2⟩ : ∃ x, Hid (lb.length = x) := ⟨_, rfl⟩
    rw [HN.out, HN2.out]
    clear hbad
    go_enter Try.func4, Try.ntmps4
    go_wp2_with fail
    refine C0.out.mono ?_
    rintro e w1 ⟨rfl, hb1⟩
    have B1 := hid hb1
    clear hb1 C0
    go_wp2_with fail
    refine (CN.out w1).mono ?_
    rintro e wq ⟨rfl, hwq⟩
    rw [hwq]
    clear hwq wq CN
    go_wp2
    go_ret
    exact ⟨rfl, B1.out⟩
  · obtain ⟨K, rfl⟩ : ∃ K : Nat, k = (K : Int) := ⟨k.toNat, by omega⟩
    obtain ⟨M, rfl⟩ : ∃ M : Nat, n = (M : Int) := ⟨n.toNat, by omega⟩
    by_cases hab : la.length > lb.length
    · exact far_pos w pa pb ca cb la lb K M HA0 HB0 hla hlb hlca hlcb hcma hcmb (by omega) (by omega) (by omega) hab
    · exact far_neg w pa pb ca cb la lb K M HA0 HB0 hla hlb hlca hlcb hcma hcmb (by omega) (by omega) (by omega) hab
end Go.Proofs.Ytmlhfjflkcenkaa
