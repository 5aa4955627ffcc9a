/- The law OctetApart, walked: it answers true for rows of lists and bytes of bulk at most 2^20, and turns nothing that was there. -/
import Derived.Test.YtiodfpaifkcmoabUnframed
namespace Go.Proofs.Ytiodfpaifkcmoab
open Go.RowKit

theorem ok_of_small {ls : List (List Int)} (h : ls.flatten.length ≤ 1048576) : Ok ls := by
  intro l hl
  have : l.length ≤ ls.flatten.length := by
    obtain ⟨a, b, rfl⟩ := List.append_of_mem hl
    rw [List.flatten_append, List.flatten_cons, List.length_append, List.length_append]
    omega
  omega

set_option maxHeartbeats 2000000 in
theorem apart_walk (w : World) (va vb vr : Value) (a b : List (List Int)) (raw : List Int) (ha : HL w va a) (hb : HL w vb b) (hr : HB w vr raw) (h1 : a.flatten.length + a.length ≤ 1048576) (h2 : b.flatten.length + b.length ≤ 1048576) (h3 : raw.length ≤ 1048576) :
    Calls Try.prog 4 #[va, vb, vr] w fun e w' => e = .returned (.bool true) ∧ Below w.heap.size w w' := by
  have oka : Ok a := ok_of_small (by omega)
  have okb : Ok b := ok_of_small (by omega)
  have HFI := hid (framed_inj oka okb)
  have HLF := hid (framed_length a)
  have OKA := hid oka
  clear oka okb
  obtain ⟨fa, HFA⟩ : ∃ fa, Hid (framed a = fa) := ⟨_, rfl⟩
  obtain ⟨fb, HFB⟩ : ∃ fb, Hid (framed b = fb) := ⟨_, rfl⟩
  rw [HFA.out] at HLF
  rw [HFA.out, HFB.out] at HFI
  have hA := hid ha
  have hB := hid hb
  have hR := hid hr
  obtain ⟨pa, ca, ea, _, _⟩ := ha.open
  obtain ⟨pb, cb, eb, _, _⟩ := hb.open
  obtain ⟨pr, cr, er, _, _⟩ := hr.open
  clear ha hb hr
  subst ea eb er
  go_enter Try.func4, Try.ntmps4
  go_wp2_with fail
  refine (framed_any w _ a hA.out h1).mono ?_
  rintro e w1 ⟨v1, rfl, _, hb1, hB1⟩
  rw [HFA.out] at hb1
  have F1 := hid hb1
  have B1 := hid hB1
  obtain ⟨p1, c1, e1, _, _⟩ := hb1.open
  clear hb1 hB1
  subst e1
  go_wp2_with fail
  refine (framed_any w1 _ b (hB.out.below B1.out) h2).mono ?_
  rintro e w2 ⟨v2, rfl, _, hb2, hB2⟩
  rw [HFB.out] at hb2
  have F2 := hid hb2
  have F1' := hid (F1.out.below hB2)
  have B2 := hid (B1.out.trans (hB2.mono B1.out.size))
  obtain ⟨p2, c2, e2, _, _⟩ := hb2.open
  clear hb2 hB2 F1
  subst e2
  go_wp2_with fail
  refine (unframed_any w2 _ fa F1'.out (by have := HLF.out; omega)).mono ?_
  rintro e w3 ⟨v3, n3, rfl, hU3, hB3⟩
  have F1 := hid (F1'.out.below hB3)
  have F2' := hid (F2.out.below hB3)
  have B3 := hid (B2.out.trans (hB3.mono B2.out.size))
  obtain ⟨en, ls, hO3, hok3, hfr3⟩ : n3 = 0 ∧ ∃ ls, OWL w2 w3 v3 ls ∧ Ok ls ∧ framed ls = fa := by
    rcases hU3 with h | ⟨_, _, h⟩
    · exact h
    · exact absurd HFA.out (h a OKA.out)
  have els : ls = a := (framed_inj hok3 OKA.out).1 (hfr3.trans HFA.out.symm)
  subst els
  subst en
  have L3 := hid (hO3.hl hB3)
  obtain ⟨p3, c3, e3, _, _⟩ := L3.out.open
  clear hO3 hok3 hfr3 hU3 hB3 F1' F2
  subst e3
  go_wp2_with fail
  refine (sameLists_any w3 _ _ ls ls L3.out (hA.out.below B3.out)).mono ?_
  rintro e w4 ⟨rfl, hD4⟩
  rw [decide_eq_true rfl]
  have F3 := hid (F1.out.dr hD4)
  have F4 := hid (F2'.out.dr hD4)
  have B4 := hid (B3.out.trans (hD4.below _))
  clear hD4 F1 F2' L3
  go_wp2_with fail
  refine (sameBytes_any w4 _ _ fa fb F3.out F4.out).mono ?_
  rintro e w5 ⟨rfl, hD5⟩
  have B5 := hid (B4.out.trans (hD5.below _))
  clear hD5 F3 F4
  obtain ⟨z, HZ⟩ : ∃ z, Hid (decide (fa = fb) = z) := ⟨_, rfl⟩
  rw [HZ.out]
  go_wp2_with fail
  refine (sameLists_any w5 _ _ ls b (hA.out.below B5.out) (hB.out.below B5.out)).mono ?_
  rintro e w6 ⟨rfl, hD6⟩
  have B6 := hid (B5.out.trans (hD6.below _))
  clear hD6
  have ez : decide (ls = b) = z := by
    rw [← HZ.out]
    exact decide_eq_decide.2 HFI.out.symm
  rw [ez]
  clear ez
  have hzz : (z != z) = false := by cases z <;> rfl
  go_wp2_with fail
  refine (unframed_any w6 _ raw (hR.out.below B6.out) (by omega)).mono ?_
  rintro e w7 ⟨v7, n7, rfl, hU7, hB7⟩
  have B7 := hid (B6.out.trans (hB7.mono B6.out.size))
  rcases hU7 with ⟨rfl, l7, hO7, hok7, hfr7⟩ | ⟨rfl, rfl, _⟩
  · have L7 := hid (hO7.hl hB7)
    have hl7 : l7.flatten.length + l7.length ≤ 1048576 := by
      have := framed_length l7
      rw [hfr7] at this
      omega
    obtain ⟨p7, c7, e7, _, _⟩ := L7.out.open
    have FR := hid hfr7
    clear hO7 hok7 hfr7 hB7
    subst e7
    go_wp2_with fail
    refine (framed_any w7 _ l7 L7.out hl7).mono ?_
    rintro e w8 ⟨v8, rfl, _, hb8, hB8⟩
    rw [FR.out] at hb8
    have F8 := hid hb8
    have B8 := hid (B7.out.trans (hB8.mono B7.out.size))
    obtain ⟨p8, c8, e8, _, _⟩ := hb8.open
    clear hb8 hB8
    subst e8
    go_wp2_with fail
    refine (sameBytes_any w8 _ _ raw raw F8.out (hR.out.below B8.out)).mono ?_
    rintro e w9 ⟨rfl, hD9⟩
    rw [decide_eq_true rfl]
    have B9 := hid (B8.out.trans (hD9.below _))
    clear hD9
    go_wp2
    go_ret
    exact ⟨rfl, B9.out⟩
  · clear hB7
    go_wp2
    go_ret
    exact ⟨rfl, B7.out⟩
end Go.Proofs.Ytiodfpaifkcmoab
