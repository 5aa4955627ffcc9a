/- sameRows of the laws, walked. -/
import Derived.Test.YthcdefidoibopabDoorUbRow
import Derived.Test.YthcdefidoibopabDoorSameBytes
set_option linter.unusedSimpArgs false
set_option linter.unusedVariables false
namespace Go.Proofs.YthcdefidoibopabDoor
open Go Go.RowKit

theorem take_stepR {la lb : List Rw} {k : Nat} (ha : k < la.length) (hb : k < lb.length) (h : la.take k = lb.take k) (e : la.getD k rw0 = lb.getD k rw0) : la.take (k + 1) = lb.take (k + 1) := by
  rw [List.take_succ_eq_append_getElem ha, List.take_succ_eq_append_getElem hb, h]
  have e1 : la.getD k rw0 = la[k] := by simp [List.getD, List.getElem?_eq_getElem ha]
  have e2 : lb.getD k rw0 = lb[k] := by simp [List.getD, List.getElem?_eq_getElem hb]
  rw [e1, e2] at e
  rw [e]
set_option maxRecDepth 100000 in
set_option maxHeartbeats 2000000 in
theorem sameRows_any (w : World) (va vb : Value) (la lb : List Rw) (ha : HRw w va la) (hb : HRw w vb lb) :
    Calls Tryd.prog 9 #[va, vb] w fun e w' => e = .returned (.bool (decide (la = lb))) ∧ Dr w w' := by
  obtain ⟨p1, c1, rfl, hc1, hm1, hk1⟩ := ha.open
  obtain ⟨p2, c2, rfl, hc2, hm2, hk2⟩ := hb.open
  unfold maxLen at hm1 hm2
  by_cases hlen : la.length = lb.length
  · have HLN : Hid (la.length = lb.length) := hlen
    rw [← hlen]
    have H1 := hid hk1
    have H2 := hid hk2
    obtain ⟨n, HN⟩ : ∃ n, Hid (la.length = n) := ⟨_, rfl⟩
    have hm63 : n ≤ 9223372036854775807 := by rw [← HN.out]; omega
    rw [HN.out]
    clear hlen hk1 hk2 ha hb hc1 hc2
    go_enter Tryd.func9, Tryd.ntmps9
    go_wp2
    go_loopw [5] (fun i wr => ∃ k : Nat, k ≤ n ∧ i = .int .i64 (k : Int) ∧ Hid (la.take k = lb.take k) ∧ Hid (Dr w wr)) (fun i _ => n - (intOf i).toNat)
    case atStart => exact ⟨0, Nat.zero_le _, rfl, rfl, Dr.refl _⟩
    case round =>
      obtain ⟨k, hk, rfl, HT, HD⟩ := hrel
      by_cases hlt : k < n
      · obtain ⟨b1, o1, rfl, _, h1⟩ := H1.out (by have := HN.out; omega)
        obtain ⟨b2, o2, rfl, _, h2⟩ := H2.out (by have := HN.out; have := HLN.out; omega)
        obtain ⟨u1, r1, e1⟩ := h1 k (by have := HN.out; omega)
        obtain ⟨u2, r2, e2⟩ := h2 k (by have := HN.out; have := HLN.out; omega)
        obtain ⟨⟨s, x⟩, HX⟩ : ∃ x, Hid (la.getD k rw0 = x) := ⟨_, rfl⟩
        obtain ⟨⟨t, y⟩, HY⟩ : ∃ x, Hid (lb.getD k rw0 = x) := ⟨_, rfl⟩
        rw [HX.out] at r1 e1
        rw [HY.out] at r2 e2
        have g1 := (HD.out.cell _).trans (r1 0 _ rfl)
        have g2 := (HD.out.cell _).trans (r2 0 _ rfl)
        have g3 := (HD.out.cell _).trans (r1 1 _ rfl)
        have g4 := (HD.out.cell _).trans (r2 1 _ rfl)
        rw [Nat.add_zero] at g1 g2
        replace e1 := e1.dr HD.out
        replace e2 := e2.dr HD.out
        obtain ⟨q1, d1, z1, _, _⟩ := e1.open
        obtain ⟨q2, d2, z2, _, _⟩ := e2.open
        subst z1 z2
        have E1 := hid e1
        have E2 := hid e2
        clear e1 e2 h1 h2 r1 r2
        have NO : Hid (la.getD k rw0 ≠ lb.getD k rw0 → decide (la = lb) = false) := hid fun q => decide_eq_false (fun h => q (by rw [h]))
        by_cases hst : s = t
        · subst hst
          have hne : (s.toList == s.toList) = true := by simp
          by_cases he : x = y
          · have hd : decide (x = y) = true := by simpa using he
            have HE := hid he
            clear he
            go_wp2
            go_quiet ((go_at_call 14; exact Calls.quiet_of (sameBytes_any _ _ _ x y (E1.out.later fun _ _ hx => hx) (E2.out.later fun _ _ hx => hx))))
            go_wp2
            exact ⟨⟨k + 1, by omega, by go_num, take_stepR (by have := HN.out; omega) (by have := HN.out; have := HLN.out; omega) HT.out (by rw [HX.out, HY.out, HE.out]), HD.out.drewN _⟩, by simp [intOf]; omega⟩
          · have hd : decide (x = y) = false := by simpa using he
            have F := hid (NO.out (by rw [HX.out, HY.out]; intro q; exact he (congrArg Prod.snd q)))
            clear he
            go_wp2
            go_quiet ((go_at_call 14; exact Calls.quiet_of (sameBytes_any _ _ _ x y (E1.out.later fun _ _ hx => hx) (E2.out.later fun _ _ hx => hx))))
            go_wp2
            go_ret
            exact ⟨by rw [F.out]; rfl, HD.out.drewN _⟩
        · have hne : (s.toList == t.toList) = false := by rw [eq_iff_sB]; exact decide_eq_false (fun e => hst (sB_inj e))
          have F := hid (NO.out (by rw [HX.out, HY.out]; intro q; exact hst (congrArg Prod.fst q)))
          clear hst
          go_wp2
          go_quiet (fail)
          go_wp2
          go_ret
          exact ⟨by rw [F.out]; rfl, HD.out.drewN _⟩
      · have e : la = lb := by
          have h1 := List.take_of_length_le (show la.length ≤ k by have := HN.out; omega)
          have h2 := List.take_of_length_le (show lb.length ≤ k by have := HN.out; have := HLN.out; omega)
          rw [← h1, ← h2, HT.out]
        have F : Hid (decide (la = lb) = true) := by simp [e, Hid]
        go_wp2
        go_ret
        exact ⟨by rw [F.out]; rfl, HD.out⟩
  · have hne : ((la.length : Int) != (lb.length : Int)) = true := by rw [bne_iff_ne]; omega
    have F : Hid (decide (la = lb) = false) := decide_eq_false (fun e => hlen (by rw [e]))
    clear hlen hk1 hk2 ha hb
    go_enter Tryd.func9, Tryd.ntmps9
    go_wp2
    go_ret
    exact ⟨by rw [F.out]; rfl, Dr.refl _⟩
end Go.Proofs.YthcdefidoibopabDoor
