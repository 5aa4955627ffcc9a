/- The document's heap: the place of the least. -/
import Derived.Test.YtcgkcappfjhikaaHpRef
set_option linter.unusedVariables false
set_option linter.unusedSimpArgs false
namespace Go.Proofs.Ytcgkcappfjhikaa
open Go Go.RowKit
/-- Of the first m items the one at k is the least, and the first such. -/
def LsI (d : Int) (its : List (Nat × Int)) (m k : Nat) : Prop := k < m ∧ ∀ i, i < m → keyB d (itA its k).2 < keyB d (itA its i).2 ∨ (keyB d (itA its k).2 = keyB d (itA its i).2 ∧ k ≤ i)
section
variable {w : World} {g : Nat} {d : Int} {its : List (Nat × Int)} {nx : Nat} {v : Value}
theorem HRf.dr (h : HRf w g d its nx v) {w' : World} (hd : Dr w w') : HRf w' g d its nx v := h.of fun k _ => by obtain ⟨q, rfl⟩ := hd; rfl
theorem LsI.keep {m k : Nat} (h : LsI d its m k) (hn : ¬ keyB d (itA its m).2 < keyB d (itA its k).2) : LsI d its (m + 1) k := by
  refine ⟨by have := h.1; omega, fun i hi => ?_⟩
  by_cases e : i = m
  · subst e
    have := h.1
    omega
  · exact h.2 i (by omega)
theorem LsI.turn {m k : Nat} (h : LsI d its m k) (hn : keyB d (itA its m).2 < keyB d (itA its k).2) : LsI d its (m + 1) m := by
  refine ⟨by omega, fun i hi => ?_⟩
  by_cases e : i = m
  · subst e; omega
  · have := h.2 i (by omega)
    omega
set_option maxRecDepth 100000 in
set_option maxHeartbeats 4000000 in
theorem rleast_ok (h : HRf w g d its nx v) (hd : In64 d) (hx : ∀ p ∈ its, In64 p.2) (hl : its.length < 1152921504606846976) :
    Calls Try.prog 55 #[ptr g] w fun e w' => ∃ b : Int, e = .returned (.int .i64 b) ∧ ((its = [] ∧ b = -1) ∨ ∃ k : Nat, b = (k : Int) ∧ LsI d its its.length k) ∧ Dr w w' := by
  have H := hid h
  obtain ⟨pv, cv, hv⟩ := own2_slc h.row
  have HX : Hid (∀ i, i < its.length → In64 (itA its i).2) := hid fun i hi => hx _ (List.mem_of_getElem? (itA_some hi))
  have HDD := hid hd
  subst hv
  clear h hx hd
  obtain ⟨n, hn⟩ : ∃ n, Hid (its.length = n) := ⟨_, rfl⟩
  rw [hn.out] at H HX hl
  go_enter Try.func55, Try.ntmps55
  go_wp2_with fail
  go_loopw [3, 4] (fun vb vi wr => ∃ (i : Nat) (b : Int), vi = .int .i64 (i : Int) ∧ vb = .int .i64 b ∧ i ≤ n ∧ Hid ((i = 0 ∧ b = -1) ∨ ∃ k : Nat, b = (k : Int) ∧ LsI d its i k) ∧ Hid (Dr w wr)) (fun _ vi _ => n - (intOf vi).toNat)
  case atStart => exact ⟨0, -1, rfl, rfl, Nat.zero_le _, hid (.inl ⟨rfl, rfl⟩), hid (Dr.refl _)⟩
  case round =>
    obtain ⟨i, b, rfl, rfl, hi, HI, HD⟩ := hrel
    have HR := hid (H.out.dr HD.out)
    obtain ⟨c0, c1, c2⟩ := HR.out.c
    by_cases hlt : i < n
    · have hlt' : (i : Int) < (n : Int) := by omega
      have hil : i < its.length := by rw [hn.out]; exact hlt
      obtain ⟨bb, cap, hv, hcap, x0, x1⟩ := HR.out.item hil
      rw [hn.out] at hv hcap
      simp only [Value.slice.injEq, true_and] at hv
      obtain ⟨rfl, rfl⟩ := hv
      rcases HI.out with ⟨h0, hb⟩ | ⟨k, hb, hk⟩
      · subst h0 hb
        go_wp2_with fail
        go_quiet (fail)
        go_wp2_with fail
        exact ⟨⟨1, 0, by go_num, rfl, by omega, hid (.inr ⟨0, rfl, by omega, fun i hi => by have : i = 0 := by omega
                                                                                            subst this; omega⟩), hid (HD.out.trans (Dr.one _ _))⟩, by simp [intOf]; omega⟩
      · subst hb
        have hkl : k < its.length := by have := hk.1; omega
        obtain ⟨_, _, hv2, _, y0, y1⟩ := HR.out.item hkl
        simp only [Value.slice.injEq, Option.some.injEq, Addr.mk.injEq, and_true] at hv2
        obtain ⟨rfl, _, rfl⟩ := hv2
        have hg0 : decide ((k : Int) < 0) = false := by simp
        have hg1 : ¬ (k : Int) < 0 := by omega
        have hkn : (k : Int) < (n : Int) := by have := hk.1; omega
        have CA : Hid (∀ W, Calls Try.prog 35 #[.int .i64 d, .int .i64 (itA its i).2, .int .i64 (itA its k).2] W fun e w' => e = .returned (.bool (decide (keyB d (itA its i).2 < keyB d (itA its k).2))) ∧ ∃ m, w' = W.drewN m) := hid fun W => ahead17_any W d _ _ HDD.out (HX.out i hlt) (HX.out k (by omega))
        have KP := hid hk.keep
        have TN := hid hk.turn
        obtain ⟨xi, Hxi⟩ : ∃ x, Hid ((itA its i).2 = x) := ⟨_, rfl⟩
        obtain ⟨xk, Hxk⟩ : ∃ x, Hid ((itA its k).2 = x) := ⟨_, rfl⟩
        rw [Hxi.out] at x1 CA KP TN
        rw [Hxk.out] at y1 CA KP TN
        obtain ⟨r, HRR⟩ : ∃ r, Hid (decide (keyB d xi < keyB d xk) = r) := ⟨_, rfl⟩
        rw [HRR.out] at CA
        clear hk
        go_wp2_with fail
        go_quiet ((go_at_call 35; exact Calls.quiet_of (CA.out _)))
        cases r with
        | true =>
          have hlt2 : keyB d xi < keyB d xk := of_decide_eq_true HRR.out
          have T := hid (TN.out hlt2)
          clear hlt2 TN KP
          go_wp2_with fail
          exact ⟨⟨i + 1, (i : Int), by go_num, rfl, by omega, hid (.inr ⟨i, rfl, T.out⟩), hid (HD.out.trans (Dr.one _ _))⟩, by simp [intOf]; omega⟩
        | false =>
          have hlt2 : ¬ keyB d xi < keyB d xk := of_decide_eq_false HRR.out
          have T := hid (KP.out (by first | exact hlt2 | omega))
          clear hlt2 TN KP
          go_wp2_with fail
          exact ⟨⟨i + 1, (k : Int), by go_num, rfl, by omega, hid (.inr ⟨k, rfl, T.out⟩), hid (HD.out.trans (Dr.one _ _))⟩, by simp [intOf]; omega⟩
    · have hin : i = n := by omega
      have hge : ¬ (i : Int) < (n : Int) := by omega
      have HF : Hid ((its = [] ∧ b = -1) ∨ ∃ k : Nat, b = (k : Int) ∧ LsI d its its.length k) := hid (by
        rcases HI.out with ⟨h0, hb⟩ | ⟨k, hb, hk⟩
        · exact .inl ⟨List.length_eq_zero_iff.1 (by rw [hn.out]; omega), hb⟩
        · exact .inr ⟨k, hb, by rw [hn.out, ← hin]; exact hk⟩)
      go_wp2_with fail
      go_ret
      exact ⟨b, rfl, HF.out, HD.out⟩
end
end Go.Proofs.Ytcgkcappfjhikaa
