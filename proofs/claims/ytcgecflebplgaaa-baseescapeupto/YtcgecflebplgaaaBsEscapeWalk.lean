/- BaseEscape, walked. -/
import Derived.Test.YtcgecflebplgaaaBsUn
import Derived.Test.YtcgecflebplgaaaBsApart3
import Derived.Test.YtcgecflebplgaaaSameBytes
set_option linter.unusedSimpArgs false
set_option linter.unusedVariables false
namespace Go.Proofs.Ytcgecflebplgaaa
open Go Go.RowKit

theorem unG_len (s : List Int) : ∀ (f p : Nat) (acc : List Int), (Byt8 s → Byt8 acc → Byt8 (unG f s p acc).1) ∧ (unG f s p acc).1.length ≤ acc.length + f := by
  intro f
  induction f with
  | zero => intro p acc; exact ⟨fun _ h => h, Nat.le_refl _⟩
  | succ f ih =>
    intro p acc
    unfold unG
    by_cases hp : p < s.length
    · rw [if_pos hp]
      by_cases hk : unOk s p
      · rw [if_pos hk]
        obtain ⟨h2, h3⟩ := ih (p + unN s p) (acc ++ [unB s p])
        refine ⟨fun hb ha => h2 hb ?_, ?_⟩
        · intro x hx
          rcases List.mem_append.1 hx with hx | hx
          · exact ha x hx
          · rw [List.mem_singleton.1 hx]; exact unB_byt hb hk
        · rw [List.length_append] at h3
          simp at h3
          omega
      · rw [if_neg hk]
        exact ⟨fun _ _ x hx => by simp at hx, by simp⟩
    · rw [if_neg hp]
      exact ⟨fun _ h => h, by show acc.length ≤ _; omega⟩
theorem unA_byt {s : List Int} (h : Byt8 s) : Byt8 (unA s).1 := by
  unfold unA
  split
  · intro x hx; simp at hx
  · split
    · intro x hx; simp at hx
    · exact (unG_len s _ _ _).1 h (fun x hx => by simp at hx)
theorem unA_len (s : List Int) : (unA s).1.length ≤ s.length + 1 := by
  unfold unA
  split
  · simp
  · split
    · simp
    · have := (unG_len s (s.length + 1) 0 []).2
      simpa using this

set_option maxRecDepth 100000 in
set_option maxHeartbeats 8000000 in
theorem escape_walk (w : World) (v : Value) (l : List Int) (s o : ByteArray) (hv : HB w v l) (hl : l.length ≤ 1048576) (hs : s.size ≤ 1048576) (ho : o.size ≤ 1048576) :
    Calls Try.prog 5 #[v, .string s, .string o] w fun r w' => r = .returned (.bool true) ∧ Below w.heap.size w w' := by
  have HA := hid hv
  obtain ⟨p, c, rfl, _, hc⟩ := hv.open
  clear hv
  unfold maxLen at hc
  obtain ⟨S, HS⟩ : ∃ S, Hid (bS (escL l) = S) := ⟨_, rfl⟩
  have heq : (S.toList == S.toList) = true := by simp
  have CE : Hid (∀ W v, HB W v l → Calls Try.prog 19 #[v] W fun e w' => e = .returned (.string S) ∧ Below W.heap.size W w') := by
    refine hid fun W v h => ?_
    have := escape_any W v l h (by omega)
    rwa [HS.out] at this
  have RE : Hid (∀ W v, HB W v l → Calls Try.prog 22 #[v] W fun e w' => e = .returned (.string S) ∧ Below W.heap.size W w') := by
    refine hid fun W v h => ?_
    have := rescape_any W v l h (by omega)
    rwa [HS.out] at this
  have hsl : (unA (sB s)).1.length ≤ 140737488351232 := by have := unA_len (sB s); rw [sB_length] at this; omega
  have hol : (unA (sB o)).1.length ≤ 140737488351232 := by have := unA_len (sB o); rw [sB_length] at this; omega
  obtain ⟨P1, HP1⟩ : ∃ x, Hid ((unA (sB s)).2.1 = x) := ⟨_, rfl⟩
  obtain ⟨P2, HP2⟩ : ∃ x, Hid ((unA (sB o)).2.1 = x) := ⟨_, rfl⟩
  obtain ⟨E1, HE1⟩ : ∃ x, Hid ((unA (sB s)).2.2 = x) := ⟨_, rfl⟩
  obtain ⟨E2, HE2⟩ : ∃ x, Hid ((unA (sB o)).2.2 = x) := ⟨_, rfl⟩
  have BY1 := hid (unA_byt (sB_byt s))
  have BY2 := hid (unA_byt (sB_byt o))
  obtain ⟨L1, HL1⟩ : ∃ x, Hid ((unA (sB s)).1 = x) := ⟨_, rfl⟩
  obtain ⟨L2, HL2⟩ : ∃ x, Hid ((unA (sB o)).1 = x) := ⟨_, rfl⟩
  have CS : Hid (∀ W, Calls Try.prog 21 #[.string s] W fun e w' => ∃ v', e = .returned (.tuple #[v', .int .i64 P1, .int .i64 E1]) ∧ w'.ownsRow W.heap.size 5 1 v' L1.length (L1.map (Value.int .u8)) ∧ Below W.heap.size W w') := by
    refine hid fun W => ?_
    rw [← HP1.out, ← HE1.out, ← HL1.out]
    exact unescape_any W s (by omega)
  have CO : Hid (∀ W, Calls Try.prog 21 #[.string o] W fun e w' => ∃ v', e = .returned (.tuple #[v', .int .i64 P2, .int .i64 E2]) ∧ w'.ownsRow W.heap.size 5 1 v' L2.length (L2.map (Value.int .u8)) ∧ Below W.heap.size W w') := by
    refine hid fun W => ?_
    rw [← HP2.out, ← HE2.out, ← HL2.out]
    exact unescape_any W o (by omega)
  have RS : Hid (∀ W, Calls Try.prog 20 #[.string s] W fun e w' => ∃ v', e = .returned (.tuple #[v', .int .i64 P1, .int .i64 E1]) ∧ w'.ownsRow W.heap.size 5 1 v' L1.length (L1.map (Value.int .u8)) ∧ Below W.heap.size W w') := by
    refine hid fun W => ?_
    rw [← HP1.out, ← HE1.out, ← HL1.out]
    exact runescape_any W s (by omega)
  have RO : Hid (∀ W, Calls Try.prog 20 #[.string o] W fun e w' => ∃ v', e = .returned (.tuple #[v', .int .i64 P2, .int .i64 E2]) ∧ w'.ownsRow W.heap.size 5 1 v' L2.length (L2.map (Value.int .u8)) ∧ Below W.heap.size W w') := by
    refine hid fun W => ?_
    rw [← HP2.out, ← HE2.out, ← HL2.out]
    exact runescape_any W o (by omega)
  rw [HL1.out] at hsl BY1
  rw [HL2.out] at hol BY2
  have HLN := hid (And.intro hsl hol)
  clear hsl hol
  go_enter Try.func5, Try.ntmps5
  go_wp2_with fail
  refine (lent_any w _ l HA.out (by omega)).mono ?_
  rintro e1 w1 ⟨vx, rfl, hox, hB1⟩
  obtain ⟨gx, cx, ex, hgx, hgx1, hcx, hcx2, hx0, hfx⟩ := lent_part hox HA.out.2
  have OX := hid hox
  have X0 := hid hx0
  have XF := hid hfx
  have B1 := hid hB1
  have hcx' : l.length ≤ cx := by omega
  clear hox hx0 hfx hB1
  subst ex
  go_wp2_with fail
  refine (CE.out w1 _ X0.out).mono ?_
  rintro e2 w2 ⟨rfl, hB2⟩
  have B2 := hid (B1.out.trans (hB2.mono B1.out.size))
  have OX2 := hid (own_below OX.out hB2)
  have XF2 := hid (XF.out.below hB2)
  clear hB2 OX X0 XF B1
  go_wp2_with fail
  refine (kept_any w2 _ _ (lent l) l XF2.out (HA.out.below B2.out) (by omega)).mono ?_
  rintro e3 w3 ⟨rfl, hB3⟩
  have hdt : decide (lent l = lent l) = true := by simp
  rw [hdt]
  have B3 := hid (B2.out.trans (hB3.mono B2.out.size))
  have OX3 := hid (own_below OX2.out hB3)
  clear hB3 OX2 XF2 B2
  go_wp2_with fail
  have hol := lent_length l
  have CO := over_any w3 w.heap.size _ _ _ OX3.out (by omega)
  refine CO.mono ?_
  clear CO
  rintro e4 w4 ⟨rfl, _, hg4⟩
  have B4 := hid (B3.out.grown hg4 B3.out.size (fun k e => (OX3.out.lt k e).1))
  clear hg4 OX3 B3
  have BQ := B4
  have HAQ := hid (HA.out.below B4.out)
  clear B4
  go_wp2_with fail
  refine (RS.out w4).mono ?_
  rintro e5 x1 ⟨vw, rfl, hw, hB1⟩
  obtain ⟨pw, cw, rfl⟩ := own_slc hw
  have OW1 := hid hw
  have B1 := hid (BQ.out.trans (hB1.mono BQ.out.size))
  clear hw hB1
  go_wp2_with fail
  refine (RO.out x1).mono ?_
  rintro e2 x2 ⟨vx, rfl, hx, hB2⟩
  obtain ⟨px, cx, rfl⟩ := own_slc hx
  have OW2 := hid (own_below OW1.out hB2)
  have OX2 := hid hx
  have B2 := hid (B1.out.trans (hB2.mono B1.out.size))
  clear hx hB2 OW1
  go_wp2_with fail
  refine (CS.out x2).mono ?_
  rintro e3 x3 ⟨va, rfl, ha, hB3⟩
  obtain ⟨pa, ca, rfl⟩ := own_slc ha
  have OW3 := hid (own_below OW2.out hB3)
  have OX3 := hid (own_below OX2.out hB3)
  have OA3 := hid ha
  have B3 := hid (B2.out.trans (hB3.mono B2.out.size))
  have hs23 := hid hB3.size
  clear ha hB3 OW2 OX2
  go_wp2_with fail
  refine (CO.out x3).mono ?_
  rintro e4 x4 ⟨vb, rfl, hb, hB4⟩
  obtain ⟨pb, cb, rfl⟩ := own_slc hb
  have NAB := hid (own_ne OA3.out hb (Nat.le_refl _))
  have OW4 := hid (own_below OW3.out hB4)
  have OX4 := hid (own_below OX3.out hB4)
  have OA4 := hid (own_below OA3.out hB4)
  have OB4 := hid hb
  have B4 := hid (B3.out.trans (hB4.mono B3.out.size))
  have hs34 := hid hB4.size
  clear hb hB4 OW3 OX3 OA3
  go_wp2_with fail
  refine (CS.out x4).mono ?_
  rintro e5 x5 ⟨vc, rfl, hc, hB5⟩
  obtain ⟨pc, cc, rfl⟩ := own_slc hc
  have NAC := hid (own_ne OA4.out hc (Nat.le_refl _))
  have NBC := hid (own_ne OB4.out hc (Nat.le_refl _))
  have OW5 := hid (own_below OW4.out hB5)
  have OX5 := hid (own_below OX4.out hB5)
  have OA5 := hid (own_below OA4.out hB5)
  have OB5 := hid (own_below OB4.out hB5)
  have OC5 := hid hc
  have B5 := hid (B4.out.trans (hB5.mono B4.out.size))
  clear hc hB5 OW4 OX4 OA4 OB4
  go_wp2_with fail
  refine (RE.out x5 _ (HA.out.below B5.out)).mono ?_
  rintro e51 x51 ⟨rfl, hB51⟩
  have B51 := hid (B5.out.trans (hB51.mono B5.out.size))
  have OW51 := hid (own_below OW5.out hB51)
  have OX51 := hid (own_below OX5.out hB51)
  have OA51 := hid (own_below OA5.out hB51)
  have OB51 := hid (own_below OB5.out hB51)
  have OC51 := hid (own_below OC5.out hB51)
  clear hB51 OW5 OX5 OA5 OB5 OC5 B5
  go_wp2_with fail
  refine (sameBytes_any x51 _ _ L1 L1 (HB.of_own OA51.out BY1.out) (HB.of_own OW51.out BY1.out)).mono ?_
  rintro e6 x6 ⟨rfl, hD6⟩
  rw [decide_eq_true rfl]
  have D6 := hid hD6
  clear hD6
  go_wp2_with fail
  refine (sameBytes_any x6 _ _ L2 L2 ((HB.of_own OB51.out BY2.out).dr D6.out) ((HB.of_own OX51.out BY2.out).dr D6.out)).mono ?_
  rintro e7 x7 ⟨rfl, hD7⟩
  rw [decide_eq_true rfl]
  have D7 := hid (D6.out.trans hD7)
  clear hD7 D6
  go_wp2_with fail
  refine (sameBytes_any x7 _ _ L1 L1 ((HB.of_own OC51.out BY1.out).dr D7.out) ((HB.of_own OW51.out BY1.out).dr D7.out)).mono ?_
  rintro e8 x8 ⟨rfl, hD8⟩
  rw [decide_eq_true rfl]
  have BD := hid ((D7.out.trans hD8).below x51.heap.size)
  clear hD8 D7
  have OA8 := hid (own_mono (own_below OA51.out BD.out) B2.out.size)
  have OB8 := hid (own_mono (own_below OB51.out BD.out) B3.out.size)
  have OC8 := hid (own_mono (own_below OC51.out BD.out) B4.out.size)
  have B8 := hid (B51.out.trans (BD.out.mono B51.out.size))
  clear OA51 OB51 OC51 OW51 OX51 BD B51 B4 B3 B2 B1
  go_wp2_with fail
  refine (apart3 x8 w.heap.size _ _ _ L1 L2 L1 OA8.out OB8.out OC8.out NAB.out NAC.out NBC.out B8.out.size HLN.out.1 HLN.out.2 HLN.out.1).mono ?_
  rintro e9 x9 ⟨rfl, hB9⟩
  go_wp2
  go_ret
  exact ⟨rfl, B8.out.trans hB9⟩
end Go.Proofs.Ytcgecflebplgaaa
