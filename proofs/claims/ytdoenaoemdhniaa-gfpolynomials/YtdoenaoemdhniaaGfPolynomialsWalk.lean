/- The law GfPolynomials, walked. -/
import Derived.Test.YtdoenaoemdhniaaGfPosts
set_option linter.unusedSimpArgs false
set_option linter.unusedVariables false
namespace Go.Proofs.Ytdoenaoemdhniaa
open Go Go.RowKit

set_option maxRecDepth 100000 in
set_option maxHeartbeats 16000000 in
theorem polys_walk (w : World) (va vb : Value) (la lb : List Int) (ha : HB w va la) (hb : HB w vb lb) (hla : la.length ≤ 140737488351232) (hlb : lb.length ≤ 140737488351232) :
    Calls Try.prog 6 #[va, vb] w fun e w' => e = .returned (.bool true) ∧ Below w.heap.size w w' := by
  have HA := hid ha
  have HBb := hid hb
  obtain ⟨pa, ca, ea, _, hca⟩ := ha.open
  obtain ⟨pb, cb, eb, _, hcb⟩ := hb.open
  clear ha hb
  subst ea eb
  unfold maxLen at hca hcb
  have sz := size_u8
  obtain ⟨tl, tn, HT⟩ : ∃ tl tn, Hid (tv la lb = (tl, tn)) := ⟨_, _, rfl⟩
  have TB := hid (tv_byt HBb.out.2 HT.out)
  have TL := hid (tv_len HT.out)
  go_enter Try.func6, Try.ntmps6
  go_wp2_with fail
  refine (lent_any w _ la HA.out hla).mono ?_
  rintro e w1 ⟨vx, rfl, hox, hB1⟩
  obtain ⟨gx, cx, ex, hgx, hgx1, hcx, hcx2, hx0, hfx⟩ := lent_part hox HA.out.2
  have OX := hid hox
  have X0 := hid hx0
  have XF := hid hfx
  have B1 := hid hB1
  have hs1 := hB1.size
  clear hox hx0 hfx hB1
  subst ex
  go_wp2_with fail
  refine (lent_any w1 _ lb (HBb.out.below B1.out) hlb).mono ?_
  rintro e w2 ⟨vy, rfl, hoy, hB2⟩
  obtain ⟨gy, cy, ey, hgy, hgy2, hcy, hcy2, hy, hfy⟩ := lent_part hoy HBb.out.2
  have Y2 := hid hy
  have YF2 := hid hfy
  have hs2 := hB2.size
  have X2 := hid (X0.out.below hB2)
  have XF2 := hid (XF.out.below hB2)
  have OX2 := hid (own_below OX.out hB2)
  have B02 := hid (B1.out.trans (hB2.mono hs1))
  clear hoy hy hfy hB2 OX X0 XF B1
  subst ey
  have hcx' : la.length ≤ cx := by omega
  have hcy' : lb.length ≤ cy := by omega
  have C3 := hid (times_d X2.out Y2.out HT.out)
  go_wp2_with fail
  refine wp_region_any (by kernel_rfl) ?_
  change wpAny _ _ _ _ _ _ _ (World.drew _)
  refine wpAny_take (i := 0) (v := ?_) rfl (by kernel_rfl) (by kernel_rfl) (by kernel_rfl) (fun _ _ _ h => h) (Or.inl ⟨by rfl, ?q0⟩) ?_
  case q0 => intro w; go_simp; rfl
  refine wpAny_take (i := 1) (v := ?_) rfl (by kernel_rfl) (by kernel_rfl) (by kernel_rfl) (fun _ _ _ h => h) (Or.inl ⟨by rfl, ?q1⟩) ?_
  case q1 => intro w; go_simp; rfl
  refine wpAny_take (i := 2) (v := ?_) rfl (by kernel_rfl) (by kernel_rfl) (by kernel_rfl) (fun _ _ _ h => h) (Or.inl ⟨by rfl, ?q2⟩) ?_
  case q2 => intro w; go_simp; rfl
  refine wpAny_take (i := 3) (v := ?_) rfl (by kernel_rfl) (by kernel_rfl) (by kernel_rfl) (fun _ _ _ h => h) (Or.inl ⟨by rfl, ?q3⟩) ?_
  case q3 => intro w; go_simp; rfl
  refine wpAny_take (i := 4) (v := ?_) rfl (by kernel_rfl) (by kernel_rfl) (by kernel_rfl) (fun _ _ _ h => h) (Or.inl ⟨by rfl, ?q4⟩) ?_
  case q4 => intro w; go_simp; rfl
  refine wpAny_take (i := 5) (v := ?_) rfl (by kernel_rfl) (by kernel_rfl) (by kernel_rfl) (fun _ _ _ h => h) (Or.inl ⟨by rfl, ?q5⟩) ?_
  case q5 => intro w; go_simp; rfl
  refine wpAny_take (i := 6) (v := ?_) rfl (by kernel_rfl) (by kernel_rfl) (by kernel_rfl) (fun _ _ _ h => h) (Or.inl ⟨by rfl, ?q6⟩) ?_
  case q6 => intro w; go_simp; rfl
  refine wpAny_take (i := 7) (v := ?_) rfl (by kernel_rfl) (by kernel_rfl) (by kernel_rfl) (fun _ _ _ h => h) (Or.inl ⟨by rfl, ?q7⟩) ?_
  case q7 => intro w; go_simp; rfl
  refine wpAny_ready (rs := [8]) (by kernel_rfl) (by simp) ?_
  refine AllReady.cons rfl (fun K hK => ?_) AllReady.nil
  go_simp
  refine (C3.out).mono ?_
  rintro e w3 ⟨pp, cp, rfl, hop, hB3⟩
  refine hK _ _ ?_
  clear hK K
  refine wpAny_take (i := 9) (v := ?_) rfl (by kernel_rfl) (by kernel_rfl) (by kernel_rfl) (fun _ _ _ h => h) (Or.inl ⟨by rfl, ?q9⟩) ?_
  case q9 => intro w; go_simp; rfl
  refine wpAny_take (i := 10) (v := ?_) rfl (by kernel_rfl) (by kernel_rfl) (by kernel_rfl) (fun _ _ _ h => h) (Or.inl ⟨by rfl, ?q10⟩) ?_
  case q10 => intro w; go_simp; rfl
  refine wpAny_take (i := 11) (v := ?_) rfl (by kernel_rfl) (by kernel_rfl) (by kernel_rfl) (fun _ _ _ h => h) (Or.inl ⟨by rfl, ?q11⟩) ?_
  case q11 => intro w; go_simp; rfl
  refine wpAny_take (i := 12) (v := ?_) rfl (by kernel_rfl) (by kernel_rfl) (by kernel_rfl) (fun _ _ _ h => h) (Or.inl ⟨by rfl, ?q12⟩) ?_
  case q12 => intro w; go_simp; rfl
  refine wpAny_take (i := 13) (v := ?_) rfl (by kernel_rfl) (by kernel_rfl) (by kernel_rfl) (fun _ _ _ h => h) (Or.inl ⟨by rfl, ?q13⟩) ?_
  case q13 => intro w; go_simp; rfl
  refine wpAny_done (by kernel_rfl) ?_ _
  have OP3 := hid hop
  have B3 := hid hB3
  have hs3 := hB3.size
  have X3 := hid (X2.out.below B3.out)
  have Y3 := hid (Y2.out.below B3.out)
  have B03 := hid (B02.out.trans (B3.out.mono B02.out.size))
  clear hop hB3 C3
  have C4 := hid (over_d X3.out Y3.out)
  go_wp2_with fail
  refine wp_region_any (by kernel_rfl) ?_
  change wpAny _ _ _ _ _ _ _ (World.drew _)
  refine wpAny_take (i := 0) (v := ?_) rfl (by kernel_rfl) (by kernel_rfl) (by kernel_rfl) (fun _ _ _ h => h) (Or.inl ⟨by rfl, ?q0⟩) ?_
  case q0 => intro w; go_simp; rfl
  refine wpAny_take (i := 1) (v := ?_) rfl (by kernel_rfl) (by kernel_rfl) (by kernel_rfl) (fun _ _ _ h => h) (Or.inl ⟨by rfl, ?q1⟩) ?_
  case q1 => intro w; go_simp; rfl
  refine wpAny_take (i := 2) (v := ?_) rfl (by kernel_rfl) (by kernel_rfl) (by kernel_rfl) (fun _ _ _ h => h) (Or.inl ⟨by rfl, ?q2⟩) ?_
  case q2 => intro w; go_simp; rfl
  refine wpAny_take (i := 3) (v := ?_) rfl (by kernel_rfl) (by kernel_rfl) (by kernel_rfl) (fun _ _ _ h => h) (Or.inl ⟨by rfl, ?q3⟩) ?_
  case q3 => intro w; go_simp; rfl
  refine wpAny_take (i := 4) (v := ?_) rfl (by kernel_rfl) (by kernel_rfl) (by kernel_rfl) (fun _ _ _ h => h) (Or.inl ⟨by rfl, ?q4⟩) ?_
  case q4 => intro w; go_simp; rfl
  refine wpAny_take (i := 5) (v := ?_) rfl (by kernel_rfl) (by kernel_rfl) (by kernel_rfl) (fun _ _ _ h => h) (Or.inl ⟨by rfl, ?q5⟩) ?_
  case q5 => intro w; go_simp; rfl
  refine wpAny_take (i := 6) (v := ?_) rfl (by kernel_rfl) (by kernel_rfl) (by kernel_rfl) (fun _ _ _ h => h) (Or.inl ⟨by rfl, ?q6⟩) ?_
  case q6 => intro w; go_simp; rfl
  refine wpAny_take (i := 7) (v := ?_) rfl (by kernel_rfl) (by kernel_rfl) (by kernel_rfl) (fun _ _ _ h => h) (Or.inl ⟨by rfl, ?q7⟩) ?_
  case q7 => intro w; go_simp; rfl
  refine wpAny_ready (rs := [8]) (by kernel_rfl) (by simp) ?_
  refine AllReady.cons rfl (fun K hK => ?_) AllReady.nil
  go_simp
  refine (C4.out).mono ?_
  rintro e w4 ⟨pq, cq, pr, cr, q, r, n, rfl, hov, hoq, hor, hne, hB4⟩
  refine hK _ _ ?_
  clear hK K
  refine wpAny_take (i := 9) (v := ?_) rfl (by kernel_rfl) (by kernel_rfl) (by kernel_rfl) (fun _ _ _ h => h) (Or.inl ⟨by rfl, ?q9⟩) ?_
  case q9 => intro w; go_simp; rfl
  refine wpAny_take (i := 10) (v := ?_) rfl (by kernel_rfl) (by kernel_rfl) (by kernel_rfl) (fun _ _ _ h => h) (Or.inl ⟨by rfl, ?q10⟩) ?_
  case q10 => intro w; go_simp; rfl
  refine wpAny_take (i := 11) (v := ?_) rfl (by kernel_rfl) (by kernel_rfl) (by kernel_rfl) (fun _ _ _ h => h) (Or.inl ⟨by rfl, ?q11⟩) ?_
  case q11 => intro w; go_simp; rfl
  refine wpAny_take (i := 12) (v := ?_) rfl (by kernel_rfl) (by kernel_rfl) (by kernel_rfl) (fun _ _ _ h => h) (Or.inl ⟨by rfl, ?q12⟩) ?_
  case q12 => intro w; go_simp; rfl
  refine wpAny_take (i := 13) (v := ?_) rfl (by kernel_rfl) (by kernel_rfl) (by kernel_rfl) (fun _ _ _ h => h) (Or.inl ⟨by rfl, ?q13⟩) ?_
  case q13 => intro w; go_simp; rfl
  refine wpAny_take (i := 14) (v := ?_) rfl (by kernel_rfl) (by kernel_rfl) (by kernel_rfl) (fun _ _ _ h => h) (Or.inl ⟨by rfl, ?q14⟩) ?_
  case q14 => intro w; go_simp; rfl
  refine wpAny_take (i := 15) (v := ?_) rfl (by kernel_rfl) (by kernel_rfl) (by kernel_rfl) (fun _ _ _ h => h) (Or.inl ⟨by rfl, ?q15⟩) ?_
  case q15 => intro w; go_simp; rfl
  refine wpAny_done (by kernel_rfl) ?_ _
  have OV := hid hov
  have OQ4 := hid hoq
  have OR4 := hid hor
  have NQR := hid hne
  have hs4 := hB4.size
  have NPQ := hid (own_ne OP3.out OQ4.out (Nat.le_refl _))
  have NPR := hid (own_ne OP3.out OR4.out (Nat.le_refl _))
  have OP4 := hid (own_below OP3.out hB4)
  have X4 := hid (X3.out.below hB4)
  have Y4 := hid (Y3.out.below hB4)
  have B24 := hid (B3.out.trans (hB4.mono hs3))
  have B04 := hid (B03.out.trans (hB4.mono B03.out.size))
  clear hov hoq hor hne hB4 C4 OP3 B3 B03 X3 Y3 X2 Y2
  have C5 := hid (times_d X4.out Y4.out HT.out)
  go_wp2_with fail
  refine wp_region_any (by kernel_rfl) ?_
  change wpAny _ _ _ _ _ _ _ (World.drew _)
  refine wpAny_take (i := 0) (v := ?_) rfl (by kernel_rfl) (by kernel_rfl) (by kernel_rfl) (fun _ _ _ h => h) (Or.inl ⟨by rfl, ?q0⟩) ?_
  case q0 => intro w; go_simp; rfl
  refine wpAny_take (i := 1) (v := ?_) rfl (by kernel_rfl) (by kernel_rfl) (by kernel_rfl) (fun _ _ _ h => h) (Or.inl ⟨by rfl, ?q1⟩) ?_
  case q1 => intro w; go_simp; rfl
  refine wpAny_take (i := 2) (v := ?_) rfl (by kernel_rfl) (by kernel_rfl) (by kernel_rfl) (fun _ _ _ h => h) (Or.inl ⟨by rfl, ?q2⟩) ?_
  case q2 => intro w; go_simp; rfl
  refine wpAny_take (i := 3) (v := ?_) rfl (by kernel_rfl) (by kernel_rfl) (by kernel_rfl) (fun _ _ _ h => h) (Or.inl ⟨by rfl, ?q3⟩) ?_
  case q3 => intro w; go_simp; rfl
  refine wpAny_take (i := 4) (v := ?_) rfl (by kernel_rfl) (by kernel_rfl) (by kernel_rfl) (fun _ _ _ h => h) (Or.inl ⟨by rfl, ?q4⟩) ?_
  case q4 => intro w; go_simp; rfl
  refine wpAny_take (i := 5) (v := ?_) rfl (by kernel_rfl) (by kernel_rfl) (by kernel_rfl) (fun _ _ _ h => h) (Or.inl ⟨by rfl, ?q5⟩) ?_
  case q5 => intro w; go_simp; rfl
  refine wpAny_take (i := 6) (v := ?_) rfl (by kernel_rfl) (by kernel_rfl) (by kernel_rfl) (fun _ _ _ h => h) (Or.inl ⟨by rfl, ?q6⟩) ?_
  case q6 => intro w; go_simp; rfl
  refine wpAny_take (i := 7) (v := ?_) rfl (by kernel_rfl) (by kernel_rfl) (by kernel_rfl) (fun _ _ _ h => h) (Or.inl ⟨by rfl, ?q7⟩) ?_
  case q7 => intro w; go_simp; rfl
  refine wpAny_ready (rs := [8]) (by kernel_rfl) (by simp) ?_
  refine AllReady.cons rfl (fun K hK => ?_) AllReady.nil
  go_simp
  refine (C5.out).mono ?_
  rintro e w5 ⟨pv, cv, rfl, hov, hB5⟩
  refine hK _ _ ?_
  clear hK K
  refine wpAny_take (i := 9) (v := ?_) rfl (by kernel_rfl) (by kernel_rfl) (by kernel_rfl) (fun _ _ _ h => h) (Or.inl ⟨by rfl, ?q9⟩) ?_
  case q9 => intro w; go_simp; rfl
  refine wpAny_take (i := 10) (v := ?_) rfl (by kernel_rfl) (by kernel_rfl) (by kernel_rfl) (fun _ _ _ h => h) (Or.inl ⟨by rfl, ?q10⟩) ?_
  case q10 => intro w; go_simp; rfl
  refine wpAny_take (i := 11) (v := ?_) rfl (by kernel_rfl) (by kernel_rfl) (by kernel_rfl) (fun _ _ _ h => h) (Or.inl ⟨by rfl, ?q11⟩) ?_
  case q11 => intro w; go_simp; rfl
  refine wpAny_take (i := 12) (v := ?_) rfl (by kernel_rfl) (by kernel_rfl) (by kernel_rfl) (fun _ _ _ h => h) (Or.inl ⟨by rfl, ?q12⟩) ?_
  case q12 => intro w; go_simp; rfl
  refine wpAny_take (i := 13) (v := ?_) rfl (by kernel_rfl) (by kernel_rfl) (by kernel_rfl) (fun _ _ _ h => h) (Or.inl ⟨by rfl, ?q13⟩) ?_
  case q13 => intro w; go_simp; rfl
  refine wpAny_done (by kernel_rfl) ?_ _
  have OV5 := hid hov
  have hs5 := hB5.size
  have NPV := hid (own_ne OP4.out OV5.out (Nat.le_refl _))
  have NQV := hid (own_ne OQ4.out OV5.out (Nat.le_refl _))
  have NRV := hid (own_ne OR4.out OV5.out (Nat.le_refl _))
  have OP5 := hid (own_below OP4.out hB5)
  have OQ5 := hid (own_below OQ4.out hB5)
  have OR5 := hid (own_below OR4.out hB5)
  have B25 := hid (B24.out.trans (hB5.mono B24.out.size))
  have B05 := hid (B04.out.trans (hB5.mono B04.out.size))
  have XF5 := hid (XF2.out.below B25.out)
  have YF5 := hid (YF2.out.below B25.out)
  have OX5 := hid (own_below OX2.out B25.out)
  have Y5 := hid (Y4.out.below hB5)
  clear hov hB5 C5 OP4 OQ4 OR4 X4 Y4 B24 B04 XF2 YF2 OX2
  go_wp2_with fail
  refine (kept_any w5 _ _ (lent la) la XF5.out (HA.out.below B05.out) hla).mono ?_
  rintro e w6 ⟨rfl, hB6⟩
  rw [decide_eq_true rfl]
  have B6 := hid hB6
  have hs6 := hB6.size
  have B06 := hid (B05.out.trans (hB6.mono B05.out.size))
  clear hB6
  go_wp2_with fail
  refine (kept_any w6 _ _ (lent lb) lb (YF5.out.below B6.out) (HBb.out.below B06.out) hlb).mono ?_
  rintro e w7 ⟨rfl, hB7⟩
  rw [decide_eq_true rfl]
  have B57 := hid (B6.out.trans (hB7.mono hs6))
  have hs7 := B57.out.size
  have B07 := hid (B05.out.trans (B57.out.mono B05.out.size))
  clear hB7 B6 B06
  have C8 := hid (rtimes_v (HA.out.below B07.out) (HBb.out.below B07.out) HT.out)
  go_wp2_with fail
  refine C8.out.mono ?_
  rintro e w8 ⟨pn, cn, rfl, hon, hB8⟩
  have ON8 := hid hon
  have B58 := hid (B57.out.trans (hB8.mono hs7))
  have hs8 := B58.out.size
  have B08 := hid (B05.out.trans (B58.out.mono B05.out.size))
  clear hon hB8 C8 B57 B07
  have C9 := hid (rover_v (HA.out.below B08.out) (HBb.out.below B08.out))
  go_wp2_with fail
  refine C9.out.mono ?_
  rintro e w9 ⟨pq', cq', pr', cr', q', r', n', rfl, hov, hoq, hor, -, hB9⟩
  obtain ⟨eq1, eq2, eq3⟩ := OvL.one (gN_lt (cutL_byt HBb.out.2)) (cutL_last lb) OV.out hov
  subst q' r' n'
  have OB := hid OV.out.byt
  have OM9 := hid hoq
  have OK9 := hid hor
  have ON9 := hid (own_below ON8.out hB9)
  have B59 := hid (B58.out.trans (hB9.mono hs8))
  have B09 := hid (B05.out.trans (B59.out.mono B05.out.size))
  clear hov hoq hor hB9 C9 B58 B08 ON8 OV
  have P9 := hid (HB.of_own (own_below OP5.out B59.out) TB.out)
  have V9 := hid (HB.of_own (own_below OV5.out B59.out) TB.out)
  have N9 := hid (HB.of_own ON9.out TB.out)
  have Q9 := hid (HB.of_own (own_below OQ5.out B59.out) OB.out.1)
  have R9 := hid (HB.of_own (own_below OR5.out B59.out) OB.out.2.1)
  have M9 := hid (HB.of_own OM9.out OB.out.1)
  have K9 := hid (HB.of_own OK9.out OB.out.2.1)
  have hq1 : (tn != tn) = false := by simp
  have hq2 : (n != n) = false := by simp
  clear OM9 OK9
  go_wp2_with fail
  refine (sameBytes_any w9 _ _ tl tl P9.out N9.out).mono ?_
  rintro e w10 ⟨rfl, hD⟩
  rw [decide_eq_true rfl]
  have D10 := hid hD
  clear hD
  go_wp2_with fail
  refine (sameBytes_any w10 _ _ tl tl (V9.out.dr D10.out) (N9.out.dr D10.out)).mono ?_
  rintro e w11 ⟨rfl, hD⟩
  rw [decide_eq_true rfl]
  have D11 := hid (D10.out.trans hD)
  clear hD D10
  go_wp2_with fail
  refine (sameBytes_any w11 _ _ q q (Q9.out.dr D11.out) (M9.out.dr D11.out)).mono ?_
  rintro e w12 ⟨rfl, hD⟩
  rw [decide_eq_true rfl]
  have D12 := hid (D11.out.trans hD)
  clear hD D11
  go_wp2_with fail
  refine (sameBytes_any w12 _ _ r r (R9.out.dr D12.out) (K9.out.dr D12.out)).mono ?_
  rintro e w13 ⟨rfl, hD⟩
  rw [decide_eq_true rfl]
  have D13 := hid (D12.out.trans hD)
  clear hD D12 P9 V9 N9 Q9 R9 M9 K9
  have B913 := hid (D13.out.below w9.heap.size)
  have B513 := hid (B59.out.trans (B913.out.mono B59.out.size))
  have hs13 := B513.out.size
  have OP13 := hid (own_below OP5.out B513.out)
  have OQ13 := hid (own_below OQ5.out B513.out)
  have OR13 := hid (own_below OR5.out B513.out)
  have OV13 := hid (own_below OV5.out B513.out)
  have ON13 := hid (own_below ON9.out B913.out)
  have OX13 := hid (own_below OX5.out B513.out)
  have Y13 := hid (Y5.out.below B513.out)
  have B013 := hid (B05.out.trans (B513.out.mono B05.out.size))
  clear OP5 OQ5 OR5 OV5 ON9 OX5 Y5 B05 B59 B09 D13 B913 B513 XF5 YF5
  have hll := lent_length la
  have hgxy : gx ≠ gy := by omega
  go_wp2_with fail
  refine (over_byt w13 _ _ (lent la) OX13.out (lent_byt HA.out.2) (by omega)).mono ?_
  rintro e w14 ⟨rfl, ⟨lo, hlo, hbo, hoo⟩, hg14⟩
  have G14 : Hid (w13.grownBy w14 (some gx)) := hg14
  have hs14 := hg14.size
  have OP14 := hid (own_other OP13.out G14.out (by omega))
  have OQ14 := hid (own_other OQ13.out G14.out (by omega))
  have OR14 := hid (own_other OR13.out G14.out (by omega))
  have OV14 := hid (own_other OV13.out G14.out (by omega))
  have ON14 := hid (own_other ON13.out G14.out (by omega))
  have Y14 := hid (Y13.out.other G14.out (.inr (by simp [Value.ownBlock]; omega)))
  have B014 := hid (B013.out.grown G14.out B013.out.size (fun k e => by cases e; exact hgx))
  rw [← hlo] at hoo
  have X14 := hid (own_pre hoo hbo la.length (by omega) hcx')
  have hlt : (lo.take la.length).length = la.length := by rw [List.length_take]; omega
  clear hg14 OP13 OQ13 OR13 OV13 ON13 OX13 B013 G14 hoo hbo hlo hll Y13 hgxy
  obtain ⟨lu, HLU⟩ : ∃ lu, Hid (lo.take la.length = lu) := ⟨_, rfl⟩
  rw [HLU.out] at X14 hlt
  rw [← hlt] at X14
  obtain ⟨ul, un, HU⟩ : ∃ ul un, Hid (tv lu lb = (ul, un)) := ⟨_, _, rfl⟩
  have UB := hid (tv_byt HBb.out.2 HU.out)
  have UL := hid (tv_len HU.out)
  have cu := times_d X14.out Y14.out HU.out
  rw [hlt] at cu
  have CU := hid cu
  have HLT := hid hlt
  clear cu hlt
  go_wp2_with fail
  refine wp_region_any (by kernel_rfl) ?_
  change wpAny _ _ _ _ _ _ _ (World.drew _)
  refine wpAny_take (i := 0) (v := ?_) rfl (by kernel_rfl) (by kernel_rfl) (by kernel_rfl) (fun _ _ _ h => h) (Or.inl ⟨by rfl, ?q0⟩) ?_
  case q0 => intro w; go_simp; rfl
  refine wpAny_take (i := 1) (v := ?_) rfl (by kernel_rfl) (by kernel_rfl) (by kernel_rfl) (fun _ _ _ h => h) (Or.inl ⟨by rfl, ?q1⟩) ?_
  case q1 => intro w; go_simp; rfl
  refine wpAny_take (i := 2) (v := ?_) rfl (by kernel_rfl) (by kernel_rfl) (by kernel_rfl) (fun _ _ _ h => h) (Or.inl ⟨by rfl, ?q2⟩) ?_
  case q2 => intro w; go_simp; rfl
  refine wpAny_take (i := 3) (v := ?_) rfl (by kernel_rfl) (by kernel_rfl) (by kernel_rfl) (fun _ _ _ h => h) (Or.inl ⟨by rfl, ?q3⟩) ?_
  case q3 => intro w; go_simp; rfl
  refine wpAny_take (i := 4) (v := ?_) rfl (by kernel_rfl) (by kernel_rfl) (by kernel_rfl) (fun _ _ _ h => h) (Or.inl ⟨by rfl, ?q4⟩) ?_
  case q4 => intro w; go_simp; rfl
  refine wpAny_take (i := 5) (v := ?_) rfl (by kernel_rfl) (by kernel_rfl) (by kernel_rfl) (fun _ _ _ h => h) (Or.inl ⟨by rfl, ?q5⟩) ?_
  case q5 => intro w; go_simp; rfl
  refine wpAny_take (i := 6) (v := ?_) rfl (by kernel_rfl) (by kernel_rfl) (by kernel_rfl) (fun _ _ _ h => h) (Or.inl ⟨by rfl, ?q6⟩) ?_
  case q6 => intro w; go_simp; rfl
  refine wpAny_take (i := 7) (v := ?_) rfl (by kernel_rfl) (by kernel_rfl) (by kernel_rfl) (fun _ _ _ h => h) (Or.inl ⟨by rfl, ?q7⟩) ?_
  case q7 => intro w; go_simp; rfl
  refine wpAny_ready (rs := [8]) (by kernel_rfl) (by simp) ?_
  refine AllReady.cons rfl (fun K hK => ?_) AllReady.nil
  go_simp
  refine (CU.out).mono ?_
  rintro e w15 ⟨pu, cu, rfl, hou, hB15⟩
  refine hK _ _ ?_
  clear hK K
  refine wpAny_take (i := 9) (v := ?_) rfl (by kernel_rfl) (by kernel_rfl) (by kernel_rfl) (fun _ _ _ h => h) (Or.inl ⟨by rfl, ?q9⟩) ?_
  case q9 => intro w; go_simp; rfl
  refine wpAny_take (i := 10) (v := ?_) rfl (by kernel_rfl) (by kernel_rfl) (by kernel_rfl) (fun _ _ _ h => h) (Or.inl ⟨by rfl, ?q10⟩) ?_
  case q10 => intro w; go_simp; rfl
  refine wpAny_take (i := 11) (v := ?_) rfl (by kernel_rfl) (by kernel_rfl) (by kernel_rfl) (fun _ _ _ h => h) (Or.inl ⟨by rfl, ?q11⟩) ?_
  case q11 => intro w; go_simp; rfl
  refine wpAny_take (i := 12) (v := ?_) rfl (by kernel_rfl) (by kernel_rfl) (by kernel_rfl) (fun _ _ _ h => h) (Or.inl ⟨by rfl, ?q12⟩) ?_
  case q12 => intro w; go_simp; rfl
  refine wpAny_take (i := 13) (v := ?_) rfl (by kernel_rfl) (by kernel_rfl) (by kernel_rfl) (fun _ _ _ h => h) (Or.inl ⟨by rfl, ?q13⟩) ?_
  case q13 => intro w; go_simp; rfl
  refine wpAny_done (by kernel_rfl) ?_ _
  have OU15 := hid hou
  have hs15 := hB15.size
  have NPU := hid (own_ne OP14.out OU15.out (Nat.le_refl _))
  have NQU := hid (own_ne OQ14.out OU15.out (Nat.le_refl _))
  have NRU := hid (own_ne OR14.out OU15.out (Nat.le_refl _))
  have NVU := hid (own_ne OV14.out OU15.out (Nat.le_refl _))
  have OP15 := hid (own_below OP14.out hB15)
  have OQ15 := hid (own_below OQ14.out hB15)
  have OR15 := hid (own_below OR14.out hB15)
  have OV15 := hid (own_below OV14.out hB15)
  have ON15 := hid (own_below ON14.out hB15)
  have X15 := hid (X14.out.below hB15)
  have B015 := hid (B014.out.trans (hB15.mono B014.out.size))
  clear hou hB15 CU OP14 OQ14 OR14 OV14 ON14 X14 Y14 B014
  have cu := rtimes_v X15.out (HBb.out.below B015.out) HU.out
  rw [HLT.out] at cu
  have CR := hid cu
  have hq3 : (un != un) = false := by simp
  clear cu
  go_wp2_with fail
  refine CR.out.mono ?_
  rintro e w16 ⟨pk, ck, rfl, hok, hB16⟩
  have OK16 := hid hok
  have B16 := hid hB16
  have hs16 := hB16.size
  clear hok hB16 CR
  go_wp2_with fail
  refine (sameBytes_any w16 _ _ ul ul ((HB.of_own OU15.out UB.out).below B16.out) (HB.of_own OK16.out UB.out)).mono ?_
  rintro e w17 ⟨rfl, hD17⟩
  rw [decide_eq_true rfl]
  have B17 := hid (B16.out.trans ((hD17.below w16.heap.size).mono hs16))
  have hs17 := B17.out.size
  clear hD17 OK16 B16
  go_wp2_with fail
  refine (sameBytes_any w17 _ _ tl tl ((HB.of_own OP15.out TB.out).below B17.out) ((HB.of_own ON15.out TB.out).below B17.out)).mono ?_
  rintro e w18 ⟨rfl, hD18⟩
  rw [decide_eq_true rfl]
  have B18 := hid (B17.out.trans ((hD18.below w17.heap.size).mono hs17))
  clear hD18 B17
  have OP18 := hid (own_below OP15.out B18.out)
  have OQ18 := hid (own_below OQ15.out B18.out)
  have OR18 := hid (own_below OR15.out B18.out)
  have OV18 := hid (own_below OV15.out B18.out)
  have OU18 := hid (own_below OU15.out B18.out)
  have B018 := hid (B015.out.trans (B18.out.mono B015.out.size))
  have hs18 := B18.out.size
  have hle2 := B02.out.size
  clear OP15 OQ15 OR15 OV15 OU15 ON15 B18 B015
  go_wp2_with fail
  have hal := World.grownBy_alloc w18 (.cells #[.slice pp tl.length cp, .slice pq q.length cq, .slice pr r.length cr, .slice pv tl.length cv, .slice pu ul.length cu] 38) none
  have hAp : Apt w.heap.size (w18.alloc (.cells #[.slice pp tl.length cp, .slice pq q.length cq, .slice pr r.length cr, .slice pv tl.length cv, .slice pu ul.length cu] 38)) [.slice pp tl.length cp, .slice pq q.length cq, .slice pr r.length cr, .slice pv tl.length cv, .slice pu ul.length cu] [tl, q, r, tl, ul] := by
    refine ⟨rfl, fun k hk => ?_, fun i j hi hj hij => ?_⟩
    · match k, hk with
      | 0, _ => exact own_mono (OP18.out.kept hal (none_or _)) (by omega)
      | 1, _ => exact own_mono (OQ18.out.kept hal (none_or _)) (by omega)
      | 2, _ => exact own_mono (OR18.out.kept hal (none_or _)) (by omega)
      | 3, _ => exact own_mono (OV18.out.kept hal (none_or _)) (by omega)
      | 4, _ => exact own_mono (OU18.out.kept hal (none_or _)) (by omega)
    · have hi2 : i = 0 ∨ i = 1 ∨ i = 2 ∨ i = 3 ∨ i = 4 := by simp at hi; omega
      have hj2 : j = 0 ∨ j = 1 ∨ j = 2 ∨ j = 3 ∨ j = 4 := by simp at hj; omega
      rcases hi2 with rfl | rfl | rfl | rfl | rfl <;> rcases hj2 with rfl | rfl | rfl | rfl | rfl <;> first | exact absurd rfl hij | exact NPQ.out.1 | exact NPQ.out.2 | exact NPR.out.1 | exact NPR.out.2 | exact NPV.out.1 | exact NPV.out.2 | exact NPU.out.1 | exact NPU.out.2 | exact NQR.out.1 | exact NQR.out.2 | exact NQV.out.1 | exact NQV.out.2 | exact NQU.out.1 | exact NQU.out.2 | exact NRV.out.1 | exact NRV.out.2 | exact NRU.out.1 | exact NRU.out.2 | exact NVU.out.1 | exact NVU.out.2
  refine (apart_any w.heap.size _ _ _ _ (HV.five w18 _ _ _ _ _) hAp (by have := B018.out.size; simp; omega) (by simp) (fun k => ?_)).mono ?_
  · have h1 := TL.out
    have h2 := UL.out
    have h3 := OB.out.2.2
    match k with
    | 0 => show tl.length ≤ _; omega
    | 1 => show q.length ≤ _; omega
    | 2 => show r.length ≤ _; omega
    | 3 => show tl.length ≤ _; omega
    | 4 => show ul.length ≤ _; omega
    | k + 5 => simp
  rintro e w19 ⟨rfl, hB19⟩
  have B19 := hid ((B018.out.alloc B018.out.size _).trans hB19)
  clear hB19 hAp hal
  go_wp2
  go_ret
  exact ⟨rfl, B19.out⟩
end Go.Proofs.Ytdoenaoemdhniaa
