/- The law GfLists, walked. -/
import Derived.Test.YtmglpcenipnmbaaGfEval
import Derived.Test.YtmglpcenipnmbaaGfRefScale
import Derived.Test.YtmglpcenipnmbaaMarksMore
import Derived.Test.YtmglpcenipnmbaaApart
set_option linter.unusedSimpArgs false
set_option linter.unusedVariables false
namespace Go.Proofs.Ytmglpcenipnmbaa
open Go Go.RowKit

theorem HV.three (w : World) (a b c : Value) : HV (w.alloc (.cells #[a, b, c] 38)) (.slice (some ⟨w.heap.size, 0, none⟩) 3 3) [a, b, c] := by
  refine ⟨_, _, rfl, by simp, by decide, fun _ => ⟨w.heap.size, 0, rfl, ⟨_, _, heap_alloc_new w _⟩, fun k hk => ?_⟩⟩
  match k, hk with
  | 0, _ => simp
  | 1, _ => simp
  | 2, _ => simp

/-- A lent list: its row, and the slice that is lent. -/
theorem lent_part {w : World} {B : Nat} {v : Value} {l : List Int} (h : w.ownsRow B 5 1 v (lent l).length ((lent l).map (Value.int .u8))) (hby : ∀ x ∈ l, 0 ≤ x ∧ x < 256) :
    ∃ g c, v = .slice (some ⟨g, 0, none⟩) (l.length + 70) c ∧ B ≤ g ∧ g < w.heap.size ∧ l.length + 70 ≤ c ∧ c ≤ 9223372036854775807 ∧ HB w (.slice (some ⟨g, 0, none⟩) l.length c) l ∧ HB w (.slice (some ⟨g, 0, none⟩) (l.length + 70) c) (lent l) := by
  have hf := HB.of_own h (lent_byt hby)
  have hll := lent_length l
  rcases h.2 with ⟨_, e0⟩ | ⟨g, cap, cur, rfl, hb, hh, hn, hm, _⟩
  · omega
  · unfold maxLen at hm
    refine ⟨g, cap, by rw [hll], hb, (Array.getElem?_eq_some_iff.1 hh).1, by omega, hm, ?_, by rw [hll] at hf; exact hf⟩
    have h3 := hf.sliced 0 l.length cap (Nat.zero_le _) (by omega) (by omega) (Nat.le_refl _)
    rw [lent_take] at h3
    have e : (if cap = 0 then (some (⟨g, 0, none⟩ : Addr)) else (some (⟨g, 0, none⟩ : Addr)).map (·.add 0)) = some ⟨g, 0, none⟩ := by
      split
      · rfl
      · simp [Addr.add]
    rw [e] at h3
    simpa using h3


/-- The first of a row of one's own, as a slice. -/
theorem own_pre {w : World} {B g n c : Nat} {l : List Int} (h : w.ownsRow B 5 1 (.slice (some ⟨g, 0, none⟩) n c) l.length (l.map (Value.int .u8))) (hl : ∀ x ∈ l, 0 ≤ x ∧ x < 256) (m : Nat) (hm : m ≤ l.length) (hmc : m ≤ c) : HB w (.slice (some ⟨g, 0, none⟩) m c) (l.take m) := by
  have hf := HB.of_own h hl
  obtain ⟨p, c', e, h1, h2⟩ := hf.open
  simp only [Value.slice.injEq] at e
  obtain ⟨rfl, rfl, rfl⟩ := e
  have h3 := hf.sliced 0 m c (Nat.zero_le _) hm (by omega) (Nat.le_refl _)
  have e : (if c = 0 then (some (⟨g, 0, none⟩ : Addr)) else (some (⟨g, 0, none⟩ : Addr)).map (·.add 0)) = some ⟨g, 0, none⟩ := by
    split
    · rfl
    · simp [Addr.add]
  rw [e] at h3
  simpa using h3
/-- A row of one's own is not the block that turned. -/
theorem own_other {w w' : World} {B n g : Nat} {e : TypeId} {v : Value} {xs : List Value} (h : w.ownsRow B e 1 v n xs) (hg : w.grownBy w' (some g)) (hb : g < B) : w'.ownsRow B e 1 v n xs :=
  h.kept hg (by
    rcases none_or v.ownBlock with q | q
    · exact .inl q
    · exact .inr fun e => by have := (h.lt g e).1; omega)
theorem HB.other {w w' : World} {u : Value} {l : List Int} {g : Nat} (h : HB w u l) (hg : w.grownBy w' (some g)) (hr : u.ownBlock = none ∨ u.ownBlock ≠ some g) : HB w' u l := h.away hg hr

set_option maxRecDepth 100000 in
set_option maxHeartbeats 8000000 in
theorem lists_walk (w : World) (va vb : Value) (la lb : List Int) (x : Nat) (ha : HB w va la) (hb : HB w vb lb) (hx : x < 256) (hla : la.length ≤ 140737488351232) (hlb : lb.length ≤ 140737488351232) :
    Calls Try.prog 5 #[va, vb, .int .u8 (x : Int)] w fun e w' => e = .returned (.bool true) ∧ Below w.heap.size w w' := by
  have HA := hid ha
  have HBb := hid hb
  obtain ⟨pa, ca, ea, _, hca⟩ := ha.open
  obtain ⟨pb, cb, eb, _, hcb⟩ := hb.open
  clear ha hb
  subst ea eb
  unfold maxLen at hca hcb
  have sz := size_u8
  go_enter Try.func5, Try.ntmps5
  go_wp2_with fail
  refine (lent_any w _ la HA.out hla).mono ?_
  rintro e w1 ⟨vx, rfl, hox, hB1⟩
  obtain ⟨gx, cx, ex, hgx, hgx1, hcx, hcx2, hx0, hfx⟩ := lent_part hox HA.out.2
  have OX := hid hox
  have X0 := hid hx0
  have XF := hid hfx
  have B1 := hid hB1
  have hs1 := hB1.size
  clear hox hx0 hfx hB1
  subst ex
  go_wp2_with fail
  refine (lent_any w1 _ lb (HBb.out.below B1.out) hlb).mono ?_
  rintro e w2 ⟨vy, rfl, hoy, hB2⟩
  obtain ⟨gy, cy, ey, hgy, hgy2, hcy, hcy2, hy, hfy⟩ := lent_part hoy HBb.out.2
  have Y0 := hid hy
  have YF := hid hfy
  have B2 := hid hB2
  have hs2 := hB2.size
  clear hoy hy hfy hB2
  subst ey
  go_wp2_with fail
  have hcx' : la.length ≤ cx := by omega
  have hcy' : lb.length ≤ cy := by omega
  have DV : Hid (dotV la lb = dotV la lb) := rfl
  obtain ⟨⟨dv, de⟩, HDV⟩ : ∃ q, Hid (dotV la lb = q) := ⟨_, rfl⟩
  have hd3 := dot_any w2.drew _ _ la lb ((X0.out.below B2.out).drewN 1) (Y0.out.drewN 1)
  rw [HDV.out] at hd3
  have C3 := hid hd3
  clear hd3 DV
  refine wp_region_any (by kernel_rfl) ?_
  change wpAny _ _ _ _ _ _ _ (World.drew _)
  refine wpAny_take (i := 0) (v := ?_) rfl (by kernel_rfl) (by kernel_rfl) (by kernel_rfl) (fun _ _ _ h => h) (Or.inl ⟨by rfl, ?q0⟩) ?_
  case q0 => intro w; go_simp; rfl
  refine wpAny_take (i := 1) (v := ?_) rfl (by kernel_rfl) (by kernel_rfl) (by kernel_rfl) (fun _ _ _ h => h) (Or.inl ⟨by rfl, ?q1⟩) ?_
  case q1 => intro w; go_simp; rfl
  refine wpAny_take (i := 2) (v := ?_) rfl (by kernel_rfl) (by kernel_rfl) (by kernel_rfl) (fun _ _ _ h => h) (Or.inl ⟨by rfl, ?q2⟩) ?_
  case q2 => intro w; go_simp; rfl
  refine wpAny_take (i := 3) (v := ?_) rfl (by kernel_rfl) (by kernel_rfl) (by kernel_rfl) (fun _ _ _ h => h) (Or.inl ⟨by rfl, ?q3⟩) ?_
  case q3 => intro w; go_simp; rfl
  refine wpAny_take (i := 4) (v := ?_) rfl (by kernel_rfl) (by kernel_rfl) (by kernel_rfl) (fun _ _ _ h => h) (Or.inl ⟨by rfl, ?q4⟩) ?_
  case q4 => intro w; go_simp; rfl
  refine wpAny_take (i := 5) (v := ?_) rfl (by kernel_rfl) (by kernel_rfl) (by kernel_rfl) (fun _ _ _ h => h) (Or.inl ⟨by rfl, ?q5⟩) ?_
  case q5 => intro w; go_simp; rfl
  refine wpAny_take (i := 6) (v := ?_) rfl (by kernel_rfl) (by kernel_rfl) (by kernel_rfl) (fun _ _ _ h => h) (Or.inl ⟨by rfl, ?q6⟩) ?_
  case q6 => intro w; go_simp; rfl
  refine wpAny_take (i := 7) (v := ?_) rfl (by kernel_rfl) (by kernel_rfl) (by kernel_rfl) (fun _ _ _ h => h) (Or.inl ⟨by rfl, ?q7⟩) ?_
  case q7 => intro w; go_simp; rfl
  refine wpAny_ready (rs := [8]) (by kernel_rfl) (by simp) ?_
  refine AllReady.cons rfl (fun K hK => ?_) AllReady.nil
  go_simp
  refine (C3.out).mono ?_
  rintro e w3 ⟨rfl, hD3⟩
  refine hK _ _ ?_
  clear hK K
  refine wpAny_take (i := 9) (v := ?_) rfl (by kernel_rfl) (by kernel_rfl) (by kernel_rfl) (fun _ _ _ h => h) (Or.inl ⟨by rfl, ?q9⟩) ?_
  case q9 => intro w; go_simp; rfl
  refine wpAny_take (i := 10) (v := ?_) rfl (by kernel_rfl) (by kernel_rfl) (by kernel_rfl) (fun _ _ _ h => h) (Or.inl ⟨by rfl, ?q10⟩) ?_
  case q10 => intro w; go_simp; rfl
  refine wpAny_take (i := 11) (v := ?_) rfl (by kernel_rfl) (by kernel_rfl) (by kernel_rfl) (fun _ _ _ h => h) (Or.inl ⟨by rfl, ?q11⟩) ?_
  case q11 => intro w; go_simp; rfl
  refine wpAny_take (i := 12) (v := ?_) rfl (by kernel_rfl) (by kernel_rfl) (by kernel_rfl) (fun _ _ _ h => h) (Or.inl ⟨by rfl, ?q12⟩) ?_
  case q12 => intro w; go_simp; rfl
  refine wpAny_take (i := 13) (v := ?_) rfl (by kernel_rfl) (by kernel_rfl) (by kernel_rfl) (fun _ _ _ h => h) (Or.inl ⟨by rfl, ?q13⟩) ?_
  case q13 => intro w; go_simp; rfl
  refine wpAny_done (by kernel_rfl) ?_ _
  have B3 : Hid (Below w2.heap.size w2 w3) := Below.trans (Dr.below (Dr.one w2 1) _) (hD3.below _)
  have hs3 := B3.out.size
  clear hD3 C3
  have X3 := hid ((X0.out.below B2.out).below B3.out)
  have XF3 := hid ((XF.out.below B2.out).below B3.out)
  have YF3 := hid (YF.out.below B3.out)
  have B03 := hid (B1.out.trans ((B2.out.trans (B3.out.mono hs2)).mono hs1))
  have OX3 := hid (own_below OX.out (B2.out.trans (B3.out.mono hs2)))
  clear X0 XF YF Y0 OX B1 B2 B3
  have hscl := scL_length la x
  obtain ⟨sc, HSC⟩ : ∃ sc, Hid (scL la x = sc) := ⟨_, rfl⟩
  have HSB : Hid (∀ y ∈ sc, 0 ≤ y ∧ y < 256) := by rw [← HSC.out]; exact scL_byt HA.out.2 x
  rw [HSC.out] at hscl
  have CS : Hid (∀ W, HB W (.slice (some ⟨gx, 0, none⟩) la.length cx) la → Calls Try.prog 30 #[.slice (some ⟨gx, 0, none⟩) la.length cx, .int .u8 (x : Int)] W fun e w' => ∃ v', e = .returned v' ∧ w'.ownsRow W.heap.size 5 1 v' sc.length (sc.map (Value.int .u8)) ∧ Below W.heap.size W w') := fun W h => by
    rw [← HSC.out]
    exact scale_any W _ la x h hx (by omega)
  have HSL := hid hscl
  clear hscl
  go_wp2_with fail
  refine (CS.out w3 X3.out).mono ?_
  rintro e w4 ⟨vs, rfl, hos, hB4⟩
  obtain ⟨ps, cs, es⟩ := own_slc hos
  subst es
  have OS4 := hid hos
  have B4 := hid hB4
  have hs4 := hB4.size
  clear hos hB4
  go_wp2_with fail
  refine (CS.out w4 (X3.out.below B4.out)).mono ?_
  rintro e w5 ⟨vt, rfl, hot, hB5⟩
  obtain ⟨pt, ct, et⟩ := own_slc hot
  subst et
  have OT5 := hid hot
  have B5 := hid hB5
  have hs5 := hB5.size
  have NST := hid (own_ne OS4.out OT5.out (Nat.le_refl _))
  clear hot hB5 CS
  have B35 := hid (B4.out.trans (B5.out.mono hs4))
  obtain ⟨hv, HHV⟩ : ∃ hv, Hid (horn x la = hv) := ⟨_, rfl⟩
  have ce := eval_any w5 _ la x (X3.out.below B35.out) hx
  rw [HHV.out] at ce
  have CE := hid ce
  clear ce
  go_wp2_with fail
  refine CE.out.mono ?_
  rintro e w6 ⟨rfl, hB6⟩
  have B6 := hid hB6
  have hs6 := hB6.size
  clear hB6 CE
  have B36 := hid (B35.out.trans (B6.out.mono (by omega)))
  have B06 := hid (B03.out.trans (B36.out.mono B03.out.size))
  go_wp2_with fail
  refine (kept_any w6 _ _ (lent la) la (XF3.out.below B36.out) (HA.out.below B06.out) hla).mono ?_
  rintro e w7 ⟨rfl, hB7⟩
  rw [decide_eq_true rfl]
  have B7 := hid hB7
  have hs7 := hB7.size
  clear hB7
  have B37 := hid (B36.out.trans (B7.out.mono (by omega)))
  have B07 := hid (B03.out.trans (B37.out.mono B03.out.size))
  go_wp2_with fail
  refine (kept_any w7 _ _ (lent lb) lb (YF3.out.below B37.out) (HBb.out.below B07.out) hlb).mono ?_
  rintro e w8 ⟨rfl, hB8⟩
  rw [decide_eq_true rfl]
  have B8 := hid hB8
  have hs8 := hB8.size
  clear hB8
  have B38 := hid (B37.out.trans (B8.out.mono (by omega)))
  have B08 := hid (B03.out.trans (B38.out.mono B03.out.size))
  have cd := rdot_any w8 _ _ la lb (HA.out.below B08.out) (HBb.out.below B08.out)
  rw [HDV.out] at cd
  have CD := hid cd
  clear cd B36 B37 B06 B07
  go_wp2_with fail
  refine CD.out.mono ?_
  rintro e w9 ⟨rfl, hD9⟩
  have B9 := hid (hD9.below w8.heap.size)
  have hs9 := B9.out.size
  clear hD9 CD
  have B39 := hid (B38.out.trans (B9.out.mono (by omega)))
  have B09 := hid (B03.out.trans (B39.out.mono B03.out.size))
  have cr := rscale_any w9 _ la x (HA.out.below B09.out) hx hla
  rw [HSC.out] at cr
  have CR := hid cr
  clear cr
  go_wp2_with fail
  refine CR.out.mono ?_
  rintro e w10 ⟨vn, rfl, hon, hB10⟩
  obtain ⟨pn, cn, en⟩ := own_slc hon
  subst en
  have ON10 := hid hon
  have B10 := hid hB10
  have hs10 := hB10.size
  clear hon hB10 CR
  have B310 := hid (B39.out.trans (B10.out.mono (by omega)))
  have B010 := hid (B03.out.trans (B310.out.mono B03.out.size))
  have B410 := hid (B5.out.trans ((B6.out.trans ((B7.out.trans ((B8.out.trans ((B9.out.trans (B10.out.mono hs9)).mono hs8)).mono hs7)).mono hs6)).mono hs5))
  have B510 := hid (B6.out.trans ((B7.out.trans ((B8.out.trans ((B9.out.trans (B10.out.mono hs9)).mono hs8)).mono hs7)).mono hs6))
  have ce := reval_any w10 _ la x (HA.out.below B010.out) hx
  rw [ev_horn la x hx HA.out.2, HHV.out] at ce
  have CE := hid ce
  have hq1 : ((dv : Int) != (dv : Int)) = false := by simp
  have hq2 : (de != de) = false := by simp
  have hq3 : ((hv : Int) != (hv : Int)) = false := by simp
  clear ce B38 B39 B08 B09
  go_wp2_with fail
  refine CE.out.mono ?_
  rintro e w11 ⟨rfl, hw⟩
  subst hw
  clear CE
  have S10 := hid (HB.of_own (own_below OS4.out B410.out) HSB.out)
  have T10 := hid (HB.of_own (own_below OT5.out B510.out) HSB.out)
  have N10 := hid (HB.of_own ON10.out HSB.out)
  go_wp2_with fail
  refine (sameBytes_any w11 _ _ sc sc S10.out N10.out).mono ?_
  rintro e w12 ⟨rfl, hD12⟩
  rw [decide_eq_true rfl]
  have D12 := hid hD12
  clear hD12
  go_wp2_with fail
  refine (sameBytes_any w12 _ _ sc sc (T10.out.dr D12.out) (N10.out.dr D12.out)).mono ?_
  rintro e w13 ⟨rfl, hD13⟩
  rw [decide_eq_true rfl]
  have D13 := hid (D12.out.trans hD13)
  clear hD13 D12 S10 T10 N10
  have B13 := hid (D13.out.below w11.heap.size)
  have hs13 := B13.out.size
  have OS13 := hid (own_below OS4.out (B410.out.trans (B13.out.mono B410.out.size)))
  have OT13 := hid (own_below OT5.out (B510.out.trans (B13.out.mono B510.out.size)))
  have ON13 := hid (own_below ON10.out B13.out)
  have OX13 := hid (own_below OX3.out (B310.out.trans (B13.out.mono B310.out.size)))
  have B013 := hid (B010.out.trans (B13.out.mono B010.out.size))
  clear OS4 OT5 ON10 OX3 B410 B510 B310 B010 B13 D13 hq1 hq2 hq3
  have hll := lent_length la
  go_wp2_with fail
  refine (over_byt w13 _ _ (lent la) OX13.out (lent_byt HA.out.2) (by omega)).mono ?_
  rintro e w14 ⟨rfl, ⟨lo, hlo, hbo, hoo⟩, hg14⟩
  have G14 : Hid (w13.grownBy w14 (some gx)) := hg14
  have hs14 := hg14.size
  have OS14 := hid (own_other OS13.out G14.out (by omega))
  have OT14 := hid (own_other OT13.out G14.out (by omega))
  have ON14 := hid (own_other ON13.out G14.out (by omega))
  have B014 := hid (B013.out.grown G14.out B013.out.size (fun k e => by cases e; exact hgx))
  rw [← hlo] at hoo
  have X14 := hid (own_pre hoo hbo la.length (by omega) hcx')
  have HLB : Hid (∀ y ∈ lo.take la.length, 0 ≤ y ∧ y < 256) := fun y hy => hbo y (List.mem_of_mem_take hy)
  have hlt : (lo.take la.length).length = la.length := by rw [List.length_take]; omega
  clear hg14 OS13 OT13 ON13 OX13 B013 G14 hoo hbo hlo hll
  obtain ⟨lu, HLU⟩ : ∃ lu, Hid (lo.take la.length = lu) := ⟨_, rfl⟩
  rw [HLU.out] at X14 HLB hlt
  have hscl := scL_length lu x
  obtain ⟨su, HSU⟩ : ∃ su, Hid (scL lu x = su) := ⟨_, rfl⟩
  have HUB : Hid (∀ y ∈ su, 0 ≤ y ∧ y < 256) := by rw [← HSU.out]; exact scL_byt HLB.out x
  have cu := scale_any w14 _ lu x X14.out hx (by omega)
  rw [HSU.out] at cu hscl
  have CU := hid cu
  have HUL := hid (hscl.trans hlt)
  have HLTL := hid hlt
  clear cu hscl hlt
  go_wp2_with fail
  refine CU.out.mono ?_
  rintro e w15 ⟨vu, rfl, hou, hB15⟩
  obtain ⟨pu, cu, eu⟩ := own_slc hou
  subst eu
  have OU15 := hid hou
  have B15 := hid hB15
  have hs15 := hB15.size
  clear hou hB15 CU
  have OS15 := hid (own_below OS14.out B15.out)
  have OT15 := hid (own_below OT14.out B15.out)
  have ON15 := hid (own_below ON14.out B15.out)
  have X15 := hid (X14.out.below B15.out)
  have B015 := hid (B014.out.trans (B15.out.mono B014.out.size))
  have NSU := hid (own_ne OS14.out OU15.out (Nat.le_refl _))
  have NTU := hid (own_ne OT14.out OU15.out (Nat.le_refl _))
  clear OS14 OT14 ON14 X14 B014 B15
  go_wp2_with fail
  refine (sameBytes_any w15 _ _ sc sc (HB.of_own OS15.out HSB.out) (HB.of_own ON15.out HSB.out)).mono ?_
  rintro e w16 ⟨rfl, hD16⟩
  rw [decide_eq_true rfl]
  have D16 := hid hD16
  clear hD16
  have cr := rscale_any w16 _ lu x (X15.out.dr D16.out) hx (by have := HLTL.out; omega)
  rw [HSU.out] at cr
  have CR := hid cr
  clear cr
  go_wp2_with fail
  refine CR.out.mono ?_
  rintro e w17 ⟨vk, rfl, hok, hB17⟩
  obtain ⟨pk, ck, ek⟩ := own_slc hok
  subst ek
  have OK17 := hid hok
  have B1517 := hid (Below.trans (D16.out.below w15.heap.size) (hB17.mono (D16.out.below w15.heap.size).size))
  clear hok hB17 CR
  have hs17 := B1517.out.size
  go_wp2_with fail
  refine (sameBytes_any w17 _ _ su su ((HB.of_own OU15.out HUB.out).below B1517.out) (HB.of_own OK17.out HUB.out)).mono ?_
  rintro e w18 ⟨rfl, hD18⟩
  rw [decide_eq_true rfl]
  have B18 := hid (B1517.out.trans ((hD18.below w17.heap.size).mono hs17))
  clear hD18 OK17 B1517
  have OS18 := hid (own_below OS15.out B18.out)
  have OT18 := hid (own_below OT15.out B18.out)
  have OU18 := hid (own_below OU15.out B18.out)
  have B018 := hid (B015.out.trans (B18.out.mono B015.out.size))
  have hs18 := B18.out.size
  have hle3 := B03.out.size
  clear OS15 OT15 OU15 B18 B015
  go_wp2_with fail
  have hal := World.grownBy_alloc w18 (.cells #[.slice ps sc.length cs, .slice pt sc.length ct, .slice pu su.length cu] 38) none
  have hAp : Apt w.heap.size (w18.alloc (.cells #[.slice ps sc.length cs, .slice pt sc.length ct, .slice pu su.length cu] 38)) [.slice ps sc.length cs, .slice pt sc.length ct, .slice pu su.length cu] [sc, sc, su] := by
    refine ⟨rfl, fun k hk => ?_, fun i j hi hj hij => ?_⟩
    · match k, hk with
      | 0, _ => exact own_mono (OS18.out.kept hal (none_or _)) (by omega)
      | 1, _ => exact own_mono (OT18.out.kept hal (none_or _)) (by omega)
      | 2, _ => exact own_mono (OU18.out.kept hal (none_or _)) (by omega)
    · have hi2 : i = 0 ∨ i = 1 ∨ i = 2 := by simp at hi; omega
      have hj2 : j = 0 ∨ j = 1 ∨ j = 2 := by simp at hj; omega
      rcases hi2 with rfl | rfl | rfl <;> rcases hj2 with rfl | rfl | rfl <;> first | exact absurd rfl hij | exact NST.out.1 | exact NST.out.2 | exact NSU.out.1 | exact NSU.out.2 | exact NTU.out.1 | exact NTU.out.2
  refine (apart_any w.heap.size _ _ _ _ (HV.three w18 _ _ _) hAp (by have := B018.out.size; simp; omega) (by simp) (fun k => ?_)).mono ?_
  · have h1 := HSL.out
    have h2 := HUL.out
    match k with
    | 0 => show sc.length ≤ _; omega
    | 1 => show sc.length ≤ _; omega
    | 2 => show su.length ≤ _; omega
    | k + 3 => simp
  rintro e w19 ⟨rfl, hB19⟩
  have B19 := hid ((B018.out.alloc B018.out.size _).trans hB19)
  clear hB19 hAp hal
  go_wp2
  go_ret
  exact ⟨rfl, B19.out⟩
end Go.Proofs.Ytmglpcenipnmbaa
