/- The law GfValues, walked. -/
import Derived.Test.YtdoenaoemdhniabGfPoly
import Derived.Test.YtdoenaoemdhniabGfAwake
import Derived.Test.YtdoenaoemdhniabGfLawsLaw
set_option linter.unusedSimpArgs false
set_option linter.unusedVariables false
namespace Go.Proofs.Ytdoenaoemdhniab
open Go Go.RowKit

set_option maxRecDepth 100000 in
set_option maxHeartbeats 4000000 in
theorem whole_any (w : World) (p : Option Addr) (c : Nat) (l : List Int) (h : HB w (.slice p l.length c) l) (hl : l.length ≠ 0 → gN l (l.length - 1) ≠ 0) :
    Calls Try.prog 17 #[.slice p l.length c] w fun e w' => e = .returned (.bool true) ∧ w' = w := by
  have HA := hid h
  have sz := size_u8
  obtain ⟨_, _, _, _, hm⟩ := h.open
  clear h
  by_cases h0 : l.length = 0
  · have h0' : ((l.length : Int) == 0) = true := by rw [h0]; rfl
    clear hl h0
    go_enter Try.func17, Try.ntmps17
    go_wp2
    go_ret
    exact ⟨rfl, rfl⟩
  · have h0' : ((l.length : Int) == 0) = false := by simpa using h0
    have hg := hl h0
    obtain ⟨t, HT⟩ : ∃ t : Nat, Hid (l.length = t + 1) := ⟨l.length - 1, by show _ = _; omega⟩
    rw [show l.length - 1 = t by have := HT.out; omega] at hg
    have htI : (l.length : Int) - 1 = (t : Int) := by have := HT.out; omega
    have htl : t < l.length := by have := HT.out; omega
    obtain ⟨b1, o1, c1, e1, _, hm1, hc1⟩ := HA.out.ne (by omega)
    simp only [Value.slice.injEq] at e1
    obtain ⟨rfl, _, rfl⟩ := e1
    have q1 := hc1 t htl
    obtain ⟨g1, l1⟩ := HA.out.gN t
    rw [g1] at q1
    have hne : (((gN l t : Nat) : Int) != 0) = true := by simpa using hg
    unfold maxLen at hm1
    clear hc1 g1 hl hg h0
    go_enter Try.func17, Try.ntmps17
    go_wp2
    go_ret
    exact ⟨rfl, rfl⟩
theorem cvF_nil {f : Nat → Nat} (hf : ∀ i, f i < 256) {P : List Int} (hP : P.length = 0) : ∀ (n i : Nat), cvF f P n i = 0
  | 0, _ => rfl
  | n + 1, i => by
    rw [cvF, cvF_nil hf hP n i, Nat.zero_xor, sh]
    split
    · rw [gN_out P _ (by omega), zero_prod _ (hf n)]
    · rfl
theorem times_nil (A P : List Int) (hA : ∀ c ∈ A, 0 ≤ c ∧ c < 256) (h : P.length = 0) : (timesL A P).length = 0 := by
  unfold timesL
  rw [cutL_length]
  have := cutN_small (tabL (A.length + P.length) (cv A P A.length)) 0 (fun i _ => by
    by_cases hi : i < A.length + P.length
    · rw [gN_tabL _ _ _ hi, cv_all, cvF_nil (gN_lt hA) h]
    · exact gN_out _ i (by rw [tabL_length]; omega)) (tabL (A.length + P.length) (cv A P A.length)).length
  omega
theorem cutL_le (l : List Int) : (cutL l).length ≤ l.length := by rw [cutL_length]; exact cutN_le _ _

set_option maxRecDepth 100000 in
set_option maxHeartbeats 8000000 in
theorem values_walk (w : World) (va vb : Value) (A P : List Int) (x : Nat) (ha : HB w va A) (hb : HB w vb P) (hx : x < 256) (hla : A.length ≤ 140737488351232) (hlb : P.length ≤ 140737488351232) :
    Calls Try.prog 5 #[va, vb, .int .u8 (x : Int)] w fun e w' => e = .returned (.bool true) ∧ Below w.heap.size w w' := by
  have HA := hid ha
  have HBb := hid hb
  obtain ⟨pa, ca, ea, _, hca⟩ := ha.open
  obtain ⟨pb, cb, eb, _, hcb⟩ := hb.open
  clear ha hb
  subst ea eb
  unfold maxLen at hca hcb
  by_cases hlong : (cutL A).length ≤ 256 ∧ (cutL P).length ≤ 256
  · have HL := hid hlong
    have hbA := cutL_byt HA.out.2
    have hbP := cutL_byt HBb.out.2
    have CT := hid (times_ok w pa pb ca cb A P HA.out HBb.out hlong.1 hlong.2)
    have HTB : Hid (∀ c ∈ timesL (cutL A) (cutL P), 0 ≤ c ∧ c < 256) := cutL_byt (tabL_byt _ fun i => cv_lt (gN_lt hbP) _ i)
    have HTL : Hid ((timesL (cutL A) (cutL P)).length ≠ 0 → gN (timesL (cutL A) (cutL P)) ((timesL (cutL A) (cutL P)).length - 1) ≠ 0) := cutL_last _
    have HTE : Hid (horn x (timesL (cutL A) (cutL P)) = prod (horn x A) (horn x P)) := by
      rw [horn_times _ _ x hx hbA hbP, horn_cut A x hx HA.out.2, horn_cut P x hx HBb.out.2]
      exact rfl
    have HTN : Hid ((cutL P).length = 0 → (timesL (cutL A) (cutL P)).length = 0) := times_nil _ _ hbA
    have lea : horn x A < 256 := horn_lt x A HA.out.2
    have leb : horn x P < 256 := horn_lt x P HBb.out.2
    obtain ⟨T, HT⟩ : ∃ T, Hid (timesL (cutL A) (cutL P) = T) := ⟨_, rfl⟩
    rw [HT.out] at CT HTB HTL HTE HTN
    have CEA : Hid (∀ W, Below w.heap.size w W → Calls Try.prog 16 #[.slice pa A.length ca, .int .u8 (x : Int)] W fun e w' => e = .returned (.int .u8 ((horn x A : Nat) : Int)) ∧ Below W.heap.size W w') := fun W hW => eval_any W _ A x (HA.out.below hW) hx
    have CEB : Hid (∀ W, Below w.heap.size w W → Calls Try.prog 16 #[.slice pb P.length cb, .int .u8 (x : Int)] W fun e w' => e = .returned (.int .u8 ((horn x P : Nat) : Int)) ∧ Below W.heap.size W w') := fun W hW => eval_any W _ P x (HBb.out.below hW) hx
    have HOV : Hid (∀ (fq fr : Nat → Nat), (∀ i, fq i < 256) → (∀ i, fr i < 256) → (∀ i, gN (cutL A) i = fr i ^^^ cvF fq (cutL P) (cutL A).length i) → (∀ i, (cutL P).length - 1 ≤ i → fr i = 0) → (∀ k, (cutL A).length < k + (cutL P).length → fq k = 0) → (cutL P).length ≠ 0 → horn x A = prod (horn x (cutL (tabL (cutL A).length fq))) (horn x P) ^^^ horn x (cutL (tabL (cutL A).length fr)) ∧ (cutL (tabL (cutL A).length fr)).length < (cutL P).length) := fun fq fr h1 h2 h3 h4 h5 h6 => by
      have := horn_over (cutL A) (cutL P) x hx hbA hbP h6 h1 h2 h3 h4 h5
      rwa [horn_cut A x hx HA.out.2, horn_cut P x hx HBb.out.2] at this
    obtain ⟨fa, HFA⟩ : ∃ y, Hid (horn x A = y) := ⟨_, rfl⟩
    obtain ⟨fb, HFB⟩ : ∃ y, Hid (horn x P = y) := ⟨_, rfl⟩
    rw [HFA.out] at HTE lea CEA HOV
    rw [HFB.out] at HTE leb CEB HOV
    have lab := prod_lt fb lea
    have CM : Hid (∀ W, Calls Try.prog 8 #[.int .u8 (fa : Int), .int .u8 (fb : Int)] W fun e w' => e = .returned (.int .u8 ((prod fa fb : Nat) : Int)) ∧ w' = W) := fun W => mul_any W fa fb lea leb
    obtain ⟨fab, HFAB⟩ : ∃ y, Hid (prod fa fb = y) := ⟨_, rfl⟩
    rw [HFAB.out] at HTE lab CM
    have hqq : ((fab : Int) != (fab : Int)) = false := by simp
    clear hlong hbA hbP
    go_enter Try.func5, Try.ntmps5
    go_wp2_with fail
    refine CT.out.mono ?_
    rintro e w1 ⟨vp, rfl, hop, hB1⟩
    obtain ⟨pp, cp, ep⟩ := own_slc hop
    subst ep
    have OP := hid hop
    have HP1 := hid (HB.of_own hop HTB.out)
    have B1 := hid hB1
    clear hop hB1 CT
    have ce := eval_any w1 _ T x HP1.out hx
    rw [HTE.out] at ce
    have CE := hid ce
    clear ce
    go_wp2_with fail
    refine CE.out.mono ?_
    rintro e w2 ⟨rfl, hB2⟩
    have B12 := hid hB2
    have B2 := hid (B1.out.trans (hB2.mono B1.out.size))
    clear hB2 CE
    go_wp2_with fail
    refine (CEA.out w2 B2.out).mono ?_
    rintro e w3 ⟨rfl, hB3⟩
    have B13 := hid (B12.out.trans (hB3.mono B12.out.size))
    have B3 := hid (B2.out.trans (hB3.mono B2.out.size))
    clear hB3 B12 B2
    go_wp2_with fail
    refine (CEB.out w3 B3.out).mono ?_
    rintro e w4 ⟨rfl, hB4⟩
    have B14 := hid (B13.out.trans (hB4.mono B13.out.size))
    have B4 := hid (B3.out.trans (hB4.mono B3.out.size))
    clear hB4 B13 B3
    go_wp2_with fail
    refine (CM.out w4).mono ?_
    rintro e w5 ⟨rfl, hw⟩
    subst hw
    have CW := hid (whole_any w5 _ _ T (HP1.out.below B14.out) HTL.out)
    go_wp2_with fail
    refine CW.out.mono ?_
    rintro e w6 ⟨rfl, hw⟩
    subst hw
    clear CW
    go_wp2_with fail
    refine (awake_any w6).mono ?_
    rintro e w7 ⟨rfl, hB7⟩
    have B7 := hid (B4.out.trans (hB7.mono B4.out.size))
    clear hB7 B4 B14
    go_wp2_with fail
    refine (gover_any w7 pa pb ca cb A P (HA.out.below B7.out) (HBb.out.below B7.out)).mono ?_
    intro e w8 hpost
    obtain ⟨-, h60, hok, hB8⟩ := hpost
    have B8 := hid (B7.out.trans (hB8.mono B7.out.size))
    clear hB8 B7
    by_cases hm : (cutL P).length = 0
    · obtain rfl := h60 HL.out hm
      have hT0 := HTN.out hm
      have hT0' : ((T.length : Int) == 0) = true := by rw [hT0]; rfl
      clear h60 hok hT0 hm
      go_wp2
      go_ret
      exact ⟨rfl, B8.out⟩
    · obtain ⟨vq, vr, fq, fr, rfl, hfq, hfr, oq, or', -, h1, h2, h3⟩ := hok HL.out hm
      obtain ⟨pq, cq, eq⟩ := own_slc oq
      obtain ⟨pr, cr, er⟩ := own_slc or'
      subst eq er
      have hov := HOV.out fq fr hfq hfr h1 h2 h3 hm
      have hbq := cutL_byt (tabL_byt (cutL A).length hfq)
      have hbr := cutL_byt (tabL_byt (cutL A).length hfr)
      have HQ8 := hid (HB.of_own oq hbq)
      have HR8 := hid (HB.of_own or' hbr)
      have HQL : Hid ((cutL (tabL (cutL A).length fq)).length ≠ 0 → gN (cutL (tabL (cutL A).length fq)) ((cutL (tabL (cutL A).length fq)).length - 1) ≠ 0) := cutL_last _
      have HRL : Hid ((cutL (tabL (cutL A).length fr)).length ≠ 0 → gN (cutL (tabL (cutL A).length fr)) ((cutL (tabL (cutL A).length fr)).length - 1) ≠ 0) := cutL_last _
      have lq : horn x (cutL (tabL (cutL A).length fq)) < 256 := horn_lt x _ hbq
      have lr : horn x (cutL (tabL (cutL A).length fr)) < 256 := horn_lt x _ hbr
      clear oq or' h1 h2 h3 hfq hfr hok h60 hbq hbr
      obtain ⟨Q, HQ⟩ : ∃ Q, Hid (cutL (tabL (cutL A).length fq) = Q) := ⟨_, rfl⟩
      obtain ⟨R, HR⟩ : ∃ R, Hid (cutL (tabL (cutL A).length fr) = R) := ⟨_, rfl⟩
      rw [HQ.out] at hov HQ8 HQL lq ⊢
      rw [HR.out] at hov HR8 HRL lr ⊢
      obtain ⟨vQ, HVQ⟩ : ∃ y, Hid (horn x Q = y) := ⟨_, rfl⟩
      obtain ⟨vR, HVR⟩ : ∃ y, Hid (horn x R = y) := ⟨_, rfl⟩
      have CQ : Hid (∀ W, Below w8.heap.size w8 W → Calls Try.prog 16 #[.slice pq Q.length cq, .int .u8 (x : Int)] W fun e w' => e = .returned (.int .u8 (vQ : Int)) ∧ Below W.heap.size W w') := fun W hW => by
        rw [← HVQ.out]
        exact eval_any W _ Q x (HQ8.out.below hW) hx
      have CR : Hid (∀ W, Below w8.heap.size w8 W → Calls Try.prog 16 #[.slice pr R.length cr, .int .u8 (x : Int)] W fun e w' => e = .returned (.int .u8 (vR : Int)) ∧ Below W.heap.size W w') := fun W hW => by
        rw [← HVR.out]
        exact eval_any W _ R x (HR8.out.below hW) hx
      rw [HVQ.out] at hov lq
      rw [HVR.out] at hov lr
      have lqb := prod_lt fb lq
      have CM2 : Hid (∀ W, Calls Try.prog 8 #[.int .u8 (vQ : Int), .int .u8 (fb : Int)] W fun e w' => e = .returned (.int .u8 ((prod vQ fb : Nat) : Int)) ∧ w' = W) := fun W => mul_any W vQ fb lq leb
      have CA2 : Hid (∀ W, Calls Try.prog 7 #[.int .u8 ((prod vQ fb : Nat) : Int), .int .u8 (vR : Int)] W fun e w' => e = .returned (.int .u8 (fa : Int)) ∧ w' = W) := fun W => by
        have := add_any W (prod vQ fb) vR lqb lr
        rwa [← hov.1] at this
      have hRl := hov.2
      obtain ⟨vqb, HVQB⟩ : ∃ y, Hid (prod vQ fb = y) := ⟨_, rfl⟩
      rw [HVQB.out] at CM2 CA2
      have CWQ := hid (whole_any w8 _ _ Q HQ8.out HQL.out)
      have CWR := hid (whole_any w8 _ _ R HR8.out HRL.out)
      have hff : ((fa : Int) == (fa : Int)) = true := by simp
      rw [cutL_length] at hRl
      have HPw := hid (HBb.out.below B8.out)
      have sz := size_u8
      obtain ⟨V, HV⟩ : ∃ V, Hid (cutN P P.length = V) := ⟨_, rfl⟩
      rw [HV.out] at hRl
      clear hov hm HOV
      go_wp2
      go_loopw [12] (fun n wr => ∃ k : Nat, k ≤ P.length ∧ n = .int .i64 (k : Int) ∧ Hid (cutN P k = V) ∧ wr = w8) (fun n _ => (intOf n).toNat)
      case atStart => exact ⟨P.length, Nat.le_refl _, rfl, HV, rfl⟩
      case round =>
        obtain ⟨k, hk, rfl, HK, hw⟩ := hrel
        subst hw
        cases k with
        | zero =>
          have hV0 : V = 0 := HK.out.symm
          omega
        | succ j =>
          obtain ⟨b1, o1, c1, e1, _, _, hc1⟩ := HPw.out.ne (by omega)
          simp only [Value.slice.injEq, true_and] at e1
          obtain ⟨rfl, rfl⟩ := e1
          have q1 := hc1 j (by omega)
          obtain ⟨g1, l1⟩ := HPw.out.gN j
          rw [g1] at q1
          have hj : ((j + 1 : Nat) : Int) - 1 = (j : Int) := by omega
          have hjl : j < P.length := by omega
          clear hc1 g1
          by_cases h0 : gN P j = 0
          · have HN : Hid (cutN P j = V) := by
              have := HK.out
              rw [cutN, if_pos h0] at this
              exact this
            rw [h0] at q1
            clear HK
            go_wp2
            exact ⟨⟨j, by omega, by go_num, HN, by trivial⟩, by simp [intOf]⟩
          · have hVj : V = j + 1 := by
              have := HK.out
              rw [cutN, if_neg h0] at this
              exact this.symm
            have h0' : (((gN P j : Nat) : Int) == 0) = false := by simpa using h0
            have hRj : ¬ ((j + 1 : Nat) : Int) ≤ (R.length : Int) := by omega
            have hRj2 : ¬ (R.length : Int) ≥ ((j + 1 : Nat) : Int) := by omega
            clear HK hVj hRl
            go_wp2_with fail
            refine CWQ.out.mono ?_
            rintro e w9 ⟨rfl, hw⟩
            subst hw
            clear CWQ
            go_wp2_with fail
            refine CWR.out.mono ?_
            rintro e w10 ⟨rfl, hw⟩
            subst hw
            clear CWR
            go_wp2_with fail
            refine (CEA.out w10 B8.out).mono ?_
            rintro e w11 ⟨rfl, hB⟩
            have B11 := hid hB
            have B011 := hid (B8.out.trans (hB.mono B8.out.size))
            clear hB
            go_wp2_with fail
            refine (CQ.out w11 B11.out).mono ?_
            rintro e w12 ⟨rfl, hB⟩
            have B12 := hid (B11.out.trans (hB.mono B11.out.size))
            have B012 := hid (B011.out.trans (hB.mono B011.out.size))
            clear hB B11 B011
            go_wp2_with fail
            refine (CEB.out w12 B012.out).mono ?_
            rintro e w13 ⟨rfl, hB⟩
            have B13 := hid (B12.out.trans (hB.mono B12.out.size))
            have B013 := hid (B012.out.trans (hB.mono B012.out.size))
            clear hB B12 B012
            go_wp2_with fail
            refine (CM2.out w13).mono ?_
            rintro e w14 ⟨rfl, hw⟩
            subst hw
            go_wp2_with fail
            refine (CR.out w14 B13.out).mono ?_
            rintro e w15 ⟨rfl, hB⟩
            have B015 := hid (B013.out.trans (hB.mono B013.out.size))
            clear hB B13 B013
            go_wp2_with fail
            refine (CA2.out w15).mono ?_
            rintro e w16 ⟨rfl, hw⟩
            subst hw
            go_wp2
            go_ret
            exact ⟨rfl, B015.out⟩
  · have C := hid (times_long w pa pb ca cb A P HA.out HBb.out hlong)
    have hsum : (256 : Int) < (A.length : Int) + (P.length : Int) := by have := cutL_le A; have := cutL_le P; omega
    have CW := hid (awake_any w)
    clear hlong
    go_enter Try.func5, Try.ntmps5
    go_wp2_with fail
    refine C.out.mono ?_
    rintro e w1 ⟨rfl, hw⟩
    subst hw
    clear C
    go_wp2_with fail
    refine CW.out.mono ?_
    rintro e w2 ⟨rfl, hB⟩
    have B2 := hid hB
    clear hB CW
    go_wp2
    go_ret
    exact ⟨rfl, B2.out⟩
end Go.Proofs.Ytdoenaoemdhniab
