/- Of the road to wireCallsUpto_holds: WrRMayP, WrRFit. -/
import Derived.Test.YtgjadpidoaianaaG15
import Derived.Test.YtgjadpidoaianaaG16
set_option linter.unusedVariables false
set_option linter.unusedSimpArgs false
namespace Go.Proofs.Ytgjadpidoaianaa
open Go Go.RowKit
theorem folB_at {ns : List Int} {j : Nat} (hj : j < ns.length) : folB (ns.take j) (ns.getD j 0) = (nbB (ns.getD j 0) && (decide (j = 0) || decide (ns.getD (j - 1) 0 < ns.getD j 0))) := by
  have e1 : (ns.take j).length = j := by rw [List.length_take]; omega
  unfold folB
  rw [e1]
  by_cases h0 : j = 0
  · simp [h0]
  · have e2 : (ns.take j).getD (j - 1) 0 = ns.getD (j - 1) 0 := by
      simp only [List.getD, List.getElem?_take]
      rw [if_pos (by omega)]
    rw [e2]
set_option maxRecDepth 100000 in
set_option maxHeartbeats 16000000 in
theorem rmayP_any (w : World) (k : Int) (vn : Value) (ns : List Int) (hn : I.HB w vn ns) (p : Option Addr) (n c : Nat) : Calls Try.prog 50 #[.agg (rpA k vn (.slice p n c))] w fun e w' => e = .returned (.bool (mayP k ns n)) ∧ Below w.heap.size w w' := by
  obtain ⟨W1, HW1⟩ : ∃ W : World, Hid (w.alloc (.cells #[.int .u8 k, vn, .slice p n c] 42) = W) := ⟨_, hid rfl⟩
  have B1 : Hid (Below w.heap.size w W1) := by rw [← HW1.out]; exact hid ((Below.refl _ w).alloc (Nat.le_refl _) _)
  have hbx : W1.heap[w.heap.size]? = some (.cells #[.int .u8 k, vn, .slice p n c] 42 (0, 0)) := by rw [← HW1.out]; exact heap_alloc_new w _
  have c0 : W1.cell? ⟨w.heap.size, 0, none⟩ = some (.int .u8 k) := by simp [World.cell?, hbx]
  have c1 : W1.cell? ⟨w.heap.size, 1, none⟩ = some vn := by simp [World.cell?, hbx]
  have c2 : W1.cell? ⟨w.heap.size, 2, none⟩ = some (.slice p n c) := by simp [World.cell?, hbx]
  have C1 := hid rnumber_any
  have hn1 := hn.below B1.out
  obtain ⟨pn, cn, e, hcl, hcm⟩ := hn.open
  have A : Hid (∀ j, j < ns.length → ∃ b off, pn = some ⟨b, off, none⟩ ∧ W1.cell? ⟨b, off + j, none⟩ = some (.int .i64 (ns.getD j 0))) := hid (fun j hj => by
    obtain ⟨b, off, c', e', _, _, hh⟩ := hn1.ne (by omega)
    rw [e] at e'
    simp only [Value.slice.injEq, true_and] at e'
    exact ⟨b, off, e'.1, hh j hj⟩)
  have hnl : ns.length ≤ 9223372036854775807 := Nat.le_trans hcl hcm
  obtain ⟨M, HMP⟩ : ∃ x, Hid (mayP k ns n = x) := ⟨_, hid rfl⟩
  rw [HMP.out]
  subst e
  unfold rpA
  clear hn hn1 hbx
  have hnd : Hid (∀ q, Below w.heap.size w (W1.drewN q)) := hid (fun q => bel_drewN B1.out q)
  by_cases k1 : k = 1
  · subst k1
    by_cases hn0 : n = 0
    · subst hn0
      by_cases hl : ns.length ≤ 255
      · have hlI : (ns.length : Int) ≤ 255 := by omega
        have HM1 : Hid (M = risB ns) := hid (by rw [← HMP.out]; simp [mayP])
        go_enter Try.func50, Try.ntmps50
        go_wp2_with (first | rw [HW1.out] | fail)
        go_loopw [3] (fun i wr => ∃ j : Nat, j ≤ ns.length ∧ i = .int .i64 j ∧ risTo ns j = true ∧ Dr W1 wr) (fun i _ => ns.length - (intOf i).toNat)
        case atStart => exact ⟨0, Nat.zero_le _, rfl, rfl, Dr.refl _⟩
        case round =>
          obtain ⟨j, hj, rfl, hrt, hdr⟩ := hrel
          have d0 := (hdr.cell ⟨w.heap.size, 1, none⟩).trans c1
          have HD := hid hdr
          by_cases hlt : j < ns.length
          · obtain ⟨b, off, hpn, hc⟩ := A.out j hlt
            have hc' := (hdr.cell ⟨b, off + j, none⟩).trans hc
            have ST : Hid (risTo ns (j + 1) = (nbB (ns.getD j 0) && (decide (j = 0) || decide (ns.getD (j - 1) 0 < ns.getD j 0)))) := hid (by rw [risTo, hrt, folB_at hlt]; simp)
            have BAD : Hid (risTo ns (j + 1) = false → M = false) := hid (fun h => by rw [HM1.out]; exact risTo_false h _ (by omega))
            have hcp : 0 < j → wr.cell? ⟨b, off + (j - 1), none⟩ = some (.int .i64 (ns.getD (j - 1) 0)) := fun h0 => by
              obtain ⟨b', off', hpn', hc2⟩ := A.out (j - 1) (by omega)
              rw [hpn] at hpn'
              cases hpn'
              exact (hdr.cell _).trans hc2
            generalize ns.getD j 0 = x at hc hc' ST
            generalize ns.getD (j - 1) 0 = x' at hcp ST
            obtain ⟨nb, HNB⟩ : ∃ y, Hid (nbB x = y) := ⟨_, hid rfl⟩
            have C2 : Hid (∀ W, Calls Try.prog 73 #[.int .i64 x] W fun e w' => e = .returned (.bool nb) ∧ w' = W) := hid (fun W => by rw [← HNB.out]; exact rnumber_any W x)
            rw [HNB.out] at ST
            subst hpn
            clear hc
            by_cases j0 : j = 0
            · subst j0
              clear hcp
              have hc0 : wr.cell? ⟨b, off, none⟩ = some (.int .i64 x) := hc'
              cases nb <;> (
                go_wp2_with fail
                go_quiet ((go_at_call 73; exact Calls.quiet_of_same (C2.out _)))
                go_wp2_with fail
                first
                  | (go_ret; exact ⟨by rw [BAD.out (by rw [ST.out]; rfl)]; rfl, B1.out.trans ((HD.out.drewN _).below _)⟩)
                  | exact ⟨⟨1, by omega, by go_num, by rw [ST.out]; rfl, HD.out.drewN _⟩, by simp [intOf]; omega⟩)
            · have hcq := hcp (by omega)
              have hj0 : 0 < (j : Int) := by omega
              have hj0N : 0 < j := by omega
              obtain ⟨i, hi⟩ : ∃ i, j - 1 = i := ⟨_, rfl⟩
              rw [hi] at hcq
              have hw1 : IntKind.i64.wrap ((j : Int) - 1) = (i : Int) := by rw [IntKind.wrap_i64]; omega
              have hlt2 : i < ns.length := by omega
              have hlt1 : j - 1 < ns.length := by omega
              have dj : decide (j = 0) = false := decide_eq_false j0
              rw [dj] at ST
              by_cases hxx : x' < x
              · have hx2 : ¬ (x ≤ x') := by omega
                have dx : decide (x' < x) = true := decide_eq_true hxx
                rw [dx] at ST
                cases nb <;> (
                  go_wp2_with fail
                  go_quiet ((go_at_call 73; exact Calls.quiet_of_same (C2.out _)))
                  go_wp2_with fail
                  first
                    | (go_ret; exact ⟨by rw [BAD.out (by rw [ST.out]; rfl)]; rfl, B1.out.trans ((HD.out.drewN _).below _)⟩)
                    | exact ⟨⟨j + 1, by omega, by go_num, by rw [ST.out]; rfl, HD.out.drewN _⟩, by simp [intOf]; omega⟩)
              · have hx2 : x ≤ x' := by omega
                have dx : decide (x' < x) = false := decide_eq_false hxx
                rw [dx] at ST
                cases nb <;> (
                  go_wp2_with fail
                  go_quiet ((go_at_call 73; exact Calls.quiet_of_same (C2.out _)))
                  go_wp2_with fail
                  go_ret
                  exact ⟨by rw [BAD.out (by rw [ST.out]; rfl)]; rfl, B1.out.trans ((HD.out.drewN _).below _)⟩)
          · have HT : Hid (M = true) := hid (by rw [HM1.out, risB, show ns.length = j by omega]; exact hrt)
            go_wp2_with fail
            go_ret
            exact ⟨by rw [HT.out]; rfl, B1.out.trans (HD.out.below _)⟩
      · have hlI : ¬ ((ns.length : Int) ≤ 255) := by omega
        have HF : Hid (M = false) := hid (by
          rw [← HMP.out]
          have : risB ns = false := by
            rw [Bool.eq_false_iff]
            intro h
            have := (ris_len h).1
            omega
          simp [mayP, this])
        go_enter Try.func50, Try.ntmps50
        go_wp2_with (first | rw [HW1.out] | fail)
        go_ret
        exact ⟨by rw [HF.out]; rfl, B1.out⟩
    · have hnI : ((n : Int) == 0) = false := beq_eq_false_iff_ne.2 (by omega)
      have HF : Hid (M = false) := hid (by rw [← HMP.out]; simp [mayP, hn0])
      go_enter Try.func50, Try.ntmps50
      go_wp2_with (first | rw [HW1.out] | fail)
      all_goals go_ret
      all_goals exact ⟨by rw [HF.out]; rfl, B1.out⟩
  · have b1 : (k == 1) = false := beq_eq_false_iff_ne.2 k1
    by_cases hl : ns.length = 0
    · rw [hl] at c1 HW1 ⊢
      by_cases k5 : k = 5
      · subst k5
        have HF : Hid (M = decide (1 ≤ (n : Int) ∧ (n : Int) ≤ 131072)) := hid (by rw [← HMP.out]; simp [mayP, hl, flB])
        go_enter Try.func50, Try.ntmps50
        go_wp2_with (first | rw [HW1.out] | fail)
        all_goals go_ret
        all_goals (refine ⟨?_, B1.out⟩; rw [HF.out]; clear HF; simp; try omega)
      · have b5 : (k == 5) = false := beq_eq_false_iff_ne.2 k5
        by_cases hn0 : n = 0
        · subst hn0
          have HF : Hid (M = rkB k) := hid (by rw [← HMP.out]; simp [mayP, hl, k1, k5])
          by_cases hr : 1 ≤ k ∧ k ≤ 7
          · have HT : Hid (M = true) := hid (by rw [HF.out]; simp [rkB, hr])
            obtain ⟨hr1, hr2⟩ := hr
            have hr3 : ¬ (k < 1) := by omega
            have hr4 : ¬ (7 < k) := by omega
            go_enter Try.func50, Try.ntmps50
            go_wp2_with (first | rw [HW1.out] | fail)
            go_loop [3] (fun i => i = .int .i64 0) (fun _ => 0)
            case atStart => rfl
            case round =>
              subst hrel
              go_wp2_with fail
              go_ret
              exact ⟨by rw [HT.out]; rfl, B1.out⟩
          · have HT : Hid (M = false) := hid (by rw [HF.out]; simp [rkB]; omega)
            go_enter Try.func50, Try.ntmps50
            go_wp2_with (first | rw [HW1.out] | fail)
            all_goals first
              | (go_ret; exact ⟨by rw [HT.out]; rfl, B1.out⟩)
              | (exfalso; omega)
        · have hnI : ((n : Int) == 0) = false := beq_eq_false_iff_ne.2 (by omega)
          have k5n : (k != 5) = true := by simp [k5]
          have n0n : ((n : Int) != 0) = true := by simp [hn0]
          have HT : Hid (M = false) := hid (by rw [← HMP.out]; simp [mayP, k1, k5, hn0])
          go_enter Try.func50, Try.ntmps50
          go_wp2_with (first | rw [HW1.out] | fail)
          all_goals first
            | (go_ret; exact ⟨by rw [HT.out]; rfl, B1.out⟩)
            | (exfalso; simp_all)
    · have HT : Hid (M = false) := hid (by rw [← HMP.out]; simp only [mayP, if_neg k1]; rw [show decide (ns.length = 0) = false from decide_eq_false hl]; simp)
      clear A HMP
      generalize ns.length = nl at c1 HW1 hl hcl hnl ⊢
      have hnI : ((nl : Int) == 0) = false := beq_eq_false_iff_ne.2 (by omega)
      go_enter Try.func50, Try.ntmps50
      go_wp2_with (first | rw [HW1.out] | fail)
      all_goals go_ret
      all_goals exact ⟨by rw [HT.out]; rfl, B1.out⟩
set_option maxRecDepth 100000 in
set_option maxHeartbeats 16000000 in
theorem rfits_any (w : World) (r : Rq) (hr : r.ok) (p : Option Addr) (n c : Nat) (k : Int) (vn : Value) (ns : List Int) (hn : I.HB w vn ns) (p' : Option Addr) (m c' : Nat) :
    Calls Try.prog 29 #[.agg (rqA r (.slice p n c)), .agg (rpA k vn (.slice p' m c'))] w fun e w' => e = .returned (.bool (fitB r n k ns m)) ∧ Below w.heap.size w w' := by
  obtain ⟨m1, HM1⟩ : ∃ m, Hid (rqA r (.slice p n c) = m) := ⟨_, hid rfl⟩
  obtain ⟨m2, HM2⟩ : ∃ x, Hid (rpA k vn (.slice p' m c') = x) := ⟨_, hid rfl⟩
  obtain ⟨l1, HL1, HA1⟩ : ∃ ml : List Value, Hid (m1.toList = ml) ∧ Hid (ml.toArray = m1) := ⟨m1.toList, hid rfl, hid (by simp)⟩
  obtain ⟨l2, HL2, HA2⟩ : ∃ ml : List Value, Hid (m2.toList = ml) ∧ Hid (ml.toArray = m2) := ⟨m2.toList, hid rfl, hid (by simp)⟩
  obtain ⟨W1, HW1⟩ : ∃ W : World, Hid (w.alloc (.cells m1 38) = W) := ⟨_, hid rfl⟩
  obtain ⟨W2, HW2⟩ : ∃ W : World, Hid (W1.alloc (.cells m2 42) = W) := ⟨_, hid rfl⟩
  have Z1 : W1.heap.size = w.heap.size + 1 := by rw [← HW1.out]; simp
  have Z2 : Hid (W2.heap.size = w.heap.size + 2) := hid (by rw [← HW2.out]; simp [Z1])
  have B1 : Hid (Below w.heap.size w W1) := by rw [← HW1.out]; exact hid ((Below.refl _ w).alloc (Nat.le_refl _) _)
  have B2 : Hid (Below W1.heap.size W1 W2) := by rw [← HW2.out]; exact hid ((Below.refl _ W1).alloc (Nat.le_refl _) _)
  have BB : Hid (Below w.heap.size w W2) := hid (B1.out.trans (B2.out.mono B1.out.size))
  have X1 : Hid (∀ W, Below W2.heap.size W2 W → W.heap[w.heap.size]? = some (.cells m1 38 (0, 0))) := hid (fun W hW => (hW.block _ (by have := Z2.out; omega)).trans ((B2.out.block _ (by omega)).trans (by rw [← HW1.out]; exact heap_alloc_new w _)))
  have X2 : Hid (∀ W, Below W2.heap.size W2 W → W.heap[w.heap.size + 1]? = some (.cells m2 42 (0, 0))) := hid (fun W hW => (hW.block _ (by have := Z2.out; omega)).trans (by rw [← Z1, ← HW2.out]; exact heap_alloc_new W1 _))
  have RA : Hid (∀ W, Below W2.heap.size W2 W → W.rangeAt w.heap.size 0 l1) := hid (fun W hW j u hj => by
    rw [cell_of_row _ _ _ _ _ _ (X1.out W hW), Nat.zero_add, ← Array.getElem?_toList, HL1.out]; exact hj)
  have RB : Hid (∀ W, Below W2.heap.size W2 W → W.rangeAt (w.heap.size + 1) 0 l2) := hid (fun W hW j u hj => by
    rw [cell_of_row _ _ _ _ _ _ (X2.out W hW), Nat.zero_add, ← Array.getElem?_toList, HL2.out]; exact hj)
  have KX : Hid (∀ W, Below W2.heap.size W2 W → W.cell? ⟨w.heap.size, 0, none⟩ = some (.int .u8 r.k) ∧ W.cell? ⟨w.heap.size, 19, none⟩ = some (.int .i64 r.ln) ∧ W.cell? ⟨w.heap.size + 1, 0, none⟩ = some (.int .u8 k) ∧ W.cell? ⟨w.heap.size + 1, 2, none⟩ = some (.slice p' m c')) := hid (fun W hW => by
    refine ⟨?_, ?_, ?_, ?_⟩
    · rw [cell_of_row _ _ _ _ _ _ (X1.out W hW), ← HM1.out]; rfl
    · rw [cell_of_row _ _ _ _ _ _ (X1.out W hW), ← HM1.out]; exact rqA_19 hr _
    · rw [cell_of_row _ _ _ _ _ _ (X2.out W hW), ← HM2.out]; rfl
    · rw [cell_of_row _ _ _ _ _ _ (X2.out W hW), ← HM2.out]; rfl)
  have SA : Hid ((Try.prog.info? 38).map (·.size) = some l1.length) := hid (by rw [← HL1.out, show m1.toList.length = 23 by rw [← HM1.out]; exact rqA_size hr _]; kernel_rfl)
  have SB' : Hid ((Try.prog.info? 42).map (·.size) = some l2.length) := hid (by rw [← HL2.out, show m2.toList.length = 3 by rw [← HM2.out]; rfl]; kernel_rfl)
  have C1 := hid (rmay20_any W2 r hr p n c)
  have C2 : Hid (∀ W, Below W2.heap.size W2 W → Calls Try.prog 50 #[.agg m2] W fun e w' => e = .returned (.bool (mayP k ns m)) ∧ Below W.heap.size W w') := hid (fun W hW => by
    have := rmayP_any W k vn ns (hn.below (BB.out.trans (hW.mono BB.out.size))) p' m c'
    rw [HM2.out] at this
    exact this)
  rw [HM1.out] at C1
  have RA2 := hid (RA.out W2 (Below.refl _ _))
  have FB : Hid (fitB r n k ns m = (mayB r n && (mayP k ns m && kfB r k m))) := hid rfl
  obtain ⟨F, HF⟩ : ∃ x, Hid (fitB r n k ns m = x) := ⟨_, hid rfl⟩
  rw [HF.out] at FB ⊢
  obtain ⟨ma, HMA⟩ : ∃ x, Hid (mayB r n = x) := ⟨_, hid rfl⟩
  obtain ⟨mb, HMB⟩ : ∃ x, Hid (mayP k ns m = x) := ⟨_, hid rfl⟩
  have FK : Hid (kfB r k m = if k = 7 then true else if k = 1 then decide (r.k = 1 ∨ r.k = 4 ∨ r.k = 5) else if k = 5 then decide (r.k = 3) && decide ((m : Int) = r.ln) else if k = 6 then decide (r.k = 3) else decide (r.k = 2)) := hid rfl
  have HK7 : Hid (mb = true → 1 ≤ k ∧ k ≤ 7) := hid (fun h => by
    rw [← HMB.out] at h
    unfold mayP at h
    (repeat' split at h) <;> simp [rkB] at h <;> omega)
  rw [HMA.out] at C1 FB
  rw [HMB.out] at C2 FB
  rw [HM1.out, HM2.out]
  clear HF HMA HMB hn
  go_enter Try.func29, Try.ntmps29
  refine wp_seq_k fun K0 h0 => ?_
  have H0 := hid h0
  clear h0
  go_wp2
  rw [HW1.out, HW2.out]
  refine H0.out _ _ ?_
  clear H0 K0
  go_wp2_with (first | (refine wpList_load_mid rfl 38 _ rfl w.heap.size 0 rfl l1 _ RA2.out Try.underlying38 rfl SA.out ?_; rw [HA1.out]) | fail)
  refine C1.out.mono ?_
  rintro e w3 ⟨rfl, hb3⟩
  have B3 := hid hb3
  have RB3 := hid (RB.out w3 hb3)
  have C3 := hid (C2.out w3 hb3)
  clear hb3 C1 C2
  cases ma with
  | false =>
    go_wp2_with fail
    go_ret
    exact ⟨by rw [FB.out]; rfl, BB.out.trans (B3.out.mono BB.out.size)⟩
  | true =>
    go_wp2_with (first | (refine wpList_load_midW (by rfl) 42 _ rfl (w.heap.size + 1) 0 rfl l2 _ RB3.out Try.underlying42 rfl SB'.out ?_; rw [HA2.out]) | fail)
    refine C3.out.mono ?_
    rintro e w4 ⟨rfl, hb4⟩
    have B4 : Hid (Below W2.heap.size W2 w4) := hid (B3.out.trans (hb4.mono B3.out.size))
    have BF : Hid (Below w.heap.size w w4) := hid (BB.out.trans (B4.out.mono BB.out.size))
    obtain ⟨k0, k19, j0, j2⟩ := KX.out w4 B4.out
    clear hb4 C3
    cases mb with
    | false =>
      go_wp2_with fail
      go_ret
      exact ⟨by rw [FB.out]; rfl, BF.out⟩
    | true =>
      obtain ⟨k71, k72⟩ := HK7.out rfl
      rw [FK.out] at FB
      simp only [Bool.true_and] at FB
      go_wp2_with fail
      all_goals go_ret
      all_goals (refine ⟨?_, BF.out⟩; rw [FB.out]; clear FB FK KX RA RB X1 X2 RA2 RB3 SA SB' B1 B2 BB B3 B4 BF HW1 HW2 Z1 Z2 HM1 HM2 HL1 HL2 HA1 HA2 k0 k19 j0 j2 HK7; (try simp_all [or_assoc]); try (first | rfl | (left; omega) | (rw [show (r.k == 1) = false from beq_eq_false_iff_ne.2 (by assumption), show (r.k == 4) = false from beq_eq_false_iff_ne.2 (by assumption)]; rfl)))
end Go.Proofs.Ytgjadpidoaianaa
