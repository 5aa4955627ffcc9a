/- rise, least, sink, settle under an order that counts. -/
import Derived.Test.YtcgkcappfjhikaaHfA
set_option linter.unusedVariables false
set_option linter.unusedSimpArgs false
namespace Go.Proofs.Ytcgkcappfjhikaa
open Go Go.RowKit
/-- How deep a place of a heap lies. -/
def lg (p : Nat) : Nat := Nat.log2 (p + 1)
theorem lg_par {p : Nat} (h : 0 < p) : lg (par p) + 1 = lg p := by
  unfold lg par
  rw [Nat.log2_def (p + 1), if_pos (by omega), show (p - 1) / 2 + 1 = (p + 1) / 2 by omega]
theorem lg_le {p : Nat} (h : p < 1152921504606846976) : lg p ≤ 60 := by
  have : Nat.log2 (p + 1) < 61 := (Nat.log2_lt (by omega)).2 (by omega)
  unfold lg
  omega
def fuN (n : Nat) (lo : Int) : Nat := if lo < 0 then 0 else 2 * (61 - lg lo.toNat)
theorem fuN_at (n p : Nat) : fuN n (p : Int) = 2 * (61 - lg p) := by unfold fuN; rw [if_neg (by omega)]; simp
section
variable {J : Nat → World → Prop} {U : Nat → Prop} {Dm : Int → Prop} {fid : Nat} {fr : Array Value} {Ls : Int → Int → Bool → Prop} {ord : Prop} {key : Int → Int}
variable {w : World} {g : Nat} {sf F : Value} {mp : Option Nat} {L : List (Rw Int)} {nx : Nat} {lo : Int} {v : Value} {S : Nat → Prop}
set_option maxRecDepth 100000 in
set_option maxHeartbeats 4000000 in
theorem rise_f (O : OrcF fid fr J U Dm Ls) (hO : Ord ord key Ls) (c : Nat) (p : Nat) (h : Lv (J (c + lg p)) U Dm fid fr w g sf mp L nx (p : Int) v S) (hp : p < L.length) :
    Calls Try.prog 58 #[ptr g] w fun e w' => e = .returned (.tuple #[]) ∧ RiQ ord key (J c) U Dm fid fr w g sf mp L p nx v S w' := by
  have H0 := hid h
  clear h
  go_enter Try.func58, Try.ntmps58
  go_wp2_with fail
  go_loopw [2] (fun _ wr => ∃ (L' : List (Rw Int)) (p' : Nat), Hid (RiI ord key (J (c + lg p')) U Dm fid fr w g sf mp L p nx v S L' p' wr)) (fun _ wr => lseN g wr)
  case atStart => exact ⟨L, p, hid ⟨H0.out, Ex.refl _ _, .refl _, hp, fun _ q => q⟩⟩
  case round =>
    obtain ⟨L', p', HI⟩ := hrel
    clear hp
    have c5 := HI.out.1.hp.cg.2.2.2.2.2
    have hpl := HI.out.2.2.2.1
    have hln := HI.out.1.hp.len
    have hfw := HI.out.1.hp.few
    have HM : Hid (lseN g wr = p') := hid (by unfold lseN; rw [c5]; simp)
    by_cases h0 : p' = 0
    · subst h0
      go_wp2_with fail
      go_end0
      exact ⟨rfl, L', 0, HI.out.1.mono O (Nat.le_add_right _ _), HI.out.2.1, HI.out.2.2.1, HI.out.2.2.2.1, fun o q => (HI.out.2.2.2.2 o q).top⟩
    · have h1 : (0 : Int) < (p' : Int) := by omega
      have e1 : ((p' : Int) - 1).tdiv 2 = ((par p' : Nat) : Int) := by rw [Int.tdiv_eq_ediv_of_nonneg (by omega)]; unfold par; omega
      have hq : par p' < p' := par_lt (by omega)
      obtain ⟨q, HQ⟩ : ∃ q, Hid (par p' = q) := ⟨_, rfl⟩
      rw [HQ.out] at e1 hq
      have HLG : Hid (lg q + 1 = lg p') := hid (by rw [← HQ.out]; exact lg_par (by omega))
      have CA := hid (ahead_f O (c + lg p' - 1) HI.out.1.hp (by have := HI.out.1.j; rwa [show c + lg p' - 1 + 1 = c + lg p' by (have := HLG.out; omega)]) HI.out.1.ap HI.out.1.dm p' q hpl (by omega))
      go_wp2_with fail
      refine CA.out.mono ?_
      rintro e w1 ⟨r, rfl, hr, hj1, he1⟩
      clear CA
      have L1 := hid (HI.out.1.exJ he1 hj1)
      have d5 := L1.out.hp.cg.2.2.2.2.2
      have HT := hid (HI.out.1.hp.tne hpl (show q < L'.length by omega) (by omega))
      have EX1 : Hid (Ex (SU S U) w w1) := hid (HI.out.2.1.trans he1 (fun k hk => .inl (.inr hk)))
      have HR := hid hr
      clear hr hj1 he1 c5
      cases r with
      | false =>
        go_wp2_with fail
        refine bodyPost_ret (results_none rfl _ _ _) rfl ?_
        refine ⟨rfl, L', p', L1.out.mono O (by have := HLG.out; omega), EX1.out, HI.out.2.2.1, hpl, fun o q0 => (HI.out.2.2.2.2 o q0).stop fun ha => ?_⟩
        rw [HQ.out] at ha
        exact absurd ((ahq_ord hO HR.out o HT.out).2 ha) (by simp)
      | true =>
        have CS := hid (swap_any L1.out.hp p' q hpl (by omega))
        go_wp2_with fail
        refine CS.out.mono ?_
        rintro e w2 ⟨rfl, h2, he2⟩
        clear CS d5
        have L2 := hid (L1.out.swapF O hpl (by omega) h2 he2)
        have EX2 : Hid (Ex (SU S U) w w2) := hid (EX1.out.trans he2 (fun k hk => .inl (.inl hk)))
        have d5 := h2.cg.2.2.2.2.2
        have f5 := free_of h2.top 5
        clear h2 he2
        go_wp2_with fail
        have L3 := (L2.out.setLoF O (q : Int)).mono O (show c + lg q ≤ c + lg p' - 1 by (have := HLG.out; omega))
        refine ⟨⟨swp L' p' q, q, hid ⟨L3, EX2.out.trans (L2.out.hp.setLo (q : Int)).2 (fun k hk => .inl (.inl hk)), (swp_perm hpl (by omega)).trans HI.out.2.2.1, by rw [swp_length]; omega, fun o q0 => ?_⟩⟩, ?_⟩
        · have := (HI.out.2.2.2.2 o q0).up (by omega) hpl (by rw [HQ.out]; exact (ahq_ord hO HR.out o HT.out).1 rfl)
          rw [HQ.out] at this
          exact this
        · have e5 := L3.hp.cg.2.2.2.2.2
          rw [HM.out]
          unfold lseN
          rw [e5]
          simpa using hq
set_option maxRecDepth 100000 in
set_option maxHeartbeats 4000000 in
theorem least_f (O : OrcF fid fr J U Dm Ls) (hO : Ord ord key Ls) (c0 : Nat) (p : Nat) (h : Lv (J (c0 + 2)) U Dm fid fr w g sf mp L nx lo v S) (hp : p < L.length) :
    Calls Try.prog 68 #[ptr g, .int .i64 (p : Int)] w fun e w' => ∃ c : Nat, e = .returned (.int .i64 (c : Int)) ∧ LeQ ord key L p c ∧ J c0 w' ∧ Ex U w w' := by
  have H0 := hid h
  obtain ⟨b, cap, cur, hv, -⟩ := h.hp.slc (by omega)
  have hln := h.hp.len
  have hfw := h.hp.few
  clear h
  subst hv
  go_enter Try.func68, Try.ntmps68
  go_wp2_with fail
  go_loopw [5, 6] (fun vc vk wr => ∃ (c k : Nat), vc = .int .i64 (c : Int) ∧ vk = .int .i64 (k : Int) ∧ k ≤ 2 * p + 3 ∧ 2 * p + 1 ≤ k ∧ Hid (LeI ord key L p k c) ∧ Hid (J (c0 + (2 * p + 3 - k)) wr) ∧ Hid (Ex U w wr)) (fun _ vk _ => 2 * p + 3 - (intOf vk).toNat)
  case atStart =>
    exact ⟨p, 2 * p + 1, rfl, by go_num, by omega, Nat.le_refl _, hid ⟨hp, .inl rfl, fun o => ⟨.inl rfl, fun i i1 i2 _ => by omega⟩⟩, hid (by have := H0.out.j; rwa [show c0 + (2 * p + 3 - (2 * p + 1)) = c0 + 2 by omega]), hid (Ex.refl _ _)⟩
  case round =>
    obtain ⟨c, k, rfl, rfl, hk1, hk2, HI, HJ, HE⟩ := hrel
    have L1 := hid (H0.out.exJ HE.out HJ.out)
    have c2 := L1.out.hp.cg.2.2.1
    obtain ⟨n, hn⟩ : ∃ n, Hid (L.length = n) := ⟨_, rfl⟩
    rw [hn.out] at c2 hp hln
    by_cases ha : (k : Int) ≤ 2 * (p : Int) + 2
    · by_cases hb : (k : Int) < (n : Int)
      · have CA := hid (ahead_f O (c0 + (2 * p + 3 - (k + 1))) L1.out.hp (by have := L1.out.j; rwa [show c0 + (2 * p + 3 - (k + 1)) + 1 = c0 + (2 * p + 3 - k) by omega]) L1.out.ap L1.out.dm k c (by have := hn.out; omega) HI.out.1)
        go_wp2_with fail
        refine CA.out.mono ?_
        rintro e w1 ⟨r, rfl, hr, hj1, he1⟩
        clear CA
        have hne : k ≠ c := by have := HI.out.2.1; omega
        have HS := hid (HI.out.step hO hk2 (by have := hn.out; omega) (L1.out.hp.tne (by have := hn.out; omega) HI.out.1 hne) hr)
        have HE1 : Hid (Ex U w w1) := hid (HE.out.trans he1 (fun _ q => .inl q))
        have HJ1 := hid hj1
        clear hr hj1 he1 hne c2
        cases r with
        | true =>
          go_wp2_with fail
          exact ⟨⟨k, k + 1, rfl, by go_num, by omega, by omega, HS, HJ1, HE1⟩, by simp [intOf]; omega⟩
        | false =>
          go_wp2_with fail
          exact ⟨⟨c, k + 1, rfl, by go_num, by omega, by omega, HS, HJ1, HE1⟩, by simp [intOf]; omega⟩
      · have hb' : decide ((k : Int) < (n : Int)) = false := by simpa using hb
        go_wp2_with fail
        go_ret
        exact ⟨c, rfl, HI.out.done hk1 (.inr (by have := hn.out; omega)), O.mono _ _ _ (by omega) HJ.out, HE.out⟩
    · have ha' : decide ((k : Int) ≤ 2 * (p : Int) + 2) = false := by simpa using ha
      go_wp2_with fail
      go_ret
      exact ⟨c, rfl, HI.out.done hk1 (.inl (by omega)), O.mono _ _ _ (by omega) HJ.out, HE.out⟩
set_option maxRecDepth 100000 in
set_option maxHeartbeats 4000000 in
theorem sink_f (O : OrcF fid fr J U Dm Ls) (hO : Ord ord key Ls) (c0 : Nat) (p : Nat) (h : Lv (J (c0 + 2 * (61 - lg p))) U Dm fid fr w g sf mp L nx (p : Int) v S) (hp : p < L.length) :
    Calls Try.prog 59 #[ptr g] w fun e w' => e = .returned (.tuple #[]) ∧ SiQ ord (E1 key L p) key (J c0) U Dm fid fr w g sf mp L nx v S w' := by
  have H0 := hid h
  clear h
  go_enter Try.func59, Try.ntmps59
  go_wp2_with fail
  go_loopw [2] (fun _ wr => ∃ (L' : List (Rw Int)) (lo : Int), Hid (SiI ord key (J (c0 + fuN L.length lo)) U Dm fid fr w g sf mp L p nx v S L' lo wr)) (fun _ wr => snkN L.length g wr)
  case atStart => exact ⟨L, p, hid ⟨by rw [fuN_at]; exact H0.out, Ex.refl _ _, .refl _, .inr ⟨p, rfl, hp, fun _ q => q⟩⟩⟩
  case round =>
    obtain ⟨L', lo, HI⟩ := hrel
    clear hp
    have c5 := HI.out.1.hp.cg.2.2.2.2.2
    rcases HI.out.2.2.2 with ⟨rfl, he⟩ | ⟨p', rfl, hpl, he⟩
    · have HEE := hid he
      clear he
      go_wp2_with fail
      go_end0
      exact ⟨rfl, L', HI.out.1.mono O (by omega), HI.out.2.1, HI.out.2.2.1, HEE.out⟩
    · have HEE := hid he
      clear he
      have hln := HI.out.1.hp.len
      have hfw := HI.out.1.hp.few
      have hL : Hid (L'.length = L.length) := hid HI.out.2.2.1.length_eq
      have HM : Hid (snkN L.length g wr = L.length + 1 - p') := hid (by unfold snkN; rw [c5]; simp; omega)
      have hm1 : ¬ (p' : Int) = -1 := by omega
      have CL := hid (least_f O hO (c0 + 2 * (61 - (lg p' + 1))) p' (HI.out.1.mono O (by rw [fuN_at]; have := lg_le (show p' < 1152921504606846976 by omega); omega)) hpl)
      go_wp2_with fail
      refine CL.out.mono ?_
      rintro e w1 ⟨c, rfl, hc, hj1, he1⟩
      clear CL
      have L1 := hid (HI.out.1.exJ he1 hj1)
      have d5 := L1.out.hp.cg.2.2.2.2.2
      have f5 := free_of L1.out.hp.top 5
      have EX1 : Hid (Ex (SU S U) w w1) := hid (HI.out.2.1.trans he1 (fun k hk => .inl (.inr hk)))
      have HC := hid hc
      clear hc hj1 he1 c5
      by_cases e : c = p'
      · subst e
        go_wp2_with fail
        have L3 := (L1.out.setLoF O (-1)).mono O (show c0 + fuN L.length (-1) ≤ _ by rw [show fuN L.length (-1) = 0 from rfl]; omega)
        refine ⟨⟨L', -1, hid ⟨L3, EX1.out.trans (L1.out.hp.setLo (-1)).2 (fun k hk => .inl (.inl hk)), HI.out.2.2.1, .inl ⟨rfl, fun o q => (HEE.out o q).done (HC.out.2.2 o).2⟩⟩⟩, ?_⟩
        have e5 := L3.hp.cg.2.2.2.2.2
        have hLL := hL.out
        rw [HM.out]
        unfold snkN
        rw [e5]
        simp
        omega
      · have hne : ¬ (c : Int) = (p' : Int) := by omega
        have hcl := HC.out.1
        have CS := hid (swap_any L1.out.hp p' c hpl hcl)
        go_wp2_with fail
        refine CS.out.mono ?_
        rintro e w2 ⟨rfl, h2, he2⟩
        clear CS d5
        have L2 := hid (L1.out.swapF O hpl hcl h2 he2)
        have EX2 : Hid (Ex (SU S U) w w2) := hid (EX1.out.trans he2 (fun k hk => .inl (.inl hk)))
        have d5 := h2.cg.2.2.2.2.2
        have f5 := free_of h2.top 5
        clear h2 he2
        go_wp2_with fail
        have hpc0 : lg p' + 1 = lg c := by
          rcases HC.out.2.1 with q | q
          · exact absurd q e
          · have h := lg_par q.2.1
            rw [q.2.2] at h
            exact h
        have L3 := (L2.out.setLoF O (c : Int)).mono O (show c0 + fuN L.length (c : Int) ≤ c0 + 2 * (61 - (lg p' + 1)) by rw [fuN_at]; omega)
        have hpc : p' < c ∧ 0 < c ∧ par c = p' := by
          rcases HC.out.2.1 with q | q
          · exact absurd q e
          · exact q
        refine ⟨⟨swp L' p' c, c, hid ⟨L3, EX2.out.trans (L2.out.hp.setLo (c : Int)).2 (fun k hk => .inl (.inl hk)), (swp_perm hpl hcl).trans HI.out.2.2.1, .inr ⟨c, rfl, by rw [swp_length]; exact hcl, fun o q => ?_⟩⟩⟩, ?_⟩
        · obtain ⟨z1, z2⟩ := HC.out.2.2 o
          exact (HEE.out o q).down hcl hpc.2.1 hpc.2.2 (z1.resolve_left e) z2
        · have e5 := L3.hp.cg.2.2.2.2.2
          have hLL := hL.out
          rw [HM.out]
          unfold snkN
          rw [e5]
          show (if (c : Int) < 0 then 0 else L.length + 1 - (c : Int).toNat) < _
          rw [if_neg (by omega)]
          omega
set_option maxRecDepth 100000 in
set_option maxHeartbeats 4000000 in
theorem settle_f (O : OrcF fid fr J U Dm Ls) (hO : Ord ord key Ls) (c : Nat) (p : Nat) (h : Lv (J (c + 183)) U Dm fid fr w g sf mp L nx lo v S) (hp : p < L.length) :
    Calls Try.prog 48 #[ptr g, .int .i64 (p : Int)] w fun e w' => e = .returned (.tuple #[]) ∧ SiQ ord (E0 key L p) key (J c) U Dm fid fr w g sf mp L nx v S w' := by
  have L1 := hid (h.setLoF O (p : Int))
  have EX1 : Hid (Ex (SU S U) w _) := hid ((h.hp.setLo (p : Int)).2.mono (fun k hk => .inl hk))
  have c5 := h.hp.cg.2.2.2.2.2
  have f5 := free_of h.hp.top 5
  have h60 : lg p ≤ 60 := lg_le (by have := h.hp.len; have := h.hp.few; omega)
  clear h
  have CR := hid (rise_f O hO (c + 122) p (L1.out.mono O (by omega)) hp)
  clear h60
  go_enter Try.func48, Try.ntmps48
  go_wp2_with fail
  refine CR.out.mono ?_
  rintro e w1 ⟨rfl, L', p', hL, hE, hP, hl, hq⟩
  have HQ := hid hq
  have HP := hid hP
  have EX2 : Hid (Ex (SU S U) w w1) := hid (EX1.out.trans hE (fun _ q => .inl q))
  have CS := hid (sink_f O hO c p' (hL.mono O (by omega)) hl)
  clear hq hP hE hL CR c5 f5
  go_wp2_with fail
  refine CS.out.mono ?_
  rintro e w2 ⟨rfl, L2, hL2, hE2, hP2, hq2⟩
  have HQ2 := hid hq2
  clear hq2 CS
  go_wp2_with fail
  go_end0
  exact ⟨rfl, L2, hL2, EX2.out.trans hE2 (fun _ q => .inl q), hP2.trans HP.out, fun o q => HQ2.out o (HQ.out o q)⟩
set_option maxRecDepth 100000 in
set_option maxHeartbeats 4000000 in
theorem settle_none_f (O : OrcF fid fr J U Dm Ls) {c : Nat} (h : Lv (J c) U Dm fid fr w g sf mp L nx (-1) v S) :
    Calls Try.prog 48 #[ptr g, .int .i64 (-1)] w fun e w' => e = .returned (.tuple #[]) ∧ Lv (J c) U Dm fid fr w' g sf mp L nx (-1) v S ∧ Ex S w w' := by
  have L1 := hid (h.setLoF O (-1))
  have EX1 := hid (h.hp.setLo (-1)).2
  have c5 := h.hp.cg.2.2.2.2.2
  have f5 := free_of h.hp.top 5
  clear h
  have CR := hid (rise_none L1.out.hp)
  have CS := hid (sink_none L1.out.hp)
  go_enter Try.func48, Try.ntmps48
  go_wp2_with fail
  refine CR.out.mono ?_
  rintro e w1 ⟨rfl, rfl⟩
  go_wp2_with fail
  refine CS.out.mono ?_
  rintro e w2 ⟨rfl, rfl⟩
  go_wp2_with fail
  go_end0
  exact ⟨rfl, L1.out, EX1.out⟩
end
end Go.Proofs.Ytcgkcappfjhikaa
