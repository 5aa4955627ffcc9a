/- least, sink, settle: the loose row goes down as far as it must. -/
import Derived.Test.YtajdopmhdagehaaHsRise
set_option linter.unusedVariables false
set_option linter.unusedSimpArgs false
namespace Go.Proofs.Ytajdopmhdagehaa.Ds
open Go.Proofs.Ytajdopmhdagehaa
open Go Go.RowKit
section
variable {J : World → Prop} {U : Nat → Prop} {Dm : Pr → Prop} {fid : Nat} {fr : Array Value} {Ls : Pr → Pr → Bool → Prop} {ord : Prop} {key : Pr → Int}
variable {w : World} {g : Nat} {sf : Value} {mp : Option Nat} {L : List (Rw Pr)} {nx : Nat} {lo : Int} {v : Value} {S : Nat → Prop}
/-- Of the row at p and those of the places from 2p + 1 up to k the one at c is the least. -/
def LeI (ord : Prop) (key : Pr → Int) (L : List (Rw Pr)) (p k c : Nat) : Prop :=
  c < L.length ∧ (c = p ∨ (2 * p + 1 ≤ c ∧ c < k)) ∧ (ord → (c = p ∨ ahd key (rat L c) (rat L p)) ∧ ∀ i, 2 * p + 1 ≤ i → i < k → i < L.length → ¬ ahd key (rat L i) (rat L c))
def LeQ (ord : Prop) (key : Pr → Int) (L : List (Rw Pr)) (p c : Nat) : Prop :=
  c < L.length ∧ (c = p ∨ (p < c ∧ 0 < c ∧ par c = p)) ∧ (ord → (c = p ∨ ahd key (rat L c) (rat L p)) ∧ ∀ i, 0 < i → i < L.length → par i = p → ¬ ahd key (rat L i) (rat L c))
theorem LeI.done {p k c : Nat} (h : LeI ord key L p k c) (hk : k ≤ 2 * p + 3) (he : 2 * p + 3 ≤ k ∨ L.length ≤ k) : LeQ ord key L p c := by
  obtain ⟨h1, h2, h3⟩ := h
  refine ⟨h1, ?_, fun o => ⟨(h3 o).1, fun i i0 hi hp => ?_⟩⟩
  · rcases h2 with q | q
    · exact .inl q
    · refine .inr ⟨by omega, by omega, ?_⟩
      unfold par
      omega
  · have : 2 * p + 1 ≤ i ∧ i < 2 * p + 3 := by unfold par at hp; omega
    exact (h3 o).2 i this.1 (by omega) hi
theorem ahd_nself {r : Rw Pr} : ¬ ahd key r r := by unfold ahd; omega
theorem LeI.step {p k c : Nat} (hO : Ord ord key Ls) (h : LeI ord key L p k c) (hk : 2 * p + 1 ≤ k) (hkl : k < L.length) (hne : (rat L k).t ≠ (rat L c).t) {r : Bool} (hr : AhQ Ls (rat L k) (rat L c) r) : LeI ord key L p (k + 1) (if r then k else c) := by
  obtain ⟨h1, h2, h3⟩ := h
  cases r with
  | true =>
    simp only [if_true]
    refine ⟨hkl, .inr ⟨hk, by omega⟩, fun o => ?_⟩
    have ha := (ahq_ord hO hr o hne).1 rfl
    obtain ⟨h4, h5⟩ := h3 o
    refine ⟨.inr ?_, fun i i1 i2 i3 => ?_⟩
    · rcases h4 with q | q
      · rw [q] at ha; exact ha
      · exact ahd_trans ha q
    · by_cases e : i = k
      · subst e; exact ahd_nself
      · exact nah_trans (ahd_asym ha) (h5 i i1 (by omega) i3)
  | false =>
    simp only [Bool.false_eq_true, if_false]
    refine ⟨h1, by omega, fun o => ?_⟩
    obtain ⟨h4, h5⟩ := h3 o
    refine ⟨h4, fun i i1 i2 i3 => ?_⟩
    by_cases e : i = k
    · subst e
      intro q
      exact absurd ((ahq_ord hO hr o hne).2 q) (by simp)
    · exact h5 i i1 (by omega) i3
set_option maxRecDepth 100000 in
set_option maxHeartbeats 4000000 in
theorem least_any (O : Orc fid fr J U Dm Ls) (hO : Ord ord key Ls) (p : Nat) (h : Lv J U Dm fid fr w g sf mp L nx lo v S) (hp : p < L.length) :
    Calls Try.prog 110 #[ptr g, .int .i64 (p : Int)] w fun e w' => ∃ c : Nat, e = .returned (.int .i64 (c : Int)) ∧ LeQ ord key L p c ∧ J w' ∧ Ex U w w' := by
  have H0 := hid h
  obtain ⟨b, cap, cur, hv, -⟩ := h.hp.slc (by omega)
  have hln := h.hp.len
  have hfw := h.hp.few
  clear h
  subst hv
  go_enter Try.func110, Try.ntmps110
  go_wp2_with fail
  go_loopw [5, 6] (fun vc vk wr => ∃ (c k : Nat), vc = .int .i64 (c : Int) ∧ vk = .int .i64 (k : Int) ∧ k ≤ 2 * p + 3 ∧ 2 * p + 1 ≤ k ∧ Hid (LeI ord key L p k c) ∧ Hid (J wr) ∧ Hid (Ex U w wr)) (fun _ vk _ => 2 * p + 3 - (intOf vk).toNat)
  case atStart =>
    exact ⟨p, 2 * p + 1, rfl, by go_num, by omega, Nat.le_refl _, hid ⟨hp, .inl rfl, fun o => ⟨.inl rfl, fun i i1 i2 _ => by omega⟩⟩, hid H0.out.j, hid (Ex.refl _ _)⟩
  case round =>
    obtain ⟨c, k, rfl, rfl, hk1, hk2, HI, HJ, HE⟩ := hrel
    have L1 := hid (H0.out.ex HE.out HJ.out)
    have c2 := L1.out.hp.cg.2.2.1
    obtain ⟨n, hn⟩ : ∃ n, Hid (L.length = n) := ⟨_, rfl⟩
    rw [hn.out] at c2 hp hln
    by_cases ha : (k : Int) ≤ 2 * (p : Int) + 2
    · by_cases hb : (k : Int) < (n : Int)
      · have CA := hid (ahead_any O L1.out.hp L1.out.j L1.out.ap L1.out.dm k c (by have := hn.out; omega) HI.out.1)
        go_wp2_with fail
        refine CA.out.mono ?_
        rintro e w1 ⟨r, rfl, hr, hj1, he1⟩
        clear CA
        have hne : k ≠ c := by have := HI.out.2.1; omega
        have HS := hid (HI.out.step hO hk2 (by have := hn.out; omega) (L1.out.hp.tne (by have := hn.out; omega) HI.out.1 hne) hr)
        have HE1 : Hid (Ex U w w1) := hid (HE.out.trans he1 (fun _ q => .inl q))
        have HJ1 := hid hj1
        clear hr hj1 he1 hne c2
        cases r with
        | true =>
          go_wp2_with fail
          exact ⟨⟨k, k + 1, rfl, by go_num, by omega, by omega, HS, HJ1, HE1⟩, by simp [intOf]; omega⟩
        | false =>
          go_wp2_with fail
          exact ⟨⟨c, k + 1, rfl, by go_num, by omega, by omega, HS, HJ1, HE1⟩, by simp [intOf]; omega⟩
      · have hb' : decide ((k : Int) < (n : Int)) = false := by simpa using hb
        go_wp2_with fail
        go_ret
        exact ⟨c, rfl, HI.out.done hk1 (.inr (by have := hn.out; omega)), HJ.out, HE.out⟩
    · have ha' : decide ((k : Int) ≤ 2 * (p : Int) + 2) = false := by simpa using ha
      go_wp2_with fail
      go_ret
      exact ⟨c, rfl, HI.out.done hk1 (.inl (by omega)), HJ.out, HE.out⟩
/-- What a round of sink has come to. -/
def SiI (ord : Prop) (key : Pr → Int) (J : World → Prop) (U : Nat → Prop) (Dm : Pr → Prop) (fid : Nat) (fr : Array Value) (w : World) (g : Nat) (sf : Value) (mp : Option Nat) (L : List (Rw Pr)) (p : Nat) (nx : Nat) (v : Value) (S : Nat → Prop) (L' : List (Rw Pr)) (lo : Int) (w' : World) : Prop :=
  Lv J U Dm fid fr w' g sf mp L' nx lo v S ∧ Ex (SU S U) w w' ∧ L'.Perm L ∧ ((lo = -1 ∧ (ord → E1 key L p → hp key L')) ∨ ∃ p' : Nat, lo = (p' : Int) ∧ p' < L'.length ∧ (ord → E1 key L p → E1 key L' p'))
def SiQ (ord : Prop) (E : Prop) (key : Pr → Int) (J : World → Prop) (U : Nat → Prop) (Dm : Pr → Prop) (fid : Nat) (fr : Array Value) (w : World) (g : Nat) (sf : Value) (mp : Option Nat) (L : List (Rw Pr)) (nx : Nat) (v : Value) (S : Nat → Prop) (w' : World) : Prop :=
  ∃ L', Lv J U Dm fid fr w' g sf mp L' nx (-1) v S ∧ Ex (SU S U) w w' ∧ L'.Perm L ∧ (ord → E → hp key L')
set_option maxRecDepth 100000 in
set_option maxHeartbeats 4000000 in
theorem sink_any (O : Orc fid fr J U Dm Ls) (hO : Ord ord key Ls) (p : Nat) (h : Lv J U Dm fid fr w g sf mp L nx (p : Int) v S) (hp : p < L.length) :
    Calls Try.prog 101 #[ptr g] w fun e w' => e = .returned (.tuple #[]) ∧ SiQ ord (E1 key L p) key J U Dm fid fr w g sf mp L nx v S w' := by
  have H0 := hid h
  clear h
  go_enter Try.func101, Try.ntmps101
  go_wp2_with fail
  go_loopw [2] (fun _ wr => ∃ (L' : List (Rw Pr)) (lo : Int), Hid (SiI ord key J U Dm fid fr w g sf mp L p nx v S L' lo wr)) (fun _ wr => snkN L.length g wr)
  case atStart => exact ⟨L, p, hid ⟨H0.out, Ex.refl _ _, .refl _, .inr ⟨p, rfl, hp, fun _ q => q⟩⟩⟩
  case round =>
    obtain ⟨L', lo, HI⟩ := hrel
    clear hp
    have c5 := HI.out.1.hp.cg.2.2.2.2.2
    rcases HI.out.2.2.2 with ⟨rfl, he⟩ | ⟨p', rfl, hpl, he⟩
    · have HEE := hid he
      clear he
      go_wp2_with fail
      go_end0
      exact ⟨rfl, L', HI.out.1, HI.out.2.1, HI.out.2.2.1, HEE.out⟩
    · have HEE := hid he
      clear he
      have hln := HI.out.1.hp.len
      have hfw := HI.out.1.hp.few
      have hL : Hid (L'.length = L.length) := hid HI.out.2.2.1.length_eq
      have HM : Hid (snkN L.length g wr = L.length + 1 - p') := hid (by unfold snkN; rw [c5]; simp; omega)
      have hm1 : ¬ (p' : Int) = -1 := by omega
      have CL := hid (least_any O hO p' HI.out.1 hpl)
      go_wp2_with fail
      refine CL.out.mono ?_
      rintro e w1 ⟨c, rfl, hc, hj1, he1⟩
      clear CL
      have L1 := hid (HI.out.1.ex he1 hj1)
      have d5 := L1.out.hp.cg.2.2.2.2.2
      have f5 := free_of L1.out.hp.top 5
      have EX1 : Hid (Ex (SU S U) w w1) := hid (HI.out.2.1.trans he1 (fun k hk => .inl (.inr hk)))
      have HC := hid hc
      clear hc hj1 he1 c5
      by_cases e : c = p'
      · subst e
        go_wp2_with fail
        have L3 := L1.out.setLo O (-1)
        refine ⟨⟨L', -1, hid ⟨L3, EX1.out.trans (L1.out.hp.setLo (-1)).2 (fun k hk => .inl (.inl hk)), HI.out.2.2.1, .inl ⟨rfl, fun o q => (HEE.out o q).done (HC.out.2.2 o).2⟩⟩⟩, ?_⟩
        have e5 := L3.hp.cg.2.2.2.2.2
        have hLL := hL.out
        rw [HM.out]
        unfold snkN
        rw [e5]
        simp
        omega
      · have hne : ¬ (c : Int) = (p' : Int) := by omega
        have hcl := HC.out.1
        have CS := hid (swap_any L1.out.hp p' c hpl hcl)
        go_wp2_with fail
        refine CS.out.mono ?_
        rintro e w2 ⟨rfl, h2, he2⟩
        clear CS d5
        have L2 := hid (L1.out.swap O hpl hcl h2 he2)
        have EX2 : Hid (Ex (SU S U) w w2) := hid (EX1.out.trans he2 (fun k hk => .inl (.inl hk)))
        have d5 := h2.cg.2.2.2.2.2
        have f5 := free_of h2.top 5
        clear h2 he2
        go_wp2_with fail
        have L3 := L2.out.setLo O (c : Int)
        have hpc : p' < c ∧ 0 < c ∧ par c = p' := by
          rcases HC.out.2.1 with q | q
          · exact absurd q e
          · exact q
        refine ⟨⟨swp L' p' c, c, hid ⟨L3, EX2.out.trans (L2.out.hp.setLo (c : Int)).2 (fun k hk => .inl (.inl hk)), (swp_perm hpl hcl).trans HI.out.2.2.1, .inr ⟨c, rfl, by rw [swp_length]; exact hcl, fun o q => ?_⟩⟩⟩, ?_⟩
        · obtain ⟨z1, z2⟩ := HC.out.2.2 o
          exact (HEE.out o q).down hcl hpc.2.1 hpc.2.2 (z1.resolve_left e) z2
        · have e5 := L3.hp.cg.2.2.2.2.2
          have hLL := hL.out
          rw [HM.out]
          unfold snkN
          rw [e5]
          show (if (c : Int) < 0 then 0 else L.length + 1 - (c : Int).toNat) < _
          rw [if_neg (by omega)]
          omega
set_option maxRecDepth 100000 in
set_option maxHeartbeats 4000000 in
theorem sink_none (h : HHp w g sf (.func (.func fid) #[] fr) mp L nx (-1) v S) : Calls Try.prog 101 #[ptr g] w fun e w' => e = .returned (.tuple #[]) ∧ w' = w := by
  have c5 := h.cg.2.2.2.2.2
  clear h
  go_enter Try.func101, Try.ntmps101
  go_wp2_with fail
  go_loopw [2] (fun _ wr => Hid (wr = w)) (fun _ wr => 0)
  case atStart => exact hid rfl
  case round =>
    obtain rfl := hrel.out
    go_wp2_with fail
    go_end0
    exact ⟨rfl, rfl⟩
set_option maxRecDepth 100000 in
set_option maxHeartbeats 4000000 in
theorem settle_any (O : Orc fid fr J U Dm Ls) (hO : Ord ord key Ls) (p : Nat) (h : Lv J U Dm fid fr w g sf mp L nx lo v S) (hp : p < L.length) :
    Calls Try.prog 84 #[ptr g, .int .i64 (p : Int)] w fun e w' => e = .returned (.tuple #[]) ∧ SiQ ord (E0 key L p) key J U Dm fid fr w g sf mp L nx v S w' := by
  have L1 := hid (h.setLo O (p : Int))
  have EX1 : Hid (Ex (SU S U) w _) := hid ((h.hp.setLo (p : Int)).2.mono (fun k hk => .inl hk))
  have c5 := h.hp.cg.2.2.2.2.2
  have f5 := free_of h.hp.top 5
  clear h
  have CR := hid (rise_any O hO p L1.out hp)
  go_enter Try.func84, Try.ntmps84
  go_wp2_with fail
  refine CR.out.mono ?_
  rintro e w1 ⟨rfl, L', p', hL, hE, hP, hl, hq⟩
  have HQ := hid hq
  have HP := hid hP
  have EX2 : Hid (Ex (SU S U) w w1) := hid (EX1.out.trans hE (fun _ q => .inl q))
  have CS := hid (sink_any O hO p' hL hl)
  clear hq hP hE hL CR c5 f5
  go_wp2_with fail
  refine CS.out.mono ?_
  rintro e w2 ⟨rfl, L2, hL2, hE2, hP2, hq2⟩
  have HQ2 := hid hq2
  clear hq2 CS
  go_wp2_with fail
  go_end0
  exact ⟨rfl, L2, hL2, EX2.out.trans hE2 (fun _ q => .inl q), hP2.trans HP.out, fun o q => HQ2.out o (HQ.out o q)⟩
set_option maxRecDepth 100000 in
set_option maxHeartbeats 4000000 in
theorem settle_none (O : Orc fid fr J U Dm Ls) (h : Lv J U Dm fid fr w g sf mp L nx (-1) v S) :
    Calls Try.prog 84 #[ptr g, .int .i64 (-1)] w fun e w' => e = .returned (.tuple #[]) ∧ Lv J U Dm fid fr w' g sf mp L nx (-1) v S ∧ Ex S w w' := by
  have L1 := hid (h.setLo O (-1))
  have EX1 := hid (h.hp.setLo (-1)).2
  have c5 := h.hp.cg.2.2.2.2.2
  have f5 := free_of h.hp.top 5
  clear h
  have CR := hid (rise_none L1.out.hp)
  have CS := hid (sink_none L1.out.hp)
  go_enter Try.func84, Try.ntmps84
  go_wp2_with fail
  refine CR.out.mono ?_
  rintro e w1 ⟨rfl, rfl⟩
  go_wp2_with fail
  refine CS.out.mono ?_
  rintro e w2 ⟨rfl, rfl⟩
  go_wp2_with fail
  go_end0
  exact ⟨rfl, L1.out, EX1.out⟩
end
end Go.Proofs.Ytajdopmhdagehaa.Ds
