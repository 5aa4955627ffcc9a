/- rise: the loose row goes up as far as it must. -/
import Derived.Test.YtajdopmhdagehaaHsAhead
import Derived.Test.YtajdopmhdagehaaHsSwap
set_option linter.unusedVariables false
set_option linter.unusedSimpArgs false
namespace Go.Proofs.Ytajdopmhdagehaa.Ds
open Go.Proofs.Ytajdopmhdagehaa
open Go Go.RowKit

/-- A heap, and an order that may be asked. -/
structure Lv (J : World → Prop) (U : Nat → Prop) (Dm : Pr → Prop) (fid : Nat) (fr : Array Value) (w : World) (g : Nat) (sf : Value) (mp : Option Nat) (L : List (Rw Pr)) (nx : Nat) (lo : Int) (v : Value) (S : Nat → Prop) : Prop where
  hp : HHp w g sf (.func (.func fid) #[] fr) mp L nx lo v S
  j : J w
  ap : ∀ k, S k → ¬ U k
  dm : ∀ r ∈ L, Dm r.x
/-- Where ord holds the order is that of the keys. -/
def Ord (ord : Prop) (key : Pr → Int) (Ls : Pr → Pr → Bool → Prop) : Prop := ord → ∀ a b r, Ls a b r → (r = true ↔ key a < key b)
theorem ahq_ord {ord : Prop} {key : Pr → Int} {Ls : Pr → Pr → Bool → Prop} (hO : Ord ord key Ls) {a b : Rw Pr} {r : Bool} (h : AhQ Ls a b r) (ho : ord) (hne : a.t ≠ b.t) : (r = true ↔ ahd key a b) := by
  unfold AhQ at h
  unfold ahd
  split at h
  · have := hO ho _ _ _ h
    cases r with
    | false => simp at this; simp; omega
    | true => simp at this; simp; omega
  · have := hO ho _ _ _ h
    rw [this]
    omega
theorem HHp.setLo {w : World} {g : Nat} {sf F : Value} {mp : Option Nat} {L : List (Rw Pr)} {nx : Nat} {lo : Int} {v : Value} {S : Nat → Prop} (h : HHp w g sf F mp L nx lo v S) (lo' : Int) :
    HHp (w.setCell ⟨g, 5, none⟩ (.int .i64 lo')) g sf F mp L nx lo' v S ∧ Ex S w (w.setCell ⟨g, 5, none⟩ (.int .i64 lo')) := by
  have oth : ∀ x, g ≠ x → (w.setCell ⟨g, 5, none⟩ (.int .i64 lo')).heap[x]? = w.heap[x]? := fun x hx => bk_other hx _ _
  obtain ⟨k1, k2, k3⟩ := h.kinds
  refine ⟨⟨?_, ?_, ?_, ?_, h.tk, h.one, h.sg, h.sr, h.se, ?_, h.few, h.len⟩, (Ex.refl S w).setCell h.sg _⟩
  · have := bk_set h.top 5 (.int .i64 lo')
    simpa using this
  · refine ⟨h.row.1, ?_⟩
    rcases h.row.2 with q | ⟨b, cap, cur, hv, hb, hw, q⟩
    · exact .inl q
    · exact .inr ⟨b, cap, cur, hv, hb, (oth b (Ne.symm (k2 b (by rw [hv]; rfl)).1)).trans hw, q⟩
  · exact fun i r hr => (oth _ (Ne.symm (k1 r (List.mem_of_getElem? hr)))).trans (h.each i r hr)
  · exact fun m hm => ⟨(h.held m hm).1.of (oth m (Ne.symm (k3 m hm).1)), (h.held m hm).2⟩
  · intro k hk
    rw [sz_set]
    exact h.lt k hk
section
variable {J : World → Prop} {U : Nat → Prop} {Dm : Pr → Prop} {fid : Nat} {fr : Array Value} {Ls : Pr → Pr → Bool → Prop} {ord : Prop} {key : Pr → Int}
variable {w : World} {g : Nat} {sf : Value} {mp : Option Nat} {L : List (Rw Pr)} {nx : Nat} {lo : Int} {v : Value} {S : Nat → Prop}
theorem Lv.ex (h : Lv J U Dm fid fr w g sf mp L nx lo v S) {w' : World} (he : Ex U w w') (hj : J w') : Lv J U Dm fid fr w' g sf mp L nx lo v S := ⟨h.hp.ex he h.ap, hj, h.ap, h.dm⟩
theorem Lv.setLo (O : Orc fid fr J U Dm Ls) (h : Lv J U Dm fid fr w g sf mp L nx lo v S) (lo' : Int) : Lv J U Dm fid fr (w.setCell ⟨g, 5, none⟩ (.int .i64 lo')) g sf mp L nx lo' v S :=
  ⟨(h.hp.setLo lo').1, O.stay _ _ h.j fun k hk => (h.hp.setLo lo').2.block k (O.lt _ h.j k hk) (fun q => h.ap k q hk), h.ap, h.dm⟩
theorem Lv.swap (O : Orc fid fr J U Dm Ls) (h : Lv J U Dm fid fr w g sf mp L nx lo v S) {w' : World} {i j : Nat} (hi : i < L.length) (hj : j < L.length) (h' : HHp w' g sf (.func (.func fid) #[] fr) mp (swp L i j) nx lo v S) (he : Ex S w w') : Lv J U Dm fid fr w' g sf mp (swp L i j) nx lo v S :=
  ⟨h', O.stay _ _ h.j fun k hk => he.block k (O.lt _ h.j k hk) (fun q => h.ap k q hk), h.ap, fun r hr => h.dm r ((swp_perm hi hj).subset hr)⟩
/-- What a round of rise has come to. -/
def RiI (ord : Prop) (key : Pr → Int) (J : World → Prop) (U : Nat → Prop) (Dm : Pr → Prop) (fid : Nat) (fr : Array Value) (w : World) (g : Nat) (sf : Value) (mp : Option Nat) (L : List (Rw Pr)) (p : Nat) (nx : Nat) (v : Value) (S : Nat → Prop) (L' : List (Rw Pr)) (p' : Nat) (w' : World) : Prop :=
  Lv J U Dm fid fr w' g sf mp L' nx (p' : Int) v S ∧ Ex (SU S U) w w' ∧ L'.Perm L ∧ p' < L'.length ∧ (ord → E0 key L p → E0 key L' p')
def RiQ (ord : Prop) (key : Pr → Int) (J : World → Prop) (U : Nat → Prop) (Dm : Pr → Prop) (fid : Nat) (fr : Array Value) (w : World) (g : Nat) (sf : Value) (mp : Option Nat) (L : List (Rw Pr)) (p : Nat) (nx : Nat) (v : Value) (S : Nat → Prop) (w' : World) : Prop :=
  ∃ L' p', Lv J U Dm fid fr w' g sf mp L' nx ((p' : Nat) : Int) v S ∧ Ex (SU S U) w w' ∧ L'.Perm L ∧ p' < L'.length ∧ (ord → E0 key L p → E1 key L' p')
set_option maxRecDepth 100000 in
set_option maxHeartbeats 4000000 in
theorem rise_any (O : Orc fid fr J U Dm Ls) (hO : Ord ord key Ls) (p : Nat) (h : Lv J U Dm fid fr w g sf mp L nx (p : Int) v S) (hp : p < L.length) :
    Calls Try.prog 100 #[ptr g] w fun e w' => e = .returned (.tuple #[]) ∧ RiQ ord key J U Dm fid fr w g sf mp L p nx v S w' := by
  have H0 := hid h
  clear h
  go_enter Try.func100, Try.ntmps100
  go_wp2_with fail
  go_loopw [2] (fun _ wr => ∃ (L' : List (Rw Pr)) (p' : Nat), Hid (RiI ord key J U Dm fid fr w g sf mp L p nx v S L' p' wr)) (fun _ wr => lseN g wr)
  case atStart => exact ⟨L, p, hid ⟨H0.out, Ex.refl _ _, .refl _, hp, fun _ q => q⟩⟩
  case round =>
    obtain ⟨L', p', HI⟩ := hrel
    clear hp
    have c5 := HI.out.1.hp.cg.2.2.2.2.2
    have hpl := HI.out.2.2.2.1
    have hln := HI.out.1.hp.len
    have hfw := HI.out.1.hp.few
    have HM : Hid (lseN g wr = p') := hid (by unfold lseN; rw [c5]; simp)
    by_cases h0 : p' = 0
    · subst h0
      go_wp2_with fail
      go_end0
      exact ⟨rfl, L', 0, HI.out.1, HI.out.2.1, HI.out.2.2.1, HI.out.2.2.2.1, fun o q => (HI.out.2.2.2.2 o q).top⟩
    · have h1 : (0 : Int) < (p' : Int) := by omega
      have e1 : ((p' : Int) - 1).tdiv 2 = ((par p' : Nat) : Int) := by rw [Int.tdiv_eq_ediv_of_nonneg (by omega)]; unfold par; omega
      have hq : par p' < p' := par_lt (by omega)
      obtain ⟨q, HQ⟩ : ∃ q, Hid (par p' = q) := ⟨_, rfl⟩
      rw [HQ.out] at e1 hq
      have CA := hid (ahead_any O HI.out.1.hp HI.out.1.j HI.out.1.ap HI.out.1.dm p' q hpl (by omega))
      go_wp2_with fail
      refine CA.out.mono ?_
      rintro e w1 ⟨r, rfl, hr, hj1, he1⟩
      clear CA
      have L1 := hid (HI.out.1.ex he1 hj1)
      have d5 := L1.out.hp.cg.2.2.2.2.2
      have HT := hid (HI.out.1.hp.tne hpl (show q < L'.length by omega) (by omega))
      have EX1 : Hid (Ex (SU S U) w w1) := hid (HI.out.2.1.trans he1 (fun k hk => .inl (.inr hk)))
      have HR := hid hr
      clear hr hj1 he1 c5
      cases r with
      | false =>
        go_wp2_with fail
        refine bodyPost_ret (results_none rfl _ _ _) rfl ?_
        refine ⟨rfl, L', p', L1.out, EX1.out, HI.out.2.2.1, hpl, fun o q0 => (HI.out.2.2.2.2 o q0).stop fun ha => ?_⟩
        rw [HQ.out] at ha
        exact absurd ((ahq_ord hO HR.out o HT.out).2 ha) (by simp)
      | true =>
        have CS := hid (swap_any L1.out.hp p' q hpl (by omega))
        go_wp2_with fail
        refine CS.out.mono ?_
        rintro e w2 ⟨rfl, h2, he2⟩
        clear CS d5
        have L2 := hid (L1.out.swap O hpl (by omega) h2 he2)
        have EX2 : Hid (Ex (SU S U) w w2) := hid (EX1.out.trans he2 (fun k hk => .inl (.inl hk)))
        have d5 := h2.cg.2.2.2.2.2
        have f5 := free_of h2.top 5
        clear h2 he2
        go_wp2_with fail
        have L3 := L2.out.setLo O (q : Int)
        refine ⟨⟨swp L' p' q, q, hid ⟨L3, EX2.out.trans (L2.out.hp.setLo (q : Int)).2 (fun k hk => .inl (.inl hk)), (swp_perm hpl (by omega)).trans HI.out.2.2.1, by rw [swp_length]; omega, fun o q0 => ?_⟩⟩, ?_⟩
        · have := (HI.out.2.2.2.2 o q0).up (by omega) hpl (by rw [HQ.out]; exact (ahq_ord hO HR.out o HT.out).1 rfl)
          rw [HQ.out] at this
          exact this
        · have e5 := L3.hp.cg.2.2.2.2.2
          rw [HM.out]
          unfold lseN
          rw [e5]
          simpa using hq
set_option maxRecDepth 100000 in
set_option maxHeartbeats 4000000 in
/-- Nothing is loose: nothing is done. -/
theorem rise_none (h : HHp w g sf (.func (.func fid) #[] fr) mp L nx (-1) v S) : Calls Try.prog 100 #[ptr g] w fun e w' => e = .returned (.tuple #[]) ∧ w' = w := by
  have c5 := h.cg.2.2.2.2.2
  clear h
  go_enter Try.func100, Try.ntmps100
  go_wp2_with fail
  go_loopw [2] (fun _ wr => Hid (wr = w)) (fun _ wr => 0)
  case atStart => exact hid rfl
  case round =>
    obtain rfl := hrel.out
    go_wp2_with fail
    go_end0
    exact ⟨rfl, rfl⟩
end
end Go.Proofs.Ytajdopmhdagehaa.Ds
