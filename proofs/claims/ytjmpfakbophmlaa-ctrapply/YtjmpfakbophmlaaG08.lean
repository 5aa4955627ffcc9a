/- Of the road to ctrApply_holds: CtrApLaw. -/
import Derived.Test.YtjmpfakbophmlaaG07
import Derived.Test.YtjmpfakbophmlaaG06
set_option linter.unusedVariables false
set_option linter.unusedSimpArgs false
namespace Go.Proofs.Ytjmpfakbophmlaa
open Go Go.RowKit Ev
theorem slice_h4 (W : World) (p : Option Addr) (n c h : Nat) (h2 : h ≤ c) (hc : 0 < c) : (Instr.slice 24 (.slice p n c) none (some (.int .i64 (h : Int))) none).run Try.prog W = .ok (.slice p h c) W := by
  have hh := run_slice_h (P := Try.prog) W 24 p n c (by rw [elm8]; exact Try.underlying24) .i64 (h : Int) (by omega) (by omega)
  rw [hh, elm8, size_u8, Result.andThen_ok, Int.toNat_natCast]
  unfold sliced
  rw [if_neg (by omega)]
  cases p <;> simp [Addr.add]
theorem pre4 {w : World} {p : Option Addr} {c : Nat} {l m : List Int} (h : HB w (.slice p (l ++ m).length c) (l ++ m)) (hc : 0 < c) : HB w (.slice p l.length c) l := by
  obtain ⟨p', c', e, h1, _⟩ := h.open
  simp only [Value.slice.injEq, true_and] at e
  obtain ⟨rfl, rfl⟩ := e
  have := h.sliced 0 l.length c (Nat.zero_le _) (by simp) (by rw [List.length_append] at h1; omega) (Nat.le_refl _)
  rw [if_neg (by omega), Nat.sub_zero, Nat.sub_zero, List.drop_zero, List.take_left' rfl] at this
  have e2 : p.map (·.add 0) = p := by cases p <;> simp [Addr.add]
  rwa [e2] at this
theorem lent_bytes (l : List Int) (h : ∀ x ∈ l, 0 ≤ x ∧ x < 256) : ∀ x ∈ lent l, 0 ≤ x ∧ x < 256 := by
  intro x hx
  unfold lent at hx
  rcases List.mem_append.1 hx with hx | hx
  · exact h x hx
  · obtain ⟨i, _, rfl⟩ := List.mem_map.1 hx
    exact mkB_byt _ _
theorem apt4 {B : Nat} {w : World} {s t x y : Value} {a b c d : List Int} {n1 n2 n3 n4 n5 : Nat} (h1 : ER B w s a) (h2 : ER B w t b) (h3 : ER B w x c) (h4 : ER B w y d)
    (i1 : ∀ g, s.ownBlock = some g → n1 ≤ g ∧ g < n2) (i2 : ∀ g, t.ownBlock = some g → n2 ≤ g ∧ g < n3) (i3 : ∀ g, x.ownBlock = some g → n3 ≤ g ∧ g < n4) (i4 : ∀ g, y.ownBlock = some g → n4 ≤ g ∧ g < n5) (o2 : n2 ≤ n3) (o3 : n3 ≤ n4) : Apt B w [s, t, x, y] [a, b, c, d] := by
  refine ⟨rfl, fun k hk => ?_, fun i j hi hj hne => ?_⟩
  · match k, hk with
    | 0, _ => exact h1.1
    | 1, _ => exact h2.1
    | 2, _ => exact h3.1
    | 3, _ => exact h4.1
    | k + 4, h => simp at h; omega
  · have key : ∀ {u v : Value} {p q r z : Nat}, (∀ g, u.ownBlock = some g → p ≤ g ∧ g < q) → (∀ g, v.ownBlock = some g → r ≤ g ∧ g < z) → (q ≤ r ∨ z ≤ p) → u.ownBlock = none ∨ u.ownBlock ≠ v.ownBlock := fun {u v p q r z} hu hv ho => by
      cases eu : u.ownBlock with
      | none => exact .inl rfl
      | some g =>
        refine .inr fun e => ?_
        have q1 := hu g eu
        have q2 := hv g e.symm
        omega
    match i, j, hi, hj, hne with
    | 0, 0, _, _, h => exact absurd rfl h
    | 0, 1, _, _, _ => exact key i1 i2 (.inl (Nat.le_refl _))
    | 0, 2, _, _, _ => exact key i1 i3 (.inl (by omega))
    | 0, 3, _, _, _ => exact key i1 i4 (.inl (by omega))
    | 1, 0, _, _, _ => exact key i2 i1 (.inr (Nat.le_refl _))
    | 1, 1, _, _, h => exact absurd rfl h
    | 1, 2, _, _, _ => exact key i2 i3 (.inl (Nat.le_refl _))
    | 1, 3, _, _, _ => exact key i2 i4 (.inl (by omega))
    | 2, 0, _, _, _ => exact key i3 i1 (.inr (by omega))
    | 2, 1, _, _, _ => exact key i3 i2 (.inr (Nat.le_refl _))
    | 2, 2, _, _, h => exact absurd rfl h
    | 2, 3, _, _, _ => exact key i3 i4 (.inl (Nat.le_refl _))
    | 3, 0, _, _, _ => exact key i4 i1 (.inr (by omega))
    | 3, 1, _, _, _ => exact key i4 i2 (.inr (by omega))
    | 3, 2, _, _, _ => exact key i4 i3 (.inr (Nat.le_refl _))
    | 3, 3, _, _, h => exact absurd rfl h
    | i + 4, _, h, _, _ => simp at h; omega
    | _, j + 4, _, h, _ => simp at h; omega
set_option maxRecDepth 100000 in
set_option maxHeartbeats 16000000 in
theorem apply_law (w : World) (k : List Nat) (p n : Int) (v : Value) (l : List Int) (hk : Byt k) (hl : k.length = 16) (hv : HB w v l) (hp : -9223372036854775808 ≤ p ∧ p ≤ 9223372036854775807) (hn : -9223372036854775808 ≤ n ∧ n ≤ 9223372036854775807) :
    Calls Try.prog 3 #[.agg (cells8 k), .int .i64 p, .int .i64 n, v] w fun e w' => e = .returned (.bool true) ∧ Below w.heap.size w w' := by
  have HV := hid hv
  obtain ⟨pv, cv, rfl, _, hcm⟩ := hv.open
  unfold maxLen at hcm
  obtain ⟨ck, HCK⟩ : ∃ x, Hid (cells8 k = x) := ⟨_, rfl⟩
  rw [HCK.out]
  by_cases hbig : 3000 < l.length
  case pos =>
    have hb2 : decide ((3000 : Int) < (l.length : Int)) = true := decide_eq_true (by omega)
    go_enter Try.func3, Try.ntmps3
    go_wp2
    go_ret
    exact ⟨rfl, (Below.refl _ w).alloc (Nat.le_refl _) _⟩
  case neg =>
    have hb2 : decide ((3000 : Int) < (l.length : Int)) = false := decide_eq_false (by omega)
    have hlen : l.length ≤ 3000 := by omega
    clear hbig hv
    go_enter Try.func3, Try.ntmps3
    refine wp_seq_k fun K1 h1 => ?_
    have H1 := hid h1
    clear h1
    go_wp2
    refine H1.out _ _ ?_
    clear H1 K1
    rw [← HCK.out]
    have K0 : Hid (KeyIn (w.alloc (.cells (cells8 k) 23)) w.heap.size k) := hid (World.alloc_heap_new w _)
    have B0 : Hid (Below w.heap.size w (w.alloc (.cells (cells8 k) 23))) := hid ((Below.refl _ w).alloc (Nat.le_refl _) _)
    have Z0 : Hid (w.heap.size < (w.alloc (.cells (cells8 k) 23)).heap.size) := hid (by simp)
    obtain ⟨w0, HW0⟩ : ∃ x, Hid (w.alloc (.cells (cells8 k) 23) = x) := ⟨_, rfl⟩
    rw [HW0.out] at K0 B0 Z0 ⊢
    clear HW0 HCK
    by_cases hbn : 3000 < n
    case pos =>
      have hmod : Int.tmod n 3000 = n % 3000 := Int.tmod_eq_emod_of_nonneg (by omega)
      have hm0 := Int.emod_nonneg n (show (3000 : Int) ≠ 0 by decide)
      have hm1 := Int.emod_lt_of_pos n (show (0 : Int) < 3000 by decide)
      obtain ⟨nn, Hnn⟩ : ∃ x, Hid ((3000 : Int) + n % 3000 = x) := ⟨_, rfl⟩
      have hn6 : nn ≤ 6000 := by rw [← Hnn.out]; omega
      have CS := hid fun (W : World) => stream_gen W k p nn hk hl hp hn6
      have CR := hid fun (W : World) => rstream_gen W k p nn hk hl hp hn6
      have CA := hid fun (W : World) (v : Value) (h : HB W v l) => apply_gen W k p v l hk hl h hp hlen
      have CRA := hid fun (W : World) (v : Value) (h : HB W v l) => rapply_gen W k p v l hk hl h hp hlen
      obtain ⟨L, HL⟩ : ∃ x, Hid (stL k p nn = x) := ⟨_, rfl⟩
      obtain ⟨A, HA⟩ : ∃ x, Hid (apL k p l = x) := ⟨_, rfl⟩
      obtain ⟨SE, HSE⟩ : ∃ x, Hid (stE p nn = x) := ⟨_, rfl⟩
      obtain ⟨AE, HAE⟩ : ∃ x, Hid (apE p l = x) := ⟨_, rfl⟩
      have LL : Hid (L.length ≤ 6000) := hid (by rw [← HL.out]; have := stL_len k p nn; omega)
      have AL : Hid (A.length ≤ 3000) := hid (by rw [← HA.out]; have := apL_len k p l; omega)
      rw [HL.out, HSE.out] at CS CR
      rw [HA.out, HAE.out] at CA CRA
      clear HL HA HSE HAE
      refine wp_seq_k fun K1 h1 => ?_
      have H1 := hid h1
      clear h1
      go_wp2
      refine H1.out _ _ ?_
      clear H1 K1
      refine wp_seq_k fun K1 h1 => ?_
      have H1 := hid h1
      clear h1
      go_wp2
      rw [Hnn.out]
      refine H1.out _ _ ?_
      clear H1 K1 hmod hm0 hm1 Hnn
      as_aux_lemma =>
      go_wp2_with fail
      refine (lent_any w0 _ l (HV.out.below B0.out) (by omega)).mono ?_
      rintro e w1 ⟨vf, rfl, ho1, hb1⟩
      have F1 : Hid (ER w0.heap.size w1 vf (lent l)) := hid ⟨ho1, lent_bytes l HV.out.2⟩
      have K1 := hid (K0.out.below hb1)
      have B1 := hid (B0.out.trans (hb1.mono B0.out.size))
      have Z1 := hid hb1.size
      have w1B : Hid (Below w1.heap.size w1 w1) := hid (Below.refl _ _)
      obtain ⟨pf, cf, ef⟩ := own_slc ho1
      subst ef
      obtain ⟨n0, Hn0⟩ : ∃ x, Hid (l.length = x) := ⟨_, rfl⟩
      obtain ⟨mf, Hmf⟩ : ∃ x, Hid ((lent l).length = x) := ⟨_, rfl⟩
      have hmf : mf = n0 + 70 := by rw [← Hmf.out, lent_length, Hn0.out]
      have hcf : mf ≤ cf := by
        obtain ⟨q, c', e, h1, _⟩ := F1.out.hb.open
        rw [Hmf.out] at e h1
        simp only [Value.slice.injEq] at e
        omega
      have PF : Hid (∀ W, Below w1.heap.size w1 W → HB W (.slice pf n0 cf) l) := hid fun W hW => by
        have h1 := F1.out.hb.below hW
        unfold lent at h1
        have := pre4 h1 (by omega)
        rwa [Hn0.out] at this
      have hr1 := fun W => slice_h4 W pf mf cf n0 (by omega) (by omega)
      have HMF : Hid (mf ≤ 3070) := hid (by have := Hn0.out; omega)
      clear hmf hcf
      rw [Hmf.out]
      rw [Hn0.out]
      clear ho1 hb1
      go_wp2_with (refine wpList_ldk K1 hl rfl rfl rfl ?_)
      refine (CS.out w1).mono ?_
      rintro e w2 ⟨s, rfl, hs, hb2⟩
      have ES := hid hs
      have SZ2 := hid hb2.size
      have K2 := hid (K1.out.below hb2)
      have w2B := hid hb2
      clear hs hb2
      go_wp2_with (refine wpList_ldk K2 hl rfl rfl rfl ?_)
      refine (CS.out w2).mono ?_
      rintro e w3 ⟨t, rfl, ht, hb3⟩
      have ET := hid ht
      have SZ3 := hid hb3.size
      have K3 := hid (K2.out.below hb3)
      have w3B := hid (w2B.out.trans (hb3.mono w2B.out.size))
      have ES3 := hid (ES.out.below hb3)
      clear ht hb3
      go_wp2
      refine wp_region_held_drew (S := Below w3.heap.size w3) (by kernel_rfl) (Below.refl _ _).drew (fun hHeld => ?_)
      have HS := hid hHeld
      clear hHeld
      change wpAnyH _ _ _ _ _ _ _ _ (World.drew _)
      refine wpAnyH_take (i := 0) (v := .agg (cells8 k)) rfl (by kernel_rfl) (by kernel_rfl) (by kernel_rfl) (fun _ _ _ h => h) (Or.inl ⟨by rfl, fun w hSw => ldk_exec (K3.out.below hSw) hl rfl rfl⟩) HS.out ?_
      simp only [Act.put, List.getElem_toArray, List.getElem_cons_zero, List.getElem_cons_succ, List.setIfInBounds_toArray, List.set_cons_zero, List.set_cons_succ]
      refine wpAnyH_take (i := 1) (v := ?_) rfl (by kernel_rfl) (by kernel_rfl) (by kernel_rfl) (fun _ _ _ h => h) (Or.inl ⟨by rfl, ?q1⟩) HS.out ?_
      case q1 => intro w hSw; go_simp; rfl
      simp only [Act.put, List.getElem_toArray, List.getElem_cons_zero, List.getElem_cons_succ, List.setIfInBounds_toArray, List.set_cons_zero, List.set_cons_succ]
      refine wpAnyH_take (i := 2) (v := ?_) rfl (by kernel_rfl) (by kernel_rfl) (by kernel_rfl) (fun _ _ _ h => h) (Or.inl ⟨by rfl, ?q2⟩) HS.out ?_
      case q2 => intro w hSw; go_simp; rfl
      simp only [Act.put, List.getElem_toArray, List.getElem_cons_zero, List.getElem_cons_succ, List.setIfInBounds_toArray, List.set_cons_zero, List.set_cons_succ]
      refine wpAnyH_take (i := 3) (v := ?_) rfl (by kernel_rfl) (by kernel_rfl) (by kernel_rfl) (fun _ _ _ h => h) (Or.inl ⟨by rfl, ?q3⟩) HS.out ?_
      case q3 => intro w hSw; go_simp; rfl
      simp only [Act.put, List.getElem_toArray, List.getElem_cons_zero, List.getElem_cons_succ, List.setIfInBounds_toArray, List.set_cons_zero, List.set_cons_succ]
      refine wpAnyH_take (i := 4) (v := ?_) rfl (by kernel_rfl) (by kernel_rfl) (by kernel_rfl) (fun _ _ _ h => h) (Or.inl ⟨by rfl, ?q4⟩) HS.out ?_
      case q4 => intro w hSw; go_simp; rfl
      simp only [Act.put, List.getElem_toArray, List.getElem_cons_zero, List.getElem_cons_succ, List.setIfInBounds_toArray, List.set_cons_zero, List.set_cons_succ]
      refine wpAnyH_take (i := 5) (v := .slice pf n0 cf) rfl (by kernel_rfl) (by kernel_rfl) (by kernel_rfl) (fun _ _ _ h => h) (Or.inl ⟨by rfl, ?q5⟩) HS.out ?_
      case q5 => intro w hSw; go_simp
      simp only [Act.put, List.getElem_toArray, List.getElem_cons_zero, List.getElem_cons_succ, List.setIfInBounds_toArray, List.set_cons_zero, List.set_cons_succ]
      refine wpAnyH_ready (rs := [6]) (by kernel_rfl) (by simp) ?_
      refine AllReadyH.cons rfl (fun K hK => ?_) AllReadyH.nil
      replace hK := hid hK
      go_simp
      refine (CA.out _ _ ((PF.out w3 (by first | exact Below.refl _ _ | exact w3B.out)).below HS.out)).mono ?_
      rintro e w4 ⟨x, rfl, hx, hb⟩
      have HS2 := hid (HS.out.trans (hb.mono HS.out.size))
      have SZw4 := hid (HS.out.size)
      have Ex := hid hx
      clear hb
      refine hK.out _ _ HS2.out (fun _ => ?_)
      clear hK K
      clear HS
      have HS := HS2
      clear HS2
      try simp only [Act.put, List.getElem_toArray, List.getElem_cons_zero, List.getElem_cons_succ, List.setIfInBounds_toArray, List.set_cons_zero, List.set_cons_succ]
      refine wpAnyH_take (i := 7) (v := ?_) rfl (by kernel_rfl) (by kernel_rfl) (by kernel_rfl) (fun _ _ _ h => h) (Or.inl ⟨by rfl, ?q7⟩) HS.out ?_
      case q7 => intro w hSw; go_simp; rfl
      simp only [Act.put, List.getElem_toArray, List.getElem_cons_zero, List.getElem_cons_succ, List.setIfInBounds_toArray, List.set_cons_zero, List.set_cons_succ]
      refine wpAnyH_take (i := 8) (v := ?_) rfl (by kernel_rfl) (by kernel_rfl) (by kernel_rfl) (fun _ _ _ h => h) (Or.inl ⟨by rfl, ?q8⟩) HS.out ?_
      case q8 => intro w hSw; go_simp; rfl
      simp only [Act.put, List.getElem_toArray, List.getElem_cons_zero, List.getElem_cons_succ, List.setIfInBounds_toArray, List.set_cons_zero, List.set_cons_succ]
      refine wpAnyH_take (i := 9) (v := ?_) rfl (by kernel_rfl) (by kernel_rfl) (by kernel_rfl) (fun _ _ _ h => h) (Or.inl ⟨by rfl, ?q9⟩) HS.out ?_
      case q9 => intro w hSw; go_simp; rfl
      simp only [Act.put, List.getElem_toArray, List.getElem_cons_zero, List.getElem_cons_succ, List.setIfInBounds_toArray, List.set_cons_zero, List.set_cons_succ]
      refine wpAnyH_take (i := 10) (v := ?_) rfl (by kernel_rfl) (by kernel_rfl) (by kernel_rfl) (fun _ _ _ h => h) (Or.inl ⟨by rfl, ?q10⟩) HS.out ?_
      case q10 => intro w hSw; go_simp; rfl
      simp only [Act.put, List.getElem_toArray, List.getElem_cons_zero, List.getElem_cons_succ, List.setIfInBounds_toArray, List.set_cons_zero, List.set_cons_succ]
      refine wpAnyH_take (i := 11) (v := ?_) rfl (by kernel_rfl) (by kernel_rfl) (by kernel_rfl) (fun _ _ _ h => h) (Or.inl ⟨by rfl, ?q11⟩) HS.out ?_
      case q11 => intro w hSw; go_simp; rfl
      simp only [Act.put, List.getElem_toArray, List.getElem_cons_zero, List.getElem_cons_succ, List.setIfInBounds_toArray, List.set_cons_zero, List.set_cons_succ]
      refine wpAnyH_done (by kernel_rfl) ?_ _
      have SZ4 := hid HS.out.size
      have w4B := hid (w3B.out.trans (HS.out.mono w3B.out.size))
      have K4 := hid (K3.out.below HS.out)
      have ES4 := hid (ES3.out.below HS.out)
      have ET4 := hid (ET.out.below HS.out)
      have EX4 := Ex
      clear HS
      go_wp2
      refine wp_region_held_drew (S := Below w4.heap.size w4) (by kernel_rfl) (Below.refl _ _).drew (fun hHeld => ?_)
      have HS := hid hHeld
      clear hHeld
      change wpAnyH _ _ _ _ _ _ _ _ (World.drew _)
      refine wpAnyH_take (i := 0) (v := .agg (cells8 k)) rfl (by kernel_rfl) (by kernel_rfl) (by kernel_rfl) (fun _ _ _ h => h) (Or.inl ⟨by rfl, fun w hSw => ldk_exec (K4.out.below hSw) hl rfl rfl⟩) HS.out ?_
      simp only [Act.put, List.getElem_toArray, List.getElem_cons_zero, List.getElem_cons_succ, List.setIfInBounds_toArray, List.set_cons_zero, List.set_cons_succ]
      refine wpAnyH_take (i := 1) (v := ?_) rfl (by kernel_rfl) (by kernel_rfl) (by kernel_rfl) (fun _ _ _ h => h) (Or.inl ⟨by rfl, ?q1⟩) HS.out ?_
      case q1 => intro w hSw; go_simp; rfl
      simp only [Act.put, List.getElem_toArray, List.getElem_cons_zero, List.getElem_cons_succ, List.setIfInBounds_toArray, List.set_cons_zero, List.set_cons_succ]
      refine wpAnyH_take (i := 2) (v := ?_) rfl (by kernel_rfl) (by kernel_rfl) (by kernel_rfl) (fun _ _ _ h => h) (Or.inl ⟨by rfl, ?q2⟩) HS.out ?_
      case q2 => intro w hSw; go_simp; rfl
      simp only [Act.put, List.getElem_toArray, List.getElem_cons_zero, List.getElem_cons_succ, List.setIfInBounds_toArray, List.set_cons_zero, List.set_cons_succ]
      refine wpAnyH_take (i := 3) (v := ?_) rfl (by kernel_rfl) (by kernel_rfl) (by kernel_rfl) (fun _ _ _ h => h) (Or.inl ⟨by rfl, ?q3⟩) HS.out ?_
      case q3 => intro w hSw; go_simp; rfl
      simp only [Act.put, List.getElem_toArray, List.getElem_cons_zero, List.getElem_cons_succ, List.setIfInBounds_toArray, List.set_cons_zero, List.set_cons_succ]
      refine wpAnyH_take (i := 4) (v := ?_) rfl (by kernel_rfl) (by kernel_rfl) (by kernel_rfl) (fun _ _ _ h => h) (Or.inl ⟨by rfl, ?q4⟩) HS.out ?_
      case q4 => intro w hSw; go_simp; rfl
      simp only [Act.put, List.getElem_toArray, List.getElem_cons_zero, List.getElem_cons_succ, List.setIfInBounds_toArray, List.set_cons_zero, List.set_cons_succ]
      refine wpAnyH_take (i := 5) (v := .slice pf n0 cf) rfl (by kernel_rfl) (by kernel_rfl) (by kernel_rfl) (fun _ _ _ h => h) (Or.inl ⟨by rfl, ?q5⟩) HS.out ?_
      case q5 => intro w hSw; go_simp
      simp only [Act.put, List.getElem_toArray, List.getElem_cons_zero, List.getElem_cons_succ, List.setIfInBounds_toArray, List.set_cons_zero, List.set_cons_succ]
      refine wpAnyH_ready (rs := [6]) (by kernel_rfl) (by simp) ?_
      refine AllReadyH.cons rfl (fun K hK => ?_) AllReadyH.nil
      replace hK := hid hK
      go_simp
      refine (CA.out _ _ ((PF.out w4 (by first | exact Below.refl _ _ | exact w4B.out)).below HS.out)).mono ?_
      rintro e w5 ⟨y, rfl, hy, hb⟩
      have HS2 := hid (HS.out.trans (hb.mono HS.out.size))
      have SZw5 := hid (HS.out.size)
      have Ey := hid hy
      clear hb
      refine hK.out _ _ HS2.out (fun _ => ?_)
      clear hK K
      clear HS
      have HS := HS2
      clear HS2
      try simp only [Act.put, List.getElem_toArray, List.getElem_cons_zero, List.getElem_cons_succ, List.setIfInBounds_toArray, List.set_cons_zero, List.set_cons_succ]
      refine wpAnyH_take (i := 7) (v := ?_) rfl (by kernel_rfl) (by kernel_rfl) (by kernel_rfl) (fun _ _ _ h => h) (Or.inl ⟨by rfl, ?q7⟩) HS.out ?_
      case q7 => intro w hSw; go_simp; rfl
      simp only [Act.put, List.getElem_toArray, List.getElem_cons_zero, List.getElem_cons_succ, List.setIfInBounds_toArray, List.set_cons_zero, List.set_cons_succ]
      refine wpAnyH_take (i := 8) (v := ?_) rfl (by kernel_rfl) (by kernel_rfl) (by kernel_rfl) (fun _ _ _ h => h) (Or.inl ⟨by rfl, ?q8⟩) HS.out ?_
      case q8 => intro w hSw; go_simp; rfl
      simp only [Act.put, List.getElem_toArray, List.getElem_cons_zero, List.getElem_cons_succ, List.setIfInBounds_toArray, List.set_cons_zero, List.set_cons_succ]
      refine wpAnyH_take (i := 9) (v := ?_) rfl (by kernel_rfl) (by kernel_rfl) (by kernel_rfl) (fun _ _ _ h => h) (Or.inl ⟨by rfl, ?q9⟩) HS.out ?_
      case q9 => intro w hSw; go_simp; rfl
      simp only [Act.put, List.getElem_toArray, List.getElem_cons_zero, List.getElem_cons_succ, List.setIfInBounds_toArray, List.set_cons_zero, List.set_cons_succ]
      refine wpAnyH_take (i := 10) (v := ?_) rfl (by kernel_rfl) (by kernel_rfl) (by kernel_rfl) (fun _ _ _ h => h) (Or.inl ⟨by rfl, ?q10⟩) HS.out ?_
      case q10 => intro w hSw; go_simp; rfl
      simp only [Act.put, List.getElem_toArray, List.getElem_cons_zero, List.getElem_cons_succ, List.setIfInBounds_toArray, List.set_cons_zero, List.set_cons_succ]
      refine wpAnyH_take (i := 11) (v := ?_) rfl (by kernel_rfl) (by kernel_rfl) (by kernel_rfl) (fun _ _ _ h => h) (Or.inl ⟨by rfl, ?q11⟩) HS.out ?_
      case q11 => intro w hSw; go_simp; rfl
      simp only [Act.put, List.getElem_toArray, List.getElem_cons_zero, List.getElem_cons_succ, List.setIfInBounds_toArray, List.set_cons_zero, List.set_cons_succ]
      refine wpAnyH_done (by kernel_rfl) ?_ _
      have SZ5 := hid HS.out.size
      have w5B := hid (w4B.out.trans (HS.out.mono w4B.out.size))
      have K5 := hid (K4.out.below HS.out)
      have ES5 := hid (ES4.out.below HS.out)
      have ET5 := hid (ET4.out.below HS.out)
      have EX5 := hid (EX4.out.below HS.out)
      have EY5 := Ey
      have B5 := hid (B1.out.trans (w5B.out.mono B1.out.size))
      have CK := kept_any w5 _ _ (lent l) l (F1.out.hb.below w5B.out) (HV.out.below B5.out) (by omega)
      rw [decide_eq_true rfl, Hmf.out, Hn0.out] at CK
      have CK := hid CK
      clear HS
      go_wp2_with fail
      refine CK.out.mono ?_
      rintro e w6 ⟨rfl, hb6⟩
      have F6 := hid ((F1.out.below w5B.out).below hb6)
      have K6 := hid (K5.out.below hb6)
      have ES6 := hid (ES5.out.below hb6)
      have ET6 := hid (ET5.out.below hb6)
      have EX6 := hid (EX5.out.below hb6)
      have EY6 := hid (EY5.out.below hb6)
      have B6 := hid (B5.out.trans (hb6.mono B5.out.size))
      have SZ6 := hid hb6.size
      have CO := over_any w6 w0.heap.size _ _ _ F6.out.1 (by rw [Hmf.out]; have := HMF.out; omega)
      rw [Hmf.out] at CO
      have CO := hid CO
      clear hb6 CK
      go_wp2_with fail
      refine CO.out.mono ?_
      rintro e w7 ⟨rfl, _, hg7⟩
      have FB := hid fun (g : Nat) (e : (Value.slice pf mf cf).ownBlock = some g) => F1.out.1.lt g (by rw [Hmf.out]; exact e)
      have K7 : Hid (KeyIn w7 w.heap.size k) := hid ((hg7.block w.heap.size (Array.getElem?_eq_some_iff.1 K6.out).1 (fun e => by have := (FB.out _ e.symm).1; have := Z0.out; omega)).trans K6.out)
      have ES7 := hid (ES6.out.kept hg7 (fun g e q => by have h1 := (FB.out g e).2; have h2 := (ES6.out.1.lt g q).1; omega))
      have ET7 := hid (ET6.out.kept hg7 (fun g e q => by have h1 := (FB.out g e).2; have h2 := (ET6.out.1.lt g q).1; have := SZ2.out; omega))
      have EX7 := hid (EX6.out.kept hg7 (fun g e q => by have h1 := (FB.out g e).2; have h2 := (EX6.out.1.lt g q).1; have := SZ2.out; have := SZ3.out; have := SZw4.out; omega))
      have EY7 := hid (EY6.out.kept hg7 (fun g e q => by have h1 := (FB.out g e).2; have h2 := (EY6.out.1.lt g q).1; have := SZ2.out; have := SZ3.out; have := SZ4.out; have := SZw5.out; omega))
      have B7 := hid (B6.out.grown hg7 B6.out.size (fun q e => by have := (FB.out q e).1; have := Z0.out; omega))
      have SZ7 := hid hg7.size
      clear hg7 CO
      have CR7 := hid (CR.out w7)
      go_wp2_with (refine wpList_ldk K7 hl rfl rfl rfl ?_)
      refine CR7.out.mono ?_
      rintro e w8 ⟨u, rfl, hu, hb8⟩
      have EU := hid hu
      have K8 := hid (K7.out.below hb8)
      have ES8 := hid (ES7.out.below hb8)
      have ET8 := hid (ET7.out.below hb8)
      have EX8 := hid (EX7.out.below hb8)
      have EY8 := hid (EY7.out.below hb8)
      have B8 := hid (B7.out.trans (hb8.mono B7.out.size))
      have SZ8 := hid hb8.size
      clear hu hb8 CR7
      have CR8 := CRA.out w8 _ (HV.out.below B8.out)
      rw [Hn0.out] at CR8
      have CR8 := hid CR8
      go_wp2_with (refine wpList_ldk K8 hl rfl rfl rfl ?_)
      refine CR8.out.mono ?_
      rintro e w9 ⟨z, rfl, hz, hb9⟩
      have EZ := hid hz
      have EU9 := hid (EU.out.below hb9)
      have ES9 := hid (ES8.out.below hb9)
      have ET9 := hid (ET8.out.below hb9)
      have EX9 := hid (EX8.out.below hb9)
      have EY9 := hid (EY8.out.below hb9)
      have B9 := hid (B8.out.trans (hb9.mono B8.out.size))
      have SZ9 := hid hb9.size
      clear hz hb9 CR8
      have C1 := sameBytes_any w9 _ _ L L ES9.out.hb EU9.out.hb
      rw [decide_eq_true rfl] at C1
      have C1 := hid C1
      go_wp2_with fail
      refine C1.out.mono ?_
      rintro e w10 ⟨rfl, hd10⟩
      have D10 := hid (hd10.below w9.heap.size)
      have C2 := sameBytes_any w10 _ _ L L (ET9.out.hb.below D10.out) (EU9.out.hb.below D10.out)
      rw [decide_eq_true rfl] at C2
      have C2 := hid C2
      clear hd10 C1
      go_wp2_with fail
      refine C2.out.mono ?_
      rintro e w11 ⟨rfl, hd11⟩
      have D11 := hid (D10.out.trans ((hd11.below w10.heap.size).mono D10.out.size))
      have C3 := sameBytes_any w11 _ _ A A (EX9.out.hb.below D11.out) (EZ.out.hb.below D11.out)
      rw [decide_eq_true rfl] at C3
      have C3 := hid C3
      clear hd11 C2 D10
      go_wp2_with fail
      refine C3.out.mono ?_
      rintro e w12 ⟨rfl, hd12⟩
      have D12 := hid (D11.out.trans ((hd12.below w11.heap.size).mono D11.out.size))
      have C4 := sameBytes_any w12 _ _ A A (EY9.out.hb.below D12.out) (EZ.out.hb.below D12.out)
      rw [decide_eq_true rfl] at C4
      have C4 := hid C4
      clear hd12 C3 D11
      go_wp2_with fail
      refine C4.out.mono ?_
      rintro e w13 ⟨rfl, hd13⟩
      have D13 := hid (D12.out.trans ((hd13.below w12.heap.size).mono D12.out.size))
      clear hd13 C4 D12
      obtain ⟨ps, cs, es⟩ := own_slc ES9.out.1
      obtain ⟨pt, ct, et⟩ := own_slc ET9.out.1
      obtain ⟨px, cx, ex⟩ := own_slc EX9.out.1
      obtain ⟨py, cy, ey⟩ := own_slc EY9.out.1
      subst es et ex ey
      obtain ⟨zL, HzL⟩ : ∃ q, Hid (L.length = q) := ⟨_, rfl⟩
      obtain ⟨zA, HzA⟩ : ∃ q, Hid (A.length = q) := ⟨_, rfl⟩
      have I1 := hid fun g e => (ES.out.1.lt g e)
      have I2 := hid fun g e => (ET.out.1.lt g e)
      have I3 := hid fun g e => (EX4.out.1.lt g e)
      have I4 := hid fun g e => (EY5.out.1.lt g e)
      rw [HzL.out] at ES9 ET9 I1 I2 ⊢
      rw [HzA.out] at EX9 EY9 I3 I4 ⊢
      have bal : Below w13.heap.size w13 (w13.alloc (.cells #[.slice ps zL cs, .slice pt zL ct, .slice px zA cx, .slice py zA cy] 24)) := (Below.refl _ _).alloc (Nat.le_refl _) _
      have D14 := hid (D13.out.trans (bal.mono D13.out.size))
      have ES14 : ER w1.heap.size (w13.alloc (.cells #[.slice ps zL cs, .slice pt zL ct, .slice px zA cx, .slice py zA cy] 24)) (.slice ps zL cs) L := ES9.out.below D14.out
      have ET14 : ER w1.heap.size (w13.alloc (.cells #[.slice ps zL cs, .slice pt zL ct, .slice px zA cx, .slice py zA cy] 24)) (.slice pt zL ct) L := ⟨own_mono (ET9.out.below D14.out).1 SZ2.out, ET9.out.2⟩
      have EX14 : ER w1.heap.size (w13.alloc (.cells #[.slice ps zL cs, .slice pt zL ct, .slice px zA cx, .slice py zA cy] 24)) (.slice px zA cx) A := ⟨own_mono (EX9.out.below D14.out).1 (Nat.le_trans SZ2.out SZ3.out), EX9.out.2⟩
      have EY14 : ER w1.heap.size (w13.alloc (.cells #[.slice ps zL cs, .slice pt zL ct, .slice px zA cx, .slice py zA cy] 24)) (.slice py zA cy) A := ⟨own_mono (EY9.out.below D14.out).1 (Nat.le_trans (Nat.le_trans SZ2.out SZ3.out) SZ4.out), EY9.out.2⟩
      have APT := hid (apt4 (n1 := w1.heap.size) (n2 := w2.heap.size) (n3 := w3.heap.size) (n4 := w4.heap.size) (n5 := w5.heap.size) ES14 ET14 EX14 EY14 I1.out I2.out I3.out I4.out SZ3.out SZ4.out)
      have HVV : Hid (Go.Proofs.Ytjmpfakbophmlaa.HV (w13.alloc (.cells #[.slice ps zL cs, .slice pt zL ct, .slice px zA cx, .slice py zA cy] 24)) (.slice (some ⟨w13.heap.size, 0, none⟩) 4 4) [.slice ps zL cs, .slice pt zL ct, .slice px zA cx, .slice py zA cy]) := hid ⟨_, 4, rfl, Nat.le_refl _, by unfold maxLen; omega, fun _ => ⟨w13.heap.size, 0, rfl, ⟨_, _, World.alloc_heap_new w13 _⟩, fun q hq => by
        rw [cell_row4 _ w13.heap.size (0 + q) _ _ _ (World.alloc_heap_new w13 _)]
        match q, hq with
        | 0, _ => rfl
        | 1, _ => rfl
        | 2, _ => rfl
        | 3, _ => rfl
        | q + 4, h => simp at h; omega⟩⟩
      have BF14 := hid (B9.out.trans (D14.out.mono B9.out.size))
      have SF : Hid (w1.heap.size ≤ (w13.alloc (.cells #[.slice ps zL cs, .slice pt zL ct, .slice px zA cx, .slice py zA cy] 24)).heap.size) := hid (by have := SZ2.out; have := SZ3.out; have := SZ4.out; have := SZ5.out; have := SZ6.out; have := SZ7.out; have := SZ8.out; have := SZ9.out; have := D14.out.size; omega)
      have CAP := hid (apart_any w1.heap.size _ _ _ _ HVV.out APT.out SF.out (by simp) (fun q => by
        have h1 := LL.out
        have h2 := AL.out
        match q with
        | 0 => show L.length ≤ _; omega
        | 1 => show L.length ≤ _; omega
        | 2 => show A.length ≤ _; omega
        | 3 => show A.length ≤ _; omega
        | q + 4 => simp))
      have SW := hid (Nat.le_trans (Nat.le_of_lt Z0.out) Z1.out)
      clear bal ES14 ET14 EX14 EY14 APT HVV
      go_wp2_with fail
      refine CAP.out.mono ?_
      rintro e w15 ⟨rfl, hb15⟩
      have BFF := hid (BF14.out.trans (hb15.mono SW.out))
      clear hb15 CAP
      go_wp2
      go_ret
      exact ⟨rfl, BFF.out⟩
    case neg =>
      obtain ⟨nn, Hnn⟩ : ∃ x, Hid (n = x) := ⟨_, rfl⟩
      have hn6 : nn ≤ 6000 := by rw [← Hnn.out]; omega
      have hbn2 : ¬ (3000 < nn) := by rw [← Hnn.out]; exact hbn
      have CS := hid fun (W : World) => stream_gen W k p nn hk hl hp hn6
      have CR := hid fun (W : World) => rstream_gen W k p nn hk hl hp hn6
      have CA := hid fun (W : World) (v : Value) (h : HB W v l) => apply_gen W k p v l hk hl h hp hlen
      have CRA := hid fun (W : World) (v : Value) (h : HB W v l) => rapply_gen W k p v l hk hl h hp hlen
      obtain ⟨L, HL⟩ : ∃ x, Hid (stL k p nn = x) := ⟨_, rfl⟩
      obtain ⟨A, HA⟩ : ∃ x, Hid (apL k p l = x) := ⟨_, rfl⟩
      obtain ⟨SE, HSE⟩ : ∃ x, Hid (stE p nn = x) := ⟨_, rfl⟩
      obtain ⟨AE, HAE⟩ : ∃ x, Hid (apE p l = x) := ⟨_, rfl⟩
      have LL : Hid (L.length ≤ 6000) := hid (by rw [← HL.out]; have := stL_len k p nn; omega)
      have AL : Hid (A.length ≤ 3000) := hid (by rw [← HA.out]; have := apL_len k p l; omega)
      rw [HL.out, HSE.out] at CS CR
      rw [HA.out, HAE.out] at CA CRA
      clear HL HA HSE HAE
      rw [Hnn.out]
      clear Hnn hbn
      as_aux_lemma =>
      go_wp2_with fail
      refine (lent_any w0 _ l (HV.out.below B0.out) (by omega)).mono ?_
      rintro e w1 ⟨vf, rfl, ho1, hb1⟩
      have F1 : Hid (ER w0.heap.size w1 vf (lent l)) := hid ⟨ho1, lent_bytes l HV.out.2⟩
      have K1 := hid (K0.out.below hb1)
      have B1 := hid (B0.out.trans (hb1.mono B0.out.size))
      have Z1 := hid hb1.size
      have w1B : Hid (Below w1.heap.size w1 w1) := hid (Below.refl _ _)
      obtain ⟨pf, cf, ef⟩ := own_slc ho1
      subst ef
      obtain ⟨n0, Hn0⟩ : ∃ x, Hid (l.length = x) := ⟨_, rfl⟩
      obtain ⟨mf, Hmf⟩ : ∃ x, Hid ((lent l).length = x) := ⟨_, rfl⟩
      have hmf : mf = n0 + 70 := by rw [← Hmf.out, lent_length, Hn0.out]
      have hcf : mf ≤ cf := by
        obtain ⟨q, c', e, h1, _⟩ := F1.out.hb.open
        rw [Hmf.out] at e h1
        simp only [Value.slice.injEq] at e
        omega
      have PF : Hid (∀ W, Below w1.heap.size w1 W → HB W (.slice pf n0 cf) l) := hid fun W hW => by
        have h1 := F1.out.hb.below hW
        unfold lent at h1
        have := pre4 h1 (by omega)
        rwa [Hn0.out] at this
      have hr1 := fun W => slice_h4 W pf mf cf n0 (by omega) (by omega)
      have HMF : Hid (mf ≤ 3070) := hid (by have := Hn0.out; omega)
      clear hmf hcf
      rw [Hmf.out]
      rw [Hn0.out]
      clear ho1 hb1
      go_wp2_with (refine wpList_ldk K1 hl rfl rfl rfl ?_)
      refine (CS.out w1).mono ?_
      rintro e w2 ⟨s, rfl, hs, hb2⟩
      have ES := hid hs
      have SZ2 := hid hb2.size
      have K2 := hid (K1.out.below hb2)
      have w2B := hid hb2
      clear hs hb2
      go_wp2_with (refine wpList_ldk K2 hl rfl rfl rfl ?_)
      refine (CS.out w2).mono ?_
      rintro e w3 ⟨t, rfl, ht, hb3⟩
      have ET := hid ht
      have SZ3 := hid hb3.size
      have K3 := hid (K2.out.below hb3)
      have w3B := hid (w2B.out.trans (hb3.mono w2B.out.size))
      have ES3 := hid (ES.out.below hb3)
      clear ht hb3
      go_wp2
      refine wp_region_held_drew (S := Below w3.heap.size w3) (by kernel_rfl) (Below.refl _ _).drew (fun hHeld => ?_)
      have HS := hid hHeld
      clear hHeld
      change wpAnyH _ _ _ _ _ _ _ _ (World.drew _)
      refine wpAnyH_take (i := 0) (v := .agg (cells8 k)) rfl (by kernel_rfl) (by kernel_rfl) (by kernel_rfl) (fun _ _ _ h => h) (Or.inl ⟨by rfl, fun w hSw => ldk_exec (K3.out.below hSw) hl rfl rfl⟩) HS.out ?_
      simp only [Act.put, List.getElem_toArray, List.getElem_cons_zero, List.getElem_cons_succ, List.setIfInBounds_toArray, List.set_cons_zero, List.set_cons_succ]
      refine wpAnyH_take (i := 1) (v := ?_) rfl (by kernel_rfl) (by kernel_rfl) (by kernel_rfl) (fun _ _ _ h => h) (Or.inl ⟨by rfl, ?q1⟩) HS.out ?_
      case q1 => intro w hSw; go_simp; rfl
      simp only [Act.put, List.getElem_toArray, List.getElem_cons_zero, List.getElem_cons_succ, List.setIfInBounds_toArray, List.set_cons_zero, List.set_cons_succ]
      refine wpAnyH_take (i := 2) (v := ?_) rfl (by kernel_rfl) (by kernel_rfl) (by kernel_rfl) (fun _ _ _ h => h) (Or.inl ⟨by rfl, ?q2⟩) HS.out ?_
      case q2 => intro w hSw; go_simp; rfl
      simp only [Act.put, List.getElem_toArray, List.getElem_cons_zero, List.getElem_cons_succ, List.setIfInBounds_toArray, List.set_cons_zero, List.set_cons_succ]
      refine wpAnyH_take (i := 3) (v := ?_) rfl (by kernel_rfl) (by kernel_rfl) (by kernel_rfl) (fun _ _ _ h => h) (Or.inl ⟨by rfl, ?q3⟩) HS.out ?_
      case q3 => intro w hSw; go_simp; rfl
      simp only [Act.put, List.getElem_toArray, List.getElem_cons_zero, List.getElem_cons_succ, List.setIfInBounds_toArray, List.set_cons_zero, List.set_cons_succ]
      refine wpAnyH_take (i := 4) (v := ?_) rfl (by kernel_rfl) (by kernel_rfl) (by kernel_rfl) (fun _ _ _ h => h) (Or.inl ⟨by rfl, ?q4⟩) HS.out ?_
      case q4 => intro w hSw; go_simp; rfl
      simp only [Act.put, List.getElem_toArray, List.getElem_cons_zero, List.getElem_cons_succ, List.setIfInBounds_toArray, List.set_cons_zero, List.set_cons_succ]
      refine wpAnyH_take (i := 5) (v := .slice pf n0 cf) rfl (by kernel_rfl) (by kernel_rfl) (by kernel_rfl) (fun _ _ _ h => h) (Or.inl ⟨by rfl, ?q5⟩) HS.out ?_
      case q5 => intro w hSw; go_simp
      simp only [Act.put, List.getElem_toArray, List.getElem_cons_zero, List.getElem_cons_succ, List.setIfInBounds_toArray, List.set_cons_zero, List.set_cons_succ]
      refine wpAnyH_ready (rs := [6]) (by kernel_rfl) (by simp) ?_
      refine AllReadyH.cons rfl (fun K hK => ?_) AllReadyH.nil
      replace hK := hid hK
      go_simp
      refine (CA.out _ _ ((PF.out w3 (by first | exact Below.refl _ _ | exact w3B.out)).below HS.out)).mono ?_
      rintro e w4 ⟨x, rfl, hx, hb⟩
      have HS2 := hid (HS.out.trans (hb.mono HS.out.size))
      have SZw4 := hid (HS.out.size)
      have Ex := hid hx
      clear hb
      refine hK.out _ _ HS2.out (fun _ => ?_)
      clear hK K
      clear HS
      have HS := HS2
      clear HS2
      try simp only [Act.put, List.getElem_toArray, List.getElem_cons_zero, List.getElem_cons_succ, List.setIfInBounds_toArray, List.set_cons_zero, List.set_cons_succ]
      refine wpAnyH_take (i := 7) (v := ?_) rfl (by kernel_rfl) (by kernel_rfl) (by kernel_rfl) (fun _ _ _ h => h) (Or.inl ⟨by rfl, ?q7⟩) HS.out ?_
      case q7 => intro w hSw; go_simp; rfl
      simp only [Act.put, List.getElem_toArray, List.getElem_cons_zero, List.getElem_cons_succ, List.setIfInBounds_toArray, List.set_cons_zero, List.set_cons_succ]
      refine wpAnyH_take (i := 8) (v := ?_) rfl (by kernel_rfl) (by kernel_rfl) (by kernel_rfl) (fun _ _ _ h => h) (Or.inl ⟨by rfl, ?q8⟩) HS.out ?_
      case q8 => intro w hSw; go_simp; rfl
      simp only [Act.put, List.getElem_toArray, List.getElem_cons_zero, List.getElem_cons_succ, List.setIfInBounds_toArray, List.set_cons_zero, List.set_cons_succ]
      refine wpAnyH_take (i := 9) (v := ?_) rfl (by kernel_rfl) (by kernel_rfl) (by kernel_rfl) (fun _ _ _ h => h) (Or.inl ⟨by rfl, ?q9⟩) HS.out ?_
      case q9 => intro w hSw; go_simp; rfl
      simp only [Act.put, List.getElem_toArray, List.getElem_cons_zero, List.getElem_cons_succ, List.setIfInBounds_toArray, List.set_cons_zero, List.set_cons_succ]
      refine wpAnyH_take (i := 10) (v := ?_) rfl (by kernel_rfl) (by kernel_rfl) (by kernel_rfl) (fun _ _ _ h => h) (Or.inl ⟨by rfl, ?q10⟩) HS.out ?_
      case q10 => intro w hSw; go_simp; rfl
      simp only [Act.put, List.getElem_toArray, List.getElem_cons_zero, List.getElem_cons_succ, List.setIfInBounds_toArray, List.set_cons_zero, List.set_cons_succ]
      refine wpAnyH_take (i := 11) (v := ?_) rfl (by kernel_rfl) (by kernel_rfl) (by kernel_rfl) (fun _ _ _ h => h) (Or.inl ⟨by rfl, ?q11⟩) HS.out ?_
      case q11 => intro w hSw; go_simp; rfl
      simp only [Act.put, List.getElem_toArray, List.getElem_cons_zero, List.getElem_cons_succ, List.setIfInBounds_toArray, List.set_cons_zero, List.set_cons_succ]
      refine wpAnyH_done (by kernel_rfl) ?_ _
      have SZ4 := hid HS.out.size
      have w4B := hid (w3B.out.trans (HS.out.mono w3B.out.size))
      have K4 := hid (K3.out.below HS.out)
      have ES4 := hid (ES3.out.below HS.out)
      have ET4 := hid (ET.out.below HS.out)
      have EX4 := Ex
      clear HS
      go_wp2
      refine wp_region_held_drew (S := Below w4.heap.size w4) (by kernel_rfl) (Below.refl _ _).drew (fun hHeld => ?_)
      have HS := hid hHeld
      clear hHeld
      change wpAnyH _ _ _ _ _ _ _ _ (World.drew _)
      refine wpAnyH_take (i := 0) (v := .agg (cells8 k)) rfl (by kernel_rfl) (by kernel_rfl) (by kernel_rfl) (fun _ _ _ h => h) (Or.inl ⟨by rfl, fun w hSw => ldk_exec (K4.out.below hSw) hl rfl rfl⟩) HS.out ?_
      simp only [Act.put, List.getElem_toArray, List.getElem_cons_zero, List.getElem_cons_succ, List.setIfInBounds_toArray, List.set_cons_zero, List.set_cons_succ]
      refine wpAnyH_take (i := 1) (v := ?_) rfl (by kernel_rfl) (by kernel_rfl) (by kernel_rfl) (fun _ _ _ h => h) (Or.inl ⟨by rfl, ?q1⟩) HS.out ?_
      case q1 => intro w hSw; go_simp; rfl
      simp only [Act.put, List.getElem_toArray, List.getElem_cons_zero, List.getElem_cons_succ, List.setIfInBounds_toArray, List.set_cons_zero, List.set_cons_succ]
      refine wpAnyH_take (i := 2) (v := ?_) rfl (by kernel_rfl) (by kernel_rfl) (by kernel_rfl) (fun _ _ _ h => h) (Or.inl ⟨by rfl, ?q2⟩) HS.out ?_
      case q2 => intro w hSw; go_simp; rfl
      simp only [Act.put, List.getElem_toArray, List.getElem_cons_zero, List.getElem_cons_succ, List.setIfInBounds_toArray, List.set_cons_zero, List.set_cons_succ]
      refine wpAnyH_take (i := 3) (v := ?_) rfl (by kernel_rfl) (by kernel_rfl) (by kernel_rfl) (fun _ _ _ h => h) (Or.inl ⟨by rfl, ?q3⟩) HS.out ?_
      case q3 => intro w hSw; go_simp; rfl
      simp only [Act.put, List.getElem_toArray, List.getElem_cons_zero, List.getElem_cons_succ, List.setIfInBounds_toArray, List.set_cons_zero, List.set_cons_succ]
      refine wpAnyH_take (i := 4) (v := ?_) rfl (by kernel_rfl) (by kernel_rfl) (by kernel_rfl) (fun _ _ _ h => h) (Or.inl ⟨by rfl, ?q4⟩) HS.out ?_
      case q4 => intro w hSw; go_simp; rfl
      simp only [Act.put, List.getElem_toArray, List.getElem_cons_zero, List.getElem_cons_succ, List.setIfInBounds_toArray, List.set_cons_zero, List.set_cons_succ]
      refine wpAnyH_take (i := 5) (v := .slice pf n0 cf) rfl (by kernel_rfl) (by kernel_rfl) (by kernel_rfl) (fun _ _ _ h => h) (Or.inl ⟨by rfl, ?q5⟩) HS.out ?_
      case q5 => intro w hSw; go_simp
      simp only [Act.put, List.getElem_toArray, List.getElem_cons_zero, List.getElem_cons_succ, List.setIfInBounds_toArray, List.set_cons_zero, List.set_cons_succ]
      refine wpAnyH_ready (rs := [6]) (by kernel_rfl) (by simp) ?_
      refine AllReadyH.cons rfl (fun K hK => ?_) AllReadyH.nil
      replace hK := hid hK
      go_simp
      refine (CA.out _ _ ((PF.out w4 (by first | exact Below.refl _ _ | exact w4B.out)).below HS.out)).mono ?_
      rintro e w5 ⟨y, rfl, hy, hb⟩
      have HS2 := hid (HS.out.trans (hb.mono HS.out.size))
      have SZw5 := hid (HS.out.size)
      have Ey := hid hy
      clear hb
      refine hK.out _ _ HS2.out (fun _ => ?_)
      clear hK K
      clear HS
      have HS := HS2
      clear HS2
      try simp only [Act.put, List.getElem_toArray, List.getElem_cons_zero, List.getElem_cons_succ, List.setIfInBounds_toArray, List.set_cons_zero, List.set_cons_succ]
      refine wpAnyH_take (i := 7) (v := ?_) rfl (by kernel_rfl) (by kernel_rfl) (by kernel_rfl) (fun _ _ _ h => h) (Or.inl ⟨by rfl, ?q7⟩) HS.out ?_
      case q7 => intro w hSw; go_simp; rfl
      simp only [Act.put, List.getElem_toArray, List.getElem_cons_zero, List.getElem_cons_succ, List.setIfInBounds_toArray, List.set_cons_zero, List.set_cons_succ]
      refine wpAnyH_take (i := 8) (v := ?_) rfl (by kernel_rfl) (by kernel_rfl) (by kernel_rfl) (fun _ _ _ h => h) (Or.inl ⟨by rfl, ?q8⟩) HS.out ?_
      case q8 => intro w hSw; go_simp; rfl
      simp only [Act.put, List.getElem_toArray, List.getElem_cons_zero, List.getElem_cons_succ, List.setIfInBounds_toArray, List.set_cons_zero, List.set_cons_succ]
      refine wpAnyH_take (i := 9) (v := ?_) rfl (by kernel_rfl) (by kernel_rfl) (by kernel_rfl) (fun _ _ _ h => h) (Or.inl ⟨by rfl, ?q9⟩) HS.out ?_
      case q9 => intro w hSw; go_simp; rfl
      simp only [Act.put, List.getElem_toArray, List.getElem_cons_zero, List.getElem_cons_succ, List.setIfInBounds_toArray, List.set_cons_zero, List.set_cons_succ]
      refine wpAnyH_take (i := 10) (v := ?_) rfl (by kernel_rfl) (by kernel_rfl) (by kernel_rfl) (fun _ _ _ h => h) (Or.inl ⟨by rfl, ?q10⟩) HS.out ?_
      case q10 => intro w hSw; go_simp; rfl
      simp only [Act.put, List.getElem_toArray, List.getElem_cons_zero, List.getElem_cons_succ, List.setIfInBounds_toArray, List.set_cons_zero, List.set_cons_succ]
      refine wpAnyH_take (i := 11) (v := ?_) rfl (by kernel_rfl) (by kernel_rfl) (by kernel_rfl) (fun _ _ _ h => h) (Or.inl ⟨by rfl, ?q11⟩) HS.out ?_
      case q11 => intro w hSw; go_simp; rfl
      simp only [Act.put, List.getElem_toArray, List.getElem_cons_zero, List.getElem_cons_succ, List.setIfInBounds_toArray, List.set_cons_zero, List.set_cons_succ]
      refine wpAnyH_done (by kernel_rfl) ?_ _
      have SZ5 := hid HS.out.size
      have w5B := hid (w4B.out.trans (HS.out.mono w4B.out.size))
      have K5 := hid (K4.out.below HS.out)
      have ES5 := hid (ES4.out.below HS.out)
      have ET5 := hid (ET4.out.below HS.out)
      have EX5 := hid (EX4.out.below HS.out)
      have EY5 := Ey
      have B5 := hid (B1.out.trans (w5B.out.mono B1.out.size))
      have CK := kept_any w5 _ _ (lent l) l (F1.out.hb.below w5B.out) (HV.out.below B5.out) (by omega)
      rw [decide_eq_true rfl, Hmf.out, Hn0.out] at CK
      have CK := hid CK
      clear HS
      go_wp2_with fail
      refine CK.out.mono ?_
      rintro e w6 ⟨rfl, hb6⟩
      have F6 := hid ((F1.out.below w5B.out).below hb6)
      have K6 := hid (K5.out.below hb6)
      have ES6 := hid (ES5.out.below hb6)
      have ET6 := hid (ET5.out.below hb6)
      have EX6 := hid (EX5.out.below hb6)
      have EY6 := hid (EY5.out.below hb6)
      have B6 := hid (B5.out.trans (hb6.mono B5.out.size))
      have SZ6 := hid hb6.size
      have CO := over_any w6 w0.heap.size _ _ _ F6.out.1 (by rw [Hmf.out]; have := HMF.out; omega)
      rw [Hmf.out] at CO
      have CO := hid CO
      clear hb6 CK
      go_wp2_with fail
      refine CO.out.mono ?_
      rintro e w7 ⟨rfl, _, hg7⟩
      have FB := hid fun (g : Nat) (e : (Value.slice pf mf cf).ownBlock = some g) => F1.out.1.lt g (by rw [Hmf.out]; exact e)
      have K7 : Hid (KeyIn w7 w.heap.size k) := hid ((hg7.block w.heap.size (Array.getElem?_eq_some_iff.1 K6.out).1 (fun e => by have := (FB.out _ e.symm).1; have := Z0.out; omega)).trans K6.out)
      have ES7 := hid (ES6.out.kept hg7 (fun g e q => by have h1 := (FB.out g e).2; have h2 := (ES6.out.1.lt g q).1; omega))
      have ET7 := hid (ET6.out.kept hg7 (fun g e q => by have h1 := (FB.out g e).2; have h2 := (ET6.out.1.lt g q).1; have := SZ2.out; omega))
      have EX7 := hid (EX6.out.kept hg7 (fun g e q => by have h1 := (FB.out g e).2; have h2 := (EX6.out.1.lt g q).1; have := SZ2.out; have := SZ3.out; have := SZw4.out; omega))
      have EY7 := hid (EY6.out.kept hg7 (fun g e q => by have h1 := (FB.out g e).2; have h2 := (EY6.out.1.lt g q).1; have := SZ2.out; have := SZ3.out; have := SZ4.out; have := SZw5.out; omega))
      have B7 := hid (B6.out.grown hg7 B6.out.size (fun q e => by have := (FB.out q e).1; have := Z0.out; omega))
      have SZ7 := hid hg7.size
      clear hg7 CO
      have CR7 := hid (CR.out w7)
      go_wp2_with (refine wpList_ldk K7 hl rfl rfl rfl ?_)
      refine CR7.out.mono ?_
      rintro e w8 ⟨u, rfl, hu, hb8⟩
      have EU := hid hu
      have K8 := hid (K7.out.below hb8)
      have ES8 := hid (ES7.out.below hb8)
      have ET8 := hid (ET7.out.below hb8)
      have EX8 := hid (EX7.out.below hb8)
      have EY8 := hid (EY7.out.below hb8)
      have B8 := hid (B7.out.trans (hb8.mono B7.out.size))
      have SZ8 := hid hb8.size
      clear hu hb8 CR7
      have CR8 := CRA.out w8 _ (HV.out.below B8.out)
      rw [Hn0.out] at CR8
      have CR8 := hid CR8
      go_wp2_with (refine wpList_ldk K8 hl rfl rfl rfl ?_)
      refine CR8.out.mono ?_
      rintro e w9 ⟨z, rfl, hz, hb9⟩
      have EZ := hid hz
      have EU9 := hid (EU.out.below hb9)
      have ES9 := hid (ES8.out.below hb9)
      have ET9 := hid (ET8.out.below hb9)
      have EX9 := hid (EX8.out.below hb9)
      have EY9 := hid (EY8.out.below hb9)
      have B9 := hid (B8.out.trans (hb9.mono B8.out.size))
      have SZ9 := hid hb9.size
      clear hz hb9 CR8
      have C1 := sameBytes_any w9 _ _ L L ES9.out.hb EU9.out.hb
      rw [decide_eq_true rfl] at C1
      have C1 := hid C1
      go_wp2_with fail
      refine C1.out.mono ?_
      rintro e w10 ⟨rfl, hd10⟩
      have D10 := hid (hd10.below w9.heap.size)
      have C2 := sameBytes_any w10 _ _ L L (ET9.out.hb.below D10.out) (EU9.out.hb.below D10.out)
      rw [decide_eq_true rfl] at C2
      have C2 := hid C2
      clear hd10 C1
      go_wp2_with fail
      refine C2.out.mono ?_
      rintro e w11 ⟨rfl, hd11⟩
      have D11 := hid (D10.out.trans ((hd11.below w10.heap.size).mono D10.out.size))
      have C3 := sameBytes_any w11 _ _ A A (EX9.out.hb.below D11.out) (EZ.out.hb.below D11.out)
      rw [decide_eq_true rfl] at C3
      have C3 := hid C3
      clear hd11 C2 D10
      go_wp2_with fail
      refine C3.out.mono ?_
      rintro e w12 ⟨rfl, hd12⟩
      have D12 := hid (D11.out.trans ((hd12.below w11.heap.size).mono D11.out.size))
      have C4 := sameBytes_any w12 _ _ A A (EY9.out.hb.below D12.out) (EZ.out.hb.below D12.out)
      rw [decide_eq_true rfl] at C4
      have C4 := hid C4
      clear hd12 C3 D11
      go_wp2_with fail
      refine C4.out.mono ?_
      rintro e w13 ⟨rfl, hd13⟩
      have D13 := hid (D12.out.trans ((hd13.below w12.heap.size).mono D12.out.size))
      clear hd13 C4 D12
      obtain ⟨ps, cs, es⟩ := own_slc ES9.out.1
      obtain ⟨pt, ct, et⟩ := own_slc ET9.out.1
      obtain ⟨px, cx, ex⟩ := own_slc EX9.out.1
      obtain ⟨py, cy, ey⟩ := own_slc EY9.out.1
      subst es et ex ey
      obtain ⟨zL, HzL⟩ : ∃ q, Hid (L.length = q) := ⟨_, rfl⟩
      obtain ⟨zA, HzA⟩ : ∃ q, Hid (A.length = q) := ⟨_, rfl⟩
      have I1 := hid fun g e => (ES.out.1.lt g e)
      have I2 := hid fun g e => (ET.out.1.lt g e)
      have I3 := hid fun g e => (EX4.out.1.lt g e)
      have I4 := hid fun g e => (EY5.out.1.lt g e)
      rw [HzL.out] at ES9 ET9 I1 I2 ⊢
      rw [HzA.out] at EX9 EY9 I3 I4 ⊢
      have bal : Below w13.heap.size w13 (w13.alloc (.cells #[.slice ps zL cs, .slice pt zL ct, .slice px zA cx, .slice py zA cy] 24)) := (Below.refl _ _).alloc (Nat.le_refl _) _
      have D14 := hid (D13.out.trans (bal.mono D13.out.size))
      have ES14 : ER w1.heap.size (w13.alloc (.cells #[.slice ps zL cs, .slice pt zL ct, .slice px zA cx, .slice py zA cy] 24)) (.slice ps zL cs) L := ES9.out.below D14.out
      have ET14 : ER w1.heap.size (w13.alloc (.cells #[.slice ps zL cs, .slice pt zL ct, .slice px zA cx, .slice py zA cy] 24)) (.slice pt zL ct) L := ⟨own_mono (ET9.out.below D14.out).1 SZ2.out, ET9.out.2⟩
      have EX14 : ER w1.heap.size (w13.alloc (.cells #[.slice ps zL cs, .slice pt zL ct, .slice px zA cx, .slice py zA cy] 24)) (.slice px zA cx) A := ⟨own_mono (EX9.out.below D14.out).1 (Nat.le_trans SZ2.out SZ3.out), EX9.out.2⟩
      have EY14 : ER w1.heap.size (w13.alloc (.cells #[.slice ps zL cs, .slice pt zL ct, .slice px zA cx, .slice py zA cy] 24)) (.slice py zA cy) A := ⟨own_mono (EY9.out.below D14.out).1 (Nat.le_trans (Nat.le_trans SZ2.out SZ3.out) SZ4.out), EY9.out.2⟩
      have APT := hid (apt4 (n1 := w1.heap.size) (n2 := w2.heap.size) (n3 := w3.heap.size) (n4 := w4.heap.size) (n5 := w5.heap.size) ES14 ET14 EX14 EY14 I1.out I2.out I3.out I4.out SZ3.out SZ4.out)
      have HVV : Hid (Go.Proofs.Ytjmpfakbophmlaa.HV (w13.alloc (.cells #[.slice ps zL cs, .slice pt zL ct, .slice px zA cx, .slice py zA cy] 24)) (.slice (some ⟨w13.heap.size, 0, none⟩) 4 4) [.slice ps zL cs, .slice pt zL ct, .slice px zA cx, .slice py zA cy]) := hid ⟨_, 4, rfl, Nat.le_refl _, by unfold maxLen; omega, fun _ => ⟨w13.heap.size, 0, rfl, ⟨_, _, World.alloc_heap_new w13 _⟩, fun q hq => by
        rw [cell_row4 _ w13.heap.size (0 + q) _ _ _ (World.alloc_heap_new w13 _)]
        match q, hq with
        | 0, _ => rfl
        | 1, _ => rfl
        | 2, _ => rfl
        | 3, _ => rfl
        | q + 4, h => simp at h; omega⟩⟩
      have BF14 := hid (B9.out.trans (D14.out.mono B9.out.size))
      have SF : Hid (w1.heap.size ≤ (w13.alloc (.cells #[.slice ps zL cs, .slice pt zL ct, .slice px zA cx, .slice py zA cy] 24)).heap.size) := hid (by have := SZ2.out; have := SZ3.out; have := SZ4.out; have := SZ5.out; have := SZ6.out; have := SZ7.out; have := SZ8.out; have := SZ9.out; have := D14.out.size; omega)
      have CAP := hid (apart_any w1.heap.size _ _ _ _ HVV.out APT.out SF.out (by simp) (fun q => by
        have h1 := LL.out
        have h2 := AL.out
        match q with
        | 0 => show L.length ≤ _; omega
        | 1 => show L.length ≤ _; omega
        | 2 => show A.length ≤ _; omega
        | 3 => show A.length ≤ _; omega
        | q + 4 => simp))
      have SW := hid (Nat.le_trans (Nat.le_of_lt Z0.out) Z1.out)
      clear bal ES14 ET14 EX14 EY14 APT HVV
      go_wp2_with fail
      refine CAP.out.mono ?_
      rintro e w15 ⟨rfl, hb15⟩
      have BFF := hid (BF14.out.trans (hb15.mono SW.out))
      clear hb15 CAP
      go_wp2
      go_ret
      exact ⟨rfl, BFF.out⟩
end Go.Proofs.Ytjmpfakbophmlaa
