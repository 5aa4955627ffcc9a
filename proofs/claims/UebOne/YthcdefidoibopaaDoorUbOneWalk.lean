/- UebOne, walked. -/
import Derived.Test.YthcdefidoibopaaDoorUbEq
import Derived.Test.YthcdefidoibopaaDoorUbSame
set_option linter.unusedSimpArgs false
set_option linter.unusedVariables false
namespace Go.Proofs.YthcdefidoibopaaDoor
open Go Go.RowKit

theorem read_ok {l : List Int} {u : Ub} {k : Nat} {ec : Int} (h : ReadQ l u k ec) (he : ec = 0) : chE u = 0 ∧ RB u ∧ packL (ubRows u) = l := by
  rcases h with ⟨_, _, h1, h2, h3⟩ | ⟨h, _⟩
  · exact ⟨h1, h2, h3⟩
  · exact absurd he h
theorem one_iff {la lb : List Int} {u v : Ub} {k j : Nat} {e f : Int} (h : ReadQ la u k e) (g : ReadQ lb v j f) (he : e = 0) (hf : f = 0) : ubE u v = decide (la = lb) := by
  obtain ⟨_, r1, p1⟩ := read_ok h he
  obtain ⟨_, r2, p2⟩ := read_ok g hf
  by_cases q : la = lb
  · rw [decide_eq_true q]
    refine (ubE_iff u v).2 (rows_inj r1 r2 (pack_inj ?_))
    rw [p1, p2, q]
  · rw [decide_eq_false q]
    cases hx : ubE u v with
    | false => rfl
    | true =>
      have := (ubE_iff u v).1 hx
      exact absurd (by rw [← p1, ← p2, this]) q
theorem ub_range {w : World} {b : Nat} {u : Ub} (h : w.heap[b]? = some (.cells (ubA u) 44 (0, 0))) : w.rangeAt b 0 (ubL u) := by
  intro j q hj
  rw [Nat.zero_add, cell_of_row _ _ _ _ _ _ h]
  unfold ubA
  rw [List.getElem?_toArray]
  exact hj
theorem size_ubL {u : Ub} (h : u.ok) : (Tryd.prog.info? 44).map (·.size) = some (ubL u).length := by rw [ubL_length h]; exact size_ueb
set_option maxRecDepth 100000 in
set_option maxHeartbeats 16000000 in
theorem uebOne_walk (wz : World) (va vb : Value) (la lb : List Int) (ha : HB wz va la) (hb : HB wz vb lb) (hk : KD wz) :
    Calls Tryd.prog 8 #[va, vb] wz fun e w' => e = .returned (.bool true) ∧ Below wz.heap.size wz w' := by
  have C0 := hid (uawake_any wz hk.kp)
  have HK := hid hk
  have HA := hid ha
  have HBB := hid hb
  have hz := zc_ueb
  have HZS : Hid (Tryd.zeroCells44.size = 68) := by refine hid ?_; rw [hz]; exact ubA_size ub0_ok
  obtain ⟨pa, ca, rfl, _, _⟩ := ha.open
  obtain ⟨pb, cb, rfl, _, _⟩ := hb.open
  obtain ⟨na, HNA⟩ : ∃ x, Hid (la.length = x) := ⟨_, rfl⟩
  obtain ⟨nb, HNB⟩ : ∃ x, Hid (lb.length = x) := ⟨_, rfl⟩
  rw [HNA.out] at HA ⊢
  rw [HNB.out] at HBB ⊢
  clear ha hb hk hz
  go_enter Tryd.func8, Tryd.ntmps8
  go_wp2_with fail
  refine C0.out.mono ?_
  rintro e w1 ⟨rfl, hb1⟩
  have B1 := hid hb1
  have C1 := hid (unpack_any w1 _ la (HA.out.below hb1) (HK.out.below hb1))
  clear hb1 C0
  go_wp2_with fail
  refine C1.out.mono ?_
  rintro e w2 ⟨rv, rs, vs, k, ec, rfl, hq, hown, hb2⟩
  have B2 := hid (B1.out.trans (hb2.mono B1.out.size))
  have HH := hid hown.held
  clear hown hb2 C1
  rcases hq with ⟨rfl, rfl, hmay, hpk⟩ | ⟨rfl, rfl, hkl, hex⟩
  · have C2 := pack_any w2 _ rs HH.out (HK.out.below B2.out).kp
    rw [show pkE rs = 0 from by unfold pkE; rw [if_pos hmay], show pkL rs = la from by unfold pkL; rw [if_pos hmay, hpk]] at C2
    have C2 := hid C2
    clear hmay hpk
    go_wp2_with fail
    refine C2.out.mono ?_
    rintro e w3 ⟨v3, rfl, hown3, hb3⟩
    have B3 := hid (B2.out.trans (hb3.mono B2.out.size))
    have C3 := sameBytes_any w3 _ _ la la (HB.of_own hown3 HA.out.2) (HA.out.below B3.out)
    rw [decide_eq_true rfl] at C3
    have C3 := hid C3
    obtain ⟨p3, c3, rfl⟩ := own_slc hown3
    clear hown3 hb3 C2
    go_wp2_with fail
    refine C3.out.mono ?_
    rintro e w3' ⟨rfl, hd3⟩
    have B3' := hid (B3.out.trans (hd3.below _))
    clear hd3 C3
    have C4 := hid (uread_any w3' _ la (HA.out.below B3'.out) (HK.out.below B3'.out))
    go_wp2_with fail
    refine C4.out.mono ?_
    rintro e w4 ⟨u, k4, e4, rfl, hu, hR4, hb4⟩
    have B4 := hid (B3'.out.trans (hb4.mono B3'.out.size))
    have HU := hid hu
    have HR4 := hid hR4
    have SU := hid (size_ub hu)
    have OU := hid (ubA_one u)
    have ZU : Hid (Tryd.zeroCells44.size = (ubA u).size) := by refine hid ?_; rw [HZS.out, ubA_size hu]
    obtain ⟨m, HM⟩ : ∃ x, Hid (ubA u = x) := ⟨_, rfl⟩
    rw [HM.out] at SU OU ZU
    rw [HM.out]
    obtain ⟨w5, HW5⟩ : ∃ x, Hid ((w4.alloc (.cells Tryd.zeroCells44 44)).setRow w4.heap.size m = x) := ⟨_, rfl⟩
    have hb5 : Below w4.heap.size w4 w5 := by rw [← HW5.out]; exact bel_setRow ((Below.refl _ w4).alloc (Nat.le_refl _) _) (Nat.le_refl _) _
    have hk5 : w5.heap[w4.heap.size]? = some (.cells m 44 (0, 0)) := by rw [← HW5.out]; exact setRow_heap _ _ _ _ _ _ (heap_alloc_new w4 _)
    have B5 := hid (B4.out.trans (hb5.mono B4.out.size))
    have HK5 := hid hk5
    have hs5 : w4.heap.size + 1 ≤ w5.heap.size := by rw [← HW5.out]; simp [World.setRow]
    have C6 := hid (uread_any w5 _ lb (HBB.out.below B5.out) (HK.out.below B5.out))
    clear hb4 hb5 hk5 hu hR4 C4
    go_wp2_with (first | (refine wpList_store_row rfl 44 _ _ rfl w4.heap.size m rfl rfl 44 _ (heap_alloc_new w4 _) SU.out ZU.out OU.out ?_) | fail)
    rw [HW5.out]
    refine C6.out.mono ?_
    rintro e w6 ⟨u2, k6, e6, rfl, hu2, hR6, hb6⟩
    have B6 := hid (B5.out.trans (hb6.mono B5.out.size))
    have HU2 := hid hu2
    have HR6 := hid hR6
    have SU2 := hid (size_ub hu2)
    have OU2 := hid (ubA_one u2)
    have ZU2 : Hid (Tryd.zeroCells44.size = (ubA u2).size) := by refine hid ?_; rw [HZS.out, ubA_size hu2]
    obtain ⟨m2, HM2⟩ : ∃ x, Hid (ubA u2 = x) := ⟨_, rfl⟩
    rw [HM2.out] at SU2 OU2 ZU2
    rw [HM2.out]
    obtain ⟨w7, HW7⟩ : ∃ x, Hid ((w6.alloc (.cells Tryd.zeroCells44 44)).setRow w6.heap.size m2 = x) := ⟨_, rfl⟩
    have hb7 : Below w6.heap.size w6 w7 := by rw [← HW7.out]; exact bel_setRow ((Below.refl _ w6).alloc (Nat.le_refl _) _) (Nat.le_refl _) _
    have hs6 := hb6.size
    have hs7 : w6.heap.size + 1 ≤ w7.heap.size := by rw [← HW7.out]; simp [World.setRow]
    have HK6 : Hid (w6.heap[w4.heap.size]? = some (.cells m 44 (0, 0))) := (hb6.block _ (by omega)).trans HK5.out
    have HK7 : Hid (w7.heap[w4.heap.size]? = some (.cells m 44 (0, 0))) := (hb7.block _ (by omega)).trans HK6.out
    have HJ7 : Hid (w7.heap[w6.heap.size]? = some (.cells m2 44 (0, 0))) := by rw [← HW7.out]; exact setRow_heap _ _ _ _ _ _ (heap_alloc_new w6 _)
    have B7 := hid (B6.out.trans (hb7.mono B6.out.size))
    clear hb6 hb7 hu2 hR6 C6
    by_cases h4 : e4 = 0
    · subst h4
      obtain ⟨q1, q2, q3⟩ := read_ok HR4.out rfl
      have C8 := write_any w7 u HU.out (HK.out.below B7.out).kp
      rw [q1, show wrL u = la from by unfold wrL; rw [if_pos q1, q3], HM.out] at C8
      have C8 := hid C8
      clear q1 q2 q3
      go_wp2_with (first | (refine wpList_store_row rfl 44 _ _ rfl w6.heap.size m2 rfl rfl 44 _ (heap_alloc_new w6 _) SU2.out ZU2.out OU2.out ?_) | (rw [HW7.out]; refine wpList_load_row rfl 44 _ rfl w4.heap.size rfl 44 m (0, 0) _ HK7.out Tryd.underlying44 rfl SU.out ?_) | fail)
      refine C8.out.mono ?_
      rintro e w8 ⟨v8, rfl, hown8, hb8⟩
      have B8 := hid (B7.out.trans (hb8.mono B7.out.size))
      have C9 := sameBytes_any w8 _ _ la la (HB.of_own hown8 HA.out.2) (HA.out.below B8.out)
      rw [decide_eq_true rfl] at C9
      have C9 := hid C9
      have HK8 : Hid (w8.heap[w4.heap.size]? = some (.cells m 44 (0, 0))) := (hb8.block _ (by omega)).trans HK7.out
      have HJ8 : Hid (w8.heap[w6.heap.size]? = some (.cells m2 44 (0, 0))) := (hb8.block _ (by omega)).trans HJ7.out
      obtain ⟨p8, c8, rfl⟩ := own_slc hown8
      clear hown8 hb8 C8
      go_wp2_with fail
      refine C9.out.mono ?_
      rintro e w9 ⟨rfl, hd9⟩
      have B9 := hid (B8.out.trans (hd9.below _))
      have HK9 : Hid (w9.heap[w4.heap.size]? = some (.cells m 44 (0, 0))) := by refine hid ?_; rw [hd9.heap]; exact HK8.out
      have HJ9 : Hid (w9.heap[w6.heap.size]? = some (.cells m2 44 (0, 0))) := by refine hid ?_; rw [hd9.heap]; exact HJ8.out
      clear hd9 C9
      go_wp2
      by_cases h6 : e6 = 0
      · subst h6
        have hone := one_iff HR4.out HR6.out rfl rfl
        have LM : Hid ((ubL u).toArray = m) := by rw [← HM.out]; exact rfl
        have LM2 : Hid ((ubL u2).toArray = m2) := by rw [← HM2.out]; exact rfl
        have R9 : Hid (w9.rangeAt w4.heap.size 0 (ubL u)) := ub_range (by rw [HM.out]; exact HK9.out)
        have Q9 : Hid (w9.rangeAt w6.heap.size 0 (ubL u2)) := ub_range (by rw [HM2.out]; exact HJ9.out)
        have HLa : Hid (w4.heap.size < w9.heap.size) := (Array.getElem?_eq_some_iff.1 HK9.out).1
        have HLb : Hid (w6.heap.size < w9.heap.size) := (Array.getElem?_eq_some_iff.1 HJ9.out).1
        have heq := fun w => run_eql_ueb w u u2 HU.out HU2.out
        rw [HM.out, HM2.out, hone] at heq
        have HEQ := hid heq
        have SL := hid (size_ubL HU.out)
        have SL2 := hid (size_ubL HU2.out)
        obtain ⟨d, Hd⟩ : ∃ x, Hid (decide (la = lb) = x) := ⟨_, rfl⟩
        rw [Hd.out] at HEQ
        clear heq hone
        refine wp_region_held_drew (S := Below w9.heap.size w9) (by kernel_rfl) (Below.refl _ _).drew (fun hHeld => ?_)
        have HS := hid hHeld
        clear hHeld
        change wpAnyH _ _ _ _ _ _ _ _ (World.drew _)
        refine wpAnyH_take (i := 0) (v := ?_) rfl (by kernel_rfl) (by kernel_rfl) (by kernel_rfl) (fun _ _ _ h => h) (Or.inl ⟨by rfl, ?q0⟩) HS.out ?_
        case q0 => intro w hSw; have hq := HEQ.out; go_simp; rfl
        simp only [Act.put, List.getElem_toArray, List.getElem_cons_zero, List.getElem_cons_succ, List.setIfInBounds_toArray, List.set_cons_zero, List.set_cons_succ]
        refine wpAnyH_take (i := 1) (v := .bool false) rfl (by kernel_rfl) (by kernel_rfl) (by kernel_rfl) (fun _ _ _ h => h) (Or.inl ⟨by rfl, ?q1⟩) HS.out ?_
        case q1 => intro w hSw; have hq := HEQ.out; go_simp
        simp only [Act.put, List.getElem_toArray, List.getElem_cons_zero, List.getElem_cons_succ, List.setIfInBounds_toArray, List.set_cons_zero, List.set_cons_succ]
        refine wpAnyH_take (i := 2) (v := ?_) rfl (by kernel_rfl) (by kernel_rfl) (by kernel_rfl) (fun _ _ _ h => h) (Or.inl ⟨by rfl, ?q2⟩) HS.out ?_
        case q2 => intro w hSw; have hq := HEQ.out; go_simp; rfl
        simp only [Act.put, List.getElem_toArray, List.getElem_cons_zero, List.getElem_cons_succ, List.setIfInBounds_toArray, List.set_cons_zero, List.set_cons_succ]
        refine wpAnyH_take (i := 3) (v := ?_) rfl (by kernel_rfl) (by kernel_rfl) (by kernel_rfl) (fun _ _ _ h => h) (Or.inl ⟨by rfl, ?q3⟩) HS.out ?_
        case q3 => intro w hSw; have hq := HEQ.out; go_simp; rfl
        simp only [Act.put, List.getElem_toArray, List.getElem_cons_zero, List.getElem_cons_succ, List.setIfInBounds_toArray, List.set_cons_zero, List.set_cons_succ]
        refine wpAnyH_take (i := 4) (v := .bool false) rfl (by kernel_rfl) (by kernel_rfl) (by kernel_rfl) (fun _ _ _ h => h) (Or.inl ⟨by rfl, ?q4⟩) HS.out ?_
        case q4 => intro w hSw; have hq := HEQ.out; go_simp
        simp only [Act.put, List.getElem_toArray, List.getElem_cons_zero, List.getElem_cons_succ, List.setIfInBounds_toArray, List.set_cons_zero, List.set_cons_succ]
        refine wpAnyH_take (i := 5) (v := .bool false) rfl (by kernel_rfl) (by kernel_rfl) (by kernel_rfl) (fun _ _ _ h => h) (Or.inl ⟨by rfl, ?q5⟩) HS.out ?_
        case q5 => intro w hSw; have hq := HEQ.out; go_simp
        simp only [Act.put, List.getElem_toArray, List.getElem_cons_zero, List.getElem_cons_succ, List.setIfInBounds_toArray, List.set_cons_zero, List.set_cons_succ]
        refine wpAnyH_take (i := 6) (v := ?_) rfl (by kernel_rfl) (by kernel_rfl) (by kernel_rfl) (fun _ _ _ h => h) (Or.inl ⟨by rfl, ?q6⟩) HS.out ?_
        case q6 => intro w hSw; have hq := HEQ.out; go_simp; rfl
        simp only [Act.put, List.getElem_toArray, List.getElem_cons_zero, List.getElem_cons_succ, List.setIfInBounds_toArray, List.set_cons_zero, List.set_cons_succ]
        refine wpAnyH_take (i := 7) rfl (by kernel_rfl) (by kernel_rfl) (by kernel_rfl) (fun _ _ _ h => h) (yieldsIf_load_mid (by rfl) 44 _ rfl w4.heap.size 0 rfl (ubL u) _ (fun W hW => range_below2 R9.out hW HLa.out) Tryd.underlying44 rfl SL.out) HS.out ?_
        simp only [Act.put, List.getElem_toArray, List.getElem_cons_zero, List.getElem_cons_succ, List.setIfInBounds_toArray, List.set_cons_zero, List.set_cons_succ]
        rw [LM.out]
        refine wpAnyH_take (i := 8) rfl (by kernel_rfl) (by kernel_rfl) (by kernel_rfl) (fun _ _ _ h => h) (yieldsIf_load_mid (by rfl) 44 _ rfl w6.heap.size 0 rfl (ubL u2) _ (fun W hW => range_below2 Q9.out hW HLb.out) Tryd.underlying44 rfl SL2.out) HS.out ?_
        simp only [Act.put, List.getElem_toArray, List.getElem_cons_zero, List.getElem_cons_succ, List.setIfInBounds_toArray, List.set_cons_zero, List.set_cons_succ]
        rw [LM2.out]
        refine wpAnyH_take (i := 9) (v := .bool d) rfl (by kernel_rfl) (by kernel_rfl) (by kernel_rfl) (fun _ _ _ h => h) (Or.inl ⟨by rfl, ?q9⟩) HS.out ?_
        case q9 => intro w hSw; have hq := HEQ.out; go_simp
        simp only [Act.put, List.getElem_toArray, List.getElem_cons_zero, List.getElem_cons_succ, List.setIfInBounds_toArray, List.set_cons_zero, List.set_cons_succ]
        refine wpAnyH_take (i := 10) (v := ?_) rfl (by kernel_rfl) (by kernel_rfl) (by kernel_rfl) (fun _ _ _ h => h) (Or.inl ⟨by rfl, ?q10⟩) HS.out ?_
        case q10 => intro w hSw; have hq := HEQ.out; go_simp; rfl
        simp only [Act.put, List.getElem_toArray, List.getElem_cons_zero, List.getElem_cons_succ, List.setIfInBounds_toArray, List.set_cons_zero, List.set_cons_succ]
        refine wpAnyH_take (i := 11) (v := ?_) rfl (by kernel_rfl) (by kernel_rfl) (by kernel_rfl) (fun _ _ _ h => h) (Or.inl ⟨by rfl, ?q11⟩) HS.out ?_
        case q11 => intro w hSw; have hq := HEQ.out; go_simp; rfl
        simp only [Act.put, List.getElem_toArray, List.getElem_cons_zero, List.getElem_cons_succ, List.setIfInBounds_toArray, List.set_cons_zero, List.set_cons_succ]
        refine wpAnyH_ready (rs := [12]) (by kernel_rfl) (by simp) ?_
        refine AllReadyH.cons rfl (fun K hK => ?_) AllReadyH.nil
        go_simp
        refine (sameBytes_any _ _ _ la lb (HA.out.below (B9.out.trans (HS.out.mono B9.out.size))) (HBB.out.below (B9.out.trans (HS.out.mono B9.out.size)))).mono ?_
        rintro e v9 ⟨rfl, hd10⟩
        rw [Hd.out]
        have HS := hid (HS.out.trans (hd10.below _))
        clear hd10
        refine hK.out _ _ HS.out (fun _ => ?_)
        clear hK K
        refine wpAnyH_take (i := 13) (v := .bool true) rfl (by kernel_rfl) (by kernel_rfl) (by kernel_rfl) (fun _ _ _ h => h) (Or.inl ⟨by rfl, ?q13⟩) HS.out ?_
        case q13 => intro w hSw; have hq := HEQ.out; go_simp
        simp only [Act.put, List.getElem_toArray, List.getElem_cons_zero, List.getElem_cons_succ, List.setIfInBounds_toArray, List.set_cons_zero, List.set_cons_succ]
        refine wpAnyH_take (i := 14) (v := .bool true) rfl (by kernel_rfl) (by kernel_rfl) (by kernel_rfl) (fun _ _ _ h => h) (Or.inl ⟨by rfl, ?q14⟩) HS.out ?_
        case q14 => intro w hSw; have hq := HEQ.out; go_simp
        simp only [Act.put, List.getElem_toArray, List.getElem_cons_zero, List.getElem_cons_succ, List.setIfInBounds_toArray, List.set_cons_zero, List.set_cons_succ]
        refine wpAnyH_take (i := 15) (v := ?_) rfl (by kernel_rfl) (by kernel_rfl) (by kernel_rfl) (fun _ _ _ h => h) (Or.inl ⟨by rfl, ?q15⟩) HS.out ?_
        case q15 => intro w hSw; have hq := HEQ.out; go_simp; rfl
        simp only [Act.put, List.getElem_toArray, List.getElem_cons_zero, List.getElem_cons_succ, List.setIfInBounds_toArray, List.set_cons_zero, List.set_cons_succ]
        refine wpAnyH_done (by kernel_rfl) ?_ _
        have BF := hid (B9.out.trans (HS.out.mono B9.out.size))
        go_wp2
        go_ret
        exact ⟨rfl, BF.out⟩
      · have hq6 : (e6 != 0) = true := by rw [bne_iff_ne]; exact h6
        have HQ6 := hid hq6
        clear h6 hq6
        refine wp_region_held_drew (S := Below w9.heap.size w9) (by kernel_rfl) (Below.refl _ _).drew (fun hHeld => ?_)
        have HS := hid hHeld
        clear hHeld
        change wpAnyH _ _ _ _ _ _ _ _ (World.drew _)
        refine wpAnyH_take (i := 0) (v := ?_) rfl (by kernel_rfl) (by kernel_rfl) (by kernel_rfl) (fun _ _ _ h => h) (Or.inl ⟨by rfl, ?q0⟩) HS.out ?_
        case q0 => intro w hSw; have hq := HQ6.out; go_simp; rfl
        simp only [Act.put, List.getElem_toArray, List.getElem_cons_zero, List.getElem_cons_succ, List.setIfInBounds_toArray, List.set_cons_zero, List.set_cons_succ]
        refine wpAnyH_take (i := 1) (v := .bool false) rfl (by kernel_rfl) (by kernel_rfl) (by kernel_rfl) (fun _ _ _ h => h) (Or.inl ⟨by rfl, ?q1⟩) HS.out ?_
        case q1 => intro w hSw; have hq := HQ6.out; go_simp
        simp only [Act.put, List.getElem_toArray, List.getElem_cons_zero, List.getElem_cons_succ, List.setIfInBounds_toArray, List.set_cons_zero, List.set_cons_succ]
        refine wpAnyH_take (i := 2) (v := ?_) rfl (by kernel_rfl) (by kernel_rfl) (by kernel_rfl) (fun _ _ _ h => h) (Or.inl ⟨by rfl, ?q2⟩) HS.out ?_
        case q2 => intro w hSw; have hq := HQ6.out; go_simp; rfl
        simp only [Act.put, List.getElem_toArray, List.getElem_cons_zero, List.getElem_cons_succ, List.setIfInBounds_toArray, List.set_cons_zero, List.set_cons_succ]
        refine wpAnyH_take (i := 3) (v := ?_) rfl (by kernel_rfl) (by kernel_rfl) (by kernel_rfl) (fun _ _ _ h => h) (Or.inl ⟨by rfl, ?q3⟩) HS.out ?_
        case q3 => intro w hSw; have hq := HQ6.out; go_simp; rfl
        simp only [Act.put, List.getElem_toArray, List.getElem_cons_zero, List.getElem_cons_succ, List.setIfInBounds_toArray, List.set_cons_zero, List.set_cons_succ]
        refine wpAnyH_take (i := 4) (v := .bool true) rfl (by kernel_rfl) (by kernel_rfl) (by kernel_rfl) (fun _ _ _ h => h) (Or.inl ⟨by rfl, ?q4⟩) HS.out ?_
        case q4 => intro w hSw; have hq := HQ6.out; go_simp
        simp only [Act.put, List.getElem_toArray, List.getElem_cons_zero, List.getElem_cons_succ, List.setIfInBounds_toArray, List.set_cons_zero, List.set_cons_succ]
        refine wpAnyH_take (i := 5) (v := .bool true) rfl (by kernel_rfl) (by kernel_rfl) (by kernel_rfl) (fun _ _ _ h => h) (Or.inl ⟨by rfl, ?q5⟩) HS.out ?_
        case q5 => intro w hSw; have hq := HQ6.out; go_simp
        simp only [Act.put, List.getElem_toArray, List.getElem_cons_zero, List.getElem_cons_succ, List.setIfInBounds_toArray, List.set_cons_zero, List.set_cons_succ]
        refine wpAnyH_take (i := 6) (v := ?_) rfl (by kernel_rfl) (by kernel_rfl) (by kernel_rfl) (fun _ _ _ h => h) (Or.inl ⟨by rfl, ?q6⟩) HS.out ?_
        case q6 => intro w hSw; have hq := HQ6.out; go_simp; rfl
        simp only [Act.put, List.getElem_toArray, List.getElem_cons_zero, List.getElem_cons_succ, List.setIfInBounds_toArray, List.set_cons_zero, List.set_cons_succ]
        refine wpAnyH_take (i := 7) (v := undef) rfl (by kernel_rfl) (by kernel_rfl) (by kernel_rfl) (fun _ _ _ h => h) (Or.inr ⟨by rfl, rfl⟩) HS.out ?_
        simp only [Act.put, List.getElem_toArray, List.getElem_cons_zero, List.getElem_cons_succ, List.setIfInBounds_toArray, List.set_cons_zero, List.set_cons_succ]
        refine wpAnyH_take (i := 8) (v := undef) rfl (by kernel_rfl) (by kernel_rfl) (by kernel_rfl) (fun _ _ _ h => h) (Or.inr ⟨by rfl, rfl⟩) HS.out ?_
        simp only [Act.put, List.getElem_toArray, List.getElem_cons_zero, List.getElem_cons_succ, List.setIfInBounds_toArray, List.set_cons_zero, List.set_cons_succ]
        refine wpAnyH_take (i := 9) (v := undef) rfl (by kernel_rfl) (by kernel_rfl) (by kernel_rfl) (fun _ _ _ h => h) (Or.inr ⟨by rfl, rfl⟩) HS.out ?_
        simp only [Act.put, List.getElem_toArray, List.getElem_cons_zero, List.getElem_cons_succ, List.setIfInBounds_toArray, List.set_cons_zero, List.set_cons_succ]
        refine wpAnyH_take (i := 10) (v := undef) rfl (by kernel_rfl) (by kernel_rfl) (by kernel_rfl) (fun _ _ _ h => h) (Or.inr ⟨by rfl, rfl⟩) HS.out ?_
        simp only [Act.put, List.getElem_toArray, List.getElem_cons_zero, List.getElem_cons_succ, List.setIfInBounds_toArray, List.set_cons_zero, List.set_cons_succ]
        refine wpAnyH_take (i := 11) (v := undef) rfl (by kernel_rfl) (by kernel_rfl) (by kernel_rfl) (fun _ _ _ h => h) (Or.inr ⟨by rfl, rfl⟩) HS.out ?_
        simp only [Act.put, List.getElem_toArray, List.getElem_cons_zero, List.getElem_cons_succ, List.setIfInBounds_toArray, List.set_cons_zero, List.set_cons_succ]
        refine wpAnyH_take (i := 12) (v := undef) rfl (by kernel_rfl) (by kernel_rfl) (by kernel_rfl) (fun _ _ _ h => h) (Or.inr ⟨by rfl, rfl⟩) HS.out ?_
        simp only [Act.put, List.getElem_toArray, List.getElem_cons_zero, List.getElem_cons_succ, List.setIfInBounds_toArray, List.set_cons_zero, List.set_cons_succ]
        refine wpAnyH_take (i := 13) (v := undef) rfl (by kernel_rfl) (by kernel_rfl) (by kernel_rfl) (fun _ _ _ h => h) (Or.inr ⟨by rfl, rfl⟩) HS.out ?_
        simp only [Act.put, List.getElem_toArray, List.getElem_cons_zero, List.getElem_cons_succ, List.setIfInBounds_toArray, List.set_cons_zero, List.set_cons_succ]
        refine wpAnyH_take (i := 14) (v := .bool true) rfl (by kernel_rfl) (by kernel_rfl) (by kernel_rfl) (fun _ _ _ h => h) (Or.inl ⟨by rfl, ?q14⟩) HS.out ?_
        case q14 => intro w hSw; have hq := HQ6.out; go_simp
        simp only [Act.put, List.getElem_toArray, List.getElem_cons_zero, List.getElem_cons_succ, List.setIfInBounds_toArray, List.set_cons_zero, List.set_cons_succ]
        refine wpAnyH_take (i := 15) (v := ?_) rfl (by kernel_rfl) (by kernel_rfl) (by kernel_rfl) (fun _ _ _ h => h) (Or.inl ⟨by rfl, ?q15⟩) HS.out ?_
        case q15 => intro w hSw; have hq := HQ6.out; go_simp; rfl
        simp only [Act.put, List.getElem_toArray, List.getElem_cons_zero, List.getElem_cons_succ, List.setIfInBounds_toArray, List.set_cons_zero, List.set_cons_succ]
        refine wpAnyH_done (by kernel_rfl) ?_ _
        have BF := hid (B9.out.trans (HS.out.mono B9.out.size))
        go_wp2
        go_ret
        exact ⟨rfl, BF.out⟩
    · have hq4 : (e4 != 0) = true := by rw [bne_iff_ne]; exact h4
      have hq4' : (e4 == 0) = false := by rw [beq_eq_false_iff_ne]; exact h4
      have HQ4 := hid hq4
      clear h4 hq4
      go_wp2_with (first | (refine wpList_store_row rfl 44 _ _ rfl w6.heap.size m2 rfl rfl 44 _ (heap_alloc_new w6 _) SU2.out ZU2.out OU2.out ?_) | fail)
      rw [HW7.out]
      refine wp_region_held_drew (S := Below w7.heap.size w7) (by kernel_rfl) (Below.refl _ _).drew (fun hHeld => ?_)
      have HS := hid hHeld
      clear hHeld
      change wpAnyH _ _ _ _ _ _ _ _ (World.drew _)
      refine wpAnyH_take (i := 0) (v := ?_) rfl (by kernel_rfl) (by kernel_rfl) (by kernel_rfl) (fun _ _ _ h => h) (Or.inl ⟨by rfl, ?q0⟩) HS.out ?_
      case q0 => intro w hSw; have hq := HQ4.out; go_simp; rfl
      simp only [Act.put, List.getElem_toArray, List.getElem_cons_zero, List.getElem_cons_succ, List.setIfInBounds_toArray, List.set_cons_zero, List.set_cons_succ]
      refine wpAnyH_take (i := 1) (v := .bool true) rfl (by kernel_rfl) (by kernel_rfl) (by kernel_rfl) (fun _ _ _ h => h) (Or.inl ⟨by rfl, ?q1⟩) HS.out ?_
      case q1 => intro w hSw; have hq := HQ4.out; go_simp
      simp only [Act.put, List.getElem_toArray, List.getElem_cons_zero, List.getElem_cons_succ, List.setIfInBounds_toArray, List.set_cons_zero, List.set_cons_succ]
      refine wpAnyH_take (i := 2) (v := ?_) rfl (by kernel_rfl) (by kernel_rfl) (by kernel_rfl) (fun _ _ _ h => h) (Or.inl ⟨by rfl, ?q2⟩) HS.out ?_
      case q2 => intro w hSw; have hq := HQ4.out; go_simp; rfl
      simp only [Act.put, List.getElem_toArray, List.getElem_cons_zero, List.getElem_cons_succ, List.setIfInBounds_toArray, List.set_cons_zero, List.set_cons_succ]
      refine wpAnyH_take (i := 3) (v := undef) rfl (by kernel_rfl) (by kernel_rfl) (by kernel_rfl) (fun _ _ _ h => h) (Or.inr ⟨by rfl, rfl⟩) HS.out ?_
      simp only [Act.put, List.getElem_toArray, List.getElem_cons_zero, List.getElem_cons_succ, List.setIfInBounds_toArray, List.set_cons_zero, List.set_cons_succ]
      refine wpAnyH_take (i := 4) (v := undef) rfl (by kernel_rfl) (by kernel_rfl) (by kernel_rfl) (fun _ _ _ h => h) (Or.inr ⟨by rfl, rfl⟩) HS.out ?_
      simp only [Act.put, List.getElem_toArray, List.getElem_cons_zero, List.getElem_cons_succ, List.setIfInBounds_toArray, List.set_cons_zero, List.set_cons_succ]
      refine wpAnyH_take (i := 5) (v := .bool true) rfl (by kernel_rfl) (by kernel_rfl) (by kernel_rfl) (fun _ _ _ h => h) (Or.inl ⟨by rfl, ?q5⟩) HS.out ?_
      case q5 => intro w hSw; have hq := HQ4.out; go_simp
      simp only [Act.put, List.getElem_toArray, List.getElem_cons_zero, List.getElem_cons_succ, List.setIfInBounds_toArray, List.set_cons_zero, List.set_cons_succ]
      refine wpAnyH_take (i := 6) (v := ?_) rfl (by kernel_rfl) (by kernel_rfl) (by kernel_rfl) (fun _ _ _ h => h) (Or.inl ⟨by rfl, ?q6⟩) HS.out ?_
      case q6 => intro w hSw; have hq := HQ4.out; go_simp; rfl
      simp only [Act.put, List.getElem_toArray, List.getElem_cons_zero, List.getElem_cons_succ, List.setIfInBounds_toArray, List.set_cons_zero, List.set_cons_succ]
      refine wpAnyH_take (i := 7) (v := undef) rfl (by kernel_rfl) (by kernel_rfl) (by kernel_rfl) (fun _ _ _ h => h) (Or.inr ⟨by rfl, rfl⟩) HS.out ?_
      simp only [Act.put, List.getElem_toArray, List.getElem_cons_zero, List.getElem_cons_succ, List.setIfInBounds_toArray, List.set_cons_zero, List.set_cons_succ]
      refine wpAnyH_take (i := 8) (v := undef) rfl (by kernel_rfl) (by kernel_rfl) (by kernel_rfl) (fun _ _ _ h => h) (Or.inr ⟨by rfl, rfl⟩) HS.out ?_
      simp only [Act.put, List.getElem_toArray, List.getElem_cons_zero, List.getElem_cons_succ, List.setIfInBounds_toArray, List.set_cons_zero, List.set_cons_succ]
      refine wpAnyH_take (i := 9) (v := undef) rfl (by kernel_rfl) (by kernel_rfl) (by kernel_rfl) (fun _ _ _ h => h) (Or.inr ⟨by rfl, rfl⟩) HS.out ?_
      simp only [Act.put, List.getElem_toArray, List.getElem_cons_zero, List.getElem_cons_succ, List.setIfInBounds_toArray, List.set_cons_zero, List.set_cons_succ]
      refine wpAnyH_take (i := 10) (v := undef) rfl (by kernel_rfl) (by kernel_rfl) (by kernel_rfl) (fun _ _ _ h => h) (Or.inr ⟨by rfl, rfl⟩) HS.out ?_
      simp only [Act.put, List.getElem_toArray, List.getElem_cons_zero, List.getElem_cons_succ, List.setIfInBounds_toArray, List.set_cons_zero, List.set_cons_succ]
      refine wpAnyH_take (i := 11) (v := undef) rfl (by kernel_rfl) (by kernel_rfl) (by kernel_rfl) (fun _ _ _ h => h) (Or.inr ⟨by rfl, rfl⟩) HS.out ?_
      simp only [Act.put, List.getElem_toArray, List.getElem_cons_zero, List.getElem_cons_succ, List.setIfInBounds_toArray, List.set_cons_zero, List.set_cons_succ]
      refine wpAnyH_take (i := 12) (v := undef) rfl (by kernel_rfl) (by kernel_rfl) (by kernel_rfl) (fun _ _ _ h => h) (Or.inr ⟨by rfl, rfl⟩) HS.out ?_
      simp only [Act.put, List.getElem_toArray, List.getElem_cons_zero, List.getElem_cons_succ, List.setIfInBounds_toArray, List.set_cons_zero, List.set_cons_succ]
      refine wpAnyH_take (i := 13) (v := undef) rfl (by kernel_rfl) (by kernel_rfl) (by kernel_rfl) (fun _ _ _ h => h) (Or.inr ⟨by rfl, rfl⟩) HS.out ?_
      simp only [Act.put, List.getElem_toArray, List.getElem_cons_zero, List.getElem_cons_succ, List.setIfInBounds_toArray, List.set_cons_zero, List.set_cons_succ]
      refine wpAnyH_take (i := 14) (v := .bool true) rfl (by kernel_rfl) (by kernel_rfl) (by kernel_rfl) (fun _ _ _ h => h) (Or.inl ⟨by rfl, ?q14⟩) HS.out ?_
      case q14 => intro w hSw; have hq := HQ4.out; go_simp
      simp only [Act.put, List.getElem_toArray, List.getElem_cons_zero, List.getElem_cons_succ, List.setIfInBounds_toArray, List.set_cons_zero, List.set_cons_succ]
      refine wpAnyH_take (i := 15) (v := ?_) rfl (by kernel_rfl) (by kernel_rfl) (by kernel_rfl) (fun _ _ _ h => h) (Or.inl ⟨by rfl, ?q15⟩) HS.out ?_
      case q15 => intro w hSw; have hq := HQ4.out; go_simp; rfl
      simp only [Act.put, List.getElem_toArray, List.getElem_cons_zero, List.getElem_cons_succ, List.setIfInBounds_toArray, List.set_cons_zero, List.set_cons_succ]
      refine wpAnyH_done (by kernel_rfl) ?_ _
      have BF := hid (B7.out.trans (HS.out.mono B7.out.size))
      go_wp2
      go_ret
      exact ⟨rfl, BF.out⟩
  · clear hkl hex
    have C4 := hid (uread_any w2 _ la (HA.out.below B2.out) (HK.out.below B2.out))
    go_wp2_with fail
    refine C4.out.mono ?_
    rintro e w4 ⟨u, k4, e4, rfl, hu, hR4, hb4⟩
    have B4 := hid (B2.out.trans (hb4.mono B2.out.size))
    have HU := hid hu
    have HR4 := hid hR4
    have SU := hid (size_ub hu)
    have OU := hid (ubA_one u)
    have ZU : Hid (Tryd.zeroCells44.size = (ubA u).size) := by refine hid ?_; rw [HZS.out, ubA_size hu]
    obtain ⟨m, HM⟩ : ∃ x, Hid (ubA u = x) := ⟨_, rfl⟩
    rw [HM.out] at SU OU ZU
    rw [HM.out]
    obtain ⟨w5, HW5⟩ : ∃ x, Hid ((w4.alloc (.cells Tryd.zeroCells44 44)).setRow w4.heap.size m = x) := ⟨_, rfl⟩
    have hb5 : Below w4.heap.size w4 w5 := by rw [← HW5.out]; exact bel_setRow ((Below.refl _ w4).alloc (Nat.le_refl _) _) (Nat.le_refl _) _
    have hk5 : w5.heap[w4.heap.size]? = some (.cells m 44 (0, 0)) := by rw [← HW5.out]; exact setRow_heap _ _ _ _ _ _ (heap_alloc_new w4 _)
    have B5 := hid (B4.out.trans (hb5.mono B4.out.size))
    have HK5 := hid hk5
    have hs5 : w4.heap.size + 1 ≤ w5.heap.size := by rw [← HW5.out]; simp [World.setRow]
    have C6 := hid (uread_any w5 _ lb (HBB.out.below B5.out) (HK.out.below B5.out))
    clear hb4 hb5 hk5 hu hR4 C4
    go_wp2_with (first | (refine wpList_store_row rfl 44 _ _ rfl w4.heap.size m rfl rfl 44 _ (heap_alloc_new w4 _) SU.out ZU.out OU.out ?_) | fail)
    rw [HW5.out]
    refine C6.out.mono ?_
    rintro e w6 ⟨u2, k6, e6, rfl, hu2, hR6, hb6⟩
    have B6 := hid (B5.out.trans (hb6.mono B5.out.size))
    have HU2 := hid hu2
    have HR6 := hid hR6
    have SU2 := hid (size_ub hu2)
    have OU2 := hid (ubA_one u2)
    have ZU2 : Hid (Tryd.zeroCells44.size = (ubA u2).size) := by refine hid ?_; rw [HZS.out, ubA_size hu2]
    obtain ⟨m2, HM2⟩ : ∃ x, Hid (ubA u2 = x) := ⟨_, rfl⟩
    rw [HM2.out] at SU2 OU2 ZU2
    rw [HM2.out]
    obtain ⟨w7, HW7⟩ : ∃ x, Hid ((w6.alloc (.cells Tryd.zeroCells44 44)).setRow w6.heap.size m2 = x) := ⟨_, rfl⟩
    have hb7 : Below w6.heap.size w6 w7 := by rw [← HW7.out]; exact bel_setRow ((Below.refl _ w6).alloc (Nat.le_refl _) _) (Nat.le_refl _) _
    have hs6 := hb6.size
    have hs7 : w6.heap.size + 1 ≤ w7.heap.size := by rw [← HW7.out]; simp [World.setRow]
    have HK6 : Hid (w6.heap[w4.heap.size]? = some (.cells m 44 (0, 0))) := (hb6.block _ (by omega)).trans HK5.out
    have HK7 : Hid (w7.heap[w4.heap.size]? = some (.cells m 44 (0, 0))) := (hb7.block _ (by omega)).trans HK6.out
    have HJ7 : Hid (w7.heap[w6.heap.size]? = some (.cells m2 44 (0, 0))) := by rw [← HW7.out]; exact setRow_heap _ _ _ _ _ _ (heap_alloc_new w6 _)
    have B7 := hid (B6.out.trans (hb7.mono B6.out.size))
    clear hb6 hb7 hu2 hR6 C6
    by_cases h4 : e4 = 0
    · subst h4
      obtain ⟨q1, q2, q3⟩ := read_ok HR4.out rfl
      have C8 := write_any w7 u HU.out (HK.out.below B7.out).kp
      rw [q1, show wrL u = la from by unfold wrL; rw [if_pos q1, q3], HM.out] at C8
      have C8 := hid C8
      clear q1 q2 q3
      go_wp2_with (first | (refine wpList_store_row rfl 44 _ _ rfl w6.heap.size m2 rfl rfl 44 _ (heap_alloc_new w6 _) SU2.out ZU2.out OU2.out ?_) | (rw [HW7.out]; refine wpList_load_row rfl 44 _ rfl w4.heap.size rfl 44 m (0, 0) _ HK7.out Tryd.underlying44 rfl SU.out ?_) | fail)
      refine C8.out.mono ?_
      rintro e w8 ⟨v8, rfl, hown8, hb8⟩
      have B8 := hid (B7.out.trans (hb8.mono B7.out.size))
      have C9 := sameBytes_any w8 _ _ la la (HB.of_own hown8 HA.out.2) (HA.out.below B8.out)
      rw [decide_eq_true rfl] at C9
      have C9 := hid C9
      have HK8 : Hid (w8.heap[w4.heap.size]? = some (.cells m 44 (0, 0))) := (hb8.block _ (by omega)).trans HK7.out
      have HJ8 : Hid (w8.heap[w6.heap.size]? = some (.cells m2 44 (0, 0))) := (hb8.block _ (by omega)).trans HJ7.out
      obtain ⟨p8, c8, rfl⟩ := own_slc hown8
      clear hown8 hb8 C8
      go_wp2_with fail
      refine C9.out.mono ?_
      rintro e w9 ⟨rfl, hd9⟩
      have B9 := hid (B8.out.trans (hd9.below _))
      have HK9 : Hid (w9.heap[w4.heap.size]? = some (.cells m 44 (0, 0))) := by refine hid ?_; rw [hd9.heap]; exact HK8.out
      have HJ9 : Hid (w9.heap[w6.heap.size]? = some (.cells m2 44 (0, 0))) := by refine hid ?_; rw [hd9.heap]; exact HJ8.out
      clear hd9 C9
      go_wp2
      by_cases h6 : e6 = 0
      · subst h6
        have hone := one_iff HR4.out HR6.out rfl rfl
        have LM : Hid ((ubL u).toArray = m) := by rw [← HM.out]; exact rfl
        have LM2 : Hid ((ubL u2).toArray = m2) := by rw [← HM2.out]; exact rfl
        have R9 : Hid (w9.rangeAt w4.heap.size 0 (ubL u)) := ub_range (by rw [HM.out]; exact HK9.out)
        have Q9 : Hid (w9.rangeAt w6.heap.size 0 (ubL u2)) := ub_range (by rw [HM2.out]; exact HJ9.out)
        have HLa : Hid (w4.heap.size < w9.heap.size) := (Array.getElem?_eq_some_iff.1 HK9.out).1
        have HLb : Hid (w6.heap.size < w9.heap.size) := (Array.getElem?_eq_some_iff.1 HJ9.out).1
        have heq := fun w => run_eql_ueb w u u2 HU.out HU2.out
        rw [HM.out, HM2.out, hone] at heq
        have HEQ := hid heq
        have SL := hid (size_ubL HU.out)
        have SL2 := hid (size_ubL HU2.out)
        obtain ⟨d, Hd⟩ : ∃ x, Hid (decide (la = lb) = x) := ⟨_, rfl⟩
        rw [Hd.out] at HEQ
        clear heq hone
        refine wp_region_held_drew (S := Below w9.heap.size w9) (by kernel_rfl) (Below.refl _ _).drew (fun hHeld => ?_)
        have HS := hid hHeld
        clear hHeld
        change wpAnyH _ _ _ _ _ _ _ _ (World.drew _)
        refine wpAnyH_take (i := 0) (v := ?_) rfl (by kernel_rfl) (by kernel_rfl) (by kernel_rfl) (fun _ _ _ h => h) (Or.inl ⟨by rfl, ?q0⟩) HS.out ?_
        case q0 => intro w hSw; have hq := HEQ.out; go_simp; rfl
        simp only [Act.put, List.getElem_toArray, List.getElem_cons_zero, List.getElem_cons_succ, List.setIfInBounds_toArray, List.set_cons_zero, List.set_cons_succ]
        refine wpAnyH_take (i := 1) (v := .bool false) rfl (by kernel_rfl) (by kernel_rfl) (by kernel_rfl) (fun _ _ _ h => h) (Or.inl ⟨by rfl, ?q1⟩) HS.out ?_
        case q1 => intro w hSw; have hq := HEQ.out; go_simp
        simp only [Act.put, List.getElem_toArray, List.getElem_cons_zero, List.getElem_cons_succ, List.setIfInBounds_toArray, List.set_cons_zero, List.set_cons_succ]
        refine wpAnyH_take (i := 2) (v := ?_) rfl (by kernel_rfl) (by kernel_rfl) (by kernel_rfl) (fun _ _ _ h => h) (Or.inl ⟨by rfl, ?q2⟩) HS.out ?_
        case q2 => intro w hSw; have hq := HEQ.out; go_simp; rfl
        simp only [Act.put, List.getElem_toArray, List.getElem_cons_zero, List.getElem_cons_succ, List.setIfInBounds_toArray, List.set_cons_zero, List.set_cons_succ]
        refine wpAnyH_take (i := 3) (v := ?_) rfl (by kernel_rfl) (by kernel_rfl) (by kernel_rfl) (fun _ _ _ h => h) (Or.inl ⟨by rfl, ?q3⟩) HS.out ?_
        case q3 => intro w hSw; have hq := HEQ.out; go_simp; rfl
        simp only [Act.put, List.getElem_toArray, List.getElem_cons_zero, List.getElem_cons_succ, List.setIfInBounds_toArray, List.set_cons_zero, List.set_cons_succ]
        refine wpAnyH_take (i := 4) (v := .bool false) rfl (by kernel_rfl) (by kernel_rfl) (by kernel_rfl) (fun _ _ _ h => h) (Or.inl ⟨by rfl, ?q4⟩) HS.out ?_
        case q4 => intro w hSw; have hq := HEQ.out; go_simp
        simp only [Act.put, List.getElem_toArray, List.getElem_cons_zero, List.getElem_cons_succ, List.setIfInBounds_toArray, List.set_cons_zero, List.set_cons_succ]
        refine wpAnyH_take (i := 5) (v := .bool false) rfl (by kernel_rfl) (by kernel_rfl) (by kernel_rfl) (fun _ _ _ h => h) (Or.inl ⟨by rfl, ?q5⟩) HS.out ?_
        case q5 => intro w hSw; have hq := HEQ.out; go_simp
        simp only [Act.put, List.getElem_toArray, List.getElem_cons_zero, List.getElem_cons_succ, List.setIfInBounds_toArray, List.set_cons_zero, List.set_cons_succ]
        refine wpAnyH_take (i := 6) (v := ?_) rfl (by kernel_rfl) (by kernel_rfl) (by kernel_rfl) (fun _ _ _ h => h) (Or.inl ⟨by rfl, ?q6⟩) HS.out ?_
        case q6 => intro w hSw; have hq := HEQ.out; go_simp; rfl
        simp only [Act.put, List.getElem_toArray, List.getElem_cons_zero, List.getElem_cons_succ, List.setIfInBounds_toArray, List.set_cons_zero, List.set_cons_succ]
        refine wpAnyH_take (i := 7) rfl (by kernel_rfl) (by kernel_rfl) (by kernel_rfl) (fun _ _ _ h => h) (yieldsIf_load_mid (by rfl) 44 _ rfl w4.heap.size 0 rfl (ubL u) _ (fun W hW => range_below2 R9.out hW HLa.out) Tryd.underlying44 rfl SL.out) HS.out ?_
        simp only [Act.put, List.getElem_toArray, List.getElem_cons_zero, List.getElem_cons_succ, List.setIfInBounds_toArray, List.set_cons_zero, List.set_cons_succ]
        rw [LM.out]
        refine wpAnyH_take (i := 8) rfl (by kernel_rfl) (by kernel_rfl) (by kernel_rfl) (fun _ _ _ h => h) (yieldsIf_load_mid (by rfl) 44 _ rfl w6.heap.size 0 rfl (ubL u2) _ (fun W hW => range_below2 Q9.out hW HLb.out) Tryd.underlying44 rfl SL2.out) HS.out ?_
        simp only [Act.put, List.getElem_toArray, List.getElem_cons_zero, List.getElem_cons_succ, List.setIfInBounds_toArray, List.set_cons_zero, List.set_cons_succ]
        rw [LM2.out]
        refine wpAnyH_take (i := 9) (v := .bool d) rfl (by kernel_rfl) (by kernel_rfl) (by kernel_rfl) (fun _ _ _ h => h) (Or.inl ⟨by rfl, ?q9⟩) HS.out ?_
        case q9 => intro w hSw; have hq := HEQ.out; go_simp
        simp only [Act.put, List.getElem_toArray, List.getElem_cons_zero, List.getElem_cons_succ, List.setIfInBounds_toArray, List.set_cons_zero, List.set_cons_succ]
        refine wpAnyH_take (i := 10) (v := ?_) rfl (by kernel_rfl) (by kernel_rfl) (by kernel_rfl) (fun _ _ _ h => h) (Or.inl ⟨by rfl, ?q10⟩) HS.out ?_
        case q10 => intro w hSw; have hq := HEQ.out; go_simp; rfl
        simp only [Act.put, List.getElem_toArray, List.getElem_cons_zero, List.getElem_cons_succ, List.setIfInBounds_toArray, List.set_cons_zero, List.set_cons_succ]
        refine wpAnyH_take (i := 11) (v := ?_) rfl (by kernel_rfl) (by kernel_rfl) (by kernel_rfl) (fun _ _ _ h => h) (Or.inl ⟨by rfl, ?q11⟩) HS.out ?_
        case q11 => intro w hSw; have hq := HEQ.out; go_simp; rfl
        simp only [Act.put, List.getElem_toArray, List.getElem_cons_zero, List.getElem_cons_succ, List.setIfInBounds_toArray, List.set_cons_zero, List.set_cons_succ]
        refine wpAnyH_ready (rs := [12]) (by kernel_rfl) (by simp) ?_
        refine AllReadyH.cons rfl (fun K hK => ?_) AllReadyH.nil
        go_simp
        refine (sameBytes_any _ _ _ la lb (HA.out.below (B9.out.trans (HS.out.mono B9.out.size))) (HBB.out.below (B9.out.trans (HS.out.mono B9.out.size)))).mono ?_
        rintro e v9 ⟨rfl, hd10⟩
        rw [Hd.out]
        have HS := hid (HS.out.trans (hd10.below _))
        clear hd10
        refine hK.out _ _ HS.out (fun _ => ?_)
        clear hK K
        refine wpAnyH_take (i := 13) (v := .bool true) rfl (by kernel_rfl) (by kernel_rfl) (by kernel_rfl) (fun _ _ _ h => h) (Or.inl ⟨by rfl, ?q13⟩) HS.out ?_
        case q13 => intro w hSw; have hq := HEQ.out; go_simp
        simp only [Act.put, List.getElem_toArray, List.getElem_cons_zero, List.getElem_cons_succ, List.setIfInBounds_toArray, List.set_cons_zero, List.set_cons_succ]
        refine wpAnyH_take (i := 14) (v := .bool true) rfl (by kernel_rfl) (by kernel_rfl) (by kernel_rfl) (fun _ _ _ h => h) (Or.inl ⟨by rfl, ?q14⟩) HS.out ?_
        case q14 => intro w hSw; have hq := HEQ.out; go_simp
        simp only [Act.put, List.getElem_toArray, List.getElem_cons_zero, List.getElem_cons_succ, List.setIfInBounds_toArray, List.set_cons_zero, List.set_cons_succ]
        refine wpAnyH_take (i := 15) (v := ?_) rfl (by kernel_rfl) (by kernel_rfl) (by kernel_rfl) (fun _ _ _ h => h) (Or.inl ⟨by rfl, ?q15⟩) HS.out ?_
        case q15 => intro w hSw; have hq := HEQ.out; go_simp; rfl
        simp only [Act.put, List.getElem_toArray, List.getElem_cons_zero, List.getElem_cons_succ, List.setIfInBounds_toArray, List.set_cons_zero, List.set_cons_succ]
        refine wpAnyH_done (by kernel_rfl) ?_ _
        have BF := hid (B9.out.trans (HS.out.mono B9.out.size))
        go_wp2
        go_ret
        exact ⟨rfl, BF.out⟩
      · have hq6 : (e6 != 0) = true := by rw [bne_iff_ne]; exact h6
        have HQ6 := hid hq6
        clear h6 hq6
        refine wp_region_held_drew (S := Below w9.heap.size w9) (by kernel_rfl) (Below.refl _ _).drew (fun hHeld => ?_)
        have HS := hid hHeld
        clear hHeld
        change wpAnyH _ _ _ _ _ _ _ _ (World.drew _)
        refine wpAnyH_take (i := 0) (v := ?_) rfl (by kernel_rfl) (by kernel_rfl) (by kernel_rfl) (fun _ _ _ h => h) (Or.inl ⟨by rfl, ?q0⟩) HS.out ?_
        case q0 => intro w hSw; have hq := HQ6.out; go_simp; rfl
        simp only [Act.put, List.getElem_toArray, List.getElem_cons_zero, List.getElem_cons_succ, List.setIfInBounds_toArray, List.set_cons_zero, List.set_cons_succ]
        refine wpAnyH_take (i := 1) (v := .bool false) rfl (by kernel_rfl) (by kernel_rfl) (by kernel_rfl) (fun _ _ _ h => h) (Or.inl ⟨by rfl, ?q1⟩) HS.out ?_
        case q1 => intro w hSw; have hq := HQ6.out; go_simp
        simp only [Act.put, List.getElem_toArray, List.getElem_cons_zero, List.getElem_cons_succ, List.setIfInBounds_toArray, List.set_cons_zero, List.set_cons_succ]
        refine wpAnyH_take (i := 2) (v := ?_) rfl (by kernel_rfl) (by kernel_rfl) (by kernel_rfl) (fun _ _ _ h => h) (Or.inl ⟨by rfl, ?q2⟩) HS.out ?_
        case q2 => intro w hSw; have hq := HQ6.out; go_simp; rfl
        simp only [Act.put, List.getElem_toArray, List.getElem_cons_zero, List.getElem_cons_succ, List.setIfInBounds_toArray, List.set_cons_zero, List.set_cons_succ]
        refine wpAnyH_take (i := 3) (v := ?_) rfl (by kernel_rfl) (by kernel_rfl) (by kernel_rfl) (fun _ _ _ h => h) (Or.inl ⟨by rfl, ?q3⟩) HS.out ?_
        case q3 => intro w hSw; have hq := HQ6.out; go_simp; rfl
        simp only [Act.put, List.getElem_toArray, List.getElem_cons_zero, List.getElem_cons_succ, List.setIfInBounds_toArray, List.set_cons_zero, List.set_cons_succ]
        refine wpAnyH_take (i := 4) (v := .bool true) rfl (by kernel_rfl) (by kernel_rfl) (by kernel_rfl) (fun _ _ _ h => h) (Or.inl ⟨by rfl, ?q4⟩) HS.out ?_
        case q4 => intro w hSw; have hq := HQ6.out; go_simp
        simp only [Act.put, List.getElem_toArray, List.getElem_cons_zero, List.getElem_cons_succ, List.setIfInBounds_toArray, List.set_cons_zero, List.set_cons_succ]
        refine wpAnyH_take (i := 5) (v := .bool true) rfl (by kernel_rfl) (by kernel_rfl) (by kernel_rfl) (fun _ _ _ h => h) (Or.inl ⟨by rfl, ?q5⟩) HS.out ?_
        case q5 => intro w hSw; have hq := HQ6.out; go_simp
        simp only [Act.put, List.getElem_toArray, List.getElem_cons_zero, List.getElem_cons_succ, List.setIfInBounds_toArray, List.set_cons_zero, List.set_cons_succ]
        refine wpAnyH_take (i := 6) (v := ?_) rfl (by kernel_rfl) (by kernel_rfl) (by kernel_rfl) (fun _ _ _ h => h) (Or.inl ⟨by rfl, ?q6⟩) HS.out ?_
        case q6 => intro w hSw; have hq := HQ6.out; go_simp; rfl
        simp only [Act.put, List.getElem_toArray, List.getElem_cons_zero, List.getElem_cons_succ, List.setIfInBounds_toArray, List.set_cons_zero, List.set_cons_succ]
        refine wpAnyH_take (i := 7) (v := undef) rfl (by kernel_rfl) (by kernel_rfl) (by kernel_rfl) (fun _ _ _ h => h) (Or.inr ⟨by rfl, rfl⟩) HS.out ?_
        simp only [Act.put, List.getElem_toArray, List.getElem_cons_zero, List.getElem_cons_succ, List.setIfInBounds_toArray, List.set_cons_zero, List.set_cons_succ]
        refine wpAnyH_take (i := 8) (v := undef) rfl (by kernel_rfl) (by kernel_rfl) (by kernel_rfl) (fun _ _ _ h => h) (Or.inr ⟨by rfl, rfl⟩) HS.out ?_
        simp only [Act.put, List.getElem_toArray, List.getElem_cons_zero, List.getElem_cons_succ, List.setIfInBounds_toArray, List.set_cons_zero, List.set_cons_succ]
        refine wpAnyH_take (i := 9) (v := undef) rfl (by kernel_rfl) (by kernel_rfl) (by kernel_rfl) (fun _ _ _ h => h) (Or.inr ⟨by rfl, rfl⟩) HS.out ?_
        simp only [Act.put, List.getElem_toArray, List.getElem_cons_zero, List.getElem_cons_succ, List.setIfInBounds_toArray, List.set_cons_zero, List.set_cons_succ]
        refine wpAnyH_take (i := 10) (v := undef) rfl (by kernel_rfl) (by kernel_rfl) (by kernel_rfl) (fun _ _ _ h => h) (Or.inr ⟨by rfl, rfl⟩) HS.out ?_
        simp only [Act.put, List.getElem_toArray, List.getElem_cons_zero, List.getElem_cons_succ, List.setIfInBounds_toArray, List.set_cons_zero, List.set_cons_succ]
        refine wpAnyH_take (i := 11) (v := undef) rfl (by kernel_rfl) (by kernel_rfl) (by kernel_rfl) (fun _ _ _ h => h) (Or.inr ⟨by rfl, rfl⟩) HS.out ?_
        simp only [Act.put, List.getElem_toArray, List.getElem_cons_zero, List.getElem_cons_succ, List.setIfInBounds_toArray, List.set_cons_zero, List.set_cons_succ]
        refine wpAnyH_take (i := 12) (v := undef) rfl (by kernel_rfl) (by kernel_rfl) (by kernel_rfl) (fun _ _ _ h => h) (Or.inr ⟨by rfl, rfl⟩) HS.out ?_
        simp only [Act.put, List.getElem_toArray, List.getElem_cons_zero, List.getElem_cons_succ, List.setIfInBounds_toArray, List.set_cons_zero, List.set_cons_succ]
        refine wpAnyH_take (i := 13) (v := undef) rfl (by kernel_rfl) (by kernel_rfl) (by kernel_rfl) (fun _ _ _ h => h) (Or.inr ⟨by rfl, rfl⟩) HS.out ?_
        simp only [Act.put, List.getElem_toArray, List.getElem_cons_zero, List.getElem_cons_succ, List.setIfInBounds_toArray, List.set_cons_zero, List.set_cons_succ]
        refine wpAnyH_take (i := 14) (v := .bool true) rfl (by kernel_rfl) (by kernel_rfl) (by kernel_rfl) (fun _ _ _ h => h) (Or.inl ⟨by rfl, ?q14⟩) HS.out ?_
        case q14 => intro w hSw; have hq := HQ6.out; go_simp
        simp only [Act.put, List.getElem_toArray, List.getElem_cons_zero, List.getElem_cons_succ, List.setIfInBounds_toArray, List.set_cons_zero, List.set_cons_succ]
        refine wpAnyH_take (i := 15) (v := ?_) rfl (by kernel_rfl) (by kernel_rfl) (by kernel_rfl) (fun _ _ _ h => h) (Or.inl ⟨by rfl, ?q15⟩) HS.out ?_
        case q15 => intro w hSw; have hq := HQ6.out; go_simp; rfl
        simp only [Act.put, List.getElem_toArray, List.getElem_cons_zero, List.getElem_cons_succ, List.setIfInBounds_toArray, List.set_cons_zero, List.set_cons_succ]
        refine wpAnyH_done (by kernel_rfl) ?_ _
        have BF := hid (B9.out.trans (HS.out.mono B9.out.size))
        go_wp2
        go_ret
        exact ⟨rfl, BF.out⟩
    · have hq4 : (e4 != 0) = true := by rw [bne_iff_ne]; exact h4
      have hq4' : (e4 == 0) = false := by rw [beq_eq_false_iff_ne]; exact h4
      have HQ4 := hid hq4
      clear h4 hq4
      go_wp2_with (first | (refine wpList_store_row rfl 44 _ _ rfl w6.heap.size m2 rfl rfl 44 _ (heap_alloc_new w6 _) SU2.out ZU2.out OU2.out ?_) | fail)
      rw [HW7.out]
      refine wp_region_held_drew (S := Below w7.heap.size w7) (by kernel_rfl) (Below.refl _ _).drew (fun hHeld => ?_)
      have HS := hid hHeld
      clear hHeld
      change wpAnyH _ _ _ _ _ _ _ _ (World.drew _)
      refine wpAnyH_take (i := 0) (v := ?_) rfl (by kernel_rfl) (by kernel_rfl) (by kernel_rfl) (fun _ _ _ h => h) (Or.inl ⟨by rfl, ?q0⟩) HS.out ?_
      case q0 => intro w hSw; have hq := HQ4.out; go_simp; rfl
      simp only [Act.put, List.getElem_toArray, List.getElem_cons_zero, List.getElem_cons_succ, List.setIfInBounds_toArray, List.set_cons_zero, List.set_cons_succ]
      refine wpAnyH_take (i := 1) (v := .bool true) rfl (by kernel_rfl) (by kernel_rfl) (by kernel_rfl) (fun _ _ _ h => h) (Or.inl ⟨by rfl, ?q1⟩) HS.out ?_
      case q1 => intro w hSw; have hq := HQ4.out; go_simp
      simp only [Act.put, List.getElem_toArray, List.getElem_cons_zero, List.getElem_cons_succ, List.setIfInBounds_toArray, List.set_cons_zero, List.set_cons_succ]
      refine wpAnyH_take (i := 2) (v := ?_) rfl (by kernel_rfl) (by kernel_rfl) (by kernel_rfl) (fun _ _ _ h => h) (Or.inl ⟨by rfl, ?q2⟩) HS.out ?_
      case q2 => intro w hSw; have hq := HQ4.out; go_simp; rfl
      simp only [Act.put, List.getElem_toArray, List.getElem_cons_zero, List.getElem_cons_succ, List.setIfInBounds_toArray, List.set_cons_zero, List.set_cons_succ]
      refine wpAnyH_take (i := 3) (v := undef) rfl (by kernel_rfl) (by kernel_rfl) (by kernel_rfl) (fun _ _ _ h => h) (Or.inr ⟨by rfl, rfl⟩) HS.out ?_
      simp only [Act.put, List.getElem_toArray, List.getElem_cons_zero, List.getElem_cons_succ, List.setIfInBounds_toArray, List.set_cons_zero, List.set_cons_succ]
      refine wpAnyH_take (i := 4) (v := undef) rfl (by kernel_rfl) (by kernel_rfl) (by kernel_rfl) (fun _ _ _ h => h) (Or.inr ⟨by rfl, rfl⟩) HS.out ?_
      simp only [Act.put, List.getElem_toArray, List.getElem_cons_zero, List.getElem_cons_succ, List.setIfInBounds_toArray, List.set_cons_zero, List.set_cons_succ]
      refine wpAnyH_take (i := 5) (v := .bool true) rfl (by kernel_rfl) (by kernel_rfl) (by kernel_rfl) (fun _ _ _ h => h) (Or.inl ⟨by rfl, ?q5⟩) HS.out ?_
      case q5 => intro w hSw; have hq := HQ4.out; go_simp
      simp only [Act.put, List.getElem_toArray, List.getElem_cons_zero, List.getElem_cons_succ, List.setIfInBounds_toArray, List.set_cons_zero, List.set_cons_succ]
      refine wpAnyH_take (i := 6) (v := ?_) rfl (by kernel_rfl) (by kernel_rfl) (by kernel_rfl) (fun _ _ _ h => h) (Or.inl ⟨by rfl, ?q6⟩) HS.out ?_
      case q6 => intro w hSw; have hq := HQ4.out; go_simp; rfl
      simp only [Act.put, List.getElem_toArray, List.getElem_cons_zero, List.getElem_cons_succ, List.setIfInBounds_toArray, List.set_cons_zero, List.set_cons_succ]
      refine wpAnyH_take (i := 7) (v := undef) rfl (by kernel_rfl) (by kernel_rfl) (by kernel_rfl) (fun _ _ _ h => h) (Or.inr ⟨by rfl, rfl⟩) HS.out ?_
      simp only [Act.put, List.getElem_toArray, List.getElem_cons_zero, List.getElem_cons_succ, List.setIfInBounds_toArray, List.set_cons_zero, List.set_cons_succ]
      refine wpAnyH_take (i := 8) (v := undef) rfl (by kernel_rfl) (by kernel_rfl) (by kernel_rfl) (fun _ _ _ h => h) (Or.inr ⟨by rfl, rfl⟩) HS.out ?_
      simp only [Act.put, List.getElem_toArray, List.getElem_cons_zero, List.getElem_cons_succ, List.setIfInBounds_toArray, List.set_cons_zero, List.set_cons_succ]
      refine wpAnyH_take (i := 9) (v := undef) rfl (by kernel_rfl) (by kernel_rfl) (by kernel_rfl) (fun _ _ _ h => h) (Or.inr ⟨by rfl, rfl⟩) HS.out ?_
      simp only [Act.put, List.getElem_toArray, List.getElem_cons_zero, List.getElem_cons_succ, List.setIfInBounds_toArray, List.set_cons_zero, List.set_cons_succ]
      refine wpAnyH_take (i := 10) (v := undef) rfl (by kernel_rfl) (by kernel_rfl) (by kernel_rfl) (fun _ _ _ h => h) (Or.inr ⟨by rfl, rfl⟩) HS.out ?_
      simp only [Act.put, List.getElem_toArray, List.getElem_cons_zero, List.getElem_cons_succ, List.setIfInBounds_toArray, List.set_cons_zero, List.set_cons_succ]
      refine wpAnyH_take (i := 11) (v := undef) rfl (by kernel_rfl) (by kernel_rfl) (by kernel_rfl) (fun _ _ _ h => h) (Or.inr ⟨by rfl, rfl⟩) HS.out ?_
      simp only [Act.put, List.getElem_toArray, List.getElem_cons_zero, List.getElem_cons_succ, List.setIfInBounds_toArray, List.set_cons_zero, List.set_cons_succ]
      refine wpAnyH_take (i := 12) (v := undef) rfl (by kernel_rfl) (by kernel_rfl) (by kernel_rfl) (fun _ _ _ h => h) (Or.inr ⟨by rfl, rfl⟩) HS.out ?_
      simp only [Act.put, List.getElem_toArray, List.getElem_cons_zero, List.getElem_cons_succ, List.setIfInBounds_toArray, List.set_cons_zero, List.set_cons_succ]
      refine wpAnyH_take (i := 13) (v := undef) rfl (by kernel_rfl) (by kernel_rfl) (by kernel_rfl) (fun _ _ _ h => h) (Or.inr ⟨by rfl, rfl⟩) HS.out ?_
      simp only [Act.put, List.getElem_toArray, List.getElem_cons_zero, List.getElem_cons_succ, List.setIfInBounds_toArray, List.set_cons_zero, List.set_cons_succ]
      refine wpAnyH_take (i := 14) (v := .bool true) rfl (by kernel_rfl) (by kernel_rfl) (by kernel_rfl) (fun _ _ _ h => h) (Or.inl ⟨by rfl, ?q14⟩) HS.out ?_
      case q14 => intro w hSw; have hq := HQ4.out; go_simp
      simp only [Act.put, List.getElem_toArray, List.getElem_cons_zero, List.getElem_cons_succ, List.setIfInBounds_toArray, List.set_cons_zero, List.set_cons_succ]
      refine wpAnyH_take (i := 15) (v := ?_) rfl (by kernel_rfl) (by kernel_rfl) (by kernel_rfl) (fun _ _ _ h => h) (Or.inl ⟨by rfl, ?q15⟩) HS.out ?_
      case q15 => intro w hSw; have hq := HQ4.out; go_simp; rfl
      simp only [Act.put, List.getElem_toArray, List.getElem_cons_zero, List.getElem_cons_succ, List.setIfInBounds_toArray, List.set_cons_zero, List.set_cons_succ]
      refine wpAnyH_done (by kernel_rfl) ?_ _
      have BF := hid (B7.out.trans (HS.out.mono B7.out.size))
      go_wp2
      go_ret
      exact ⟨rfl, BF.out⟩
end Go.Proofs.YthcdefidoibopaaDoor
