/- UebCut, walked. -/
import Derived.Test.YthcdefidoibopabDoorUbAwake
import Derived.Test.YthcdefidoibopabDoorUbSame
import Derived.Test.YthcdefidoibopabDoorUbPick
set_option linter.unusedSimpArgs false
set_option linter.unusedVariables false
namespace Go.Proofs.YthcdefidoibopabDoor
open Go Go.RowKit

theorem HB.preP {w : World} {p : Option Addr} {c : Nat} {l : List Int} (h : HB w (.slice p l.length c) l) (n : Nat) (hn : n ≤ l.length) : HB w (.slice p n c) (l.take n) := by
  obtain ⟨⟨p', c', h1, h2, h3, h6, h4⟩, h5⟩ := h
  injection h1 with e1 e2 e3
  subst e1 e3
  have hl : (l.take n).length = n := by rw [List.length_take]; omega
  refine ⟨⟨p, c, by rw [hl], by rw [hl]; omega, h3, h6, fun hne => ?_⟩, fun x hx => h5 x (List.mem_of_mem_take hx)⟩
  obtain ⟨b, off, e, hc⟩ := h4 (fun e => hne (by rw [e]; simp))
  refine ⟨b, off, e, fun j hj => ?_⟩
  rw [hl] at hj
  rw [hc j (by omega)]
  simp [List.getD, List.getElem?_take, hj]
theorem packL_byt {rs : List Rw} (h : ∀ r ∈ rs, Byt8 r.2) : Byt8 (packL rs) := by
  induction rs with
  | nil => intro x hx; cases hx
  | cons r t ih =>
    intro x hx
    rw [packL] at hx
    have hfld : ∀ l : List Int, Byt8 l → ∀ y ∈ fld l, 0 ≤ y ∧ y < 256 := by
      intro l hl y hy
      unfold fld at hy
      rcases List.mem_append.1 hy with hy | hy
      · exact dgL_byt _ y hy
      · rcases List.mem_cons.1 hy with rfl | hy
        · omega
        · rcases List.mem_append.1 hy with hy | hy
          · exact hl y hy
          · simp at hy; omega
    rcases List.mem_append.1 hx with hx | hx
    · unfold rowL at hx
      rcases List.mem_append.1 hx with hx | hx
      · exact hfld _ (sB_byt _) x hx
      · exact hfld _ (h r (List.mem_cons_self ..)) x hx
    · exact ih (fun q hq => h q (List.mem_cons_of_mem _ hq)) x hx

set_option maxRecDepth 100000 in
set_option maxHeartbeats 8000000 in
theorem uebCut_walk (w : World) (v : Value) (rs : List Rw) (x : Int) (h : HRw w v rs) (hk : KD w) :
    Calls Tryd.prog 3 #[v, .int .i64 x] w fun e w' => e = .returned (.bool true) ∧ Below w.heap.size w w' := by
  have C0 := hid (uawake_any w hk.kp)
  have HK := hid hk
  have HH := hid h
  have HBYT := hid (packL_byt h.byt)
  obtain ⟨p, c, rfl, hlc, hcm, _⟩ := h.open
  obtain ⟨n, HN⟩ : ∃ n, Hid (rs.length = n) := ⟨_, rfl⟩
  rw [HN.out] at hlc
  rw [HN.out]
  have hm63 : n ≤ 9223372036854775807 := by unfold maxLen at hcm; omega
  clear h hk
  go_enter Tryd.func3, Tryd.ntmps3
  go_wp2_with fail
  refine C0.out.mono ?_
  rintro e w1 ⟨rfl, hb1⟩
  have B1 := hid hb1
  have C1 := pack_any w1 _ rs (HH.out.below hb1) (HK.out.below hb1).kp
  rw [HN.out] at C1
  clear hb1 C0
  by_cases hm : mayT rs
  · rw [show pkE rs = 0 from by unfold pkE; rw [if_pos hm], show pkL rs = packL rs from by unfold pkL; rw [if_pos hm]] at C1
    have C1 := hid C1
    have HM := hid hm
    have hn64 : n ≤ 64 := by have := hm.1; have := HN.out; omega
    go_wp2_with fail
    refine C1.out.mono ?_
    rintro e w2 ⟨v2, rfl, hown2, hb2⟩
    have B2 := hid (B1.out.trans (hb2.mono B1.out.size))
    have H2 := hid (HB.of_own hown2 HBYT.out)
    have hlen := pack_len_le rs noS hm.2
    obtain ⟨b, Hb⟩ : ∃ b, Hid (packL rs = b) := ⟨_, rfl⟩
    rw [Hb.out] at H2 hown2 hlen
    have hbl : b.length ≤ 4480000 := by have := HN.out; omega
    obtain ⟨p2, c2, rfl⟩ := own_slc hown2
    have hc2 : b.length ≤ c2 ∧ c2 ≤ maxLen := by
      obtain ⟨p', c', e, h1, h2⟩ := H2.out.open
      injection e with e1 e2 e3
      subst e3
      exact ⟨h1, h2⟩
    obtain ⟨L, HL⟩ : ∃ L, Hid (b.length = L) := ⟨_, rfl⟩
    rw [HL.out] at hbl hc2
    have CP := kpick_any w2 x (L + 1) (by omega) (by omega)
    rw [show ((L + 1 : Nat) : Int) = (L : Int) + 1 by omega] at CP
    have CP := hid CP
    rw [HL.out]
    clear hown2 hb2 hm C1 hlen
    go_wp2_with fail
    refine CP.out.mono ?_
    rintro e w2' ⟨⟨k, hkl, rfl⟩, hw⟩
    rw [hw]
    clear hw w2' CP
    have hH3 := H2.out.preP k (by have := HL.out; omega)
    have C3 := unpack_any w2 _ (b.take k) hH3 (HK.out.below B2.out)
    have C3 := hid C3
    clear hH3
    go_wp2_with fail
    refine C3.out.mono ?_
    rintro e w3 ⟨rv, ts, vs, at_, ec, rfl, hq, hown3, hb3⟩
    have B3 := hid (B2.out.trans (hb3.mono B2.out.size))
    have HT := hid hown3.held
    have HQ := hid hq
    obtain ⟨pr, cr, rfl⟩ : ∃ p c, rv = .slice p ts.length c := by
      rcases hown3.1.2 with ⟨e, e0⟩ | ⟨g, cap, cur, e, _⟩
      · exact ⟨none, 0, by rw [e, e0]⟩
      · exact ⟨_, cap, e⟩
    clear hown3 hb3 hq C3
    have MISS : Hid ((∀ i, i ≤ n → (packL (rs.take i)).length ≠ k) → ec = 131 ∧ ts.length = 0 ∧ at_ < k) := by
      refine hid fun hno => ?_
      have := cut_miss (rows := rs) (k := k) (by rw [Hb.out, HL.out]; omega) (by rw [Hb.out]; exact HQ.out) (by rw [HN.out]; exact hno)
      exact ⟨this.1, by rw [this.2.1]; rfl, this.2.2⟩
    have HIT : Hid (∀ i, (packL (rs.take i)).length = k → ec = 0 ∧ at_ = 0 ∧ ts = rs.take i) := hid fun i hi => cut_hit HM.out (by rw [Hb.out]; exact HQ.out) hi
    obtain ⟨tl, HTL⟩ : ∃ x, Hid (ts.length = x) := ⟨_, rfl⟩
    rw [HTL.out] at HT MISS
    rw [HTL.out]
    go_wp2
    go_loopw [10] (fun ii wr => ∃ i : Nat, i ≤ n + 1 ∧ ii = .int .i64 (i : Int) ∧ Hid (∀ j, j < i → (packL (rs.take j)).length < k) ∧ Hid (Below w3.heap.size w3 wr)) (fun ii _ => n + 1 - (intOf ii).toNat)
    case atStart => exact ⟨0, Nat.zero_le _, rfl, hid (fun j hj => absurd hj (Nat.not_lt_zero _)), Below.refl _ _⟩
    case round =>
      obtain ⟨i, hi, rfl, HLT, HB0⟩ := hrel
      have BW := hid (B3.out.trans (HB0.out.mono B3.out.size))
      by_cases hin : i ≤ n
      · have hR := (HH.out.below BW.out)
        rw [HN.out] at hR
        have hRi := hR.pre (k := i) (by have := HN.out; omega)
        have C4 := pack_any wr _ (rs.take i) hRi (HK.out.below BW.out).kp
        have hmi := mayT_take HM.out i
        rw [show pkE (rs.take i) = 0 from by unfold pkE; rw [if_pos hmi], show pkL (rs.take i) = packL (rs.take i) from by unfold pkL; rw [if_pos hmi]] at C4
        have C4 := hid C4
        have HRI := hid hRi
        have HITi := hid (HIT.out i)
        have MONO : Hid (k < (packL (rs.take i)).length → ∀ j, j ≤ n → (packL (rs.take j)).length ≠ k) := by
          refine hid fun hgt j _ he => ?_
          by_cases hji : j < i
          · have := HLT.out j hji; omega
          · have := pack_take_le rs i j (by omega); omega
        have NEXT : Hid ((packL (rs.take i)).length < k → ∀ j, j < i + 1 → (packL (rs.take j)).length < k) := by
          refine hid fun hgt j hj => ?_
          by_cases hji : j < i
          · exact HLT.out j hji
          · rw [show j = i by omega]; exact hgt
        obtain ⟨m, Hm⟩ : ∃ x, Hid ((packL (rs.take i)).length = x) := ⟨_, rfl⟩
        rw [Hm.out] at C4 HITi MONO NEXT
        clear hR hRi hmi HIT
        go_wp2_with fail
        refine C4.out.mono ?_
        rintro e w4 ⟨v4, rfl, hown4, hb4⟩
        have B4 := hid (HB0.out.trans (hb4.mono HB0.out.size))
        have BW4 := hid (BW.out.trans (hb4.mono BW.out.size))
        obtain ⟨p4, c4, rfl⟩ := own_slc hown4
        have HRI4 := hid (HRI.out.below hb4)
        clear hown4 hb4 C4
        by_cases heq : (m : Int) = (k : Int)
        · obtain ⟨e1, e2, e3⟩ := HITi.out (by omega)
          subst e1 e2
          have hq : ((m : Int) == (k : Int)) = true := by rw [beq_iff_eq]; exact heq
          have C5 := sameRows_any w4 _ _ ts (rs.take i) (HT.out.below B4.out) HRI4.out
          rw [decide_eq_true e3] at C5
          have C5 := hid C5
          clear e3 heq
          go_wp2_with fail
          refine C5.out.mono ?_
          rintro e w5 ⟨rfl, hd5⟩
          have B5 := hid (BW4.out.trans (hd5.below _))
          clear hd5
          go_wp2
          go_ret
          exact ⟨rfl, B5.out⟩
        · have hq : ((m : Int) == (k : Int)) = false := by rw [beq_eq_false_iff_ne]; exact heq
          by_cases hgt : (k : Int) < (m : Int)
          · obtain ⟨e1, e2, e3⟩ := MISS.out (MONO.out (by omega))
            subst e1 e2
            have hat : (at_ : Int) < (k : Int) := by omega
            clear heq
            go_wp2
            go_ret
            exact ⟨rfl, BW4.out⟩
          · have HN2 := hid (NEXT.out (by omega))
            go_wp2
            exact ⟨⟨i + 1, by omega, by go_num, HN2, B4⟩, by simp [intOf]; omega⟩
      · obtain ⟨e1, e2, e3⟩ := MISS.out (fun j hj => by have := HLT.out j (by omega); omega)
        subst e1 e2
        have hat : (at_ : Int) < (k : Int) := by omega
        go_wp2
        go_ret
        exact ⟨rfl, BW.out⟩
  · rw [show pkE rs = 130 from by unfold pkE; rw [if_neg hm], show pkL rs = [] from by unfold pkL; rw [if_neg hm]] at C1
    have C1 := hid C1
    clear hm
    go_wp2_with fail
    refine C1.out.mono ?_
    rintro e w2 ⟨v2, rfl, hown2, hb2⟩
    have B2 := hid (B1.out.trans (hb2.mono B1.out.size))
    obtain ⟨p2, c2, rfl⟩ := own_slc hown2
    clear hown2 hb2 C1
    go_wp2
    go_ret
    exact ⟨rfl, B2.out⟩
end Go.Proofs.YthcdefidoibopabDoor
