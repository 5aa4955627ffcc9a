/- Of the road to rsFar_holds: RsFarB. -/
import Derived.Test.YtmlhfjflkcenkaaG06
set_option linter.unusedVariables false
set_option linter.unusedSimpArgs false
namespace Go.Proofs.Ytmlhfjflkcenkaa
open Go Go.RowKit
set_option maxRecDepth 100000 in
set_option maxHeartbeats 64000000 in
theorem far_neg (w : World) (pa pb : Option Addr) (ca cb : Nat) (la lb : List Int) (K M : Nat) (HA0 : Hid (HB w (.slice pa la.length ca) la)) (HB0 : Hid (HB w (.slice pb lb.length cb) lb)) (hla : la.length ≤ 140737488351232) (hlb : lb.length ≤ 140737488351232) (hlca : la.length ≤ ca) (hlcb : lb.length ≤ cb) (hcma : ca ≤ 9223372036854775807) (hcmb : cb ≤ 9223372036854775807) (h1 : 1 ≤ K) (hk : K ≤ M) (hn : M ≤ 255) (hab : ¬ la.length > lb.length) :
    Calls Try.prog 4 #[.int .i64 (K : Int), .int .i64 (M : Int), .slice pa la.length ca, .slice pb lb.length cb] w fun e w' => e = .returned (.bool true) ∧ Below w.heap.size w w' := by
  have C0 := hid (lives_any w)
  have CN := hid fun W => rsnew_ok W K M h1 hk hn
  have HAt := hid (HA0.out.trim la.length (by omega) hlca)
  have HBt := hid (HB0.out.trim la.length (by omega) hlcb)
  have HTA : Hid ((la.take la.length).length = la.length) := hid (by rw [List.length_take]; omega)
  have HTB : Hid ((lb.take la.length).length = la.length) := hid (by rw [List.length_take]; omega)
  obtain ⟨A, HAe⟩ : ∃ x, Hid (la.take la.length = x) := ⟨_, rfl⟩
  obtain ⟨Bl, HBe⟩ : ∃ x, Hid (lb.take la.length = x) := ⟨_, rfl⟩
  rw [HAe.out] at HAt HTA
  rw [HBe.out] at HBt HTB
  obtain ⟨Na, HNa⟩ : ∃ x, Hid (la.length = x) := ⟨_, rfl⟩
  obtain ⟨Nb, HNb⟩ : ∃ x, Hid (lb.length = x) := ⟨_, rfl⟩
  rw [HNa.out] at hla hlca hab
  rw [HNb.out] at hlb hlcb hab
  rw [HNa.out, HNb.out]
  rw [HNa.out] at HTA HTB HAt HBt
  have sB := fun W => slice_hh W pb Nb cb Na (by omega)
  have hND : Hid (Na ≤ 140737488351232) := hid (by omega)
  have CEA := hid fun W (hW : Below w.heap.size w W) => even_any W K _ A (HAt.out.below hW) h1 (by omega) (by rw [HTA.out]; omega)
  have CEB := hid fun W (hW : Below w.heap.size w W) => even_any W K _ Bl (HBt.out.below hW) h1 (by omega) (by rw [HTB.out]; omega)
  have HLA : Hid (∀ j, j < K → (rwL A (Na / K) j).length = Na / K) := hid fun j hj => rw_len (by rw [HTA.out]; exact ev_le hj)
  have HLB : Hid (∀ j, j < K → (rwL Bl (Na / K) j).length = Na / K) := hid fun j hj => rw_len (by rw [HTB.out]; exact ev_le hj)
  have HLL : Hid (Na / K ≤ Na) := hid (Nat.div_le_self _ _)
  rw [HTA.out] at CEA
  rw [HTB.out] at CEB
  obtain ⟨L, HL0⟩ : ∃ L, Hid (Na / K = L) := ⟨_, rfl⟩
  rw [HL0.out] at CEA CEB HLL HLA HLB
  go_enter Try.func4, Try.ntmps4
  go_wp2_with fail
  refine C0.out.mono ?_
  rintro e w1 ⟨rfl, hb1⟩
  have B1 := hid hb1
  clear hb1 C0
  go_wp2_with fail
  refine (CN.out w1).mono ?_
  rintro e w2 ⟨gc, rfl, hc2, hb2⟩
  have HC2 := hid hc2
  have B2 := hid (B1.out.trans (hb2.mono B1.out.size))
  clear hc2 hb2 CN
  go_wp2_with fail
  refine (CEA.out w2 B2.out).mono ?_
  rintro e w3 ⟨v3, rfl, hd3, hb3⟩
  have B3 := hid (B2.out.trans (hb3.mono B2.out.size))
  have HC3 := hid (HC2.out.below hb3)
  obtain ⟨X, HX⟩ : ∃ x, Hid (evD A L K = x) := ⟨_, rfl⟩
  have HXl : Hid (X.length = K) := by refine hid ?_; rw [← HX.out]; exact evD_length _ _ _
  have HXL : Hid (∀ j, j < K → (X.getD j []).length = L) := by
    refine hid fun j hj => ?_
    rw [← HX.out, evD_get _ _ _ _ hj]
    exact HLA.out j hj
  rw [HX.out] at hd3
  obtain ⟨bx, ox, cx, ex, hlx, hmx, _⟩ := hd3.ne (by rw [HXl.out]; omega)
  rw [HXl.out] at ex hlx
  unfold maxLen at hmx
  subst ex
  have D3 := hid hd3
  clear hd3 hb3 CEA HC2
  go_wp2_with fail
  refine (CEB.out w3 B3.out).mono ?_
  rintro e w4 ⟨v4, rfl, hd4, hb4⟩
  have B4 := hid (B3.out.trans (hb4.mono B3.out.size))
  have HC4 := hid (HC3.out.below hb4)
  obtain ⟨Y, HY⟩ : ∃ x, Hid (evD Bl L K = x) := ⟨_, rfl⟩
  have HYl : Hid (Y.length = K) := by refine hid ?_; rw [← HY.out]; exact evD_length _ _ _
  have HYL : Hid (∀ j, j < K → (Y.getD j []).length = L) := by
    refine hid fun j hj => ?_
    rw [← HY.out, evD_get _ _ _ _ hj]
    exact HLB.out j hj
  rw [HY.out] at hd4
  obtain ⟨by', oy, cy, ey, hly, hmy, _⟩ := hd4.ne (by rw [HYl.out]; omega)
  rw [HYl.out] at ey hly
  unfold maxLen at hmy
  subst ey
  have DY := hid hd4
  have DX := hid (D3.out.below hb4)
  have CXc := hid (DX.out.cells HXl.out h1)
  have CYc := hid (DY.out.cells HYl.out h1)
  have BYX : Hid (∀ j, ∀ x ∈ X.getD j [], 0 ≤ x ∧ x < 256) := by
    refine hid fun j x hx => ?_
    by_cases hj : j < K
    · obtain ⟨u, _, hu⟩ := CXc.out j hj
      exact hu.2 x hx
    · have : X.getD j [] = [] := by simp [List.getD, List.getElem?_eq_none (show X.length ≤ j by rw [HXl.out]; omega)]
      rw [this] at hx
      cases hx
  have BYY : Hid (∀ j, ∀ x ∈ Y.getD j [], 0 ≤ x ∧ x < 256) := by
    refine hid fun j x hx => ?_
    by_cases hj : j < K
    · obtain ⟨u, _, hu⟩ := CYc.out j hj
      exact hu.2 x hx
    · have : Y.getD j [] = [] := by simp [List.getD, List.getElem?_eq_none (show Y.length ≤ j by rw [HYl.out]; omega)]
      rw [this] at hx
      cases hx
  clear hd4 hb4 CEB HC3 D3
  have hLb : L ≤ 140737488351232 := Nat.le_trans HLL.out hND.out
  go_wp2
  go_loopw [13, 14] (fun o j wr => ∃ J : Nat, J ≤ K ∧ j = .int .i64 (J : Int) ∧ Hid (OWL w4 wr o (boD X Y J)) ∧ Hid (Below w4.heap.size w4 wr)) (fun _ j _ => K - (intOf j).toNat)
  case atStart => exact ⟨0, Nat.zero_le _, rfl, OWL.nil _ _, Below.refl _ _⟩
  case round =>
    obtain ⟨J, hJ, rfl, HO, B⟩ := hrel
    by_cases hlt : J < K
    · obtain ⟨u1, hu1, hbu1⟩ := CXc.out J hlt
      obtain ⟨u2, hu2, hbu2⟩ := CYc.out J hlt
      obtain ⟨p1, c1, e1⟩ := hbu1.shape
      obtain ⟨p2, c2, e2⟩ := hbu2.shape
      have hLX := HXL.out J hlt
      have hLY := HYL.out J hlt
      rw [hLX] at e1
      rw [hLY] at e2
      subst e1
      subst e2
      have CX : Hid (∀ W, Below w4.heap.size w4 W → W.cell? ⟨bx, ox + J, none⟩ = some (.slice p1 L c1) ∧ W.cell? ⟨by', oy + J, none⟩ = some (.slice p2 L c2)) := hid fun W hW => ⟨(hW.cell (World.block_lt_of_cell? w4 _ hu1)).trans hu1, (hW.cell (World.block_lt_of_cell? w4 _ hu2)).trans hu2⟩
      have CBo := hid fun W (hW : Below w4.heap.size w4 W) => both_any W _ _ _ _ (hbu1.below hW) (hbu2.below hW) (by rw [hLX, hLY]) (by rw [hLX]; omega)
      have HLZ : Hid ((boL (X.getD J []) (Y.getD J [])).length = L) := hid (by rw [boL_length]; exact hLX)
      rw [hLX] at CBo
      obtain ⟨Z, HZ⟩ : ∃ x, Hid (boL (X.getD J []) (Y.getD J []) = x) := ⟨_, rfl⟩
      rw [HZ.out] at CBo HLZ
      have HES := hid (boD_succ X Y J)
      rw [HZ.out] at HES
      have HBL := hid (boD_length X Y J)
      obtain ⟨zs, HZS⟩ : ∃ x, Hid (boD X Y J = x) := ⟨_, rfl⟩
      rw [HZS.out] at HES HO HBL
      obtain ⟨xs, hrow, _⟩ := HO.out
      obtain ⟨po, co, eo⟩ := own_slc hrow
      rw [HBL.out] at eo
      subst eo
      have hsz := B.out.size
      clear hbu1 hbu2 hu1 hu2 hrow hLX hLY
      go_wp2
      refine wp_region_held_drew (S := Below w4.heap.size w4) (by kernel_rfl) B.out.drew (fun hHeld => ?_)
      have HS := hid hHeld
      clear hHeld
      change wpAnyH _ _ _ _ _ _ _ _ (World.drew _)
      refine wpAnyH_take (i := 0) (v := ?_) rfl (by kernel_rfl) (by kernel_rfl) (by kernel_rfl) (fun _ _ _ h => h) (Or.inl ⟨by rfl, ?q0⟩) HS.out ?_
      case q0 => intro w hSw; go_simp; rfl
      simp only [Act.put, List.getElem_toArray, List.getElem_cons_zero, List.getElem_cons_succ, List.setIfInBounds_toArray, List.set_cons_zero, List.set_cons_succ]
      refine wpAnyH_take (i := 1) (v := ?_) rfl (by kernel_rfl) (by kernel_rfl) (by kernel_rfl) (fun _ _ _ h => h) (Or.inl ⟨by rfl, ?q1⟩) HS.out ?_
      case q1 => intro w hSw; go_simp; rfl
      simp only [Act.put, List.getElem_toArray, List.getElem_cons_zero, List.getElem_cons_succ, List.setIfInBounds_toArray, List.set_cons_zero, List.set_cons_succ]
      refine wpAnyH_take (i := 2) (v := ?_) rfl (by kernel_rfl) (by kernel_rfl) (by kernel_rfl) (fun _ _ _ h => h) (Or.inl ⟨by rfl, ?q2⟩) HS.out ?_
      case q2 => intro w hSw; go_simp; rfl
      simp only [Act.put, List.getElem_toArray, List.getElem_cons_zero, List.getElem_cons_succ, List.setIfInBounds_toArray, List.set_cons_zero, List.set_cons_succ]
      refine wpAnyH_take (i := 3) (v := ?_) rfl (by kernel_rfl) (by kernel_rfl) (by kernel_rfl) (fun _ _ _ h => h) (Or.inl ⟨by rfl, ?q3⟩) HS.out ?_
      case q3 => intro w hSw; go_simp; rfl
      simp only [Act.put, List.getElem_toArray, List.getElem_cons_zero, List.getElem_cons_succ, List.setIfInBounds_toArray, List.set_cons_zero, List.set_cons_succ]
      refine wpAnyH_take (i := 4) (v := .slice p1 L c1) rfl (by kernel_rfl) (by kernel_rfl) (by kernel_rfl) (fun _ _ _ h => h) (Or.inl ⟨by rfl, ?q4⟩) HS.out ?_
      case q4 => intro w hSw; have hcx := (CX.out w hSw).1; go_simp
      simp only [Act.put, List.getElem_toArray, List.getElem_cons_zero, List.getElem_cons_succ, List.setIfInBounds_toArray, List.set_cons_zero, List.set_cons_succ]
      refine wpAnyH_take (i := 5) (v := ?_) rfl (by kernel_rfl) (by kernel_rfl) (by kernel_rfl) (fun _ _ _ h => h) (Or.inl ⟨by rfl, ?q5⟩) HS.out ?_
      case q5 => intro w hSw; go_simp; rfl
      simp only [Act.put, List.getElem_toArray, List.getElem_cons_zero, List.getElem_cons_succ, List.setIfInBounds_toArray, List.set_cons_zero, List.set_cons_succ]
      refine wpAnyH_take (i := 6) (v := ?_) rfl (by kernel_rfl) (by kernel_rfl) (by kernel_rfl) (fun _ _ _ h => h) (Or.inl ⟨by rfl, ?q6⟩) HS.out ?_
      case q6 => intro w hSw; go_simp; rfl
      simp only [Act.put, List.getElem_toArray, List.getElem_cons_zero, List.getElem_cons_succ, List.setIfInBounds_toArray, List.set_cons_zero, List.set_cons_succ]
      refine wpAnyH_take (i := 7) (v := ?_) rfl (by kernel_rfl) (by kernel_rfl) (by kernel_rfl) (fun _ _ _ h => h) (Or.inl ⟨by rfl, ?q7⟩) HS.out ?_
      case q7 => intro w hSw; go_simp; rfl
      simp only [Act.put, List.getElem_toArray, List.getElem_cons_zero, List.getElem_cons_succ, List.setIfInBounds_toArray, List.set_cons_zero, List.set_cons_succ]
      refine wpAnyH_take (i := 8) (v := .slice p2 L c2) rfl (by kernel_rfl) (by kernel_rfl) (by kernel_rfl) (fun _ _ _ h => h) (Or.inl ⟨by rfl, ?q8⟩) HS.out ?_
      case q8 => intro w hSw; have hcx := (CX.out w hSw).2; go_simp
      simp only [Act.put, List.getElem_toArray, List.getElem_cons_zero, List.getElem_cons_succ, List.setIfInBounds_toArray, List.set_cons_zero, List.set_cons_succ]
      refine wpAnyH_ready (rs := [9]) (by kernel_rfl) (by simp) ?_
      refine AllReadyH.cons rfl (fun K hK => ?_) AllReadyH.nil
      replace hK := hid hK
      go_simp
      refine (CBo.out _ HS.out).mono ?_
      rintro e w6 ⟨v6, rfl, ho6, hy6, hb6⟩
      have HS2 := hid (HS.out.trans (hb6.mono HS.out.size))
      have hbr : Below wr.heap.size wr w6 := ((Dr.one wr 1).below wr.heap.size).trans hb6
      have HO6 := hid (HO.out.below hbr)
      have E6 : Hid (EL w4 w6 v6 Z) := hid (.inl ⟨by rw [HLZ.out]; exact own_mono ho6 HS.out.size, hy6⟩)
      obtain ⟨p6, c6, ev6⟩ := own_slc ho6
      subst ev6
      clear hb6 ho6 hy6 hbr
      refine hK.out _ _ HS2.out (fun _ => ?_)
      clear hK K
      clear HS
      have HS := HS2
      clear HS2
      try simp only [Act.put, List.getElem_toArray, List.getElem_cons_zero, List.getElem_cons_succ, List.setIfInBounds_toArray, List.set_cons_zero, List.set_cons_succ]
      refine wpAnyH_ready (rs := [10]) (by kernel_rfl) (by simp) ?_
      refine AllReadyH.cons rfl (fun K hK => ?_) AllReadyH.nil
      replace hK := hid hK
      go_simp
      have HS2 := hid (HS.out.alloc HS.out.size (.cells #[.slice p6 L c6] 22))
      refine hK.out _ _ HS2.out (fun _ => ?_)
      clear hK K
      have bal : Below w6.heap.size w6 (w6.alloc (.cells #[.slice p6 L c6] 22)) := (Below.refl _ _).alloc (Nat.le_refl _) _
      have CA : (w6.alloc (.cells #[.slice p6 L c6] 22)).cell? ⟨w6.heap.size, 0, none⟩ = some (.slice p6 L c6) := (cell_rowB _ w6.heap.size 0 _ _ _ (heap_alloc_new w6 _)).trans rfl
      have EA : EL w4 (w6.alloc (.cells #[.slice p6 L c6] 22)) (.slice p6 L c6) Z := E6.out.grown (grown_below (r := none) bal) (fun g e => by cases e)
      obtain ⟨v9, w9, hr9, ho9, hg9, hb9⟩ := run_append_OWL 29 (HO6.out.below bal) ⟨w6.heap.size, 0, none⟩ 1 (.slice p6 L c6) Z CA EA rfl (by rw [HBL.out]; omega) HS2.out.size
      clear HS
      have HS := HS2
      clear HS2
      have HS3 := hid (HS.out.grown hg9 HS.out.size hb9)
      have O9 : Hid (OWL w4 w9 v9 (boD X Y (J + 1))) := hid (by rw [HES.out]; exact ho9)
      clear ho9 hg9 hb9 bal CA EA
      try simp only [Act.put, List.getElem_toArray, List.getElem_cons_zero, List.getElem_cons_succ, List.setIfInBounds_toArray, List.set_cons_zero, List.set_cons_succ]
      refine wpAnyH_ready (rs := [11]) (by kernel_rfl) (by simp) ?_
      refine AllReadyH.cons rfl (fun K hK => ?_) AllReadyH.nil
      replace hK := hid hK
      try simp only [if_pos]
      first | refine owp_appendL _ _ rfl rfl rfl hr9 ?_ | refine (fun h => by simpa using h) (owp_appendL _ _ rfl rfl rfl hr9 ?_)
      simp only [Act.put, List.getElem_toArray, List.getElem_cons_zero, List.getElem_cons_succ, List.setIfInBounds_toArray, List.set_cons_zero, List.set_cons_succ]
      refine hK.out _ _ HS3.out (fun _ => ?_)
      clear hK K
      clear HS hr9
      have HS := HS3
      clear HS3
      try simp only [Act.put, List.getElem_toArray, List.getElem_cons_zero, List.getElem_cons_succ, List.setIfInBounds_toArray, List.set_cons_zero, List.set_cons_succ]
      refine wpAnyH_take (i := 12) (v := ?_) rfl (by kernel_rfl) (by kernel_rfl) (by kernel_rfl) (fun _ _ _ h => h) (Or.inl ⟨by rfl, ?q12⟩) HS.out ?_
      case q12 => intro w hSw; go_simp; rfl
      simp only [Act.put, List.getElem_toArray, List.getElem_cons_zero, List.getElem_cons_succ, List.setIfInBounds_toArray, List.set_cons_zero, List.set_cons_succ]
      refine wpAnyH_done (by kernel_rfl) ?_ _
      have BZ := hid HS.out
      go_wp2
      exact ⟨⟨J + 1, by omega, by go_num, O9, BZ⟩, by simp [intOf]; omega⟩
    · have hJ' : J = K := by omega
      subst hJ'
      have HZ5 := hid (HO.out.hl B.out)
      have HBL := hid (boD_length X Y J)
      have HZL : Hid (∀ j, j < J → ((boD X Y J).getD j []).length = L) := hid fun j hj => by rw [boD_get _ _ _ _ hj, boL_length]; exact HXL.out j hj
      have HMB : Hid (∀ row, mixL row (boD X Y J) J L = boL (mixL row X J L) (mixL row Y J L)) := hid fun row => mixL_both row X Y J L HXL.out (fun j b => (byt_gN (BYX.out j) b).2) (fun j b => (byt_gN (BYY.out j) b).2)
      obtain ⟨Zs, HZS⟩ : ∃ x, Hid (boD X Y J = x) := ⟨_, rfl⟩
      rw [HZS.out] at HZ5 HBL HZL HMB HO
      obtain ⟨xs, hrow, _⟩ := HO.out
      obtain ⟨po, co, eo⟩ := own_slc hrow
      rw [HBL.out] at eo
      subst eo
      clear hrow
      obtain ⟨w5, HW5⟩ : ∃ x, Hid (wr = x) := ⟨_, rfl⟩
      rw [HW5.out] at B HZ5 HO ⊢
      have B5 := hid (B4.out.trans (B.out.mono B4.out.size))
      have C6 := hid (encode_ok w5 gc J M _ X L (HC4.out.below B.out) h1 hk hn (DX.out.below B.out) HXl.out (fun j hj => HXL.out j (by rw [HXl.out] at hj; exact hj)) (by omega))
      go_wp2_with fail
      refine C6.out.mono ?_
      rintro e w6 ⟨v6, rfl, hp6, hb6⟩
      have B46 := hid (B.out.trans (hb6.mono B.out.size))
      obtain ⟨g6, c6, e6, hlc6, hm6, hh6⟩ := hp6.at (by rw [prL_length]; omega)
      rw [prL_length] at e6 hlc6 hh6
      subst e6
      have HH6 := hid hh6
      have HZ6 := hid (HZ5.out.below hb6)
      clear hp6 hb6 C6 hh6 HO HZ5
      have C7 := hid (encode_ok w6 gc J M _ Y L (HC4.out.below B46.out) h1 hk hn (DY.out.below B46.out) HYl.out (fun j hj => HYL.out j (by rw [HYl.out] at hj; exact hj)) (by omega))
      go_wp2_with fail
      refine C7.out.mono ?_
      rintro e w7 ⟨v7, rfl, hp7, hb7⟩
      have B47 := hid (B46.out.trans (hb7.mono B46.out.size))
      have B67 := hid hb7
      obtain ⟨g7, c7, e7, hlc7, hm7, hh7⟩ := hp7.at (by rw [prL_length]; omega)
      rw [prL_length] at e7 hlc7 hh7
      subst e7
      have HH7 := hid hh7
      have HZ7 := hid (HZ6.out.below hb7)
      clear hp7 hb7 C7 hh7 HZ6
      have C8 := hid (encode_ok w7 gc J M _ Zs L (HC4.out.below B47.out) h1 hk hn HZ7.out HBL.out (fun j hj => HZL.out j (by rw [HBL.out] at hj; exact hj)) (by omega))
      go_wp2_with fail
      refine C8.out.mono ?_
      rintro e w8 ⟨v8, rfl, hp8, hb8⟩
      have B48 := hid (B47.out.trans (hb8.mono B47.out.size))
      have B78 := hid hb8
      have B68 := hid (B67.out.trans (hb8.mono B67.out.size))
      obtain ⟨g8, c8, e8, hlc8, hm8, hh8⟩ := hp8.at (by rw [prL_length]; omega)
      rw [prL_length] at e8 hlc8 hh8
      subst e8
      have HH8 := hid hh8
      clear hp8 hb8 C8 hh8 HZ7
      have hMM : ((M : Int) != (M : Int)) = false := by simp
      have BW8 := hid (B4.out.trans (B48.out.mono B4.out.size))
      obtain ⟨Sf, HSf⟩ : ∃ x, Hid (alk J M L X Y = x) := ⟨_, rfl⟩
      have HFAR := hid (far_all h1 hk hn HXl.out HYl.out HXL.out HYL.out BYX.out BYY.out)
      rw [HSf.out] at HFAR
      have HUN : Hid (∀ i, unL Sf i ≤ i) := hid fun i => by
        unfold unL
        have := List.length_filter_le (fun i => !Sf i) (List.range i)
        rwa [List.length_range] at this
      have DX8 := hid (DX.out.below B48.out)
      have DY8 := hid (DY.out.below B48.out)
      go_wp2
      go_loopw [21, 22] (fun un j wr => ∃ I : Nat, I ≤ M ∧ un = .int .i64 (unL Sf I : Int) ∧ j = .int .i64 (I : Int) ∧ Hid (Below w8.heap.size w8 wr)) (fun _ j _ => M - (intOf j).toNat)
      case atStart => exact ⟨0, Nat.zero_le _, rfl, rfl, Below.refl _ _⟩
      case round =>
        obtain ⟨I, hI, rfl, rfl, Bz⟩ := hrel
        have hun := HUN.out I
        by_cases hli : I < M
        · obtain ⟨u1, hu1, hbu1⟩ := HH6.out I hli
          obtain ⟨u2, hu2, hbu2⟩ := HH7.out I hli
          obtain ⟨u3, hu3, hbu3⟩ := HH8.out I hli
          rw [prL_get _ _ _ _ _ _ hli] at hbu1 hbu2 hbu3
          have HAI : Hid (Sf I = decide (mixL (rwL (elL J M) J I) X J L = mixL (rwL (elL J M) J I) Y J L)) := by rw [← HSf.out]; exact hid rfl
          have HUS := hid (unL_succ Sf I)
          rw [HMB.out] at hbu3
          have q1 : (mixL (rwL (elL J M) J I) X J L).length = L := tbL_length _ _
          have q2 : (mixL (rwL (elL J M) J I) Y J L).length = L := tbL_length _ _
          obtain ⟨X1, HX1⟩ : ∃ x, Hid (mixL (rwL (elL J M) J I) X J L = x) := ⟨_, rfl⟩
          obtain ⟨Y1, HY1⟩ : ∃ x, Hid (mixL (rwL (elL J M) J I) Y J L = x) := ⟨_, rfl⟩
          rw [HX1.out] at hbu1 hbu3 HAI q1
          rw [HY1.out] at hbu2 hbu3 HAI q2
          have q3 : (boL X1 Y1).length = L := by rw [boL_length]; exact q1
          obtain ⟨p1, c1, e1⟩ := hbu1.shape
          obtain ⟨p2, c2, e2⟩ := hbu2.shape
          obtain ⟨p3, c3, e3⟩ := hbu3.shape
          rw [q1] at e1
          rw [q2] at e2
          rw [q3] at e3
          subst e1
          subst e2
          subst e3
          have CX : Hid (∀ W, Below w8.heap.size w8 W → W.cell? ⟨g6, I, none⟩ = some (.slice p1 L c1) ∧ W.cell? ⟨g7, I, none⟩ = some (.slice p2 L c2) ∧ W.cell? ⟨g8, I, none⟩ = some (.slice p3 L c3)) := hid fun W hW => ⟨((B68.out.trans (hW.mono B68.out.size)).cell (World.block_lt_of_cell? w6 _ hu1)).trans hu1, ((B78.out.trans (hW.mono B78.out.size)).cell (World.block_lt_of_cell? w7 _ hu2)).trans hu2, (hW.cell (World.block_lt_of_cell? w8 _ hu3)).trans hu3⟩
          have CS1 := hid fun W (hW : Below w8.heap.size w8 W) => sameBytes_any W _ _ _ _ (hbu1.below (B68.out.trans (hW.mono B68.out.size))) (hbu2.below (B78.out.trans (hW.mono B78.out.size)))
          have CBo := hid fun W (hW : Below w8.heap.size w8 W) => both_any W _ _ _ _ (hbu1.below (B68.out.trans (hW.mono B68.out.size))) (hbu2.below (B78.out.trans (hW.mono B78.out.size))) (by rw [q1, q2]) (by rw [q1]; omega)
          have HB3 := hid hbu3
          rw [← HAI.out] at CS1
          rw [q1] at CBo
          obtain ⟨Z1, HZ1⟩ : ∃ x, Hid (boL X1 Y1 = x) := ⟨_, rfl⟩
          rw [HZ1.out] at CBo HB3 q3
          have HQ3 := hid q3
          have hLLn : ((L : Int) != (L : Int)) = false := by simp
          clear hbu1 hbu2 hbu3 hu1 hu2 hu3 q1 q2 q3
          by_cases hS : Sf I = true
          · rw [hS] at CS1
            rw [hS, if_pos rfl, Nat.add_zero] at HUS
            go_wp2
            refine wp_region_held_drew (S := Below w8.heap.size w8) (by kernel_rfl) Bz.out.drew (fun hHeld => ?_)
            have HS := hid hHeld
            clear hHeld
            change wpAnyH _ _ _ _ _ _ _ _ (World.drew _)
            refine wpAnyH_take (i := 0) (v := ?_) rfl (by kernel_rfl) (by kernel_rfl) (by kernel_rfl) (fun _ _ _ h => h) (Or.inl ⟨by rfl, ?q0⟩) HS.out ?_
            case q0 => intro w hSw; go_simp; rfl
            simp only [Act.put, List.getElem_toArray, List.getElem_cons_zero, List.getElem_cons_succ, List.setIfInBounds_toArray, List.set_cons_zero, List.set_cons_succ]
            refine wpAnyH_take (i := 1) (v := ?_) rfl (by kernel_rfl) (by kernel_rfl) (by kernel_rfl) (fun _ _ _ h => h) (Or.inl ⟨by rfl, ?q1⟩) HS.out ?_
            case q1 => intro w hSw; go_simp; rfl
            simp only [Act.put, List.getElem_toArray, List.getElem_cons_zero, List.getElem_cons_succ, List.setIfInBounds_toArray, List.set_cons_zero, List.set_cons_succ]
            refine wpAnyH_take (i := 2) (v := ?_) rfl (by kernel_rfl) (by kernel_rfl) (by kernel_rfl) (fun _ _ _ h => h) (Or.inl ⟨by rfl, ?q2⟩) HS.out ?_
            case q2 => intro w hSw; go_simp; rfl
            simp only [Act.put, List.getElem_toArray, List.getElem_cons_zero, List.getElem_cons_succ, List.setIfInBounds_toArray, List.set_cons_zero, List.set_cons_succ]
            refine wpAnyH_take (i := 3) (v := .slice p1 L c1) rfl (by kernel_rfl) (by kernel_rfl) (by kernel_rfl) (fun _ _ _ h => h) (Or.inl ⟨by rfl, ?q3⟩) HS.out ?_
            case q3 => intro w hSw; have hcx := (CX.out w hSw).1; go_simp
            simp only [Act.put, List.getElem_toArray, List.getElem_cons_zero, List.getElem_cons_succ, List.setIfInBounds_toArray, List.set_cons_zero, List.set_cons_succ]
            refine wpAnyH_take (i := 4) (v := ?_) rfl (by kernel_rfl) (by kernel_rfl) (by kernel_rfl) (fun _ _ _ h => h) (Or.inl ⟨by rfl, ?q4⟩) HS.out ?_
            case q4 => intro w hSw; go_simp; rfl
            simp only [Act.put, List.getElem_toArray, List.getElem_cons_zero, List.getElem_cons_succ, List.setIfInBounds_toArray, List.set_cons_zero, List.set_cons_succ]
            refine wpAnyH_take (i := 5) (v := ?_) rfl (by kernel_rfl) (by kernel_rfl) (by kernel_rfl) (fun _ _ _ h => h) (Or.inl ⟨by rfl, ?q5⟩) HS.out ?_
            case q5 => intro w hSw; go_simp; rfl
            simp only [Act.put, List.getElem_toArray, List.getElem_cons_zero, List.getElem_cons_succ, List.setIfInBounds_toArray, List.set_cons_zero, List.set_cons_succ]
            refine wpAnyH_take (i := 6) (v := ?_) rfl (by kernel_rfl) (by kernel_rfl) (by kernel_rfl) (fun _ _ _ h => h) (Or.inl ⟨by rfl, ?q6⟩) HS.out ?_
            case q6 => intro w hSw; go_simp; rfl
            simp only [Act.put, List.getElem_toArray, List.getElem_cons_zero, List.getElem_cons_succ, List.setIfInBounds_toArray, List.set_cons_zero, List.set_cons_succ]
            refine wpAnyH_take (i := 7) (v := .slice p2 L c2) rfl (by kernel_rfl) (by kernel_rfl) (by kernel_rfl) (fun _ _ _ h => h) (Or.inl ⟨by rfl, ?q7⟩) HS.out ?_
            case q7 => intro w hSw; have hcx := (CX.out w hSw).2.1; go_simp
            simp only [Act.put, List.getElem_toArray, List.getElem_cons_zero, List.getElem_cons_succ, List.setIfInBounds_toArray, List.set_cons_zero, List.set_cons_succ]
            refine wpAnyH_ready (rs := [8]) (by kernel_rfl) (by simp) ?_
            refine AllReadyH.cons rfl (fun K hK => ?_) AllReadyH.nil
            replace hK := hid hK
            go_simp
            refine (CS1.out _ HS.out).mono ?_
            rintro e w9 ⟨rfl, hd9⟩
            have HS2 := hid (HS.out.trans (hd9.below _))
            clear hd9
            refine hK.out _ _ HS2.out (fun _ => ?_)
            clear hK K
            clear HS
            have HS := HS2
            clear HS2
            try simp only [Act.put, List.getElem_toArray, List.getElem_cons_zero, List.getElem_cons_succ, List.setIfInBounds_toArray, List.set_cons_zero, List.set_cons_succ]
            refine wpAnyH_take (i := 9) (v := ?_) rfl (by kernel_rfl) (by kernel_rfl) (by kernel_rfl) (fun _ _ _ h => h) (Or.inl ⟨by rfl, ?q9⟩) HS.out ?_
            case q9 => intro w hSw; go_simp; rfl
            simp only [Act.put, List.getElem_toArray, List.getElem_cons_zero, List.getElem_cons_succ, List.setIfInBounds_toArray, List.set_cons_zero, List.set_cons_succ]
            refine wpAnyH_done (by kernel_rfl) ?_ _
            have Bz2 := hid HS.out
            clear HS
            go_wp2
            refine wp_region_held_drew (S := Below w8.heap.size w8) (by kernel_rfl) Bz2.out.drew (fun hHeld => ?_)
            have HS := hid hHeld
            clear hHeld
            change wpAnyH _ _ _ _ _ _ _ _ (World.drew _)
            refine wpAnyH_take (i := 0) (v := ?_) rfl (by kernel_rfl) (by kernel_rfl) (by kernel_rfl) (fun _ _ _ h => h) (Or.inl ⟨by rfl, ?q0⟩) HS.out ?_
            case q0 => intro w hSw; go_simp; rfl
            simp only [Act.put, List.getElem_toArray, List.getElem_cons_zero, List.getElem_cons_succ, List.setIfInBounds_toArray, List.set_cons_zero, List.set_cons_succ]
            refine wpAnyH_take (i := 1) (v := ?_) rfl (by kernel_rfl) (by kernel_rfl) (by kernel_rfl) (fun _ _ _ h => h) (Or.inl ⟨by rfl, ?q1⟩) HS.out ?_
            case q1 => intro w hSw; go_simp; rfl
            simp only [Act.put, List.getElem_toArray, List.getElem_cons_zero, List.getElem_cons_succ, List.setIfInBounds_toArray, List.set_cons_zero, List.set_cons_succ]
            refine wpAnyH_take (i := 2) (v := ?_) rfl (by kernel_rfl) (by kernel_rfl) (by kernel_rfl) (fun _ _ _ h => h) (Or.inl ⟨by rfl, ?q2⟩) HS.out ?_
            case q2 => intro w hSw; go_simp; rfl
            simp only [Act.put, List.getElem_toArray, List.getElem_cons_zero, List.getElem_cons_succ, List.setIfInBounds_toArray, List.set_cons_zero, List.set_cons_succ]
            refine wpAnyH_take (i := 3) (v := .slice p1 L c1) rfl (by kernel_rfl) (by kernel_rfl) (by kernel_rfl) (fun _ _ _ h => h) (Or.inl ⟨by rfl, ?q3⟩) HS.out ?_
            case q3 => intro w hSw; have hcx := (CX.out w hSw).1; go_simp
            simp only [Act.put, List.getElem_toArray, List.getElem_cons_zero, List.getElem_cons_succ, List.setIfInBounds_toArray, List.set_cons_zero, List.set_cons_succ]
            refine wpAnyH_take (i := 4) (v := ?_) rfl (by kernel_rfl) (by kernel_rfl) (by kernel_rfl) (fun _ _ _ h => h) (Or.inl ⟨by rfl, ?q4⟩) HS.out ?_
            case q4 => intro w hSw; go_simp; rfl
            simp only [Act.put, List.getElem_toArray, List.getElem_cons_zero, List.getElem_cons_succ, List.setIfInBounds_toArray, List.set_cons_zero, List.set_cons_succ]
            refine wpAnyH_take (i := 5) (v := ?_) rfl (by kernel_rfl) (by kernel_rfl) (by kernel_rfl) (fun _ _ _ h => h) (Or.inl ⟨by rfl, ?q5⟩) HS.out ?_
            case q5 => intro w hSw; go_simp; rfl
            simp only [Act.put, List.getElem_toArray, List.getElem_cons_zero, List.getElem_cons_succ, List.setIfInBounds_toArray, List.set_cons_zero, List.set_cons_succ]
            refine wpAnyH_take (i := 6) (v := ?_) rfl (by kernel_rfl) (by kernel_rfl) (by kernel_rfl) (fun _ _ _ h => h) (Or.inl ⟨by rfl, ?q6⟩) HS.out ?_
            case q6 => intro w hSw; go_simp; rfl
            simp only [Act.put, List.getElem_toArray, List.getElem_cons_zero, List.getElem_cons_succ, List.setIfInBounds_toArray, List.set_cons_zero, List.set_cons_succ]
            refine wpAnyH_take (i := 7) (v := ?_) rfl (by kernel_rfl) (by kernel_rfl) (by kernel_rfl) (fun _ _ _ h => h) (Or.inl ⟨by rfl, ?q7⟩) HS.out ?_
            case q7 => intro w hSw; go_simp; rfl
            simp only [Act.put, List.getElem_toArray, List.getElem_cons_zero, List.getElem_cons_succ, List.setIfInBounds_toArray, List.set_cons_zero, List.set_cons_succ]
            refine wpAnyH_take (i := 8) (v := .slice p2 L c2) rfl (by kernel_rfl) (by kernel_rfl) (by kernel_rfl) (fun _ _ _ h => h) (Or.inl ⟨by rfl, ?q8⟩) HS.out ?_
            case q8 => intro w hSw; have hcx := (CX.out w hSw).2.1; go_simp
            simp only [Act.put, List.getElem_toArray, List.getElem_cons_zero, List.getElem_cons_succ, List.setIfInBounds_toArray, List.set_cons_zero, List.set_cons_succ]
            refine wpAnyH_take (i := 9) (v := ?_) rfl (by kernel_rfl) (by kernel_rfl) (by kernel_rfl) (fun _ _ _ h => h) (Or.inl ⟨by rfl, ?q9⟩) HS.out ?_
            case q9 => intro w hSw; go_simp; rfl
            simp only [Act.put, List.getElem_toArray, List.getElem_cons_zero, List.getElem_cons_succ, List.setIfInBounds_toArray, List.set_cons_zero, List.set_cons_succ]
            refine wpAnyH_take (i := 10) (v := .bool false) rfl (by kernel_rfl) (by kernel_rfl) (by kernel_rfl) (fun _ _ _ h => h) (Or.inl ⟨by rfl, ?q10⟩) HS.out ?_
            case q10 => intro w hSw; go_simp
            simp only [Act.put, List.getElem_toArray, List.getElem_cons_zero, List.getElem_cons_succ, List.setIfInBounds_toArray, List.set_cons_zero, List.set_cons_succ]
            refine wpAnyH_take (i := 11) (v := ?_) rfl (by kernel_rfl) (by kernel_rfl) (by kernel_rfl) (fun _ _ _ h => h) (Or.inl ⟨by rfl, ?q11⟩) HS.out ?_
            case q11 => intro w hSw; go_simp; rfl
            simp only [Act.put, List.getElem_toArray, List.getElem_cons_zero, List.getElem_cons_succ, List.setIfInBounds_toArray, List.set_cons_zero, List.set_cons_succ]
            refine wpAnyH_take (i := 12) (v := ?_) rfl (by kernel_rfl) (by kernel_rfl) (by kernel_rfl) (fun _ _ _ h => h) (Or.inl ⟨by rfl, ?q12⟩) HS.out ?_
            case q12 => intro w hSw; go_simp; rfl
            simp only [Act.put, List.getElem_toArray, List.getElem_cons_zero, List.getElem_cons_succ, List.setIfInBounds_toArray, List.set_cons_zero, List.set_cons_succ]
            refine wpAnyH_take (i := 13) (v := ?_) rfl (by kernel_rfl) (by kernel_rfl) (by kernel_rfl) (fun _ _ _ h => h) (Or.inl ⟨by rfl, ?q13⟩) HS.out ?_
            case q13 => intro w hSw; go_simp; rfl
            simp only [Act.put, List.getElem_toArray, List.getElem_cons_zero, List.getElem_cons_succ, List.setIfInBounds_toArray, List.set_cons_zero, List.set_cons_succ]
            refine wpAnyH_take (i := 14) (v := ?_) rfl (by kernel_rfl) (by kernel_rfl) (by kernel_rfl) (fun _ _ _ h => h) (Or.inl ⟨by rfl, ?q14⟩) HS.out ?_
            case q14 => intro w hSw; go_simp; rfl
            simp only [Act.put, List.getElem_toArray, List.getElem_cons_zero, List.getElem_cons_succ, List.setIfInBounds_toArray, List.set_cons_zero, List.set_cons_succ]
            refine wpAnyH_take (i := 15) (v := .slice p3 L c3) rfl (by kernel_rfl) (by kernel_rfl) (by kernel_rfl) (fun _ _ _ h => h) (Or.inl ⟨by rfl, ?q15⟩) HS.out ?_
            case q15 => intro w hSw; have hcx := (CX.out w hSw).2.2; go_simp
            simp only [Act.put, List.getElem_toArray, List.getElem_cons_zero, List.getElem_cons_succ, List.setIfInBounds_toArray, List.set_cons_zero, List.set_cons_succ]
            refine wpAnyH_take (i := 16) (v := ?_) rfl (by kernel_rfl) (by kernel_rfl) (by kernel_rfl) (fun _ _ _ h => h) (Or.inl ⟨by rfl, ?q16⟩) HS.out ?_
            case q16 => intro w hSw; go_simp; rfl
            simp only [Act.put, List.getElem_toArray, List.getElem_cons_zero, List.getElem_cons_succ, List.setIfInBounds_toArray, List.set_cons_zero, List.set_cons_succ]
            refine wpAnyH_take (i := 17) (v := ?_) rfl (by kernel_rfl) (by kernel_rfl) (by kernel_rfl) (fun _ _ _ h => h) (Or.inl ⟨by rfl, ?q17⟩) HS.out ?_
            case q17 => intro w hSw; go_simp; rfl
            simp only [Act.put, List.getElem_toArray, List.getElem_cons_zero, List.getElem_cons_succ, List.setIfInBounds_toArray, List.set_cons_zero, List.set_cons_succ]
            refine wpAnyH_take (i := 18) (v := ?_) rfl (by kernel_rfl) (by kernel_rfl) (by kernel_rfl) (fun _ _ _ h => h) (Or.inl ⟨by rfl, ?q18⟩) HS.out ?_
            case q18 => intro w hSw; go_simp; rfl
            simp only [Act.put, List.getElem_toArray, List.getElem_cons_zero, List.getElem_cons_succ, List.setIfInBounds_toArray, List.set_cons_zero, List.set_cons_succ]
            refine wpAnyH_take (i := 19) (v := .slice p1 L c1) rfl (by kernel_rfl) (by kernel_rfl) (by kernel_rfl) (fun _ _ _ h => h) (Or.inl ⟨by rfl, ?q19⟩) HS.out ?_
            case q19 => intro w hSw; have hcx := (CX.out w hSw).1; go_simp
            simp only [Act.put, List.getElem_toArray, List.getElem_cons_zero, List.getElem_cons_succ, List.setIfInBounds_toArray, List.set_cons_zero, List.set_cons_succ]
            refine wpAnyH_take (i := 20) (v := ?_) rfl (by kernel_rfl) (by kernel_rfl) (by kernel_rfl) (fun _ _ _ h => h) (Or.inl ⟨by rfl, ?q20⟩) HS.out ?_
            case q20 => intro w hSw; go_simp; rfl
            simp only [Act.put, List.getElem_toArray, List.getElem_cons_zero, List.getElem_cons_succ, List.setIfInBounds_toArray, List.set_cons_zero, List.set_cons_succ]
            refine wpAnyH_take (i := 21) (v := ?_) rfl (by kernel_rfl) (by kernel_rfl) (by kernel_rfl) (fun _ _ _ h => h) (Or.inl ⟨by rfl, ?q21⟩) HS.out ?_
            case q21 => intro w hSw; go_simp; rfl
            simp only [Act.put, List.getElem_toArray, List.getElem_cons_zero, List.getElem_cons_succ, List.setIfInBounds_toArray, List.set_cons_zero, List.set_cons_succ]
            refine wpAnyH_take (i := 22) (v := ?_) rfl (by kernel_rfl) (by kernel_rfl) (by kernel_rfl) (fun _ _ _ h => h) (Or.inl ⟨by rfl, ?q22⟩) HS.out ?_
            case q22 => intro w hSw; go_simp; rfl
            simp only [Act.put, List.getElem_toArray, List.getElem_cons_zero, List.getElem_cons_succ, List.setIfInBounds_toArray, List.set_cons_zero, List.set_cons_succ]
            refine wpAnyH_take (i := 23) (v := .slice p2 L c2) rfl (by kernel_rfl) (by kernel_rfl) (by kernel_rfl) (fun _ _ _ h => h) (Or.inl ⟨by rfl, ?q23⟩) HS.out ?_
            case q23 => intro w hSw; have hcx := (CX.out w hSw).2.1; go_simp
            simp only [Act.put, List.getElem_toArray, List.getElem_cons_zero, List.getElem_cons_succ, List.setIfInBounds_toArray, List.set_cons_zero, List.set_cons_succ]
            refine wpAnyH_ready (rs := [24]) (by kernel_rfl) (by simp) ?_
            refine AllReadyH.cons rfl (fun K hK => ?_) AllReadyH.nil
            replace hK := hid hK
            go_simp
            refine (CBo.out _ HS.out).mono ?_
            rintro e wA ⟨vA, rfl, hoA, hyA, hbA⟩
            have HS2 := hid (HS.out.trans (hbA.mono HS.out.size))
            have CS2 := hid fun W (hW : Below wA.heap.size wA W) => sameBytes_any W (.slice p3 L c3) vA Z1 Z1 (HB3.out.below (HS2.out.trans (hW.mono HS2.out.size))) ((HB.of_own (by rw [HQ3.out]; exact hoA) hyA : HB wA vA Z1).below hW)
            obtain ⟨pA, cA, evA⟩ := own_slc hoA
            subst evA
            clear hbA hoA hyA
            refine hK.out _ _ HS2.out (fun _ => ?_)
            clear hK K
            clear HS
            have HS := HS2
            clear HS2
            try simp only [Act.put, List.getElem_toArray, List.getElem_cons_zero, List.getElem_cons_succ, List.setIfInBounds_toArray, List.set_cons_zero, List.set_cons_succ]
            refine wpAnyH_ready (rs := [25]) (by kernel_rfl) (by simp) ?_
            refine AllReadyH.cons rfl (fun K hK => ?_) AllReadyH.nil
            replace hK := hid hK
            go_simp
            refine (CS2.out _ (Below.refl _ _)).mono ?_
            rintro e wB ⟨rfl, hdB⟩
            rw [decide_eq_true rfl]
            have HS2 := hid (HS.out.trans (hdB.below _))
            clear hdB CS2
            refine hK.out _ _ HS2.out (fun _ => ?_)
            clear hK K
            clear HS
            have HS := HS2
            clear HS2
            try simp only [Act.put, List.getElem_toArray, List.getElem_cons_zero, List.getElem_cons_succ, List.setIfInBounds_toArray, List.set_cons_zero, List.set_cons_succ]
            refine wpAnyH_take (i := 26) (v := ?_) rfl (by kernel_rfl) (by kernel_rfl) (by kernel_rfl) (fun _ _ _ h => h) (Or.inl ⟨by rfl, ?q26⟩) HS.out ?_
            case q26 => intro w hSw; go_simp; rfl
            simp only [Act.put, List.getElem_toArray, List.getElem_cons_zero, List.getElem_cons_succ, List.setIfInBounds_toArray, List.set_cons_zero, List.set_cons_succ]
            refine wpAnyH_take (i := 27) (v := ?_) rfl (by kernel_rfl) (by kernel_rfl) (by kernel_rfl) (fun _ _ _ h => h) (Or.inl ⟨by rfl, ?q27⟩) HS.out ?_
            case q27 => intro w hSw; go_simp; rfl
            simp only [Act.put, List.getElem_toArray, List.getElem_cons_zero, List.getElem_cons_succ, List.setIfInBounds_toArray, List.set_cons_zero, List.set_cons_succ]
            refine wpAnyH_done (by kernel_rfl) ?_ _
            have BZ := hid HS.out
            go_wp2
            exact ⟨⟨I + 1, by omega, by simp only [HUS.out, Nat.add_zero], by go_num, BZ⟩, by simp [intOf]; omega⟩
          · have hSf : Sf I = false := by simpa using hS
            rw [hSf] at CS1
            rw [hSf, if_neg (by simp)] at HUS
            go_wp2
            refine wp_region_held_drew (S := Below w8.heap.size w8) (by kernel_rfl) Bz.out.drew (fun hHeld => ?_)
            have HS := hid hHeld
            clear hHeld
            change wpAnyH _ _ _ _ _ _ _ _ (World.drew _)
            refine wpAnyH_take (i := 0) (v := ?_) rfl (by kernel_rfl) (by kernel_rfl) (by kernel_rfl) (fun _ _ _ h => h) (Or.inl ⟨by rfl, ?q0⟩) HS.out ?_
            case q0 => intro w hSw; go_simp; rfl
            simp only [Act.put, List.getElem_toArray, List.getElem_cons_zero, List.getElem_cons_succ, List.setIfInBounds_toArray, List.set_cons_zero, List.set_cons_succ]
            refine wpAnyH_take (i := 1) (v := ?_) rfl (by kernel_rfl) (by kernel_rfl) (by kernel_rfl) (fun _ _ _ h => h) (Or.inl ⟨by rfl, ?q1⟩) HS.out ?_
            case q1 => intro w hSw; go_simp; rfl
            simp only [Act.put, List.getElem_toArray, List.getElem_cons_zero, List.getElem_cons_succ, List.setIfInBounds_toArray, List.set_cons_zero, List.set_cons_succ]
            refine wpAnyH_take (i := 2) (v := ?_) rfl (by kernel_rfl) (by kernel_rfl) (by kernel_rfl) (fun _ _ _ h => h) (Or.inl ⟨by rfl, ?q2⟩) HS.out ?_
            case q2 => intro w hSw; go_simp; rfl
            simp only [Act.put, List.getElem_toArray, List.getElem_cons_zero, List.getElem_cons_succ, List.setIfInBounds_toArray, List.set_cons_zero, List.set_cons_succ]
            refine wpAnyH_take (i := 3) (v := .slice p1 L c1) rfl (by kernel_rfl) (by kernel_rfl) (by kernel_rfl) (fun _ _ _ h => h) (Or.inl ⟨by rfl, ?q3⟩) HS.out ?_
            case q3 => intro w hSw; have hcx := (CX.out w hSw).1; go_simp
            simp only [Act.put, List.getElem_toArray, List.getElem_cons_zero, List.getElem_cons_succ, List.setIfInBounds_toArray, List.set_cons_zero, List.set_cons_succ]
            refine wpAnyH_take (i := 4) (v := ?_) rfl (by kernel_rfl) (by kernel_rfl) (by kernel_rfl) (fun _ _ _ h => h) (Or.inl ⟨by rfl, ?q4⟩) HS.out ?_
            case q4 => intro w hSw; go_simp; rfl
            simp only [Act.put, List.getElem_toArray, List.getElem_cons_zero, List.getElem_cons_succ, List.setIfInBounds_toArray, List.set_cons_zero, List.set_cons_succ]
            refine wpAnyH_take (i := 5) (v := ?_) rfl (by kernel_rfl) (by kernel_rfl) (by kernel_rfl) (fun _ _ _ h => h) (Or.inl ⟨by rfl, ?q5⟩) HS.out ?_
            case q5 => intro w hSw; go_simp; rfl
            simp only [Act.put, List.getElem_toArray, List.getElem_cons_zero, List.getElem_cons_succ, List.setIfInBounds_toArray, List.set_cons_zero, List.set_cons_succ]
            refine wpAnyH_take (i := 6) (v := ?_) rfl (by kernel_rfl) (by kernel_rfl) (by kernel_rfl) (fun _ _ _ h => h) (Or.inl ⟨by rfl, ?q6⟩) HS.out ?_
            case q6 => intro w hSw; go_simp; rfl
            simp only [Act.put, List.getElem_toArray, List.getElem_cons_zero, List.getElem_cons_succ, List.setIfInBounds_toArray, List.set_cons_zero, List.set_cons_succ]
            refine wpAnyH_take (i := 7) (v := .slice p2 L c2) rfl (by kernel_rfl) (by kernel_rfl) (by kernel_rfl) (fun _ _ _ h => h) (Or.inl ⟨by rfl, ?q7⟩) HS.out ?_
            case q7 => intro w hSw; have hcx := (CX.out w hSw).2.1; go_simp
            simp only [Act.put, List.getElem_toArray, List.getElem_cons_zero, List.getElem_cons_succ, List.setIfInBounds_toArray, List.set_cons_zero, List.set_cons_succ]
            refine wpAnyH_ready (rs := [8]) (by kernel_rfl) (by simp) ?_
            refine AllReadyH.cons rfl (fun K hK => ?_) AllReadyH.nil
            replace hK := hid hK
            go_simp
            refine (CS1.out _ HS.out).mono ?_
            rintro e w9 ⟨rfl, hd9⟩
            have HS2 := hid (HS.out.trans (hd9.below _))
            clear hd9
            refine hK.out _ _ HS2.out (fun _ => ?_)
            clear hK K
            clear HS
            have HS := HS2
            clear HS2
            try simp only [Act.put, List.getElem_toArray, List.getElem_cons_zero, List.getElem_cons_succ, List.setIfInBounds_toArray, List.set_cons_zero, List.set_cons_succ]
            refine wpAnyH_take (i := 9) (v := ?_) rfl (by kernel_rfl) (by kernel_rfl) (by kernel_rfl) (fun _ _ _ h => h) (Or.inl ⟨by rfl, ?q9⟩) HS.out ?_
            case q9 => intro w hSw; go_simp; rfl
            simp only [Act.put, List.getElem_toArray, List.getElem_cons_zero, List.getElem_cons_succ, List.setIfInBounds_toArray, List.set_cons_zero, List.set_cons_succ]
            refine wpAnyH_done (by kernel_rfl) ?_ _
            have Bz2 := hid HS.out
            clear HS
            go_wp2
            refine wp_region_held_drew (S := Below w8.heap.size w8) (by kernel_rfl) Bz2.out.drew (fun hHeld => ?_)
            have HS := hid hHeld
            clear hHeld
            change wpAnyH _ _ _ _ _ _ _ _ (World.drew _)
            refine wpAnyH_take (i := 0) (v := ?_) rfl (by kernel_rfl) (by kernel_rfl) (by kernel_rfl) (fun _ _ _ h => h) (Or.inl ⟨by rfl, ?q0⟩) HS.out ?_
            case q0 => intro w hSw; go_simp; rfl
            simp only [Act.put, List.getElem_toArray, List.getElem_cons_zero, List.getElem_cons_succ, List.setIfInBounds_toArray, List.set_cons_zero, List.set_cons_succ]
            refine wpAnyH_take (i := 1) (v := ?_) rfl (by kernel_rfl) (by kernel_rfl) (by kernel_rfl) (fun _ _ _ h => h) (Or.inl ⟨by rfl, ?q1⟩) HS.out ?_
            case q1 => intro w hSw; go_simp; rfl
            simp only [Act.put, List.getElem_toArray, List.getElem_cons_zero, List.getElem_cons_succ, List.setIfInBounds_toArray, List.set_cons_zero, List.set_cons_succ]
            refine wpAnyH_take (i := 2) (v := ?_) rfl (by kernel_rfl) (by kernel_rfl) (by kernel_rfl) (fun _ _ _ h => h) (Or.inl ⟨by rfl, ?q2⟩) HS.out ?_
            case q2 => intro w hSw; go_simp; rfl
            simp only [Act.put, List.getElem_toArray, List.getElem_cons_zero, List.getElem_cons_succ, List.setIfInBounds_toArray, List.set_cons_zero, List.set_cons_succ]
            refine wpAnyH_take (i := 3) (v := .slice p1 L c1) rfl (by kernel_rfl) (by kernel_rfl) (by kernel_rfl) (fun _ _ _ h => h) (Or.inl ⟨by rfl, ?q3⟩) HS.out ?_
            case q3 => intro w hSw; have hcx := (CX.out w hSw).1; go_simp
            simp only [Act.put, List.getElem_toArray, List.getElem_cons_zero, List.getElem_cons_succ, List.setIfInBounds_toArray, List.set_cons_zero, List.set_cons_succ]
            refine wpAnyH_take (i := 4) (v := ?_) rfl (by kernel_rfl) (by kernel_rfl) (by kernel_rfl) (fun _ _ _ h => h) (Or.inl ⟨by rfl, ?q4⟩) HS.out ?_
            case q4 => intro w hSw; go_simp; rfl
            simp only [Act.put, List.getElem_toArray, List.getElem_cons_zero, List.getElem_cons_succ, List.setIfInBounds_toArray, List.set_cons_zero, List.set_cons_succ]
            refine wpAnyH_take (i := 5) (v := ?_) rfl (by kernel_rfl) (by kernel_rfl) (by kernel_rfl) (fun _ _ _ h => h) (Or.inl ⟨by rfl, ?q5⟩) HS.out ?_
            case q5 => intro w hSw; go_simp; rfl
            simp only [Act.put, List.getElem_toArray, List.getElem_cons_zero, List.getElem_cons_succ, List.setIfInBounds_toArray, List.set_cons_zero, List.set_cons_succ]
            refine wpAnyH_take (i := 6) (v := ?_) rfl (by kernel_rfl) (by kernel_rfl) (by kernel_rfl) (fun _ _ _ h => h) (Or.inl ⟨by rfl, ?q6⟩) HS.out ?_
            case q6 => intro w hSw; go_simp; rfl
            simp only [Act.put, List.getElem_toArray, List.getElem_cons_zero, List.getElem_cons_succ, List.setIfInBounds_toArray, List.set_cons_zero, List.set_cons_succ]
            refine wpAnyH_take (i := 7) (v := ?_) rfl (by kernel_rfl) (by kernel_rfl) (by kernel_rfl) (fun _ _ _ h => h) (Or.inl ⟨by rfl, ?q7⟩) HS.out ?_
            case q7 => intro w hSw; go_simp; rfl
            simp only [Act.put, List.getElem_toArray, List.getElem_cons_zero, List.getElem_cons_succ, List.setIfInBounds_toArray, List.set_cons_zero, List.set_cons_succ]
            refine wpAnyH_take (i := 8) (v := .slice p2 L c2) rfl (by kernel_rfl) (by kernel_rfl) (by kernel_rfl) (fun _ _ _ h => h) (Or.inl ⟨by rfl, ?q8⟩) HS.out ?_
            case q8 => intro w hSw; have hcx := (CX.out w hSw).2.1; go_simp
            simp only [Act.put, List.getElem_toArray, List.getElem_cons_zero, List.getElem_cons_succ, List.setIfInBounds_toArray, List.set_cons_zero, List.set_cons_succ]
            refine wpAnyH_take (i := 9) (v := ?_) rfl (by kernel_rfl) (by kernel_rfl) (by kernel_rfl) (fun _ _ _ h => h) (Or.inl ⟨by rfl, ?q9⟩) HS.out ?_
            case q9 => intro w hSw; go_simp; rfl
            simp only [Act.put, List.getElem_toArray, List.getElem_cons_zero, List.getElem_cons_succ, List.setIfInBounds_toArray, List.set_cons_zero, List.set_cons_succ]
            refine wpAnyH_take (i := 10) (v := .bool false) rfl (by kernel_rfl) (by kernel_rfl) (by kernel_rfl) (fun _ _ _ h => h) (Or.inl ⟨by rfl, ?q10⟩) HS.out ?_
            case q10 => intro w hSw; go_simp
            simp only [Act.put, List.getElem_toArray, List.getElem_cons_zero, List.getElem_cons_succ, List.setIfInBounds_toArray, List.set_cons_zero, List.set_cons_succ]
            refine wpAnyH_take (i := 11) (v := ?_) rfl (by kernel_rfl) (by kernel_rfl) (by kernel_rfl) (fun _ _ _ h => h) (Or.inl ⟨by rfl, ?q11⟩) HS.out ?_
            case q11 => intro w hSw; go_simp; rfl
            simp only [Act.put, List.getElem_toArray, List.getElem_cons_zero, List.getElem_cons_succ, List.setIfInBounds_toArray, List.set_cons_zero, List.set_cons_succ]
            refine wpAnyH_take (i := 12) (v := ?_) rfl (by kernel_rfl) (by kernel_rfl) (by kernel_rfl) (fun _ _ _ h => h) (Or.inl ⟨by rfl, ?q12⟩) HS.out ?_
            case q12 => intro w hSw; go_simp; rfl
            simp only [Act.put, List.getElem_toArray, List.getElem_cons_zero, List.getElem_cons_succ, List.setIfInBounds_toArray, List.set_cons_zero, List.set_cons_succ]
            refine wpAnyH_take (i := 13) (v := ?_) rfl (by kernel_rfl) (by kernel_rfl) (by kernel_rfl) (fun _ _ _ h => h) (Or.inl ⟨by rfl, ?q13⟩) HS.out ?_
            case q13 => intro w hSw; go_simp; rfl
            simp only [Act.put, List.getElem_toArray, List.getElem_cons_zero, List.getElem_cons_succ, List.setIfInBounds_toArray, List.set_cons_zero, List.set_cons_succ]
            refine wpAnyH_take (i := 14) (v := ?_) rfl (by kernel_rfl) (by kernel_rfl) (by kernel_rfl) (fun _ _ _ h => h) (Or.inl ⟨by rfl, ?q14⟩) HS.out ?_
            case q14 => intro w hSw; go_simp; rfl
            simp only [Act.put, List.getElem_toArray, List.getElem_cons_zero, List.getElem_cons_succ, List.setIfInBounds_toArray, List.set_cons_zero, List.set_cons_succ]
            refine wpAnyH_take (i := 15) (v := .slice p3 L c3) rfl (by kernel_rfl) (by kernel_rfl) (by kernel_rfl) (fun _ _ _ h => h) (Or.inl ⟨by rfl, ?q15⟩) HS.out ?_
            case q15 => intro w hSw; have hcx := (CX.out w hSw).2.2; go_simp
            simp only [Act.put, List.getElem_toArray, List.getElem_cons_zero, List.getElem_cons_succ, List.setIfInBounds_toArray, List.set_cons_zero, List.set_cons_succ]
            refine wpAnyH_take (i := 16) (v := ?_) rfl (by kernel_rfl) (by kernel_rfl) (by kernel_rfl) (fun _ _ _ h => h) (Or.inl ⟨by rfl, ?q16⟩) HS.out ?_
            case q16 => intro w hSw; go_simp; rfl
            simp only [Act.put, List.getElem_toArray, List.getElem_cons_zero, List.getElem_cons_succ, List.setIfInBounds_toArray, List.set_cons_zero, List.set_cons_succ]
            refine wpAnyH_take (i := 17) (v := ?_) rfl (by kernel_rfl) (by kernel_rfl) (by kernel_rfl) (fun _ _ _ h => h) (Or.inl ⟨by rfl, ?q17⟩) HS.out ?_
            case q17 => intro w hSw; go_simp; rfl
            simp only [Act.put, List.getElem_toArray, List.getElem_cons_zero, List.getElem_cons_succ, List.setIfInBounds_toArray, List.set_cons_zero, List.set_cons_succ]
            refine wpAnyH_take (i := 18) (v := ?_) rfl (by kernel_rfl) (by kernel_rfl) (by kernel_rfl) (fun _ _ _ h => h) (Or.inl ⟨by rfl, ?q18⟩) HS.out ?_
            case q18 => intro w hSw; go_simp; rfl
            simp only [Act.put, List.getElem_toArray, List.getElem_cons_zero, List.getElem_cons_succ, List.setIfInBounds_toArray, List.set_cons_zero, List.set_cons_succ]
            refine wpAnyH_take (i := 19) (v := .slice p1 L c1) rfl (by kernel_rfl) (by kernel_rfl) (by kernel_rfl) (fun _ _ _ h => h) (Or.inl ⟨by rfl, ?q19⟩) HS.out ?_
            case q19 => intro w hSw; have hcx := (CX.out w hSw).1; go_simp
            simp only [Act.put, List.getElem_toArray, List.getElem_cons_zero, List.getElem_cons_succ, List.setIfInBounds_toArray, List.set_cons_zero, List.set_cons_succ]
            refine wpAnyH_take (i := 20) (v := ?_) rfl (by kernel_rfl) (by kernel_rfl) (by kernel_rfl) (fun _ _ _ h => h) (Or.inl ⟨by rfl, ?q20⟩) HS.out ?_
            case q20 => intro w hSw; go_simp; rfl
            simp only [Act.put, List.getElem_toArray, List.getElem_cons_zero, List.getElem_cons_succ, List.setIfInBounds_toArray, List.set_cons_zero, List.set_cons_succ]
            refine wpAnyH_take (i := 21) (v := ?_) rfl (by kernel_rfl) (by kernel_rfl) (by kernel_rfl) (fun _ _ _ h => h) (Or.inl ⟨by rfl, ?q21⟩) HS.out ?_
            case q21 => intro w hSw; go_simp; rfl
            simp only [Act.put, List.getElem_toArray, List.getElem_cons_zero, List.getElem_cons_succ, List.setIfInBounds_toArray, List.set_cons_zero, List.set_cons_succ]
            refine wpAnyH_take (i := 22) (v := ?_) rfl (by kernel_rfl) (by kernel_rfl) (by kernel_rfl) (fun _ _ _ h => h) (Or.inl ⟨by rfl, ?q22⟩) HS.out ?_
            case q22 => intro w hSw; go_simp; rfl
            simp only [Act.put, List.getElem_toArray, List.getElem_cons_zero, List.getElem_cons_succ, List.setIfInBounds_toArray, List.set_cons_zero, List.set_cons_succ]
            refine wpAnyH_take (i := 23) (v := .slice p2 L c2) rfl (by kernel_rfl) (by kernel_rfl) (by kernel_rfl) (fun _ _ _ h => h) (Or.inl ⟨by rfl, ?q23⟩) HS.out ?_
            case q23 => intro w hSw; have hcx := (CX.out w hSw).2.1; go_simp
            simp only [Act.put, List.getElem_toArray, List.getElem_cons_zero, List.getElem_cons_succ, List.setIfInBounds_toArray, List.set_cons_zero, List.set_cons_succ]
            refine wpAnyH_ready (rs := [24]) (by kernel_rfl) (by simp) ?_
            refine AllReadyH.cons rfl (fun K hK => ?_) AllReadyH.nil
            replace hK := hid hK
            go_simp
            refine (CBo.out _ HS.out).mono ?_
            rintro e wA ⟨vA, rfl, hoA, hyA, hbA⟩
            have HS2 := hid (HS.out.trans (hbA.mono HS.out.size))
            have CS2 := hid fun W (hW : Below wA.heap.size wA W) => sameBytes_any W (.slice p3 L c3) vA Z1 Z1 (HB3.out.below (HS2.out.trans (hW.mono HS2.out.size))) ((HB.of_own (by rw [HQ3.out]; exact hoA) hyA : HB wA vA Z1).below hW)
            obtain ⟨pA, cA, evA⟩ := own_slc hoA
            subst evA
            clear hbA hoA hyA
            refine hK.out _ _ HS2.out (fun _ => ?_)
            clear hK K
            clear HS
            have HS := HS2
            clear HS2
            try simp only [Act.put, List.getElem_toArray, List.getElem_cons_zero, List.getElem_cons_succ, List.setIfInBounds_toArray, List.set_cons_zero, List.set_cons_succ]
            refine wpAnyH_ready (rs := [25]) (by kernel_rfl) (by simp) ?_
            refine AllReadyH.cons rfl (fun K hK => ?_) AllReadyH.nil
            replace hK := hid hK
            go_simp
            refine (CS2.out _ (Below.refl _ _)).mono ?_
            rintro e wB ⟨rfl, hdB⟩
            rw [decide_eq_true rfl]
            have HS2 := hid (HS.out.trans (hdB.below _))
            clear hdB CS2
            refine hK.out _ _ HS2.out (fun _ => ?_)
            clear hK K
            clear HS
            have HS := HS2
            clear HS2
            try simp only [Act.put, List.getElem_toArray, List.getElem_cons_zero, List.getElem_cons_succ, List.setIfInBounds_toArray, List.set_cons_zero, List.set_cons_succ]
            refine wpAnyH_take (i := 26) (v := ?_) rfl (by kernel_rfl) (by kernel_rfl) (by kernel_rfl) (fun _ _ _ h => h) (Or.inl ⟨by rfl, ?q26⟩) HS.out ?_
            case q26 => intro w hSw; go_simp; rfl
            simp only [Act.put, List.getElem_toArray, List.getElem_cons_zero, List.getElem_cons_succ, List.setIfInBounds_toArray, List.set_cons_zero, List.set_cons_succ]
            refine wpAnyH_take (i := 27) (v := ?_) rfl (by kernel_rfl) (by kernel_rfl) (by kernel_rfl) (fun _ _ _ h => h) (Or.inl ⟨by rfl, ?q27⟩) HS.out ?_
            case q27 => intro w hSw; go_simp; rfl
            simp only [Act.put, List.getElem_toArray, List.getElem_cons_zero, List.getElem_cons_succ, List.setIfInBounds_toArray, List.set_cons_zero, List.set_cons_succ]
            refine wpAnyH_done (by kernel_rfl) ?_ _
            have BZ := hid HS.out
            go_wp2
            exact ⟨⟨I + 1, by omega, by rw [HUS.out]; go_num, by go_num, BZ⟩, by simp [intOf]; omega⟩
        · have hI' : I = M := by omega
          have CSL := hid (sameLists_any wr _ _ X Y (DX8.out.below Bz.out) (DY8.out.below Bz.out))
          have BF := hid (BW8.out.trans (Bz.out.mono BW8.out.size))
          rw [hI'] at hun ⊢
          obtain ⟨U, HU⟩ : ∃ x, Hid (unL Sf M = x) := ⟨_, rfl⟩
          rw [HU.out] at hun HFAR ⊢
          by_cases hfew : U ≤ M - J
          · obtain ⟨hXY, hU0⟩ := HFAR.out hfew
            have hdec : decide (X = Y) = true := by simp [hXY]
            rw [hdec] at CSL
            subst hU0
            clear hXY
            go_wp2_with fail
            refine CSL.out.mono ?_
            rintro e w9 ⟨rfl, hd9⟩
            have B9 := hid (BF.out.trans (hd9.below _))
            clear hd9
            go_wp2
            go_ret
            exact ⟨rfl, B9.out⟩
          · have hU1 : ((U : Int) == 0) = false := by simp; omega
            have hge : (U : Int) ≥ (M : Int) - (J : Int) + 1 := by omega
            obtain ⟨sb, Hsb⟩ : ∃ x, Hid (decide (X = Y) = x) := ⟨_, rfl⟩
            rw [Hsb.out] at CSL
            cases sb
            · go_wp2_with fail
              refine CSL.out.mono ?_
              rintro e w9 ⟨rfl, hd9⟩
              have B9 := hid (BF.out.trans (hd9.below _))
              clear hd9
              go_wp2
              go_ret
              exact ⟨rfl, B9.out⟩
            · go_wp2_with fail
              refine CSL.out.mono ?_
              rintro e w9 ⟨rfl, hd9⟩
              have B9 := hid (BF.out.trans (hd9.below _))
              clear hd9
              go_wp2
              go_ret
              exact ⟨rfl, B9.out⟩
end Go.Proofs.Ytmlhfjflkcenkaa
