/- The document's Join, walked. -/
import Derived.Test.YtdmdcnikhnoclabCutJnAll
import Derived.Deep.RegionHeld
set_option linter.unusedVariables false
set_option linter.unusedSimpArgs false
namespace Go.Proofs.Ytdmdcnikhnoclab
open Go Go.RowKit

set_option maxRecDepth 100000 in
set_option maxHeartbeats 8000000 in
theorem rjoin_any9 (w : World) (v : Value) (ls : List (List Int)) (size : Int) (h : HL w v ls) :
    Calls Try.prog 12 #[v, .int .i64 size] w fun e w' => ∃ v', e = .returned (.tuple #[v', .int .i64 (jnE ls size)]) ∧ w'.ownsRowT w.heap.size v' (jnL ls size).length ((jnL ls size).map (Value.int .u8)) ∧ Below w.heap.size w w' := by
  obtain ⟨i0, hi, hz0, hz1, hz2⟩ := info_parts info_u8
  obtain ⟨p, c, e, hlc, hm⟩ := h.open
  unfold maxLen at hm
  have A : Hid (0 < ls.length → ∃ b off, p = some ⟨b, off, none⟩ ∧ ∀ j, j < ls.length → ∃ u, w.cell? ⟨b, off + j, none⟩ = some u ∧ HB w u (ls.getD j [])) := by
    intro h0
    obtain ⟨b, off, c', e', _, _, hh⟩ := h.ne h0
    rw [e] at e'
    simp only [Value.slice.injEq, true_and] at e'
    exact ⟨b, off, e'.1, hh⟩
  clear h
  subst e
  have bad : ¬ JnOk ls size → Hid (jnE ls size = 91 ∧ jnL ls size = []) := fun h => jn_no h
  have nilT : Hid (∀ w' : World, w'.ownsRowT w.heap.size (.slice none 0 0) 0 []) := fun w' => ⟨rfl, .inl ⟨rfl, rfl⟩⟩
  by_cases hk1 : ls.length < 1
  · have BD := bad fun q => by have := q.1; omega
    have hk1' : (ls.length : Int) < 1 := by omega
    clear bad
    go_enter Try.func12, Try.ntmps12
    go_wp2
    go_ret2
    rw [BD.out.1, BD.out.2]
    exact ⟨_, rfl, nilT.out _, Below.refl _ _⟩
  have hk1' : ¬ (ls.length : Int) < 1 := by omega
  by_cases hk2 : 255 < ls.length
  · have BD := bad fun q => by have := q.2.1; omega
    have hk2' : (255 : Int) < (ls.length : Int) := by omega
    clear bad
    go_enter Try.func12, Try.ntmps12
    go_wp2
    go_ret2
    rw [BD.out.1, BD.out.2]
    exact ⟨_, rfl, nilT.out _, Below.refl _ _⟩
  have hk2' : ¬ (255 : Int) < (ls.length : Int) := by omega
  by_cases hs1 : size < 1
  · have BD := bad fun q => by have := q.2.2.1; omega
    clear bad
    go_enter Try.func12, Try.ntmps12
    go_wp2
    go_ret2
    rw [BD.out.1, BD.out.2]
    exact ⟨_, rfl, nilT.out _, Below.refl _ _⟩
  have ml := most_lt (k := (ls.length : Int)) (by omega) (by omega)
  have CM := hid fun w => rup_any w 65536 (ls.length : Int) (by decide) (by decide) (by omega) (by omega)
  obtain ⟨M, HM⟩ : ∃ M, Hid ((ls.length : Int) * upI 65536 ls.length = M) := ⟨_, rfl⟩
  rw [HM.out] at ml
  have hM := HM.out
  have hwM : IntKind.i64.wrap M = M := wrap64 (by omega) (by omega)
  by_cases hs2 : M < size
  · have BD := bad fun q => by have := q.2.2.2.1; rw [HM.out] at this; omega
    clear bad
    go_enter Try.func12, Try.ntmps12
    go_wp2_with fail
    refine (CM.out w).mono ?_
    rintro e wq ⟨rfl, hwq⟩
    have BQ := hid hwq
    clear hwq
    go_wp2
    go_ret2
    rw [BD.out.1, BD.out.2]
    exact ⟨_, rfl, nilT.out _, BQ.out⟩
  obtain ⟨sz, rfl⟩ := Int.eq_ofNat_of_zero_le (show 0 ≤ size by omega)
  obtain ⟨u, hu⟩ : ∃ u, pcN sz ls.length = u := ⟨_, rfl⟩
  have CU := hid fun w => rup_any w (sz : Int) (ls.length : Int) (by omega) (by omega) (by omega) (by omega)
  rw [pcN_up (by omega), hu] at CU
  obtain ⟨k, HK⟩ : ∃ k, Hid (ls.length = k) := ⟨_, rfl⟩
  obtain ⟨N, HN⟩ : ∃ N, Hid (k * u = N) := ⟨_, rfl⟩
  have hNs : sz ≤ N ∧ N ≤ sz + k := by
    have h1 := Nat.div_add_mod (sz - 1) k
    have h2 := Nat.mod_lt (sz - 1) (show 0 < k by rw [← HK.out]; omega)
    rw [← HN.out, ← hu, HK.out]
    unfold pcN
    rw [Nat.mul_add]
    omega
  have hk255 : k ≤ 255 := by rw [← HK.out]; omega
  have HU := hid hu
  have ok : Hid ((∀ j, j < ls.length → (ls.getD j []).length = u) → JnOk ls (sz : Int)) := fun q => ⟨by omega, by omega, by omega, by rw [HM.out]; omega, fun j hj => by rw [q j hj, Int.toNat_natCast, HU.out]⟩
  have bad' : Hid (∀ j, j < ls.length → (ls.getD j []).length ≠ u → jnE ls (sz : Int) = 91 ∧ jnL ls (sz : Int) = []) := fun j hj hne => (bad fun q => hne (by rw [q.2.2.2.2 j hj, Int.toNat_natCast, HU.out])).out
  clear bad hu
  go_enter Try.func12, Try.ntmps12
  go_wp2_with fail
  refine (CM.out w).mono ?_
  rintro e wq ⟨rfl, hwq⟩
  have BQ := hid hwq
  clear hwq
  go_wp2
  clear hM hwM
  go_loopw [7, 8] (fun o i wr => ∃ j : Nat, j ≤ ls.length ∧ i = .int .i64 j ∧ Hid (∀ q, q < j → (ls.getD q []).length = u) ∧ Hid (BytI (flatTo ls j)) ∧ Hid (wr.ownsRow w.heap.size 5 1 o (flatTo ls j).length ((flatTo ls j).map (Value.int .u8))) ∧ Hid (Below w.heap.size w wr)) (fun _ i _ => ls.length - (intOf i).toNat)
  case atStart => exact ⟨0, Nat.zero_le _, rfl, fun q hq => by omega, (by simp [flatTo, BytI, Hid]), (by show World.ownsRow _ _ _ _ _ _ _; simpa [flatTo] using World.ownsRow_nil _ _ _ _), BQ.out⟩
  case round =>
    clear BQ
    obtain ⟨j, hj, rfl, HQ, HBY, HO, HBel⟩ := hrel
    by_cases hlt : j < ls.length
    · obtain ⟨b, off, rfl, hh⟩ := A.out (by omega)
      obtain ⟨x, hu0, hb⟩ := hh j hlt
      have hux : wr.cell? ⟨b, off + j, none⟩ = some x := (HBel.out.cell (World.block_lt_of_cell? w _ hu0)).trans hu0
      have HBu := hid (hb.below HBel.out)
      obtain ⟨lk, HLK⟩ : ∃ lk, Hid (lk = ls.getD j []) := ⟨_, rfl⟩
      rw [← HLK.out] at HBu hb
      by_cases hLj : lk.length = u
      · have HS : Hid (flatTo ls (j + 1) = flatTo ls j ++ ls.getD j []) := flat_snoc ls j hlt
        have FLj : (flatTo ls j).length = j * u := by
          have := HQ.out
          have key : ∀ m, m ≤ j → (flatTo ls m).length = m * u := by
            intro m
            induction m with
            | zero => intro _; simp [flatTo]
            | succ m ih =>
              intro hm
              rw [show flatTo ls (m + 1) = flatTo ls m ++ ls.getD m [] from flat_snoc ls m (by omega), List.length_append, ih (by omega), this m (by omega), Nat.add_mul]
              omega
          exact key j (Nat.le_refl _)
        have HL2 : Hid ((flatTo ls j).length + lk.length ≤ 140737488355328) := by
          have : (j + 1) * u ≤ k * u := Nat.mul_le_mul_right u (by rw [← HK.out]; omega)
          rw [HN.out, Nat.add_mul] at this
          show _ ≤ _
          omega
        rw [← HLK.out] at HS
        have HQ2 : Hid (∀ q, q < j + 1 → (ls.getD q []).length = u) := fun q hq => by
          by_cases e : q = j
          · subst e; rw [← HLK.out]; exact hLj
          · exact HQ.out q (by omega)
        have HBY2 : Hid (BytI (flatTo ls (j + 1))) := by
          rw [HS.out]
          intro x hx
          rcases List.mem_append.1 hx with hx | hx
          · exact HBY.out x hx
          · exact hb.2 x hx
        obtain ⟨p2, c2, hu2, _, _⟩ := hb.open
        rw [hLj] at hu2
        have HLj := hid hLj
        clear hh hb hu0 hLj FLj
        subst hu2
        go_wp2_with fail
        refine wp_region_held_drew (S := fun V : World => V.cell? ⟨b, off + j, none⟩ = some (.slice p2 u c2)) mixedOrders hux (fun hHeld => ?_)
        clear hHeld
        change wpAnyH _ _ _ _ _ _ _ _ (World.drew _)
        refine wpAnyH_take (i := 0) (v := ?_) rfl (by kernel_rfl) (by kernel_rfl) (by kernel_rfl) (fun _ _ _ h => h) (Or.inl ⟨by rfl, ?ra0⟩) hux ?_
        case ra0 => intro w hSw; go_simp; rfl
        simp only [Act.put, List.getElem_toArray, List.getElem_cons_zero, List.getElem_cons_succ, List.setIfInBounds_toArray, List.set_cons_zero, List.set_cons_succ]
        refine wpAnyH_take (i := 1) (v := ?_) rfl (by kernel_rfl) (by kernel_rfl) (by kernel_rfl) (fun _ _ _ h => h) (Or.inl ⟨by rfl, ?ra1⟩) hux ?_
        case ra1 => intro w hSw; go_simp; rfl
        simp only [Act.put, List.getElem_toArray, List.getElem_cons_zero, List.getElem_cons_succ, List.setIfInBounds_toArray, List.set_cons_zero, List.set_cons_succ]
        refine wpAnyH_take (i := 2) (v := ?_) rfl (by kernel_rfl) (by kernel_rfl) (by kernel_rfl) (fun _ _ _ h => h) (Or.inl ⟨by rfl, ?ra2⟩) hux ?_
        case ra2 => intro w hSw; go_simp; rfl
        simp only [Act.put, List.getElem_toArray, List.getElem_cons_zero, List.getElem_cons_succ, List.setIfInBounds_toArray, List.set_cons_zero, List.set_cons_succ]
        refine wpAnyH_take (i := 3) (v := ?_) rfl (by kernel_rfl) (by kernel_rfl) (by kernel_rfl) (fun _ _ _ h => h) (Or.inl ⟨by rfl, ?ra3⟩) hux ?_
        case ra3 => intro w hSw; go_simp; rfl
        simp only [Act.put, List.getElem_toArray, List.getElem_cons_zero, List.getElem_cons_succ, List.setIfInBounds_toArray, List.set_cons_zero, List.set_cons_succ]
        refine wpAnyH_take (i := 4) (v := ?_) rfl (by kernel_rfl) (by kernel_rfl) (by kernel_rfl) (fun _ _ _ h => h) (Or.inl ⟨by rfl, ?ra4⟩) hux ?_
        case ra4 => intro w hSw; go_simp; rfl
        simp only [Act.put, List.getElem_toArray, List.getElem_cons_zero, List.getElem_cons_succ, List.setIfInBounds_toArray, List.set_cons_zero, List.set_cons_succ]
        refine wpAnyH_take (i := 5) (v := ?_) rfl (by kernel_rfl) (by kernel_rfl) (by kernel_rfl) (fun _ _ _ h => h) (Or.inl ⟨by rfl, ?ra5⟩) hux ?_
        case ra5 => intro w hSw; go_simp; rfl
        simp only [Act.put, List.getElem_toArray, List.getElem_cons_zero, List.getElem_cons_succ, List.setIfInBounds_toArray, List.set_cons_zero, List.set_cons_succ]
        refine wpAnyH_take (i := 6) (v := ?_) rfl (by kernel_rfl) (by kernel_rfl) (by kernel_rfl) (fun _ _ _ h => h) (Or.inl ⟨by rfl, ?ra6⟩) hux ?_
        case ra6 => intro w hSw; go_simp; rfl
        simp only [Act.put, List.getElem_toArray, List.getElem_cons_zero, List.getElem_cons_succ, List.setIfInBounds_toArray, List.set_cons_zero, List.set_cons_succ]
        refine wpAnyH_ready (rs := [7]) (by kernel_rfl) (by simp) ?_
        refine AllReadyH.cons rfl (fun K hK => ?_) AllReadyH.nil
        go_simp
        refine (CU.out _).mono ?_
        rintro e wz ⟨rfl, hBz⟩
        have BZ := hid (Below.trans (Dr.below (Dr.one wr 1) _) hBz)
        have huz : wz.cell? ⟨b, off + j, none⟩ = some (.slice p2 u c2) := (BZ.out.cell (World.block_lt_of_cell? wr _ hux)).trans hux
        clear hBz hux
        refine hK.out _ _ huz (fun _ => ?_)
        clear hK K
        refine wpAnyH_take (i := 8) (v := ?_) rfl (by kernel_rfl) (by kernel_rfl) (by kernel_rfl) (fun _ _ _ h => h) (Or.inl ⟨by rfl, ?ra8⟩) huz ?_
        case ra8 => intro w hSw; go_simp; rfl
        simp only [Act.put, List.getElem_toArray, List.getElem_cons_zero, List.getElem_cons_succ, List.setIfInBounds_toArray, List.set_cons_zero, List.set_cons_succ]
        refine wpAnyH_done (by kernel_rfl) ?_ _
        have HO' := hid (own_below HO.out BZ.out)
        have HBu' := hid (HBu.out.below BZ.out)
        have HBel' : Hid (Below w.heap.size w wz) := HBel.out.trans (BZ.out.mono HBel.out.size)
        clear HO HBu HBel BZ
        go_wp2_with (at_builtin; refine wpList_append_HB rfl _ _ rfl w.heap.size _ _ _ rfl HO'.out _ _ rfl HBu'.out ?q1 ?q2 ?_)
        case q1 => exact HL2.out
        case q2 => exact HBel'.out.size
        intro v' w2 hown2 hgr2
        have HO2 : Hid (w2.ownsRow w.heap.size 5 1 v' (flatTo ls (j + 1)).length ((flatTo ls (j + 1)).map (Value.int .u8))) := by
          show World.ownsRow _ _ _ _ _ _ _
          rw [HS.out, List.length_append, List.map_append]
          exact hown2
        have HB2 : Hid (Below w.heap.size w w2) := HBel'.out.grown hgr2 HBel'.out.size (fun k e => (HO'.out.lt k e).1)
        clear hown2 hgr2
        go_wp2
        exact ⟨⟨j + 1, by omega, by go_num, HQ2.out, HBY2.out, HO2.out, HB2.out⟩, by simp [intOf]; omega⟩
      · have BD := hid (bad'.out j hlt (by rw [← HLK.out]; exact hLj))
        obtain ⟨p2, c2, hu2, _, _⟩ := hb.open
        have hne : ¬ (lk.length : Int) = (u : Int) := by omega
        clear hh hb hu0 hLj
        subst hu2
        go_wp2_with fail
        refine wp_region_held_drew (S := fun V : World => V.cell? ⟨b, off + j, none⟩ = some (.slice p2 lk.length c2)) mixedOrders hux (fun hHeld => ?_)
        clear hHeld
        change wpAnyH _ _ _ _ _ _ _ _ (World.drew _)
        refine wpAnyH_take (i := 0) (v := ?_) rfl (by kernel_rfl) (by kernel_rfl) (by kernel_rfl) (fun _ _ _ h => h) (Or.inl ⟨by rfl, ?rb0⟩) hux ?_
        case rb0 => intro w hSw; go_simp; rfl
        simp only [Act.put, List.getElem_toArray, List.getElem_cons_zero, List.getElem_cons_succ, List.setIfInBounds_toArray, List.set_cons_zero, List.set_cons_succ]
        refine wpAnyH_take (i := 1) (v := ?_) rfl (by kernel_rfl) (by kernel_rfl) (by kernel_rfl) (fun _ _ _ h => h) (Or.inl ⟨by rfl, ?rb1⟩) hux ?_
        case rb1 => intro w hSw; go_simp; rfl
        simp only [Act.put, List.getElem_toArray, List.getElem_cons_zero, List.getElem_cons_succ, List.setIfInBounds_toArray, List.set_cons_zero, List.set_cons_succ]
        refine wpAnyH_take (i := 2) (v := ?_) rfl (by kernel_rfl) (by kernel_rfl) (by kernel_rfl) (fun _ _ _ h => h) (Or.inl ⟨by rfl, ?rb2⟩) hux ?_
        case rb2 => intro w hSw; go_simp; rfl
        simp only [Act.put, List.getElem_toArray, List.getElem_cons_zero, List.getElem_cons_succ, List.setIfInBounds_toArray, List.set_cons_zero, List.set_cons_succ]
        refine wpAnyH_take (i := 3) (v := ?_) rfl (by kernel_rfl) (by kernel_rfl) (by kernel_rfl) (fun _ _ _ h => h) (Or.inl ⟨by rfl, ?rb3⟩) hux ?_
        case rb3 => intro w hSw; go_simp; rfl
        simp only [Act.put, List.getElem_toArray, List.getElem_cons_zero, List.getElem_cons_succ, List.setIfInBounds_toArray, List.set_cons_zero, List.set_cons_succ]
        refine wpAnyH_take (i := 4) (v := ?_) rfl (by kernel_rfl) (by kernel_rfl) (by kernel_rfl) (fun _ _ _ h => h) (Or.inl ⟨by rfl, ?rb4⟩) hux ?_
        case rb4 => intro w hSw; go_simp; rfl
        simp only [Act.put, List.getElem_toArray, List.getElem_cons_zero, List.getElem_cons_succ, List.setIfInBounds_toArray, List.set_cons_zero, List.set_cons_succ]
        refine wpAnyH_take (i := 5) (v := ?_) rfl (by kernel_rfl) (by kernel_rfl) (by kernel_rfl) (fun _ _ _ h => h) (Or.inl ⟨by rfl, ?rb5⟩) hux ?_
        case rb5 => intro w hSw; go_simp; rfl
        simp only [Act.put, List.getElem_toArray, List.getElem_cons_zero, List.getElem_cons_succ, List.setIfInBounds_toArray, List.set_cons_zero, List.set_cons_succ]
        refine wpAnyH_take (i := 6) (v := ?_) rfl (by kernel_rfl) (by kernel_rfl) (by kernel_rfl) (fun _ _ _ h => h) (Or.inl ⟨by rfl, ?rb6⟩) hux ?_
        case rb6 => intro w hSw; go_simp; rfl
        simp only [Act.put, List.getElem_toArray, List.getElem_cons_zero, List.getElem_cons_succ, List.setIfInBounds_toArray, List.set_cons_zero, List.set_cons_succ]
        refine wpAnyH_ready (rs := [7]) (by kernel_rfl) (by simp) ?_
        refine AllReadyH.cons rfl (fun K hK => ?_) AllReadyH.nil
        go_simp
        refine (CU.out _).mono ?_
        rintro e wz ⟨rfl, hBz⟩
        have BZ := hid (Below.trans (Dr.below (Dr.one wr 1) _) hBz)
        have huz : wz.cell? ⟨b, off + j, none⟩ = some (.slice p2 lk.length c2) := (BZ.out.cell (World.block_lt_of_cell? wr _ hux)).trans hux
        clear hBz hux
        refine hK.out _ _ huz (fun _ => ?_)
        clear hK K
        refine wpAnyH_take (i := 8) (v := ?_) rfl (by kernel_rfl) (by kernel_rfl) (by kernel_rfl) (fun _ _ _ h => h) (Or.inl ⟨by rfl, ?rb8⟩) huz ?_
        case rb8 => intro w hSw; go_simp; rfl
        simp only [Act.put, List.getElem_toArray, List.getElem_cons_zero, List.getElem_cons_succ, List.setIfInBounds_toArray, List.set_cons_zero, List.set_cons_succ]
        refine wpAnyH_done (by kernel_rfl) ?_ _
        go_wp2
        go_ret2
        rw [BD.out.1, BD.out.2]
        exact ⟨_, rfl, nilT.out _, HBel.out.trans (BZ.out.mono HBel.out.size)⟩
    · have hj' : j = ls.length := by omega
      have OK := hid (ok.out fun q hq => HQ.out q (by omega))
      have HF : Hid (flatTo ls j = ls.flatten) := by
        show _ = _
        unfold flatTo
        rw [List.take_of_length_le (by omega)]
      have hlen : (flatTo ls j).length = N := by rw [flat_len ls u (fun q hq => HQ.out q (by omega)) j hj, hj', HK.out, HN.out]
      rw [HF.out] at hlen HO
      obtain ⟨pw, cw, ew⟩ := own_slc HO.out
      rw [hlen] at ew HO
      subst ew
      have hcap : N ≤ cw ∧ cw ≤ 9223372036854775807 := by
        rcases HO.out.2 with ⟨e', e2⟩ | ⟨g', cap', cur', e', _, _, h3, h4, _⟩
        · omega
        · cases e'; unfold maxLen at h4; exact ⟨h3, h4⟩
      have RT := hid (rowT_cut HO.out (n := sz) (by omega) (by omega))
      have sz8 := size_u8
      have JL : Hid (jnE ls (sz : Int) = 0 ∧ jnL ls (sz : Int) = ls.flatten.take sz) := by have := jn_yes OK.out; rw [Int.toNat_natCast] at this; exact this
      have HLN := hid hlen
      clear hlen HO HQ HBY
      obtain ⟨hcap1, hcap2⟩ := hcap
      go_wp2
      go_ret2
      rw [JL.out.1, JL.out.2]
      refine ⟨_, rfl, ?_, HBel.out⟩
      have h3 := RT.out
      rw [← List.map_take] at h3
      rw [List.length_take, HLN.out, Nat.min_eq_left hNs.1]
      first
      | exact h3
      | (have e0 : pw.map (·.add 0) = pw := by cases pw <;> simp [Addr.add]
         rw [e0]
         exact h3)
end Go.Proofs.Ytdmdcnikhnoclab
