/- All of a heap: what is gone through, and the rounds. -/
import Derived.Test.YtajdopmhdagehaaHsCop
import Derived.Test.YtajdopmhdagehaaRangeN
set_option linter.unusedVariables false
set_option linter.unusedSimpArgs false
namespace Go.Proofs.Ytajdopmhdagehaa.Ds
open Go.Proofs.Ytajdopmhdagehaa
open Go Go.RowKit Go.Shelf
attribute [local go_sem] Oper.semAt_some
section
variable {J : World → Prop} {U : Nat → Prop} {Dm : Pr → Prop} {fid : Nat} {fr : Array Value} {Ls : Pr → Pr → Bool → Prop} {ord : Prop} {key : Pr → Int}
variable {w : World} {g : Nat} {sf F : Value} {mp : Option Nat} {L : List (Rw Pr)} {nx : Nat} {lo : Int} {v : Value} {S : Nat → Prop}
/-- The list that is gone through. -/
structure AlB (w : World) (rb : Nat) (vo : Value) (R : List (Rw Pr)) : Prop where
  box : w.heap[rb]? = some (.cells #[vo] 142 (0, 0))
  own : w.ownsRow 0 146 1 vo R.length (R.map fun r => ptr r.b)
  row : ∀ r ∈ R, ∃ i, HRow w r i
def alD (rb : Nat) (vo : Value) (R : List (Rw Pr)) (i : Nat) : Prop := i = rb ∨ vo.ownBlock = some i ∨ ∃ r ∈ R, i = r.b
theorem AlB.kept {w w' : World} {rb : Nat} {vo : Value} {R : List (Rw Pr)} (h : AlB w rb vo R) (hk : ∀ i, alD rb vo R i → w'.heap[i]? = w.heap[i]?) : AlB w' rb vo R where
  box := (hk rb (.inl rfl)).trans h.box
  own := by
    refine ⟨h.own.1, ?_⟩
    rcases h.own.2 with q | ⟨b, cap, cur, hv, hb, hw, q⟩
    · exact .inl q
    · exact .inr ⟨b, cap, cur, hv, hb, (hk b (.inr (.inl (by rw [hv]; rfl)))).trans hw, q⟩
  row := fun r hr => by
    obtain ⟨i, hi⟩ := h.row r hr
    exact ⟨i, (hk r.b (.inr (.inr ⟨r, hr, rfl⟩))).trans hi⟩
theorem AlB.lt {w : World} {rb : Nat} {vo : Value} {R : List (Rw Pr)} (h : AlB w rb vo R) : ∀ i, alD rb vo R i → i < w.heap.size := by
  rintro i (rfl | hv | ⟨r, hr, rfl⟩)
  · exact (Array.getElem?_eq_some_iff.1 h.box).1
  · rcases h.own.2 with ⟨q, _⟩ | ⟨b, cap, cur, q, _, hw, _⟩
    · rw [q] at hv; cases hv
    · rw [q] at hv; cases hv; exact (Array.getElem?_eq_some_iff.1 hw).1
  · obtain ⟨j, hj⟩ := h.row r hr
    exact (Array.getElem?_eq_some_iff.1 hj).1
/-- What All has come to. -/
def AlQ (ord : Prop) (key : Pr → Int) (J : World → Prop) (U : Nat → Prop) (w : World) (L : List (Rw Pr)) (rb : Nat) (w' : World) : Prop :=
  ∃ vo R, AlB w' rb vo R ∧ (∀ i, alD rb vo R i → w.heap.size ≤ i) ∧ Ex U w w' ∧ J w' ∧ (ord → hp key L → R.Pairwise (ahd key)) ∧ (R.map kr).Perm (L.map kr)
set_option maxRecDepth 100000 in
set_option maxHeartbeats 8000000 in
theorem hall_ok (O : Orc fid fr J U Dm Ls) (hO : Ord ord key Ls) (h : Lv J U Dm fid fr w g (ptr g) mp L nx (-1) v S) (hroom : L.length ≤ 17592186044416) :
    Calls Try.prog 55 #[ptr g] w fun e w' => ∃ rb, e = .returned (.func (.func 87) #[] #[ptr rb]) ∧ AlQ ord key J U w L rb w' := by
  have hB : ∀ k, S k → k < w.heap.size := h.hp.lt
  have hU : ∀ k, U k → k < w.heap.size := O.lt _ h.j
  have h0 := h.out O hB hU (w' := w.alloc (.cells #[.slice none 0 0] 142)) (fun k hk => heap_alloc_old w _ hk)
  have hs0 : (w.alloc (.cells #[.slice none 0 0] 142)).heap.size = w.heap.size + 1 := by simp
  have hz0 : (w.alloc (.cells #[.slice none 0 0] 142)).heap[w.heap.size]? = some (.cells #[.slice none 0 0] 142 (0, 0)) := heap_alloc_new w _
  have EX0 : Hid (Ex U w (w.alloc (.cells #[.slice none 0 0] 142))) := hid ((Ex.refl U w).alloc _)
  have CM := hid (made_ok h0.hp)
  have CC := hid (copied_ok h0.hp hroom)
  have J0 := hid h0.j
  have HDM := hid h.dm
  have HU := hid hU
  have HZ0 := hid hz0
  have HS0 := hid hs0
  clear h h0 hz0 hB hU hs0
  go_enter Try.func55, Try.ntmps55
  go_wp2_with fail
  refine CM.out.mono ?_
  rintro e w1 ⟨rfl, hw⟩
  rw [hw]
  clear hw CM
  go_wp2_with fail
  refine CC.out.mono ?_
  rintro e w1 ⟨g', rfl, L', v', hc, hb, hkr⟩
  have J1 : J w1 := O.stay _ _ J0.out fun k hk => hb.block k (by have := HU.out k hk; have := HS0.out; omega)
  have LV1 : Lv J U Dm fid fr w1 g' (.pointer none) none L' nx (-1) v' _ := ⟨hc, J1, fun k hk q => by have := HU.out k q; have := HS0.out; have := hk.1; omega, fun r hr => by
    have h1 : kr r ∈ L.map kr := by rw [← hkr]; exact List.mem_map.2 ⟨r, hr, rfl⟩
    obtain ⟨q, hq, e⟩ := List.mem_map.1 h1
    unfold kr at e
    simp only [Prod.mk.injEq] at e
    rw [← e.2]
    exact HDM.out q hq⟩
  have hl' : L'.length = L.length := by have := congrArg List.length hkr; simpa using this
  have CD := hid (drained_any O hO LV1 (by omega))
  have HZ1 := hid ((hb.block w.heap.size (by have := HS0.out; omega)).trans HZ0.out)
  have HB1 := hid hb
  have HKR := hid hkr
  clear hc hb hkr J1 LV1 hl' CC
  go_wp2_with fail
  refine CD.out.mono ?_
  rintro e w2 ⟨vo, rfl, R, hj2, he2, hP, hown, hrows, hpw⟩
  have hs0 := HS0.out
  have hnb : ¬ SU (fun k => (w.alloc (.cells #[.slice none 0 0] 142)).heap.size ≤ k ∧ k < w1.heap.size) U w.heap.size := fun q => by
    rcases q with q | q
    · have := q.1; omega
    · have := HU.out _ q; omega
  have hz2 := (he2.block w.heap.size (Array.getElem?_eq_some_iff.1 HZ1.out).1 hnb).trans HZ1.out
  have z0 : w2.cell? ⟨w.heap.size, 0, none⟩ = some (.slice none 0 0) := by rw [cell_of_row _ _ _ _ _ _ hz2]; rfl
  have f0 := free_of hz2 0
  have HJ2 := hid hj2
  have HE2 := hid he2
  have HP := hid hP
  have HOWN := hid hown
  have HROWS := hid hrows
  have HPW := hid hpw
  have HZ2 := hid hz2
  obtain ⟨pv, cv, hv⟩ := own_slc hown
  subst hv
  clear hj2 he2 hP hown hrows hpw hz2 CD hnb
  go_wp2_with fail
  go_ret
  have hs1 := HB1.out.size
  have hox : ∀ b, (Value.slice pv R.length cv).ownBlock = some b → w1.heap.size ≤ b := fun b hb => by
    rcases HOWN.out.2 with ⟨q, _⟩ | ⟨b', cap, cur, q, hb', _⟩
    · rw [q] at hb; cases hb
    · rw [q] at hb; cases hb; exact hb'
  refine ⟨w.heap.size, rfl, .slice pv R.length cv, R, ⟨?_, ?_, fun r hr => ?_⟩, ?_, ?_, O.stay _ _ HJ2.out (fun k hk => bk_other (by have := HU.out k hk; omega) _ _), fun o q => HPW.out o (hp_kr HKR.out q), ?_⟩
  · have := bk_set HZ2.out 0 (.slice pv R.length cv)
    simpa using this
  · refine ⟨HOWN.out.1, ?_⟩
    rcases HOWN.out.2 with q | ⟨b, cap, cur, hv, hb, hw, q⟩
    · exact .inl q
    · exact .inr ⟨b, cap, cur, hv, Nat.zero_le _, (bk_other (by omega) _ _).trans hw, q⟩
  · obtain ⟨⟨i, hi⟩, hs⟩ := HROWS.out r hr
    exact ⟨i, (bk_other (by have := hs.1; omega) _ _).trans hi⟩
  · rintro i (rfl | hv | ⟨r, hr, rfl⟩)
    · exact Nat.le_refl _
    · have := hox i hv; omega
    · have := (HROWS.out r hr).2.1; omega
  · have e1 : Ex U w w1 := EX0.out.trans (Ex.of_below (S := U) HB1.out) (fun k q => .inl q)
    have e2 : Ex U w w2 := e1.trans HE2.out (fun k q => by
      rcases q with q | q
      · exact .inr (by have := q.1; omega)
      · exact .inl q)
    exact ⟨e2.os, e2.tape, e2.output, by rw [sz_set]; exact e2.size, fun k hk hn => by rw [bk_other (by omega)]; exact e2.block k hk hn⟩
  · rw [← HKR.out]
    exact HP.out.map kr
set_option maxRecDepth 100000 in
set_option maxHeartbeats 8000000 in
theorem all1_iter (n : Nat) (w0 : World) (rb : Nat) (vo : Value) (R : List (Rw Pr)) (hb : AlB w0 rb vo R) (hlen : R.length ≤ 17592186044416) :
    IterN Fence.wide n Try.prog 87 #[ptr rb] (fun k v => #[.int .i64 ((rat R k).t : Int), v]) (fun k v => v = .agg #[.int .i64 (rat R k).x.1, .int .i64 (rat R k).x.2.1, .string (rat R k).x.2.2]) (alD rb vo R) R.length w0 := fun l' Jk Jx W hK hJ hJx hY h0 => by
  have HBx := hid (hb.kept hK.2)
  have HJ := hid hJ
  have HY := hid hY
  have H0 := hid h0
  clear hb hK hJ hJx hY h0
  refine callsIn_of_wp Try.func87 rfl trivial ?_ rfl
  simp only [Try.ntmps87, List.size_toArray, List.length_cons, List.length_nil, Nat.reduceAdd, Nat.reduceSub, Array.replicate_succ, Array.replicate_zero, List.push_toArray, List.append_toArray, List.nil_append, List.cons_append]
  have cb : W.cell? ⟨rb, 0, none⟩ = some vo := by rw [cell_of_row _ _ _ _ _ _ HBx.out.box]; rfl
  obtain ⟨pv, cv, hv⟩ := own_slc HBx.out.own
  obtain ⟨N, HN⟩ : ∃ N, Hid (R.length = N) := ⟨_, rfl⟩
  rw [HN.out] at hv hlen
  rw [hv] at cb
  have HV := hid hv
  clear hv
  have hmx : Try.prog.follows .mixedOrders = true := by kernel_rfl
  gi_wp2
  gi_loopw [7] (fun vi wr => ∃ k : Nat, vi = .int .i64 (k : Int) ∧ k ≤ N ∧ Hid (Jk k (alD rb vo R) wr) ∧ Hid (AlB wr rb vo R) ∧ Hid (KE (alD rb vo R) W wr)) (fun vi _ => N - (intOf vi).toNat)
  case atStart => exact ⟨0, rfl, Nat.zero_le _, H0, HBx, hid ⟨Nat.le_refl _, fun _ _ => rfl⟩⟩
  case round =>
    obtain ⟨k, rfl, hk, HJk, HA, HKE⟩ := hrel
    clear cb
    by_cases hlt : k < N
    · have hlt' : (k : Int) < (N : Int) := by omega
      have hkR : k < R.length := by rw [HN.out]; exact hlt
      obtain ⟨b, hb⟩ : ∃ b, pv = some ⟨b, 0, none⟩ ∧ wr.cell? ⟨b, k, none⟩ = some (ptr (rat R k).b) := by
        rcases HA.out.own.2 with ⟨_, q⟩ | ⟨b, cap, cur, q, _, hw, h1, h2, h3, h4⟩
        · omega
        · rw [HV.out] at q
          simp only [Value.slice.injEq] at q
          refine ⟨b, q.1, ?_⟩
          have e : (cur.toList.take (R.length * 1))[k]? = (R.map fun r => ptr r.b)[k]? := by rw [h4]
          rw [List.getElem?_take, if_pos (by omega), List.getElem?_map, rat_some hkR] at e
          rw [cell_of_row _ _ _ _ _ _ hw]
          simpa using e
      obtain ⟨hpv, hcb⟩ := hb
      obtain ⟨ii, hrow⟩ := HA.out.row _ (rat_mem hkR)
      obtain ⟨q0, ⟨q1, q2, q3⟩, -⟩ := hrow.c
      obtain ⟨fn, tmps, assign, body, hy, hR⟩ := HY.out k _ (alD rb vo R) wr.drew (HJ.out.grown HJk.out ⟨rfl, rfl, rfl, Nat.le_refl _, fun _ _ _ => rfl⟩) rfl hkR
      have HRR := hid hR
      have HAk := HA
      obtain ⟨r, HR⟩ : ∃ r, Hid (rat R k = r) := ⟨_, rfl⟩
      rw [HR.out] at hcb q0 q1 q2 q3 hy
      subst hpv
      clear hrow hR HR
      gi_wp2
      refine wpIn_region_any hmx ?_
      change wpAnyIn _ _ _ _ _ _ _ _ _ (World.drew _)
      refine wpAnyIn_take (i := 0) (v := ?_) rfl rfl (by kernel_rfl) (by kernel_rfl) (by kernel_rfl) (fun _ _ _ h => h) ⟨Or.inl ⟨by rfl, ?q0⟩, fun _ => rfl⟩ ?_
      case q0 => intro w; go_simp; rfl
      simp only [Act.put, List.setIfInBounds_toArray, List.set_cons_zero, List.set_cons_succ]
      refine wpAnyIn_take (i := 1) (v := ?_) rfl rfl (by kernel_rfl) (by kernel_rfl) (by kernel_rfl) (fun _ _ _ h => h) ⟨Or.inl ⟨by rfl, ?q1⟩, fun _ => rfl⟩ ?_
      case q1 => intro w; go_simp; rfl
      simp only [Act.put, List.setIfInBounds_toArray, List.set_cons_zero, List.set_cons_succ]
      refine wpAnyIn_take (i := 2) (v := ?_) rfl rfl (by kernel_rfl) (by kernel_rfl) (by kernel_rfl) (fun _ _ _ h => h) ⟨Or.inl ⟨by rfl, ?q2⟩, fun _ => rfl⟩ ?_
      case q2 => intro w; go_simp; rfl
      simp only [Act.put, List.setIfInBounds_toArray, List.set_cons_zero, List.set_cons_succ]
      refine wpAnyIn_take (i := 3) (v := ?_) rfl rfl (by kernel_rfl) (by kernel_rfl) (by kernel_rfl) (fun _ _ _ h => h) ⟨Or.inl ⟨by rfl, ?q3⟩, fun _ => rfl⟩ ?_
      case q3 => intro w; go_simp; rfl
      simp only [Act.put, List.setIfInBounds_toArray, List.set_cons_zero, List.set_cons_succ]
      refine wpAnyIn_take (i := 5) (v := ?_) rfl rfl (by kernel_rfl) (by kernel_rfl) (by kernel_rfl) (fun _ _ _ h => h) ⟨Or.inl ⟨by rfl, ?q5⟩, fun _ => rfl⟩ ?_
      case q5 => intro w; go_simp; rfl
      simp only [Act.put, List.setIfInBounds_toArray, List.set_cons_zero, List.set_cons_succ]
      refine wpAnyIn_take (i := 6) (v := ?_) rfl rfl (by kernel_rfl) (by kernel_rfl) (by kernel_rfl) (fun _ _ _ h => h) ⟨Or.inl ⟨by rfl, ?q6⟩, fun _ => rfl⟩ ?_
      case q6 => intro w; go_simp; rfl
      simp only [Act.put, List.setIfInBounds_toArray, List.set_cons_zero, List.set_cons_succ]
      refine wpAnyIn_take (i := 7) (v := ?_) rfl rfl (by kernel_rfl) (by kernel_rfl) (by kernel_rfl) (fun _ _ _ h => h) ⟨Or.inl ⟨by rfl, ?q7⟩, fun _ => rfl⟩ ?_
      case q7 => intro w; go_simp; rfl
      simp only [Act.put, List.setIfInBounds_toArray, List.set_cons_zero, List.set_cons_succ]
      refine wpAnyIn_ready (rs := [4, 8]) (by kernel_rfl) (by simp) ?_
      refine AllReadyIn.cons rfl (fun K hK => ?_) (AllReadyIn.cons rfl (fun K hK => ?_) AllReadyIn.nil)
      · go_simp
        refine hK _ _ ?_
        clear hK K
        refine wpAnyIn_ready (rs := [8]) (by kernel_rfl) (by simp) ?_
        refine AllReadyIn.cons rfl (fun K hK => ?_) AllReadyIn.nil
        go_simp
        refine hK _ _ ?_
        clear hK K
        refine wpAnyIn_ready (rs := [9]) (by kernel_rfl) (by simp) ?_
        refine AllReadyIn.cons rfl (fun K hK => ?_) AllReadyIn.nil
        go_simp
        refine ⟨fun h => absurd h (by simp [Fence.wide]), HRR.out.mono ?_⟩
        rintro e W3 (⟨rfl, hJ3, hk3⟩ | ⟨rfl, hJx3, hk3⟩)
        · have HF3 := hid hJ3
          have HA3 := hid (HA.out.kept (fun i hi => (hk3.2 i hi : W3.heap[i]? = wr.heap[i]?)))
          have HK3 := hid (HKE.out.trans (KE.trans (B := wr.drew) ⟨Nat.le_refl _, fun _ _ => rfl⟩ hk3))
          clear HRR hy hJ3 hk3
          refine hK _ _ ?_
          clear hK K
          refine wpAnyIn_ready (rs := [10]) (by kernel_rfl) (by simp) ?_
          refine AllReadyIn.cons rfl (fun K hK => ?_) AllReadyIn.nil
          go_simp
          refine hK _ _ ?_
          clear hK K
          refine wpAnyIn_done (by kernel_rfl) ?_ _
          gi_wp2
          go_roundw
          case rel => exact ⟨k + 1, by go_num, by omega, HF3, HA3, HK3⟩
          case measure => simp [intOf]; omega
        · have HF3 := hid hJx3
          have HK3 := hid (HKE.out.trans (KE.trans (B := wr.drew) ⟨Nat.le_refl _, fun _ _ => rfl⟩ hk3))
          clear HRR hy hJx3 hk3
          refine hK _ _ ?_
          clear hK K
          refine wpAnyIn_ready (rs := [10]) (by kernel_rfl) (by simp) ?_
          refine AllReadyIn.cons rfl (fun K hK => ?_) AllReadyIn.nil
          go_simp
          refine hK _ _ ?_
          clear hK K
          refine wpAnyIn_done (by kernel_rfl) ?_ _
          gi_wp2
          refine bodyPost_ret (results_none rfl _ _ _) rfl ?_
          exact ⟨⟨_, rfl⟩, .inr HF3.out, HK3.out⟩
      · go_simp
        refine hK _ _ ?_
        clear hK K
        refine wpAnyIn_ready (rs := [4]) (by kernel_rfl) (by simp) ?_
        refine AllReadyIn.cons rfl (fun K hK => ?_) AllReadyIn.nil
        go_simp
        refine hK _ _ ?_
        clear hK K
        refine wpAnyIn_ready (rs := [9]) (by kernel_rfl) (by simp) ?_
        refine AllReadyIn.cons rfl (fun K hK => ?_) AllReadyIn.nil
        go_simp
        refine ⟨fun h => absurd h (by simp [Fence.wide]), HRR.out.mono ?_⟩
        rintro e W3 (⟨rfl, hJ3, hk3⟩ | ⟨rfl, hJx3, hk3⟩)
        · have HF3 := hid hJ3
          have HA3 := hid (HA.out.kept (fun i hi => (hk3.2 i hi : W3.heap[i]? = wr.heap[i]?)))
          have HK3 := hid (HKE.out.trans (KE.trans (B := wr.drew) ⟨Nat.le_refl _, fun _ _ => rfl⟩ hk3))
          clear HRR hy hJ3 hk3
          refine hK _ _ ?_
          clear hK K
          refine wpAnyIn_ready (rs := [10]) (by kernel_rfl) (by simp) ?_
          refine AllReadyIn.cons rfl (fun K hK => ?_) AllReadyIn.nil
          go_simp
          refine hK _ _ ?_
          clear hK K
          refine wpAnyIn_done (by kernel_rfl) ?_ _
          gi_wp2
          go_roundw
          case rel => exact ⟨k + 1, by go_num, by omega, HF3, HA3, HK3⟩
          case measure => simp [intOf]; omega
        · have HF3 := hid hJx3
          have HK3 := hid (HKE.out.trans (KE.trans (B := wr.drew) ⟨Nat.le_refl _, fun _ _ => rfl⟩ hk3))
          clear HRR hy hJx3 hk3
          refine hK _ _ ?_
          clear hK K
          refine wpAnyIn_ready (rs := [10]) (by kernel_rfl) (by simp) ?_
          refine AllReadyIn.cons rfl (fun K hK => ?_) AllReadyIn.nil
          go_simp
          refine hK _ _ ?_
          clear hK K
          refine wpAnyIn_done (by kernel_rfl) ?_ _
          gi_wp2
          refine bodyPost_ret (results_none rfl _ _ _) rfl ?_
          exact ⟨⟨_, rfl⟩, .inr HF3.out, HK3.out⟩
    · have hkN : k = N := by omega
      have hge : ¬ (k : Int) < (N : Int) := by omega
      gi_wp2
      go_end0
      rw [HN.out, ← hkN]
      exact ⟨⟨_, rfl⟩, .inl HJk.out, HKE.out⟩
end
end Go.Proofs.Ytajdopmhdagehaa.Ds
