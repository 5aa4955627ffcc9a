/- gf.Over, walked. -/
import Derived.Test.YtmglpcenipnmbaaGfOver1
set_option linter.unusedSimpArgs false
set_option linter.unusedVariables false
namespace Go.Proofs.Ytmglpcenipnmbaa
open Go Go.RowKit

theorem own_takeP {w : World} {B n c : Nat} {p : Option Addr} {e : TypeId} {xs : List Value} (h : w.ownsRow B e 1 (.slice p n c) n xs) (m : Nat) (hm : m ≤ n) : w.ownsRow B e 1 (.slice p m c) m (xs.take m) := by
  rcases h.2 with ⟨h', h0⟩ | ⟨g', cap', cur, h', _⟩
  · simp only [Value.slice.injEq] at h'
    obtain ⟨rfl, rfl, rfl⟩ := h'
    obtain rfl : m = 0 := by omega
    exact World.ownsRow_nil _ _ _ _
  · simp only [Value.slice.injEq] at h'
    obtain ⟨rfl, _, rfl⟩ := h'
    exact own_take h m hm
theorem cvF_none (P : List Int) : ∀ (n i : Nat), cvF (fun _ => 0) P n i = 0
  | 0, _ => rfl
  | n + 1, i => by rw [cvF, cvF_none P n i, sh_zero, Nat.xor_zero]
theorem own_cut {w : World} {B n c : Nat} {p : Option Addr} {f : Nat → Nat} (h : w.ownsRow B 5 1 (.slice p n c) n ((tabL n f).map (Value.int .u8))) : w.ownsRow B 5 1 (.slice p (cutN (tabL n f) n) c) (cutL (tabL n f)).length ((cutL (tabL n f)).map (Value.int .u8)) := by
  have := own_takeP h (cutN (tabL n f) n) (cutN_le _ _)
  rw [cutL_length, tabL_length]
  unfold cutL
  rw [tabL_length, List.map_take]
  exact this

set_option maxRecDepth 100000 in
set_option maxHeartbeats 8000000 in
theorem gover_any (w : World) (pa pb : Option Addr) (ca cb : Nat) (A P : List Int) (hA : HB w (.slice pa A.length ca) A) (hP : HB w (.slice pb P.length cb) P) :
    Calls Try.prog 40 #[.slice pa A.length ca, .slice pb P.length cb] w (OverPost w (cutL A) (cutL P)) := by
  obtain ⟨w1, hw1⟩ : ∃ w1, Hid (w.alloc (.cells #[.slice pb P.length cb] 38) = w1) := ⟨_, rfl⟩
  have B1 : Hid (Below w.heap.size w w1) := by rw [← hw1.out]; exact (Below.refl _ w).alloc (Nat.le_refl _) _
  have hs1 : w1.heap.size = w.heap.size + 1 := by rw [← hw1.out]; simp
  have K1 : Hid (w1.heap[w.heap.size]? = some (.cells #[.slice pb P.length cb] 38 (0, 0))) := by rw [← hw1.out]; exact heap_alloc_new w _
  have CA : Hid (∀ W, Below w.heap.size w W → Calls Try.prog 54 #[.slice pa A.length ca] W fun e w' => e = .returned (.slice pa (cutL A).length ca) ∧ w' = W) := fun W hW => by rw [cutL_length]; exact trimmed_any W pa ca A (hA.below hW)
  have CP : Hid (∀ W, Below w.heap.size w W → Calls Try.prog 54 #[.slice pb P.length cb] W fun e w' => e = .returned (.slice pb (cutL P).length cb) ∧ w' = W) := fun W hW => by rw [cutL_length]; exact trimmed_any W pb cb P (hP.below hW)
  have HA := hid (cutL_hb hA)
  have HP := hid (cutL_hb hP)
  have HPE : Hid ((cutL P).length ≠ 0 → gN (cutL P) ((cutL P).length - 1) ≠ 0) := cutL_last P
  obtain ⟨A', HA'⟩ : ∃ A', Hid (cutL A = A') := ⟨_, rfl⟩
  obtain ⟨P', HP'⟩ : ∃ P', Hid (cutL P = P') := ⟨_, rfl⟩
  rw [HA'.out] at CA HA ⊢
  rw [HP'.out] at CP HP HPE ⊢
  clear hA hP
  go_enter Try.func40, Try.ntmps40
  go_wp2
  rw [hw1.out]
  refine wp_region_any (by kernel_rfl) ?_
  change wpAny _ _ _ _ _ _ _ (World.drew _)
  refine wpAny_take (i := 0) (v := ?_) rfl (by kernel_rfl) (by kernel_rfl) (by kernel_rfl) (fun _ _ _ h => h) (Or.inl ⟨by rfl, ?q0⟩) ?_
  case q0 => intro w; go_simp; rfl
  simp only [Act.put, List.getElem_toArray, List.getElem_cons_zero, List.getElem_cons_succ, List.setIfInBounds_toArray, List.set_cons_zero, List.set_cons_succ]
  refine wpAny_fresh0 (S := [1, 2]) (by decide) (dst := fun i => if i = 1 then 13 else 14) (by decide) (hops := ?c1) (hin := ?c2) (bl := fun _ _ => none) (Φ := fun i W v => if i = 1 then v = .slice pa A'.length ca else v = .slice pb P.length cb) (fun i W W' v h _ => h) (L := fun d => #[true, d 1, d 2, false, false, false]) ?c3 ?c4 ?c5 (F := 3) ?c6 rfl rfl
  case c1 =>
    intro i hi
    simp only [List.mem_cons, List.not_mem_nil, or_false] at hi
    rcases hi with rfl | rfl <;> exact ⟨_, rfl, rfl, rfl⟩
  case c2 =>
    intro i hi
    simp only [List.mem_cons, List.not_mem_nil, or_false] at hi
    rcases hi with rfl | rfl <;> simp
  case c3 =>
    rintro d ⟨i, hi, hd⟩
    simp only [List.mem_cons, List.not_mem_nil, or_false] at hi
    cases h1 : d 1 <;> cases h2 : d 2
    · exact of_ready (rs := [1, 2]) (by kernel_rfl) (by simp) (by simp [h1, h2])
    · exact of_ready (rs := [1]) (by kernel_rfl) (by simp) (by simp [h1, h2])
    · exact of_ready (rs := [2]) (by kernel_rfl) (by simp) (by simp [h1, h2])
    · rcases hi with rfl | rfl
      · rw [h1] at hd; cases hd
      · rw [h2] at hd; cases hd
  case c4 =>
    intro d i hi
    simp only [List.mem_cons, List.not_mem_nil, or_false] at hi
    rcases hi with rfl | rfl <;> simp [upd]
  case c5 =>
    intro i hi o ho a W K hs hB hk
    simp only [List.mem_cons, List.not_mem_nil, or_false] at hi
    rcases hi with rfl | rfl
    · simp only [List.getElem?_toArray, List.getElem?_cons_succ, List.getElem?_cons_zero, Option.some.injEq] at ho
      subst ho
      have e12 : a.eval (.tmp 12) = .slice pa A.length ca := eval_tmp (hs 12 (by decide))
      go_simp
      refine (CA.out W (B1.out.trans (Below.trans (b := w1.drew) ⟨rfl, rfl, rfl, Nat.le_refl _, fun _ _ => rfl⟩ (hB.mono B1.out.size)))).mono ?_
      rintro e w' ⟨rfl, hw⟩
      subst hw
      exact hk _ _ rfl (by simp) (Below.refl _ _)
    · simp only [List.getElem?_toArray, List.getElem?_cons_succ, List.getElem?_cons_zero, Option.some.injEq] at ho
      subst ho
      have e3 : a.eval (.tmp 3) = .pointer (some ⟨w.heap.size, 0, none⟩) := eval_tmp (hs 3 (by decide))
      have hc : W.cell? ⟨w.heap.size, 0, none⟩ = some (.slice pb P.length cb) := by
        have : W.heap[w.heap.size]? = some (.cells #[.slice pb P.length cb] 38 (0, 0)) := (hB.block _ (by show _ < w1.heap.size; omega)).trans K1.out
        rw [cell_of_row W w.heap.size 0 _ _ _ this]
        rfl
      go_simp
      exact hk _ _ rfl (by simp) (Below.refl _ _)
  case c6 =>
    intro d vals a w2 hall hR hv _ _ hB
    have v1 : vals 1 = .slice pa A'.length ca := hv 1 (by simp)
    have v2 : vals 2 = .slice pb P.length cb := hv 2 (by simp)
    have ea := hR.two hall (by decide)
    rw [v1, v2] at ea
    subst ea
    rw [hall 1 (by simp), hall 2 (by simp)]
    have B2 : Hid (Below w1.heap.size w1 w2) := Below.trans (b := w1.drew) ⟨rfl, rfl, rfl, Nat.le_refl _, fun _ _ => rfl⟩ hB
    clear hR hv hall hB v1 v2
    simp only [Act.put, if_true, reduceIte, List.setIfInBounds_toArray, List.set_cons_zero, List.set_cons_succ]
    have K2 : Hid (w2.heap[w.heap.size]? = some (.cells #[.slice pb P.length cb] 38 (0, 0))) := (B2.out.block _ (by omega)).trans K1.out
    have hs2 := B2.out.size
    have B02 : Hid (Below w.heap.size w w2) := B1.out.trans (B2.out.mono (by omega))
    clear K1
    refine wpAny_ready (rs := [3]) (by kernel_rfl) (by simp) ?_
    refine AllReady.cons rfl (fun K hK => ?_) AllReady.nil
    go_simp
    refine (CP.out w2 B02.out).mono ?_
    rintro e w' ⟨rfl, hw⟩
    subst hw
    refine hK _ _ ?_
    clear hK K CP CA
    refine wpAny_ready (rs := [4]) (by kernel_rfl) (by simp) ?_
    refine AllReady.cons rfl (fun K hK => ?_) AllReady.nil
    go_simp
    refine hK _ _ ?_
    clear hK K
    have hc : w'.cell? ⟨w.heap.size, 0, none⟩ = some (.slice pb P.length cb) := by rw [cell_of_row w' w.heap.size 0 _ _ _ K2.out]; rfl
    have hfz : w'.frozen? ⟨w.heap.size, 0, none⟩ = false := by simp [World.frozen?, K2.out]
    refine wpAny_ready (rs := [5]) (by kernel_rfl) (by simp) ?_
    refine AllReady.cons rfl (fun K hK => ?_) AllReady.nil
    go_simp
    refine hK _ _ ?_
    clear hK K
    refine wpAny_done (by kernel_rfl) ?_ _
    obtain ⟨w3, hw3⟩ : ∃ w3, Hid (w'.setCell ⟨w.heap.size, 0, none⟩ (.slice pb P'.length cb) = w3) := ⟨_, rfl⟩
    rw [hw3.out]
    have K3 : Hid (w3.heap[w.heap.size]? = some (.cells #[.slice pb P'.length cb] 38 (0, 0))) := by rw [← hw3.out]; exact heap_setCell_same w' w.heap.size 0 _ _ _ K2.out
    have B3 : Hid (Below w.heap.size w w3) := by rw [← hw3.out]; exact B02.out.setCell (p := ⟨w.heap.size, 0, none⟩) (Nat.le_refl _) _
    have hs3 : w.heap.size < w3.heap.size := by rw [← hw3.out]; simp; omega
    have q3 : w3.cell? ⟨w.heap.size, 0, none⟩ = some (.slice pb P'.length cb) := by rw [cell_of_row w3 w.heap.size 0 _ _ _ K3.out]; rfl
    clear hw3 K2 B02 B2 hs2 hc hfz B1 hs1 hw1
    by_cases hlong : A'.length ≤ 256 ∧ P'.length ≤ 256
    · have g1 : ¬ (256 : Int) < (A'.length : Int) := by omega
      have g2 : ¬ (256 : Int) < (P'.length : Int) := by omega
      by_cases hm : P'.length = 0
      · have hm' : ((P'.length : Int) == 0) = true := by rw [hm]; rfl
        have fin : ∀ e W, e = Ending.returned (.tuple #[.slice none 0 0, .slice none 0 0, .int .i64 60]) → Below w.heap.size w W → OverPost w A' P' e W := fun e W he hB => ⟨fun h => absurd hlong h, fun _ _ => he, fun _ h => absurd hm h, hB⟩
        have FIN := hid fin
        have HL := hid hlong
        have HM := hid hm
        clear fin hlong hm
        by_cases hgt : (A'.length : Int) < (P'.length : Int)
        all_goals
          go_wp2
          go_ret3
          exact FIN.out _ _ rfl B3.out
      · obtain ⟨t, HT⟩ : ∃ t : Nat, Hid (P'.length = t + 1) := ⟨P'.length - 1, by show _ = _; omega⟩
        have HME : Hid (gN P' t ≠ 0) := by
          have := HPE.out hm
          rw [HT.out, Nat.add_sub_cancel] at this
          exact this
        have hm' : ((P'.length : Int) == 0) = false := by simpa using hm
        have htI : (P'.length : Int) - 1 = (t : Int) := by have := HT.out; omega
        have HL := hid hlong
        have HM := hid hm
        obtain ⟨b1, o1, c1, e1, _, _, hc1⟩ := HP.out.ne (by omega)
        simp only [Value.slice.injEq] at e1
        obtain ⟨rfl, _, rfl⟩ := e1
        have htl : t < P'.length := by have := HT.out; omega
        obtain ⟨gt, lt⟩ := HP.out.gN t
        have hct := hc1 t htl
        rw [gt] at hct
        have hb1 : b1 < w.heap.size := World.block_lt_of_cell? w _ hct
        obtain ⟨w4, hw4⟩ : ∃ w4, Hid (w3.alloc (.cells #[.int .i64 (t : Int)] 3) = w4) := ⟨_, rfl⟩
        have B4 : Hid (Below w.heap.size w w4) := by rw [← hw4.out]; exact B3.out.alloc (by omega) _
        have B34 : Hid (Below w3.heap.size w3 w4) := by rw [← hw4.out]; exact (Below.refl _ w3).alloc (Nat.le_refl _) _
        have hs4 : w4.heap.size = w3.heap.size + 1 := by rw [← hw4.out]; simp
        have K4 : Hid (w4.heap[w3.heap.size]? = some (.cells #[.int .i64 (t : Int)] 3 (0, 0))) := by rw [← hw4.out]; exact heap_alloc_new w3 _
        have K34 : Hid (w4.heap[w.heap.size]? = some (.cells #[.slice (some ⟨b1, o1, none⟩) P'.length cb] 38 (0, 0))) := (B34.out.block _ hs3).trans K3.out
        have qt : w3.cell? ⟨b1, o1 + t, none⟩ = some (.int .u8 ((gN P' t : Nat) : Int)) := (B3.out.cell hb1).trans hct
        have hb3 : b1 < w3.heap.size := by omega
        have qt4 : (w3.alloc (.cells #[.int .i64 (t : Int)] 3)).cell? ⟨b1, o1 + t, none⟩ = some (.int .u8 ((gN P' t : Nat) : Int)) := (((Below.refl _ w3).alloc (Nat.le_refl _) _).cell hb3).trans qt
        have CI := hid (inv_any w4 (gN P' t) lt HME.out)
        obtain ⟨iv, HIV⟩ : ∃ iv, Hid (inv (gN P' t) = iv) := ⟨_, rfl⟩
        rw [HIV.out] at CI
        obtain ⟨pt, HPT⟩ : ∃ pt, Hid (gN P' t = pt) := ⟨_, rfl⟩
        rw [HPT.out] at qt qt4 lt HME CI
        clear hlong hm gt hct hc1
        by_cases hgt : (A'.length : Int) < (P'.length : Int)
        all_goals
          go_wp2_with fail
          rw [hw4.out]
          refine CI.out.mono ?_
          rintro e w5 ⟨rfl, hB5⟩
          have B45 := hid hB5
          have hs5 := hB5.size
          clear hB5 CI
          go_wp2_with fail
          obtain ⟨w6, hw6⟩ : ∃ w6, Hid (w5.alloc (.cells #[.int .u8 (iv : Int)] 5) = w6) := ⟨_, rfl⟩
          rw [hw6.out]
          have B56 : Hid (Below w5.heap.size w5 w6) := by rw [← hw6.out]; exact (Below.refl _ w5).alloc (Nat.le_refl _) _
          have B46 : Hid (Below w4.heap.size w4 w6) := B45.out.trans (B56.out.mono hs5)
          have B6 : Hid (Below w.heap.size w w6) := B4.out.trans (B46.out.mono (by omega))
          have hs6 : w6.heap.size = w5.heap.size + 1 := by rw [← hw6.out]; simp
          have M0 : Hid (w6.heap[w.heap.size]? = some (.cells #[.slice (some ⟨b1, o1, none⟩) P'.length cb] 38 (0, 0))) := (B46.out.block _ (by omega)).trans K34.out
          have M1 : Hid (w6.heap[w3.heap.size]? = some (.cells #[.int .i64 (t : Int)] 3 (0, 0))) := (B46.out.block _ (by omega)).trans K4.out
          have M2 : Hid (w6.heap[w5.heap.size]? = some (.cells #[.int .u8 (iv : Int)] 5 (0, 0))) := by rw [← hw6.out]; exact heap_alloc_new w5 _
          clear B45 B56 B46 K34 K4 K3 B34 hw6 qt qt4 q3 hw4 B4 B3
          refine wp_region_any (by kernel_rfl) ?_
          change wpAny _ _ _ _ _ _ _ (World.drew _)
          refine wpAny_take (i := 0) (v := ?_) rfl (by kernel_rfl) (by kernel_rfl) (by kernel_rfl) (fun _ _ _ h => h) (Or.inl ⟨by rfl, ?q0⟩) ?_
          case q0 => intro w; go_simp; rfl
          simp only [Act.put, List.getElem_toArray, List.getElem_cons_zero, List.getElem_cons_succ, List.setIfInBounds_toArray, List.set_cons_zero, List.set_cons_succ]
          refine wpAny_take (i := 1) (v := ?_) rfl (by kernel_rfl) (by kernel_rfl) (by kernel_rfl) (fun _ _ _ h => h) (Or.inl ⟨by rfl, ?q1⟩) ?_
          case q1 => intro w; go_simp; rfl
          simp only [Act.put, List.getElem_toArray, List.getElem_cons_zero, List.getElem_cons_succ, List.setIfInBounds_toArray, List.set_cons_zero, List.set_cons_succ]
          refine wpAny_take (i := 3) (v := ?_) rfl (by kernel_rfl) (by kernel_rfl) (by kernel_rfl) (fun _ _ _ h => h) (Or.inl ⟨by rfl, ?q3⟩) ?_
          case q3 => intro w; go_simp; rfl
          simp only [Act.put, List.getElem_toArray, List.getElem_cons_zero, List.getElem_cons_succ, List.setIfInBounds_toArray, List.set_cons_zero, List.set_cons_succ]
          refine wpAny_fresh0 (S := [2, 4, 5, 6]) (by decide) (dst := fun i => if i = 2 then 38 else if i = 4 then 40 else if i = 5 then 10 else 11) (by decide) (hops := ?c1) (hin := ?c2) (bl := fun _ v => blkOf v) (Φ := fun i W v => if i = 2 then (∃ g, v = .slice (some ⟨g, 0, none⟩) A'.length A'.length ∧ W.ownsRow w.heap.size 5 1 v A'.length ((tabL A'.length fun _ => 0).map (Value.int .u8))) else if i = 4 then W.ownsRow w.heap.size 5 1 v A'.length ((tabL A'.length (gN A')).map (Value.int .u8)) else ∃ b, v = .pointer (some ⟨b, 0, none⟩) ∧ W.heap[b]? = some (.cells #[.slice none 0 0] 38 (0, 0)) ∧ b < W.heap.size) ?c7 (L := fun d => #[true, true, d 2, true, d 4, d 5, d 6, false, false]) ?c3 ?c4 ?c5 (F := 2) ?c6 rfl rfl
          case c1 =>
            intro i hi
            simp only [List.mem_cons, List.not_mem_nil, or_false] at hi
            rcases hi with rfl | rfl | rfl | rfl <;> exact ⟨_, rfl, rfl, rfl⟩
          case c2 =>
            intro i hi
            simp only [List.mem_cons, List.not_mem_nil, or_false] at hi
            rcases hi with rfl | rfl | rfl | rfl <;> simp
          case c7 =>
            intro i W W' v h hB
            show if i = 2 then _ else _
            split at h
            · rename_i hi
              rw [if_pos hi]
              obtain ⟨g, h1, h2⟩ := h
              exact ⟨g, h1, own_below h2 hB⟩
            · rename_i hi
              rw [if_neg hi]
              split at h
              · rename_i hj
                rw [if_pos hj]
                exact own_below h hB
              · rename_i hj
                rw [if_neg hj]
                obtain ⟨b, h1, h2, h3⟩ := h
                exact ⟨b, h1, (hB.block b h3).trans h2, Nat.lt_of_lt_of_le h3 hB.size⟩
          case c3 =>
            rintro d ⟨i, hi, hd⟩
            simp only [List.mem_cons, List.not_mem_nil, or_false] at hi
            cases h1 : d 2 <;> cases h2 : d 4 <;> cases h3 : d 5 <;> cases h4 : d 6
            · exact of_ready (rs := [2, 4, 5, 6]) (by kernel_rfl) (by simp) (by simp [h1, h2, h3, h4])
            · exact of_ready (rs := [2, 4, 5]) (by kernel_rfl) (by simp) (by simp [h1, h2, h3, h4])
            · exact of_ready (rs := [2, 4, 6]) (by kernel_rfl) (by simp) (by simp [h1, h2, h3, h4])
            · exact of_ready (rs := [2, 4]) (by kernel_rfl) (by simp) (by simp [h1, h2, h3, h4])
            · exact of_ready (rs := [2, 5, 6]) (by kernel_rfl) (by simp) (by simp [h1, h2, h3, h4])
            · exact of_ready (rs := [2, 5]) (by kernel_rfl) (by simp) (by simp [h1, h2, h3, h4])
            · exact of_ready (rs := [2, 6]) (by kernel_rfl) (by simp) (by simp [h1, h2, h3, h4])
            · exact of_ready (rs := [2]) (by kernel_rfl) (by simp) (by simp [h1, h2, h3, h4])
            · exact of_ready (rs := [4, 5, 6]) (by kernel_rfl) (by simp) (by simp [h1, h2, h3, h4])
            · exact of_ready (rs := [4, 5]) (by kernel_rfl) (by simp) (by simp [h1, h2, h3, h4])
            · exact of_ready (rs := [4, 6]) (by kernel_rfl) (by simp) (by simp [h1, h2, h3, h4])
            · exact of_ready (rs := [4]) (by kernel_rfl) (by simp) (by simp [h1, h2, h3, h4])
            · exact of_ready (rs := [5, 6]) (by kernel_rfl) (by simp) (by simp [h1, h2, h3, h4])
            · exact of_ready (rs := [5]) (by kernel_rfl) (by simp) (by simp [h1, h2, h3, h4])
            · exact of_ready (rs := [6]) (by kernel_rfl) (by simp) (by simp [h1, h2, h3, h4])
            · rcases hi with rfl | rfl | rfl | rfl
              · rw [h1] at hd; cases hd
              · rw [h2] at hd; cases hd
              · rw [h3] at hd; cases hd
              · rw [h4] at hd; cases hd
          case c4 =>
            intro d i hi
            simp only [List.mem_cons, List.not_mem_nil, or_false] at hi
            rcases hi with rfl | rfl | rfl | rfl <;> simp [upd]
          case c5 =>
            intro i hi o ho a W K hs hB hk
            have hBW : Below w.heap.size w W := B6.out.trans (Below.trans (b := w6.drew) ⟨rfl, rfl, rfl, Nat.le_refl _, fun _ _ => rfl⟩ (hB.mono B6.out.size))
            simp only [List.mem_cons, List.not_mem_nil, or_false] at hi
            rcases hi with rfl | rfl | rfl | rfl
            · simp only [List.getElem?_toArray, List.getElem?_cons_succ, List.getElem?_cons_zero, Option.some.injEq] at ho
              subst ho
              have e37 : a.eval (.tmp 37) = .int .i64 (A'.length : Int) := eval_tmp (hs 37 (by decide))
              obtain ⟨i0, hi0, hz0, hz1, hz2⟩ := info_parts info_u8
              obtain ⟨W', hmk, hown, hgr⟩ := run_make_full (P := Try.prog) W w.heap.size 38 5 i0 (.int .u8 0) 1 Try.underlying38 hi0 hz0 hz1 .i64 .i64 A'.length (by rw [hz2]; have := HL.out.1; omega) (by unfold maxLen; have := HL.out.1; omega) hBW.size
              have hmk2 : (Instr.makeSlice 38 (.int .i64 (A'.length : Int)) (.int .i64 (A'.length : Int))).run Try.prog W = .ok (.slice (some ⟨W.heap.size, 0, none⟩) A'.length A'.length) W' := hmk
              have hlt := (hown.lt W.heap.size rfl).2
              have ez : (madeCells (Value.int IntKind.u8 0).cells (A'.length * 1)).toList = (tabL A'.length fun _ => 0).map (Value.int .u8) := by
                rw [show (Value.int IntKind.u8 0).cells = #[Value.int .u8 0] from rfl, toList_madeCells_one, Nat.mul_one]
                refine List.ext_getElem (by simp [tabL]) fun j h1 h2 => ?_
                simp [tabL]
              rw [ez] at hown
              go_simp
              exact hk _ _ ⟨_, rfl, hown⟩ (fun g hg => by simp only [blkOf, Option.some.injEq] at hg; subst hg; exact ⟨Nat.le_refl _, hlt⟩) ⟨hgr.os, hgr.tape, hgr.output, hgr.size, fun k hk => hgr.block k hk (by simp)⟩
            · simp only [List.getElem?_toArray, List.getElem?_cons_succ, List.getElem?_cons_zero, Option.some.injEq] at ho
              subst ho
              have e39 : a.eval (.tmp 39) = .slice pa A'.length ca := eval_tmp (hs 39 (by decide))
              go_simp
              refine (sclone_any W _ A' (HA.out.below hBW) (by have := HL.out.1; omega)).mono ?_
              rintro e W' ⟨v', rfl, hown, hB'⟩
              have hown2 := own_mono hown hBW.size
              rw [list_tab HA.out.2, tabL_length] at hown2
              refine hk _ _ hown2 (fun g hg => ?_) hB'
              obtain ⟨pv, cvv, ev⟩ := own_slc hown
              subst ev
              refine hown.lt g ?_
              cases pv with
              | none => simp [blkOf] at hg
              | some _ => exact hg
            · simp only [List.getElem?_toArray, List.getElem?_cons_succ, List.getElem?_cons_zero, Option.some.injEq] at ho
              subst ho
              go_simp
              refine hk _ _ ⟨W.heap.size, rfl, heap_alloc_new W _, by simp⟩ (fun g hg => by simp only [blkOf, Option.some.injEq] at hg; subst hg; exact ⟨Nat.le_refl _, by simp⟩) ((Below.refl _ W).alloc (Nat.le_refl _) _)
            · simp only [List.getElem?_toArray, List.getElem?_cons_succ, List.getElem?_cons_zero, Option.some.injEq] at ho
              subst ho
              go_simp
              refine hk _ _ ⟨W.heap.size, rfl, heap_alloc_new W _, by simp⟩ (fun g hg => by simp only [blkOf, Option.some.injEq] at hg; subst hg; exact ⟨Nat.le_refl _, by simp⟩) ((Below.refl _ W).alloc (Nat.le_refl _) _)
          case c6 =>
            intro d vals a w7 hall hR hv hbl hdis hB
            have B67 : Hid (Below w6.heap.size w6 w7) := Below.trans (b := w6.drew) ⟨rfl, rfl, rfl, Nat.le_refl _, fun _ _ => rfl⟩ hB
            have f2 : ∃ g, vals 2 = .slice (some ⟨g, 0, none⟩) A'.length A'.length ∧ w7.ownsRow w.heap.size 5 1 (vals 2) A'.length ((tabL A'.length fun _ => 0).map (Value.int .u8)) := hv 2 (by simp)
            have o4 : w7.ownsRow w.heap.size 5 1 (vals 4) A'.length ((tabL A'.length (gN A')).map (Value.int .u8)) := hv 4 (by simp)
            have f5 : ∃ b, vals 5 = .pointer (some ⟨b, 0, none⟩) ∧ w7.heap[b]? = some (.cells #[.slice none 0 0] 38 (0, 0)) ∧ b < w7.heap.size := hv 5 (by simp)
            have f6 : ∃ b, vals 6 = .pointer (some ⟨b, 0, none⟩) ∧ w7.heap[b]? = some (.cells #[.slice none 0 0] 38 (0, 0)) ∧ b < w7.heap.size := hv 6 (by simp)
            obtain ⟨gq, v2, o2⟩ := f2
            obtain ⟨bq, v5, k5, l5⟩ := f5
            obtain ⟨br, v6, k6, l6⟩ := f6
            obtain ⟨pr, cr, v4⟩ := own_slc o4
            have ea := hR.four hall (by decide) (by decide) (by decide) (by decide) (by decide) (by decide)
            have b2 := hbl 2 (by simp) gq (by rw [v2]; rfl)
            have b5 := hbl 5 (by simp) bq (by rw [v5]; rfl)
            have b6 := hbl 6 (by simp) br (by rw [v6]; rfl)
            have n1 : gq ≠ bq := fun e => hdis 2 (by simp) 5 (by simp) (by decide) gq (by rw [v2]; rfl) (by rw [v5, e]; rfl)
            have n2 : gq ≠ br := fun e => hdis 2 (by simp) 6 (by simp) (by decide) gq (by rw [v2]; rfl) (by rw [v6, e]; rfl)
            have n3 : bq ≠ br := fun e => hdis 5 (by simp) 6 (by simp) (by decide) bq (by rw [v5]; rfl) (by rw [v6, e]; rfl)
            have n4 : ∀ g off, pr = some ⟨g, off, none⟩ → w6.heap.size ≤ g ∧ g ≠ gq ∧ g ≠ bq ∧ g ≠ br := fun g off e => by
              have hg : blkOf (vals 4) = some g := by rw [v4, e]; rfl
              refine ⟨(hbl 4 (by simp) g hg).1, fun q => ?_, fun q => ?_, fun q => ?_⟩
              · exact hdis 4 (by simp) 2 (by simp) (by decide) g hg (by rw [v2, q]; rfl)
              · exact hdis 4 (by simp) 5 (by simp) (by decide) g hg (by rw [v5, q]; rfl)
              · exact hdis 4 (by simp) 6 (by simp) (by decide) g hg (by rw [v6, q]; rfl)
            rw [v2] at o2
            rw [v4] at o4
            rw [v2, v4, v5, v6] at ea
            subst ea
            rw [hall 2 (by simp), hall 4 (by simp), hall 5 (by simp), hall 6 (by simp)]
            clear hR hv hall hB v2 v4 v5 v6 hbl hdis
            have b2' : w6.heap.size ≤ gq ∧ gq < w7.heap.size := b2
            have b5' : w6.heap.size ≤ bq ∧ bq < w7.heap.size := b5
            have b6' : w6.heap.size ≤ br ∧ br < w7.heap.size := b6
            clear b2 b5 b6
            simp only [Act.put, if_true, reduceIte, List.setIfInBounds_toArray, List.set_cons_zero, List.set_cons_succ, Nat.reduceEqDiff]
            have hc5 : w7.cell? ⟨bq, 0, none⟩ = some (.slice none 0 0) := by rw [cell_of_row w7 bq 0 _ _ _ k5]; rfl
            have hf5 : w7.frozen? ⟨bq, 0, none⟩ = false := by simp [World.frozen?, k5]
            refine wpAny_ready (rs := [7]) (by kernel_rfl) (by simp) ?_
            refine AllReady.cons rfl (fun K hK => ?_) AllReady.nil
            go_simp
            refine hK _ _ ?_
            clear hK K
            obtain ⟨w8, hw8⟩ : ∃ w8, Hid (w7.setCell ⟨bq, 0, none⟩ (.slice (some ⟨gq, 0, none⟩) A'.length A'.length) = w8) := ⟨_, rfl⟩
            rw [hw8.out]
            have G8 : Hid (w7.grownBy w8 (some bq)) := by rw [← hw8.out]; exact grown_sets _ _ _ _
            have J8 : Hid (w8.heap[bq]? = some (.cells #[.slice (some ⟨gq, 0, none⟩) A'.length A'.length] 38 (0, 0))) := by rw [← hw8.out]; exact heap_setCell_same w7 bq 0 _ _ _ k5
            have k68 : w8.heap[br]? = some (.cells #[.slice none 0 0] 38 (0, 0)) := (G8.out.block br b6'.2 (by simp; exact fun e => n3 e.symm)).trans k6
            have hc6 : w8.cell? ⟨br, 0, none⟩ = some (.slice none 0 0) := by rw [cell_of_row w8 br 0 _ _ _ k68]; rfl
            have hf6 : w8.frozen? ⟨br, 0, none⟩ = false := by simp [World.frozen?, k68]
            refine wpAny_ready (rs := [8]) (by kernel_rfl) (by simp) ?_
            refine AllReady.cons rfl (fun K hK => ?_) AllReady.nil
            go_simp
            refine hK _ _ ?_
            clear hK K
            refine wpAny_done (by kernel_rfl) ?_ _
            obtain ⟨w9, hw9⟩ : ∃ w9, Hid (w8.setCell ⟨br, 0, none⟩ (.slice pr A'.length cr) = w9) := ⟨_, rfl⟩
            rw [hw9.out]
            have G9 : Hid (w8.grownBy w9 (some br)) := by rw [← hw9.out]; exact grown_sets _ _ _ _
            have J9 : Hid (w9.heap[br]? = some (.cells #[.slice pr A'.length cr] 38 (0, 0))) := by rw [← hw9.out]; exact heap_setCell_same w8 br 0 _ _ _ k68
            have s8 := G8.out.size
            have s9 := G9.out.size
            have J8' : Hid (w9.heap[bq]? = some (.cells #[.slice (some ⟨gq, 0, none⟩) A'.length A'.length] 38 (0, 0))) := (G9.out.block bq (by omega) (by simp; exact n3)).trans J8.out
            have st : ∀ b, b < w6.heap.size → w9.heap[b]? = w6.heap[b]? := fun b hb => (G9.out.block b (by omega) (by simp; omega)).trans ((G8.out.block b (by omega) (by simp; omega)).trans (B67.out.block b hb))
            have M0' := hid ((st _ (by omega)).trans M0.out)
            have M1' := hid ((st _ (by omega)).trans M1.out)
            have M2' := hid ((st _ (by omega)).trans M2.out)
            have B9 : Hid (Below w.heap.size w w9) := ((B6.out.trans (B67.out.mono B6.out.size)).grown G8.out (by have := B6.out.size; omega) (fun k e => by cases e; have := B6.out.size; omega)).grown G9.out (by have := B6.out.size; omega) (fun k e => by cases e; have := B6.out.size; omega)
            have OQ9 : Hid (w9.ownsRow w.heap.size 5 1 (.slice (some ⟨gq, 0, none⟩) A'.length A'.length) A'.length ((tabL A'.length fun _ => 0).map (Value.int .u8))) := (o2.kept G8.out (.inr (by simp [Value.ownBlock]; exact n1))).kept G9.out (.inr (by simp [Value.ownBlock]; exact n2))
            have OR9 : Hid (w9.ownsRow w.heap.size 5 1 (.slice pr A'.length cr) A'.length ((tabL A'.length (gN A')).map (Value.int .u8))) := by
              have key : ∀ b, b = bq ∨ b = br → (Value.slice pr A'.length cr).ownBlock = none ∨ (Value.slice pr A'.length cr).ownBlock ≠ some b := fun b hb => by
                rcases o4.2 with ⟨e, _⟩ | ⟨g', cap', cur, e, _⟩
                · simp only [Value.slice.injEq] at e
                  exact .inl (by rw [e.1]; rfl)
                · simp only [Value.slice.injEq] at e
                  have := n4 g' 0 e.1
                  refine .inr fun q => ?_
                  rw [e.1] at q
                  simp only [Value.ownBlock, Option.some.injEq] at q
                  rcases hb with rfl | rfl <;> omega
              exact (o4.kept G8.out (key bq (.inl rfl))).kept G9.out (key br (.inr rfl))
            have HN4 := hid n4
            have hb9 : Hid (w6.heap.size ≤ gq ∧ w6.heap.size ≤ bq ∧ w6.heap.size ≤ br ∧ gq ≠ bq ∧ gq ≠ br ∧ bq ≠ br) := ⟨b2'.1, b5'.1, b6'.1, n1, n2, n3⟩
            have HS9 : Hid (w6.heap.size ≤ w9.heap.size ∧ w.heap.size < w6.heap.size ∧ w3.heap.size < w6.heap.size ∧ w5.heap.size < w6.heap.size) := ⟨by omega, by omega, by omega, by omega⟩
            clear hw9 hw8 G8 G9 J8 k68 k5 k6 hc5 hf5 hc6 hf6 o2 o4 st M0 M1 M2 B6 B67 n1 n2 n3 n4 b2' b5' b6' s8 s9
            have q9 : w9.cell? ⟨br, 0, none⟩ = some (.slice pr A'.length cr) := by rw [cell_of_row w9 br 0 _ _ _ J9.out]; rfl
            go_wp2_with fail
            have hgA : ∀ k, gN A' k < 256 := fun k => (HA.out.gN k).2
            have hgP : ∀ k, gN P' k < 256 := fun k => (HP.out.gN k).2
            have hiv : iv < 256 := by rw [← HIV.out]; exact inv_lt _
            have hpiv : prod pt iv = 1 := by rw [← HIV.out, HPT.out]; exact prod_inv pt lt HME.out
            have hpt : gN P' t = pt := HPT.out
            have hPl := HT.out
            refine (down_ovr _ pr A'.length cr (by have := HL.out.1; omega) _ _ _ _ _ (fun K wr => (wr.heap[w3.heap.size]? = some (.cells #[.int .i64 (t : Int)] 3 (0, 0)) ∧ wr.heap[w5.heap.size]? = some (.cells #[.int .u8 (iv : Int)] 5 (0, 0)) ∧ wr.heap[bq]? = some (.cells #[.slice (some ⟨gq, 0, none⟩) A'.length A'.length] 38 (0, 0)) ∧ wr.heap[br]? = some (.cells #[.slice pr A'.length cr] 38 (0, 0)) ∧ wr.heap[w.heap.size]? = some (.cells #[.slice (some ⟨b1, o1, none⟩) P'.length cb] 38 (0, 0))) ∧
              (∃ fq fr : Nat → Nat, (∀ i, fq i < 256) ∧ (∀ i, fr i < 256) ∧ wr.ownsRow w.heap.size 5 1 (.slice (some ⟨gq, 0, none⟩) A'.length A'.length) A'.length ((tabL A'.length fq).map (Value.int .u8)) ∧ wr.ownsRow w.heap.size 5 1 (.slice pr A'.length cr) A'.length ((tabL A'.length fr).map (Value.int .u8)) ∧ (∀ i, gN A' i = fr i ^^^ cvF fq P' A'.length i) ∧ (∀ i, K ≤ i → t ≤ i → fr i = 0) ∧ (∀ k, A'.length < k + P'.length → fq k = 0) ∧ (∀ k, k + t < K → fq k = 0)) ∧ Below w.heap.size w wr) ?_ ?_).mono ?_
            · refine ⟨⟨M1'.out, M2'.out, J8'.out, J9.out, M0'.out⟩, ⟨fun _ => 0, gN A', (fun _ => by show 0 < 256; decide), hgA, OQ9.out, OR9.out, fun i => ?_, fun i hi _ => gN_out A' i hi, fun _ _ => rfl, fun _ _ => rfl⟩, B9.out⟩
              rw [cvF_none, Nat.xor_zero]
            · rintro k wr hk ⟨⟨i1, i2, i3, i4, i5⟩, ⟨fq, fr, hfq, hfr, oq, or', hid1, hz1, hz2, hz3⟩, hB⟩
              obtain ⟨gr, hgr⟩ : ∃ gr, pr = some ⟨gr, 0, none⟩ := by
                rcases or'.2 with ⟨e, h0⟩ | ⟨g', cap', cur, e, _⟩
                · omega
                · simp only [Value.slice.injEq] at e
                  exact ⟨g', e.1⟩
              subst hgr
              have n4 := HN4.out gr 0 rfl
              have hbb := hb9.out
              have hcl := or'.cellAt k (by omega)
              have hcv : wr.cell? ⟨gr, 0 + k, none⟩ = some (.int .u8 ((fr k : Nat) : Int)) := by
                rw [Nat.zero_add, hcl, List.getElem?_map]
                simp only [tabL, List.getElem?_map, List.getElem?_range hk, Option.map_some]
              refine ⟨gr, 0, fr k, rfl, hcv, ?_⟩
              by_cases hkt : k < t
              · refine (over1_skip wr k (fr k) t w3.heap.size w5.heap.size bq br w.heap.size i1 hkt).mono ?_
                rintro e w' ⟨rfl, rfl⟩
                exact ⟨rfl, ⟨i1, i2, i3, i4, i5⟩, ⟨fq, fr, hfq, hfr, oq, or', hid1, fun i hi hti => hz1 i (by omega) hti, hz2, fun j hj => hz3 j (by omega)⟩, hB⟩
              · have HPw := HP.out.below hB
                have hs9' := HS9.out
                refine (over1_go wr w.heap.size k (fr k) t iv A'.length gq gr A'.length cr cb (some ⟨b1, o1, none⟩) P' fq fr w3.heap.size w5.heap.size bq br w.heap.size i1 i2 i3 i4 i5 oq or' HPw (fun _ b off e => by cases e; omega) (fun e => n4.2.1 e.symm) (by omega) (by omega) (fun e => hbb.2.2.2.1 e.symm) (fun e => hbb.2.2.2.2.1 e.symm) (by omega) (hfr k) hiv hfr (by have := HL.out.1; omega) (by omega) hPl hk).mono ?_
                rintro e w' ⟨rfl, oq', or'', hst, hB'⟩
                have lt1 := (Array.getElem?_eq_some_iff.1 i1).1
                have lt2 := (Array.getElem?_eq_some_iff.1 i2).1
                have lt3 := (Array.getElem?_eq_some_iff.1 i3).1
                have lt4 := (Array.getElem?_eq_some_iff.1 i4).1
                have lt5 := (Array.getElem?_eq_some_iff.1 i5).1
                have hm := prod_lt iv (hfr k)
                refine ⟨rfl, ⟨(hst _ lt1 (by omega) (by omega)).trans i1, (hst _ lt2 (by omega) (by omega)).trans i2, (hst _ lt3 (fun e => hbb.2.2.2.1 e.symm) (fun e => n4.2.2.1 e.symm)).trans i3, (hst _ lt4 (fun e => hbb.2.2.2.2.1 e.symm) (fun e => n4.2.2.2 e.symm)).trans i4, (hst _ lt5 (by omega) (by omega)).trans i5⟩, ⟨_, _, ?_, ?_, oq', or'', ?_, ?_, ?_, ?_⟩, hB.trans hB'⟩
                · intro i
                  show (if i = k - t then prod (fr k) iv else fq i) < 256
                  split
                  · exact hm
                  · exact hfq i
                · exact fun i => xor8 (hfr i) (sh_lt hgP _ _ _)
                · intro i
                  rw [cvF_upd P' (k - t) (prod (fr k) iv) (hz3 (k - t) (by omega)) A'.length i (by omega), hid1 i, Nat.xor_assoc, Nat.xor_comm (cvF fq P' A'.length i), xor_left_self]
                · intro i hi hti
                  show fr i ^^^ sh P' (prod (fr k) iv) (k - t) i = 0
                  unfold sh
                  rw [if_pos (by omega)]
                  by_cases e : i = k
                  · subst e
                    rw [show i - (i - t) = t by omega, hpt, prod_comm pt _ lt hm, ← prod_assoc (fr i) iv pt (hfr i) hiv lt, prod_comm iv pt hiv lt, hpiv, prod_one _ (hfr i), Nat.xor_self]
                  · rw [hz1 i (by omega) hti, gN_out P' _ (by omega), zero_prod _ hm, Nat.xor_zero]
                · intro j hj
                  show (if j = k - t then prod (fr k) iv else fq j) = 0
                  rw [if_neg (by omega)]
                  exact hz2 j hj
                · intro j hj
                  show (if j = k - t then prod (fr k) iv else fq j) = 0
                  rw [if_neg (by omega)]
                  exact hz3 j (by omega)
            · rintro e w10 ⟨rfl, ⟨i1, i2, i3, i4, i5⟩, ⟨fq, fr, hfq, hfr, oq, or', hid1, hz1, hz2, hz3⟩, hB⟩
              have c3 : w10.cell? ⟨bq, 0, none⟩ = some (.slice (some ⟨gq, 0, none⟩) A'.length A'.length) := by rw [cell_of_row w10 bq 0 _ _ _ i3]; rfl
              have c4 : w10.cell? ⟨br, 0, none⟩ = some (.slice pr A'.length cr) := by rw [cell_of_row w10 br 0 _ _ _ i4]; rfl
              have hq1 : HB w10 (.slice (some ⟨gq, 0, none⟩) (tabL A'.length fq).length A'.length) (tabL A'.length fq) := by
                refine HB.of_own (B := w.heap.size) (e := 5) ?_ (tabL_byt _ hfq)
                rw [tabL_length]
                exact oq
              have hr1 : HB w10 (.slice pr (tabL A'.length fr).length cr) (tabL A'.length fr) := by
                refine HB.of_own (B := w.heap.size) (e := 5) ?_ (tabL_byt _ hfr)
                rw [tabL_length]
                exact or'
              have CQ : Hid (∀ q, Calls Try.prog 54 #[.slice (some ⟨gq, 0, none⟩) A'.length A'.length] (w10.drewN q) fun e w' => e = .returned (.slice (some ⟨gq, 0, none⟩) (cutN (tabL A'.length fq) A'.length) A'.length) ∧ w' = w10.drewN q) := fun q => by
                have := trimmed_any (w10.drewN q) _ _ _ (hq1.drewN q)
                rw [tabL_length] at this
                exact this
              have CR : Hid (∀ q, Calls Try.prog 54 #[.slice pr A'.length cr] (w10.drewN q) fun e w' => e = .returned (.slice pr (cutN (tabL A'.length fr) A'.length) cr) ∧ w' = w10.drewN q) := fun q => by
                have := trimmed_any (w10.drewN q) _ _ _ (hr1.drewN q)
                rw [tabL_length] at this
                exact this
              have hgne : ((Value.slice (some ⟨gq, 0, none⟩) (cutN (tabL A'.length fq) A'.length) A'.length).ownBlock = none ∨ (Value.slice (some ⟨gq, 0, none⟩) (cutN (tabL A'.length fq) A'.length) A'.length).ownBlock ≠ (Value.slice pr (cutN (tabL A'.length fr) A'.length) cr).ownBlock) ∧ ((Value.slice pr (cutN (tabL A'.length fr) A'.length) cr).ownBlock = none ∨ (Value.slice pr (cutN (tabL A'.length fr) A'.length) cr).ownBlock ≠ (Value.slice (some ⟨gq, 0, none⟩) (cutN (tabL A'.length fq) A'.length) A'.length).ownBlock) := by
                rcases or'.2 with ⟨e, _⟩ | ⟨g', cap', cur, e, _⟩
                · simp only [Value.slice.injEq] at e
                  rw [e.1]
                  exact ⟨.inr (by simp [Value.ownBlock]), .inl rfl⟩
                · simp only [Value.slice.injEq] at e
                  have := (HN4.out g' 0 e.1).2.1
                  rw [e.1]
                  exact ⟨.inr (by simp [Value.ownBlock]; exact fun q => this q.symm), .inr (by simp [Value.ownBlock]; exact this)⟩
              have FIN : Hid (∀ W, Dr w10 W → OverPost w A' P' (.returned (.tuple #[.slice (some ⟨gq, 0, none⟩) (cutN (tabL A'.length fq) A'.length) A'.length, .slice pr (cutN (tabL A'.length fr) A'.length) cr, .int .i64 0])) W) := fun W hW => ⟨fun h => absurd HL.out h, fun _ h => absurd h HM.out, fun _ _ => ⟨_, _, fq, fr, rfl, hfq, hfr, own_below (own_cut oq) (hW.below _), own_below (own_cut or') (hW.below _), hgne, hid1, fun i hi => hz1 i (Nat.zero_le _) (by omega), hz2⟩, hB.trans (hW.below _)⟩
              clear i1 i2 i3 i4 i5 hfq hfr oq or' hid1 hz1 hz2 hz3 hB hq1 hr1 hgne
              obtain ⟨mq, HNQ⟩ : ∃ x, Hid (cutN (tabL A'.length fq) A'.length = x) := ⟨_, rfl⟩
              obtain ⟨mr, HNR⟩ : ∃ x, Hid (cutN (tabL A'.length fr) A'.length = x) := ⟨_, rfl⟩
              rw [HNQ.out] at CQ FIN
              rw [HNR.out] at CR FIN
              go_wp2
              go_quiet ((go_at_call 54; first | with_reducible exact Calls.quiet_of_same (CQ.out _) | with_reducible exact Calls.quiet_of_same (CR.out _)))
              go_wp2
              go_ret3
              exact FIN.out _ (Dr.one _ _)
    · have fin : ∀ e W, e = Ending.returned (.tuple #[.slice none 0 0, .slice none 0 0, .int .i64 61]) → Below w.heap.size w W → OverPost w A' P' e W := fun e W he hB => ⟨fun _ => he, fun h => absurd h hlong, fun h => absurd h hlong, hB⟩
      have FIN := hid fin
      clear fin
      by_cases hgt : (A'.length : Int) < (P'.length : Int)
      · have g1 : (256 : Int) < (P'.length : Int) := by omega
        clear hlong
        go_wp2
        go_ret3
        exact FIN.out _ _ rfl B3.out
      · have g1 : (256 : Int) < (A'.length : Int) := by omega
        clear hlong
        go_wp2
        go_ret3
        exact FIN.out _ _ rfl B3.out
end Go.Proofs.Ytmglpcenipnmbaa
