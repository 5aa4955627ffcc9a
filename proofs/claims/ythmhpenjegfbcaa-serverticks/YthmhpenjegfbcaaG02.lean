/- Of the road to serverTicksUpto_holds: SvMl, SvMk. -/
import Derived.Test.YthmhpenjegfbcaaG01
set_option linter.unusedVariables false
set_option linter.unusedSimpArgs false
namespace Go.Proofs.Ythmhpenjegfbcaa
open Go Go.RowKit
theorem tk_iff {y : Int} (h : tkB y = true) : 0 ≤ y ∧ y ≤ 1099511627776 := of_decide_eq_true h
theorem tk_not {y : Int} (h : tkB y = false) : ¬ (0 ≤ y ∧ y ≤ 1099511627776) := of_decide_eq_false h
def MlJ (t : Int) (ls : List Lz) (j : Nat) : Prop := ∀ hj : j < ls.length, (0 < j → (ls.getD (j - 1) default).who < ls[j].who) ∧ (0 ≤ ls[j].til ∧ ls[j].til ≤ 1099511627776) ∧ t ≤ ls[j].til
def MlQ (t : Int) (ls : List Lz) : Prop := 1 ≤ ls.length ∧ ls.length ≤ 64 ∧ ∀ j, MlJ t ls j
theorem RdL.cells {w : World} {v : Value} {ls : List Lz} (h : RdL w v ls) (hl : 0 < ls.length) : ∃ b off c, v = .slice (some ⟨b, off, none⟩) ls.length c ∧ ∀ i (hi : i < ls.length), w.cell? ⟨b, off + i * 2, none⟩ = some (.int .u32 ls[i].who) ∧ w.cell? ⟨b, off + (i * 2 + 1), none⟩ = some (.int .i64 ls[i].til) := by
  obtain ⟨p, c, rfl, h2⟩ := h
  obtain ⟨b, off, rfl, hr⟩ := h2 (List.length_pos_iff.1 hl)
  refine ⟨b, off, c, rfl, fun i hi => ?_⟩
  obtain ⟨q1, q2⟩ := lzL_at ls i hi
  exact ⟨hr _ _ q1, hr _ _ q2⟩
set_option maxRecDepth 100000 in
set_option maxHeartbeats 16000000 in
theorem mayLease_any (w : World) (v : Value) (ls : List Lz) (t : Int) (h : RdL w v ls) : Calls Try.prog 51 #[v, .int .i64 t] w fun e w' => ∃ r, e = .returned (.bool r) ∧ (r = true ↔ MlQ t ls) ∧ Below w.heap.size w w' := by
  by_cases hl : 1 ≤ ls.length ∧ ls.length ≤ 64
  · obtain ⟨b, off, c, rfl, hc⟩ := h.cells (by omega)
    have HC := hid hc
    have CT := hid isTick_any
    have CR := hid runs_any
    clear h hc
    obtain ⟨hl1, hl2⟩ := hl
    have d1 : decide ((ls.length : Int) < 1) = false := decide_eq_false (by omega)
    have d2 : decide (64 < (ls.length : Int)) = false := decide_eq_false (by omega)
    go_enter Try.func51, Try.ntmps51
    go_wp2
    clear d1 d2
    go_loopw [17] (fun u wr => ∃ k : Nat, k ≤ ls.length ∧ u = .int .i64 k ∧ (∀ j, j < k → MlJ t ls j) ∧ Below w.heap.size w wr) (fun u _ => ls.length - (intOf u).toNat)
    case atStart => exact ⟨0, Nat.zero_le _, rfl, fun j hj => by omega, Below.refl _ _⟩
    case round =>
      obtain ⟨k, hk, rfl, hM, hB⟩ := hrel
      have HM := hid hM
      have HB := hid hB
      clear hM
      by_cases hlt : k < ls.length
      · obtain ⟨g1, g2⟩ := HC.out k hlt
        have hbl := World.block_lt_of_cell? w _ g1
        simp only at hbl
        have g1 := (hB.cell (p := ⟨b, off + k * 2, none⟩) hbl).trans g1
        have g2 := (hB.cell (p := ⟨b, off + (k * 2 + 1), none⟩) hbl).trans g2
        rw [← Nat.add_assoc] at g2
        obtain ⟨x, hx⟩ : ∃ x, Hid (ls[k].who = x) := ⟨_, hid rfl⟩
        obtain ⟨y, hy⟩ : ∃ y, Hid (ls[k].til = y) := ⟨_, hid rfl⟩
        rw [hx.out] at g1
        rw [hy.out] at g2
        have hlt' : (k : Int) < (ls.length : Int) := by omega
        obtain ⟨W1, HW1⟩ : ∃ W : World, Hid (wr.alloc (.cells #[.int .u32 x, .int .i64 y] 30) = W) := ⟨_, hid rfl⟩
        have B1 : Hid (Below wr.heap.size wr W1) := by rw [← HW1.out]; exact hid ((Below.refl _ wr).alloc (Nat.le_refl _) _)
        have B0 := hid (hB.trans (B1.out.mono hB.size))
        have HLT : Hid (wr.heap.size < W1.heap.size) := hid (by rw [← HW1.out]; simp)
        have n1 : W1.cell? ⟨wr.heap.size, 0, none⟩ = some (.int .u32 x) := by rw [← HW1.out]; exact (cell_of_row _ _ _ _ _ _ (heap_alloc_new wr _)).trans rfl
        have n2 : W1.cell? ⟨wr.heap.size, 1, none⟩ = some (.int .i64 y) := by rw [← HW1.out]; exact (cell_of_row _ _ _ _ _ _ (heap_alloc_new wr _)).trans rfl
        have bd : Below W1.heap.size W1 W1.drew := (Below.refl _ W1).drew
        have CR1 : Hid (∀ W, Calls Try.prog 23 #[.agg #[.int .u32 x, .int .i64 y], .int .i64 t] W fun e w' => e = .returned (.bool (decide (t ≤ y))) ∧ Below W.heap.size W w') := hid fun W => CR.out W ⟨x, y⟩ t
        obtain ⟨ty, HTY⟩ : ∃ z, Hid (decide (t ≤ y) = z) := ⟨_, hid rfl⟩
        rw [HTY.out] at CR1
        clear hB
        by_cases hk0 : k = 0
        · have d3 : decide (0 < k) = false := decide_eq_false (by omega)
          have HK0 := hid hk0
          clear hk0
          cases hTK : tkB y with
          | true =>
            have HTK := hid hTK
            clear hTK
            go_wp2_with fail
            rw [HW1.out]
            refine wp_region_held_drew (S := Below W1.heap.size W1) (by kernel_rfl) bd (fun hHeld => ?_)
            have HS := hid hHeld
            clear hHeld
            change wpAnyH _ _ _ _ _ _ _ _ (World.drew _)
            refine wpAnyH_take (i := 0) (v := ?_) rfl (by kernel_rfl) (by kernel_rfl) (by kernel_rfl) (fun _ _ _ h => h) (Or.inl ⟨by rfl, ?q0⟩) HS.out ?_
            case q0 => intro w hSw; have q0 := (hSw.cell (p := ⟨wr.heap.size, 0, none⟩) HLT.out).trans n1; have q1 := (hSw.cell (p := ⟨wr.heap.size, 1, none⟩) HLT.out).trans n2; go_simp; rfl
            simp only [Act.put, List.getElem_toArray, List.getElem_cons_zero, List.getElem_cons_succ, List.setIfInBounds_toArray, List.set_cons_zero, List.set_cons_succ]
            refine wpAnyH_take (i := 1) (v := ?_) rfl (by kernel_rfl) (by kernel_rfl) (by kernel_rfl) (fun _ _ _ h => h) (Or.inl ⟨by rfl, ?q1⟩) HS.out ?_
            case q1 => intro w hSw; have q0 := (hSw.cell (p := ⟨wr.heap.size, 0, none⟩) HLT.out).trans n1; have q1 := (hSw.cell (p := ⟨wr.heap.size, 1, none⟩) HLT.out).trans n2; go_simp; rfl
            simp only [Act.put, List.getElem_toArray, List.getElem_cons_zero, List.getElem_cons_succ, List.setIfInBounds_toArray, List.set_cons_zero, List.set_cons_succ]
            refine wpAnyH_take (i := 2) (v := ?_) rfl (by kernel_rfl) (by kernel_rfl) (by kernel_rfl) (fun _ _ _ h => h) (Or.inl ⟨by rfl, ?q2⟩) HS.out ?_
            case q2 => intro w hSw; have q0 := (hSw.cell (p := ⟨wr.heap.size, 0, none⟩) HLT.out).trans n1; have q1 := (hSw.cell (p := ⟨wr.heap.size, 1, none⟩) HLT.out).trans n2; go_simp; rfl
            simp only [Act.put, List.getElem_toArray, List.getElem_cons_zero, List.getElem_cons_succ, List.setIfInBounds_toArray, List.set_cons_zero, List.set_cons_succ]
            refine wpAnyH_take (i := 3) (v := undef) rfl (by kernel_rfl) (by kernel_rfl) (by kernel_rfl) (fun _ _ _ h => h) (Or.inr ⟨by rfl, rfl⟩) HS.out ?_
            simp only [Act.put, List.getElem_toArray, List.getElem_cons_zero, List.getElem_cons_succ, List.setIfInBounds_toArray, List.set_cons_zero, List.set_cons_succ]
            refine wpAnyH_take (i := 4) (v := undef) rfl (by kernel_rfl) (by kernel_rfl) (by kernel_rfl) (fun _ _ _ h => h) (Or.inr ⟨by rfl, rfl⟩) HS.out ?_
            simp only [Act.put, List.getElem_toArray, List.getElem_cons_zero, List.getElem_cons_succ, List.setIfInBounds_toArray, List.set_cons_zero, List.set_cons_succ]
            refine wpAnyH_take (i := 5) (v := undef) rfl (by kernel_rfl) (by kernel_rfl) (by kernel_rfl) (fun _ _ _ h => h) (Or.inr ⟨by rfl, rfl⟩) HS.out ?_
            simp only [Act.put, List.getElem_toArray, List.getElem_cons_zero, List.getElem_cons_succ, List.setIfInBounds_toArray, List.set_cons_zero, List.set_cons_succ]
            refine wpAnyH_take (i := 6) (v := undef) rfl (by kernel_rfl) (by kernel_rfl) (by kernel_rfl) (fun _ _ _ h => h) (Or.inr ⟨by rfl, rfl⟩) HS.out ?_
            simp only [Act.put, List.getElem_toArray, List.getElem_cons_zero, List.getElem_cons_succ, List.setIfInBounds_toArray, List.set_cons_zero, List.set_cons_succ]
            refine wpAnyH_take (i := 7) (v := undef) rfl (by kernel_rfl) (by kernel_rfl) (by kernel_rfl) (fun _ _ _ h => h) (Or.inr ⟨by rfl, rfl⟩) HS.out ?_
            simp only [Act.put, List.getElem_toArray, List.getElem_cons_zero, List.getElem_cons_succ, List.setIfInBounds_toArray, List.set_cons_zero, List.set_cons_succ]
            refine wpAnyH_take (i := 8) (v := undef) rfl (by kernel_rfl) (by kernel_rfl) (by kernel_rfl) (fun _ _ _ h => h) (Or.inr ⟨by rfl, rfl⟩) HS.out ?_
            simp only [Act.put, List.getElem_toArray, List.getElem_cons_zero, List.getElem_cons_succ, List.setIfInBounds_toArray, List.set_cons_zero, List.set_cons_succ]
            refine wpAnyH_take (i := 9) (v := undef) rfl (by kernel_rfl) (by kernel_rfl) (by kernel_rfl) (fun _ _ _ h => h) (Or.inr ⟨by rfl, rfl⟩) HS.out ?_
            simp only [Act.put, List.getElem_toArray, List.getElem_cons_zero, List.getElem_cons_succ, List.setIfInBounds_toArray, List.set_cons_zero, List.set_cons_succ]
            refine wpAnyH_take (i := 10) (v := undef) rfl (by kernel_rfl) (by kernel_rfl) (by kernel_rfl) (fun _ _ _ h => h) (Or.inr ⟨by rfl, rfl⟩) HS.out ?_
            simp only [Act.put, List.getElem_toArray, List.getElem_cons_zero, List.getElem_cons_succ, List.setIfInBounds_toArray, List.set_cons_zero, List.set_cons_succ]
            refine wpAnyH_take (i := 11) (v := undef) rfl (by kernel_rfl) (by kernel_rfl) (by kernel_rfl) (fun _ _ _ h => h) (Or.inr ⟨by rfl, rfl⟩) HS.out ?_
            simp only [Act.put, List.getElem_toArray, List.getElem_cons_zero, List.getElem_cons_succ, List.setIfInBounds_toArray, List.set_cons_zero, List.set_cons_succ]
            refine wpAnyH_take (i := 12) (v := ?_) rfl (by kernel_rfl) (by kernel_rfl) (by kernel_rfl) (fun _ _ _ h => h) (Or.inl ⟨by rfl, ?q12⟩) HS.out ?_
            case q12 => intro w hSw; have q0 := (hSw.cell (p := ⟨wr.heap.size, 0, none⟩) HLT.out).trans n1; have q1 := (hSw.cell (p := ⟨wr.heap.size, 1, none⟩) HLT.out).trans n2; go_simp; rfl
            simp only [Act.put, List.getElem_toArray, List.getElem_cons_zero, List.getElem_cons_succ, List.setIfInBounds_toArray, List.set_cons_zero, List.set_cons_succ]
            refine wpAnyH_take (i := 13) (v := ?_) rfl (by kernel_rfl) (by kernel_rfl) (by kernel_rfl) (fun _ _ _ h => h) (Or.inl ⟨by rfl, ?q13⟩) HS.out ?_
            case q13 => intro w hSw; have q0 := (hSw.cell (p := ⟨wr.heap.size, 0, none⟩) HLT.out).trans n1; have q1 := (hSw.cell (p := ⟨wr.heap.size, 1, none⟩) HLT.out).trans n2; go_simp; rfl
            simp only [Act.put, List.getElem_toArray, List.getElem_cons_zero, List.getElem_cons_succ, List.setIfInBounds_toArray, List.set_cons_zero, List.set_cons_succ]
            refine wpAnyH_take (i := 14) (v := ?_) rfl (by kernel_rfl) (by kernel_rfl) (by kernel_rfl) (fun _ _ _ h => h) (Or.inl ⟨by rfl, ?q14⟩) HS.out ?_
            case q14 => intro w hSw; have q0 := (hSw.cell (p := ⟨wr.heap.size, 0, none⟩) HLT.out).trans n1; have q1 := (hSw.cell (p := ⟨wr.heap.size, 1, none⟩) HLT.out).trans n2; go_simp; rfl
            simp only [Act.put, List.getElem_toArray, List.getElem_cons_zero, List.getElem_cons_succ, List.setIfInBounds_toArray, List.set_cons_zero, List.set_cons_succ]
            refine wpAnyH_take (i := 15) (v := ?_) rfl (by kernel_rfl) (by kernel_rfl) (by kernel_rfl) (fun _ _ _ h => h) (Or.inl ⟨by rfl, ?q15⟩) HS.out ?_
            case q15 => intro w hSw; have q0 := (hSw.cell (p := ⟨wr.heap.size, 0, none⟩) HLT.out).trans n1; have q1 := (hSw.cell (p := ⟨wr.heap.size, 1, none⟩) HLT.out).trans n2; go_simp; rfl
            simp only [Act.put, List.getElem_toArray, List.getElem_cons_zero, List.getElem_cons_succ, List.setIfInBounds_toArray, List.set_cons_zero, List.set_cons_succ]
            refine wpAnyH_ready (rs := [16]) (by kernel_rfl) (by simp) ?_
            refine AllReadyH.cons rfl (fun K hK => ?_) AllReadyH.nil
            replace hK := hid hK
            go_simp
            refine (CT.out _ y).mono ?_
            rintro e w2 ⟨rfl, hw2⟩
            rw [hw2]
            clear hw2
            rw [HTK.out]
            refine hK.out _ _ HS.out (fun _ => ?_)
            clear hK K
            refine wpAnyH_take (i := 17) (v := ?_) rfl (by kernel_rfl) (by kernel_rfl) (by kernel_rfl) (fun _ _ _ h => h) (Or.inl ⟨by rfl, ?q17⟩) HS.out ?_
            case q17 => intro w hSw; have q0 := (hSw.cell (p := ⟨wr.heap.size, 0, none⟩) HLT.out).trans n1; have q1 := (hSw.cell (p := ⟨wr.heap.size, 1, none⟩) HLT.out).trans n2; go_simp; rfl
            simp only [Act.put, List.getElem_toArray, List.getElem_cons_zero, List.getElem_cons_succ, List.setIfInBounds_toArray, List.set_cons_zero, List.set_cons_succ]
            refine wpAnyH_take (i := 18) (v := ?_) rfl (by kernel_rfl) (by kernel_rfl) (by kernel_rfl) (fun _ _ _ h => h) (Or.inl ⟨by rfl, ?q18⟩) HS.out ?_
            case q18 => intro w hSw; have q0 := (hSw.cell (p := ⟨wr.heap.size, 0, none⟩) HLT.out).trans n1; have q1 := (hSw.cell (p := ⟨wr.heap.size, 1, none⟩) HLT.out).trans n2; go_simp; rfl
            simp only [Act.put, List.getElem_toArray, List.getElem_cons_zero, List.getElem_cons_succ, List.setIfInBounds_toArray, List.set_cons_zero, List.set_cons_succ]
            refine wpAnyH_take (i := 19) (v := ?_) rfl (by kernel_rfl) (by kernel_rfl) (by kernel_rfl) (fun _ _ _ h => h) (Or.inl ⟨by rfl, ?q19⟩) HS.out ?_
            case q19 => intro w hSw; have q0 := (hSw.cell (p := ⟨wr.heap.size, 0, none⟩) HLT.out).trans n1; have q1 := (hSw.cell (p := ⟨wr.heap.size, 1, none⟩) HLT.out).trans n2; go_simp; rfl
            simp only [Act.put, List.getElem_toArray, List.getElem_cons_zero, List.getElem_cons_succ, List.setIfInBounds_toArray, List.set_cons_zero, List.set_cons_succ]
            refine wpAnyH_take (i := 20) (v := .agg #[.int .u32 x, .int .i64 y]) rfl (by kernel_rfl) (by kernel_rfl) (by kernel_rfl) (fun _ _ _ h => h) (Or.inl ⟨by rfl, ?q20⟩) HS.out ?_
            case q20 => intro w hSw; have q0 := (hSw.cell (p := ⟨wr.heap.size, 0, none⟩) HLT.out).trans n1; have q1 := (hSw.cell (p := ⟨wr.heap.size, 1, none⟩) HLT.out).trans n2; go_simp
            simp only [Act.put, List.getElem_toArray, List.getElem_cons_zero, List.getElem_cons_succ, List.setIfInBounds_toArray, List.set_cons_zero, List.set_cons_succ]
            refine wpAnyH_take (i := 21) (v := ?_) rfl (by kernel_rfl) (by kernel_rfl) (by kernel_rfl) (fun _ _ _ h => h) (Or.inl ⟨by rfl, ?q21⟩) HS.out ?_
            case q21 => intro w hSw; have q0 := (hSw.cell (p := ⟨wr.heap.size, 0, none⟩) HLT.out).trans n1; have q1 := (hSw.cell (p := ⟨wr.heap.size, 1, none⟩) HLT.out).trans n2; go_simp; rfl
            simp only [Act.put, List.getElem_toArray, List.getElem_cons_zero, List.getElem_cons_succ, List.setIfInBounds_toArray, List.set_cons_zero, List.set_cons_succ]
            refine wpAnyH_ready (rs := [22]) (by kernel_rfl) (by simp) ?_
            refine AllReadyH.cons rfl (fun K hK => ?_) AllReadyH.nil
            replace hK := hid hK
            go_simp
            refine (CR1.out _).mono ?_
            rintro e w2 ⟨rfl, hb2⟩
            have B2 := hid (HS.out.trans (hb2.mono HS.out.size))
            clear hb2
            refine hK.out _ _ B2.out (fun _ => ?_)
            clear hK K HS
            have HS := B2
            refine wpAnyH_take (i := 23) (v := ?_) rfl (by kernel_rfl) (by kernel_rfl) (by kernel_rfl) (fun _ _ _ h => h) (Or.inl ⟨by rfl, ?q23⟩) HS.out ?_
            case q23 => intro w hSw; have q0 := (hSw.cell (p := ⟨wr.heap.size, 0, none⟩) HLT.out).trans n1; have q1 := (hSw.cell (p := ⟨wr.heap.size, 1, none⟩) HLT.out).trans n2; go_simp; rfl
            simp only [Act.put, List.getElem_toArray, List.getElem_cons_zero, List.getElem_cons_succ, List.setIfInBounds_toArray, List.set_cons_zero, List.set_cons_succ]
            refine wpAnyH_take (i := 24) (v := ?_) rfl (by kernel_rfl) (by kernel_rfl) (by kernel_rfl) (fun _ _ _ h => h) (Or.inl ⟨by rfl, ?q24⟩) HS.out ?_
            case q24 => intro w hSw; have q0 := (hSw.cell (p := ⟨wr.heap.size, 0, none⟩) HLT.out).trans n1; have q1 := (hSw.cell (p := ⟨wr.heap.size, 1, none⟩) HLT.out).trans n2; go_simp; rfl
            simp only [Act.put, List.getElem_toArray, List.getElem_cons_zero, List.getElem_cons_succ, List.setIfInBounds_toArray, List.set_cons_zero, List.set_cons_succ]
            refine wpAnyH_done (by kernel_rfl) ?_ _
            have B3 := hid (B0.out.trans (HS.out.mono B0.out.size))
            cases ty with
            | true =>
              have HJ : Hid (MlJ t ls k) := hid (fun hj => ⟨fun h0 => absurd HK0.out (by omega), by rw [hy.out]; exact tk_iff HTK.out, by rw [hy.out]; exact of_decide_eq_true HTY.out⟩)
              go_wp2
              refine ⟨⟨k + 1, by omega, by go_num, fun i hi => ?_, B3.out⟩, by simp [intOf]; omega⟩
              by_cases e : i = k
              · rw [e]; exact HJ.out
              · exact HM.out i (by omega)
            | false =>
              go_wp2
              go_ret
              exact ⟨false, rfl, ⟨fun q => (by cases q), fun q => absurd ((q.2.2 k hlt).2.2) (by rw [hy.out]; exact of_decide_eq_false HTY.out)⟩, B3.out⟩
          | false =>
            have HTK := hid hTK
            clear hTK
            go_wp2_with fail
            rw [HW1.out]
            refine wp_region_held_drew (S := Below W1.heap.size W1) (by kernel_rfl) bd (fun hHeld => ?_)
            have HS := hid hHeld
            clear hHeld
            change wpAnyH _ _ _ _ _ _ _ _ (World.drew _)
            refine wpAnyH_take (i := 0) (v := ?_) rfl (by kernel_rfl) (by kernel_rfl) (by kernel_rfl) (fun _ _ _ h => h) (Or.inl ⟨by rfl, ?q0⟩) HS.out ?_
            case q0 => intro w hSw; have q0 := (hSw.cell (p := ⟨wr.heap.size, 0, none⟩) HLT.out).trans n1; have q1 := (hSw.cell (p := ⟨wr.heap.size, 1, none⟩) HLT.out).trans n2; go_simp; rfl
            simp only [Act.put, List.getElem_toArray, List.getElem_cons_zero, List.getElem_cons_succ, List.setIfInBounds_toArray, List.set_cons_zero, List.set_cons_succ]
            refine wpAnyH_take (i := 1) (v := ?_) rfl (by kernel_rfl) (by kernel_rfl) (by kernel_rfl) (fun _ _ _ h => h) (Or.inl ⟨by rfl, ?q1⟩) HS.out ?_
            case q1 => intro w hSw; have q0 := (hSw.cell (p := ⟨wr.heap.size, 0, none⟩) HLT.out).trans n1; have q1 := (hSw.cell (p := ⟨wr.heap.size, 1, none⟩) HLT.out).trans n2; go_simp; rfl
            simp only [Act.put, List.getElem_toArray, List.getElem_cons_zero, List.getElem_cons_succ, List.setIfInBounds_toArray, List.set_cons_zero, List.set_cons_succ]
            refine wpAnyH_take (i := 2) (v := ?_) rfl (by kernel_rfl) (by kernel_rfl) (by kernel_rfl) (fun _ _ _ h => h) (Or.inl ⟨by rfl, ?q2⟩) HS.out ?_
            case q2 => intro w hSw; have q0 := (hSw.cell (p := ⟨wr.heap.size, 0, none⟩) HLT.out).trans n1; have q1 := (hSw.cell (p := ⟨wr.heap.size, 1, none⟩) HLT.out).trans n2; go_simp; rfl
            simp only [Act.put, List.getElem_toArray, List.getElem_cons_zero, List.getElem_cons_succ, List.setIfInBounds_toArray, List.set_cons_zero, List.set_cons_succ]
            refine wpAnyH_take (i := 3) (v := undef) rfl (by kernel_rfl) (by kernel_rfl) (by kernel_rfl) (fun _ _ _ h => h) (Or.inr ⟨by rfl, rfl⟩) HS.out ?_
            simp only [Act.put, List.getElem_toArray, List.getElem_cons_zero, List.getElem_cons_succ, List.setIfInBounds_toArray, List.set_cons_zero, List.set_cons_succ]
            refine wpAnyH_take (i := 4) (v := undef) rfl (by kernel_rfl) (by kernel_rfl) (by kernel_rfl) (fun _ _ _ h => h) (Or.inr ⟨by rfl, rfl⟩) HS.out ?_
            simp only [Act.put, List.getElem_toArray, List.getElem_cons_zero, List.getElem_cons_succ, List.setIfInBounds_toArray, List.set_cons_zero, List.set_cons_succ]
            refine wpAnyH_take (i := 5) (v := undef) rfl (by kernel_rfl) (by kernel_rfl) (by kernel_rfl) (fun _ _ _ h => h) (Or.inr ⟨by rfl, rfl⟩) HS.out ?_
            simp only [Act.put, List.getElem_toArray, List.getElem_cons_zero, List.getElem_cons_succ, List.setIfInBounds_toArray, List.set_cons_zero, List.set_cons_succ]
            refine wpAnyH_take (i := 6) (v := undef) rfl (by kernel_rfl) (by kernel_rfl) (by kernel_rfl) (fun _ _ _ h => h) (Or.inr ⟨by rfl, rfl⟩) HS.out ?_
            simp only [Act.put, List.getElem_toArray, List.getElem_cons_zero, List.getElem_cons_succ, List.setIfInBounds_toArray, List.set_cons_zero, List.set_cons_succ]
            refine wpAnyH_take (i := 7) (v := undef) rfl (by kernel_rfl) (by kernel_rfl) (by kernel_rfl) (fun _ _ _ h => h) (Or.inr ⟨by rfl, rfl⟩) HS.out ?_
            simp only [Act.put, List.getElem_toArray, List.getElem_cons_zero, List.getElem_cons_succ, List.setIfInBounds_toArray, List.set_cons_zero, List.set_cons_succ]
            refine wpAnyH_take (i := 8) (v := undef) rfl (by kernel_rfl) (by kernel_rfl) (by kernel_rfl) (fun _ _ _ h => h) (Or.inr ⟨by rfl, rfl⟩) HS.out ?_
            simp only [Act.put, List.getElem_toArray, List.getElem_cons_zero, List.getElem_cons_succ, List.setIfInBounds_toArray, List.set_cons_zero, List.set_cons_succ]
            refine wpAnyH_take (i := 9) (v := undef) rfl (by kernel_rfl) (by kernel_rfl) (by kernel_rfl) (fun _ _ _ h => h) (Or.inr ⟨by rfl, rfl⟩) HS.out ?_
            simp only [Act.put, List.getElem_toArray, List.getElem_cons_zero, List.getElem_cons_succ, List.setIfInBounds_toArray, List.set_cons_zero, List.set_cons_succ]
            refine wpAnyH_take (i := 10) (v := undef) rfl (by kernel_rfl) (by kernel_rfl) (by kernel_rfl) (fun _ _ _ h => h) (Or.inr ⟨by rfl, rfl⟩) HS.out ?_
            simp only [Act.put, List.getElem_toArray, List.getElem_cons_zero, List.getElem_cons_succ, List.setIfInBounds_toArray, List.set_cons_zero, List.set_cons_succ]
            refine wpAnyH_take (i := 11) (v := undef) rfl (by kernel_rfl) (by kernel_rfl) (by kernel_rfl) (fun _ _ _ h => h) (Or.inr ⟨by rfl, rfl⟩) HS.out ?_
            simp only [Act.put, List.getElem_toArray, List.getElem_cons_zero, List.getElem_cons_succ, List.setIfInBounds_toArray, List.set_cons_zero, List.set_cons_succ]
            refine wpAnyH_take (i := 12) (v := ?_) rfl (by kernel_rfl) (by kernel_rfl) (by kernel_rfl) (fun _ _ _ h => h) (Or.inl ⟨by rfl, ?q12⟩) HS.out ?_
            case q12 => intro w hSw; have q0 := (hSw.cell (p := ⟨wr.heap.size, 0, none⟩) HLT.out).trans n1; have q1 := (hSw.cell (p := ⟨wr.heap.size, 1, none⟩) HLT.out).trans n2; go_simp; rfl
            simp only [Act.put, List.getElem_toArray, List.getElem_cons_zero, List.getElem_cons_succ, List.setIfInBounds_toArray, List.set_cons_zero, List.set_cons_succ]
            refine wpAnyH_take (i := 13) (v := ?_) rfl (by kernel_rfl) (by kernel_rfl) (by kernel_rfl) (fun _ _ _ h => h) (Or.inl ⟨by rfl, ?q13⟩) HS.out ?_
            case q13 => intro w hSw; have q0 := (hSw.cell (p := ⟨wr.heap.size, 0, none⟩) HLT.out).trans n1; have q1 := (hSw.cell (p := ⟨wr.heap.size, 1, none⟩) HLT.out).trans n2; go_simp; rfl
            simp only [Act.put, List.getElem_toArray, List.getElem_cons_zero, List.getElem_cons_succ, List.setIfInBounds_toArray, List.set_cons_zero, List.set_cons_succ]
            refine wpAnyH_take (i := 14) (v := ?_) rfl (by kernel_rfl) (by kernel_rfl) (by kernel_rfl) (fun _ _ _ h => h) (Or.inl ⟨by rfl, ?q14⟩) HS.out ?_
            case q14 => intro w hSw; have q0 := (hSw.cell (p := ⟨wr.heap.size, 0, none⟩) HLT.out).trans n1; have q1 := (hSw.cell (p := ⟨wr.heap.size, 1, none⟩) HLT.out).trans n2; go_simp; rfl
            simp only [Act.put, List.getElem_toArray, List.getElem_cons_zero, List.getElem_cons_succ, List.setIfInBounds_toArray, List.set_cons_zero, List.set_cons_succ]
            refine wpAnyH_take (i := 15) (v := ?_) rfl (by kernel_rfl) (by kernel_rfl) (by kernel_rfl) (fun _ _ _ h => h) (Or.inl ⟨by rfl, ?q15⟩) HS.out ?_
            case q15 => intro w hSw; have q0 := (hSw.cell (p := ⟨wr.heap.size, 0, none⟩) HLT.out).trans n1; have q1 := (hSw.cell (p := ⟨wr.heap.size, 1, none⟩) HLT.out).trans n2; go_simp; rfl
            simp only [Act.put, List.getElem_toArray, List.getElem_cons_zero, List.getElem_cons_succ, List.setIfInBounds_toArray, List.set_cons_zero, List.set_cons_succ]
            refine wpAnyH_ready (rs := [16]) (by kernel_rfl) (by simp) ?_
            refine AllReadyH.cons rfl (fun K hK => ?_) AllReadyH.nil
            replace hK := hid hK
            go_simp
            refine (CT.out _ y).mono ?_
            rintro e w2 ⟨rfl, hw2⟩
            rw [hw2]
            clear hw2
            rw [HTK.out]
            refine hK.out _ _ HS.out (fun _ => ?_)
            clear hK K
            refine wpAnyH_take (i := 17) (v := ?_) rfl (by kernel_rfl) (by kernel_rfl) (by kernel_rfl) (fun _ _ _ h => h) (Or.inl ⟨by rfl, ?q17⟩) HS.out ?_
            case q17 => intro w hSw; have q0 := (hSw.cell (p := ⟨wr.heap.size, 0, none⟩) HLT.out).trans n1; have q1 := (hSw.cell (p := ⟨wr.heap.size, 1, none⟩) HLT.out).trans n2; go_simp; rfl
            simp only [Act.put, List.getElem_toArray, List.getElem_cons_zero, List.getElem_cons_succ, List.setIfInBounds_toArray, List.set_cons_zero, List.set_cons_succ]
            refine wpAnyH_take (i := 18) (v := ?_) rfl (by kernel_rfl) (by kernel_rfl) (by kernel_rfl) (fun _ _ _ h => h) (Or.inl ⟨by rfl, ?q18⟩) HS.out ?_
            case q18 => intro w hSw; have q0 := (hSw.cell (p := ⟨wr.heap.size, 0, none⟩) HLT.out).trans n1; have q1 := (hSw.cell (p := ⟨wr.heap.size, 1, none⟩) HLT.out).trans n2; go_simp; rfl
            simp only [Act.put, List.getElem_toArray, List.getElem_cons_zero, List.getElem_cons_succ, List.setIfInBounds_toArray, List.set_cons_zero, List.set_cons_succ]
            refine wpAnyH_take (i := 19) (v := ?_) rfl (by kernel_rfl) (by kernel_rfl) (by kernel_rfl) (fun _ _ _ h => h) (Or.inl ⟨by rfl, ?q19⟩) HS.out ?_
            case q19 => intro w hSw; have q0 := (hSw.cell (p := ⟨wr.heap.size, 0, none⟩) HLT.out).trans n1; have q1 := (hSw.cell (p := ⟨wr.heap.size, 1, none⟩) HLT.out).trans n2; go_simp; rfl
            simp only [Act.put, List.getElem_toArray, List.getElem_cons_zero, List.getElem_cons_succ, List.setIfInBounds_toArray, List.set_cons_zero, List.set_cons_succ]
            refine wpAnyH_take (i := 20) (v := undef) rfl (by kernel_rfl) (by kernel_rfl) (by kernel_rfl) (fun _ _ _ h => h) (Or.inr ⟨by rfl, rfl⟩) HS.out ?_
            simp only [Act.put, List.getElem_toArray, List.getElem_cons_zero, List.getElem_cons_succ, List.setIfInBounds_toArray, List.set_cons_zero, List.set_cons_succ]
            refine wpAnyH_take (i := 21) (v := undef) rfl (by kernel_rfl) (by kernel_rfl) (by kernel_rfl) (fun _ _ _ h => h) (Or.inr ⟨by rfl, rfl⟩) HS.out ?_
            simp only [Act.put, List.getElem_toArray, List.getElem_cons_zero, List.getElem_cons_succ, List.setIfInBounds_toArray, List.set_cons_zero, List.set_cons_succ]
            refine wpAnyH_take (i := 22) (v := undef) rfl (by kernel_rfl) (by kernel_rfl) (by kernel_rfl) (fun _ _ _ h => h) (Or.inr ⟨by rfl, rfl⟩) HS.out ?_
            simp only [Act.put, List.getElem_toArray, List.getElem_cons_zero, List.getElem_cons_succ, List.setIfInBounds_toArray, List.set_cons_zero, List.set_cons_succ]
            refine wpAnyH_take (i := 23) (v := undef) rfl (by kernel_rfl) (by kernel_rfl) (by kernel_rfl) (fun _ _ _ h => h) (Or.inr ⟨by rfl, rfl⟩) HS.out ?_
            simp only [Act.put, List.getElem_toArray, List.getElem_cons_zero, List.getElem_cons_succ, List.setIfInBounds_toArray, List.set_cons_zero, List.set_cons_succ]
            refine wpAnyH_take (i := 24) (v := ?_) rfl (by kernel_rfl) (by kernel_rfl) (by kernel_rfl) (fun _ _ _ h => h) (Or.inl ⟨by rfl, ?q24⟩) HS.out ?_
            case q24 => intro w hSw; have q0 := (hSw.cell (p := ⟨wr.heap.size, 0, none⟩) HLT.out).trans n1; have q1 := (hSw.cell (p := ⟨wr.heap.size, 1, none⟩) HLT.out).trans n2; go_simp; rfl
            simp only [Act.put, List.getElem_toArray, List.getElem_cons_zero, List.getElem_cons_succ, List.setIfInBounds_toArray, List.set_cons_zero, List.set_cons_succ]
            refine wpAnyH_done (by kernel_rfl) ?_ _
            have B3 := hid (B0.out.trans (HS.out.mono B0.out.size))
            go_wp2
            go_ret
            exact ⟨false, rfl, ⟨fun q => (by cases q), fun q => absurd ((q.2.2 k hlt).2.1) (by rw [hy.out]; exact tk_not HTK.out)⟩, B3.out⟩
        · obtain ⟨j, rfl⟩ : ∃ j, k = j + 1 := ⟨k - 1, by omega⟩
          have hj1 : j < ls.length := by omega
          obtain ⟨p1, _⟩ := HC.out j hj1
          have hpl := World.block_lt_of_cell? w _ p1
          simp only at hpl
          have p1 := (B0.out.cell (p := ⟨b, off + j * 2, none⟩) hpl).trans p1
          have HPL : Hid (b < W1.heap.size) := hid (Nat.lt_of_lt_of_le hpl B0.out.size)
          obtain ⟨z, hz⟩ : ∃ z, Hid (ls[j].who = z) := ⟨_, hid rfl⟩
          rw [hz.out] at p1
          have hgd : ls.getD (j + 1 - 1) default = ls[j] := by simp [List.getD, List.getElem?_eq_getElem hj1]
          have HGD := hid hgd
          have hj1' : (j : Int) < (ls.length : Int) := by omega
          have hwj : IntKind.i64.wrap (j : Int) = (j : Int) := by simp [IntKind.wrap, IntKind.bits, IntKind.signed]; omega
          clear hgd hk0
          by_cases hwho : x ≤ z
          · have d5 : decide (x ≤ z) = true := decide_eq_true hwho
            have HWH : Hid (¬ (ls.getD (j + 1 - 1) default).who < x) := hid (by rw [HGD.out, hz.out]; omega)
            clear hwho
            go_wp2_with fail
            rw [HW1.out]
            refine wp_region_held_drew (S := Below W1.heap.size W1) (by kernel_rfl) bd (fun hHeld => ?_)
            have HS := hid hHeld
            clear hHeld
            change wpAnyH _ _ _ _ _ _ _ _ (World.drew _)
            refine wpAnyH_take (i := 0) (v := ?_) rfl (by kernel_rfl) (by kernel_rfl) (by kernel_rfl) (fun _ _ _ h => h) (Or.inl ⟨by rfl, ?q0⟩) HS.out ?_
            case q0 => intro w hSw; have q0 := (hSw.cell (p := ⟨wr.heap.size, 0, none⟩) HLT.out).trans n1; have q1 := (hSw.cell (p := ⟨wr.heap.size, 1, none⟩) HLT.out).trans n2; have qp := (hSw.cell (p := ⟨b, off + j * 2, none⟩) HPL.out).trans p1; go_simp; rfl
            simp only [Act.put, List.getElem_toArray, List.getElem_cons_zero, List.getElem_cons_succ, List.setIfInBounds_toArray, List.set_cons_zero, List.set_cons_succ]
            refine wpAnyH_take (i := 1) (v := ?_) rfl (by kernel_rfl) (by kernel_rfl) (by kernel_rfl) (fun _ _ _ h => h) (Or.inl ⟨by rfl, ?q1⟩) HS.out ?_
            case q1 => intro w hSw; have q0 := (hSw.cell (p := ⟨wr.heap.size, 0, none⟩) HLT.out).trans n1; have q1 := (hSw.cell (p := ⟨wr.heap.size, 1, none⟩) HLT.out).trans n2; have qp := (hSw.cell (p := ⟨b, off + j * 2, none⟩) HPL.out).trans p1; go_simp; rfl
            simp only [Act.put, List.getElem_toArray, List.getElem_cons_zero, List.getElem_cons_succ, List.setIfInBounds_toArray, List.set_cons_zero, List.set_cons_succ]
            refine wpAnyH_take (i := 2) (v := ?_) rfl (by kernel_rfl) (by kernel_rfl) (by kernel_rfl) (fun _ _ _ h => h) (Or.inl ⟨by rfl, ?q2⟩) HS.out ?_
            case q2 => intro w hSw; have q0 := (hSw.cell (p := ⟨wr.heap.size, 0, none⟩) HLT.out).trans n1; have q1 := (hSw.cell (p := ⟨wr.heap.size, 1, none⟩) HLT.out).trans n2; have qp := (hSw.cell (p := ⟨b, off + j * 2, none⟩) HPL.out).trans p1; go_simp; rfl
            simp only [Act.put, List.getElem_toArray, List.getElem_cons_zero, List.getElem_cons_succ, List.setIfInBounds_toArray, List.set_cons_zero, List.set_cons_succ]
            refine wpAnyH_take (i := 3) (v := ?_) rfl (by kernel_rfl) (by kernel_rfl) (by kernel_rfl) (fun _ _ _ h => h) (Or.inl ⟨by rfl, ?q3⟩) HS.out ?_
            case q3 => intro w hSw; have q0 := (hSw.cell (p := ⟨wr.heap.size, 0, none⟩) HLT.out).trans n1; have q1 := (hSw.cell (p := ⟨wr.heap.size, 1, none⟩) HLT.out).trans n2; have qp := (hSw.cell (p := ⟨b, off + j * 2, none⟩) HPL.out).trans p1; go_simp; rfl
            simp only [Act.put, List.getElem_toArray, List.getElem_cons_zero, List.getElem_cons_succ, List.setIfInBounds_toArray, List.set_cons_zero, List.set_cons_succ]
            refine wpAnyH_take (i := 4) (v := ?_) rfl (by kernel_rfl) (by kernel_rfl) (by kernel_rfl) (fun _ _ _ h => h) (Or.inl ⟨by rfl, ?q4⟩) HS.out ?_
            case q4 => intro w hSw; have q0 := (hSw.cell (p := ⟨wr.heap.size, 0, none⟩) HLT.out).trans n1; have q1 := (hSw.cell (p := ⟨wr.heap.size, 1, none⟩) HLT.out).trans n2; have qp := (hSw.cell (p := ⟨b, off + j * 2, none⟩) HPL.out).trans p1; go_simp; rfl
            simp only [Act.put, List.getElem_toArray, List.getElem_cons_zero, List.getElem_cons_succ, List.setIfInBounds_toArray, List.set_cons_zero, List.set_cons_succ]
            refine wpAnyH_take (i := 5) (v := ?_) rfl (by kernel_rfl) (by kernel_rfl) (by kernel_rfl) (fun _ _ _ h => h) (Or.inl ⟨by rfl, ?q5⟩) HS.out ?_
            case q5 => intro w hSw; have q0 := (hSw.cell (p := ⟨wr.heap.size, 0, none⟩) HLT.out).trans n1; have q1 := (hSw.cell (p := ⟨wr.heap.size, 1, none⟩) HLT.out).trans n2; have qp := (hSw.cell (p := ⟨b, off + j * 2, none⟩) HPL.out).trans p1; go_simp; rfl
            simp only [Act.put, List.getElem_toArray, List.getElem_cons_zero, List.getElem_cons_succ, List.setIfInBounds_toArray, List.set_cons_zero, List.set_cons_succ]
            refine wpAnyH_take (i := 6) (v := ?_) rfl (by kernel_rfl) (by kernel_rfl) (by kernel_rfl) (fun _ _ _ h => h) (Or.inl ⟨by rfl, ?q6⟩) HS.out ?_
            case q6 => intro w hSw; have q0 := (hSw.cell (p := ⟨wr.heap.size, 0, none⟩) HLT.out).trans n1; have q1 := (hSw.cell (p := ⟨wr.heap.size, 1, none⟩) HLT.out).trans n2; have qp := (hSw.cell (p := ⟨b, off + j * 2, none⟩) HPL.out).trans p1; go_simp; rfl
            simp only [Act.put, List.getElem_toArray, List.getElem_cons_zero, List.getElem_cons_succ, List.setIfInBounds_toArray, List.set_cons_zero, List.set_cons_succ]
            refine wpAnyH_take (i := 7) (v := ?_) rfl (by kernel_rfl) (by kernel_rfl) (by kernel_rfl) (fun _ _ _ h => h) (Or.inl ⟨by rfl, ?q7⟩) HS.out ?_
            case q7 => intro w hSw; have q0 := (hSw.cell (p := ⟨wr.heap.size, 0, none⟩) HLT.out).trans n1; have q1 := (hSw.cell (p := ⟨wr.heap.size, 1, none⟩) HLT.out).trans n2; have qp := (hSw.cell (p := ⟨b, off + j * 2, none⟩) HPL.out).trans p1; go_simp; rfl
            simp only [Act.put, List.getElem_toArray, List.getElem_cons_zero, List.getElem_cons_succ, List.setIfInBounds_toArray, List.set_cons_zero, List.set_cons_succ]
            refine wpAnyH_take (i := 8) (v := ?_) rfl (by kernel_rfl) (by kernel_rfl) (by kernel_rfl) (fun _ _ _ h => h) (Or.inl ⟨by rfl, ?q8⟩) HS.out ?_
            case q8 => intro w hSw; have q0 := (hSw.cell (p := ⟨wr.heap.size, 0, none⟩) HLT.out).trans n1; have q1 := (hSw.cell (p := ⟨wr.heap.size, 1, none⟩) HLT.out).trans n2; have qp := (hSw.cell (p := ⟨b, off + j * 2, none⟩) HPL.out).trans p1; go_simp; rfl
            simp only [Act.put, List.getElem_toArray, List.getElem_cons_zero, List.getElem_cons_succ, List.setIfInBounds_toArray, List.set_cons_zero, List.set_cons_succ]
            refine wpAnyH_take (i := 9) (v := ?_) rfl (by kernel_rfl) (by kernel_rfl) (by kernel_rfl) (fun _ _ _ h => h) (Or.inl ⟨by rfl, ?q9⟩) HS.out ?_
            case q9 => intro w hSw; have q0 := (hSw.cell (p := ⟨wr.heap.size, 0, none⟩) HLT.out).trans n1; have q1 := (hSw.cell (p := ⟨wr.heap.size, 1, none⟩) HLT.out).trans n2; have qp := (hSw.cell (p := ⟨b, off + j * 2, none⟩) HPL.out).trans p1; go_simp; rfl
            simp only [Act.put, List.getElem_toArray, List.getElem_cons_zero, List.getElem_cons_succ, List.setIfInBounds_toArray, List.set_cons_zero, List.set_cons_succ]
            refine wpAnyH_take (i := 10) (v := ?_) rfl (by kernel_rfl) (by kernel_rfl) (by kernel_rfl) (fun _ _ _ h => h) (Or.inl ⟨by rfl, ?q10⟩) HS.out ?_
            case q10 => intro w hSw; have q0 := (hSw.cell (p := ⟨wr.heap.size, 0, none⟩) HLT.out).trans n1; have q1 := (hSw.cell (p := ⟨wr.heap.size, 1, none⟩) HLT.out).trans n2; have qp := (hSw.cell (p := ⟨b, off + j * 2, none⟩) HPL.out).trans p1; go_simp; rfl
            simp only [Act.put, List.getElem_toArray, List.getElem_cons_zero, List.getElem_cons_succ, List.setIfInBounds_toArray, List.set_cons_zero, List.set_cons_succ]
            refine wpAnyH_take (i := 11) (v := ?_) rfl (by kernel_rfl) (by kernel_rfl) (by kernel_rfl) (fun _ _ _ h => h) (Or.inl ⟨by rfl, ?q11⟩) HS.out ?_
            case q11 => intro w hSw; have q0 := (hSw.cell (p := ⟨wr.heap.size, 0, none⟩) HLT.out).trans n1; have q1 := (hSw.cell (p := ⟨wr.heap.size, 1, none⟩) HLT.out).trans n2; have qp := (hSw.cell (p := ⟨b, off + j * 2, none⟩) HPL.out).trans p1; go_simp; rfl
            simp only [Act.put, List.getElem_toArray, List.getElem_cons_zero, List.getElem_cons_succ, List.setIfInBounds_toArray, List.set_cons_zero, List.set_cons_succ]
            refine wpAnyH_take (i := 12) (v := ?_) rfl (by kernel_rfl) (by kernel_rfl) (by kernel_rfl) (fun _ _ _ h => h) (Or.inl ⟨by rfl, ?q12⟩) HS.out ?_
            case q12 => intro w hSw; have q0 := (hSw.cell (p := ⟨wr.heap.size, 0, none⟩) HLT.out).trans n1; have q1 := (hSw.cell (p := ⟨wr.heap.size, 1, none⟩) HLT.out).trans n2; have qp := (hSw.cell (p := ⟨b, off + j * 2, none⟩) HPL.out).trans p1; go_simp; rfl
            simp only [Act.put, List.getElem_toArray, List.getElem_cons_zero, List.getElem_cons_succ, List.setIfInBounds_toArray, List.set_cons_zero, List.set_cons_succ]
            refine wpAnyH_take (i := 13) (v := ?_) rfl (by kernel_rfl) (by kernel_rfl) (by kernel_rfl) (fun _ _ _ h => h) (Or.inl ⟨by rfl, ?q13⟩) HS.out ?_
            case q13 => intro w hSw; have q0 := (hSw.cell (p := ⟨wr.heap.size, 0, none⟩) HLT.out).trans n1; have q1 := (hSw.cell (p := ⟨wr.heap.size, 1, none⟩) HLT.out).trans n2; have qp := (hSw.cell (p := ⟨b, off + j * 2, none⟩) HPL.out).trans p1; go_simp; rfl
            simp only [Act.put, List.getElem_toArray, List.getElem_cons_zero, List.getElem_cons_succ, List.setIfInBounds_toArray, List.set_cons_zero, List.set_cons_succ]
            refine wpAnyH_take (i := 14) (v := undef) rfl (by kernel_rfl) (by kernel_rfl) (by kernel_rfl) (fun _ _ _ h => h) (Or.inr ⟨by rfl, rfl⟩) HS.out ?_
            simp only [Act.put, List.getElem_toArray, List.getElem_cons_zero, List.getElem_cons_succ, List.setIfInBounds_toArray, List.set_cons_zero, List.set_cons_succ]
            refine wpAnyH_take (i := 15) (v := undef) rfl (by kernel_rfl) (by kernel_rfl) (by kernel_rfl) (fun _ _ _ h => h) (Or.inr ⟨by rfl, rfl⟩) HS.out ?_
            simp only [Act.put, List.getElem_toArray, List.getElem_cons_zero, List.getElem_cons_succ, List.setIfInBounds_toArray, List.set_cons_zero, List.set_cons_succ]
            refine wpAnyH_take (i := 16) (v := undef) rfl (by kernel_rfl) (by kernel_rfl) (by kernel_rfl) (fun _ _ _ h => h) (Or.inr ⟨by rfl, rfl⟩) HS.out ?_
            simp only [Act.put, List.getElem_toArray, List.getElem_cons_zero, List.getElem_cons_succ, List.setIfInBounds_toArray, List.set_cons_zero, List.set_cons_succ]
            refine wpAnyH_take (i := 17) (v := undef) rfl (by kernel_rfl) (by kernel_rfl) (by kernel_rfl) (fun _ _ _ h => h) (Or.inr ⟨by rfl, rfl⟩) HS.out ?_
            simp only [Act.put, List.getElem_toArray, List.getElem_cons_zero, List.getElem_cons_succ, List.setIfInBounds_toArray, List.set_cons_zero, List.set_cons_succ]
            refine wpAnyH_take (i := 18) (v := ?_) rfl (by kernel_rfl) (by kernel_rfl) (by kernel_rfl) (fun _ _ _ h => h) (Or.inl ⟨by rfl, ?q18⟩) HS.out ?_
            case q18 => intro w hSw; have q0 := (hSw.cell (p := ⟨wr.heap.size, 0, none⟩) HLT.out).trans n1; have q1 := (hSw.cell (p := ⟨wr.heap.size, 1, none⟩) HLT.out).trans n2; have qp := (hSw.cell (p := ⟨b, off + j * 2, none⟩) HPL.out).trans p1; go_simp; rfl
            simp only [Act.put, List.getElem_toArray, List.getElem_cons_zero, List.getElem_cons_succ, List.setIfInBounds_toArray, List.set_cons_zero, List.set_cons_succ]
            refine wpAnyH_take (i := 19) (v := ?_) rfl (by kernel_rfl) (by kernel_rfl) (by kernel_rfl) (fun _ _ _ h => h) (Or.inl ⟨by rfl, ?q19⟩) HS.out ?_
            case q19 => intro w hSw; have q0 := (hSw.cell (p := ⟨wr.heap.size, 0, none⟩) HLT.out).trans n1; have q1 := (hSw.cell (p := ⟨wr.heap.size, 1, none⟩) HLT.out).trans n2; have qp := (hSw.cell (p := ⟨b, off + j * 2, none⟩) HPL.out).trans p1; go_simp; rfl
            simp only [Act.put, List.getElem_toArray, List.getElem_cons_zero, List.getElem_cons_succ, List.setIfInBounds_toArray, List.set_cons_zero, List.set_cons_succ]
            refine wpAnyH_take (i := 20) (v := undef) rfl (by kernel_rfl) (by kernel_rfl) (by kernel_rfl) (fun _ _ _ h => h) (Or.inr ⟨by rfl, rfl⟩) HS.out ?_
            simp only [Act.put, List.getElem_toArray, List.getElem_cons_zero, List.getElem_cons_succ, List.setIfInBounds_toArray, List.set_cons_zero, List.set_cons_succ]
            refine wpAnyH_take (i := 21) (v := undef) rfl (by kernel_rfl) (by kernel_rfl) (by kernel_rfl) (fun _ _ _ h => h) (Or.inr ⟨by rfl, rfl⟩) HS.out ?_
            simp only [Act.put, List.getElem_toArray, List.getElem_cons_zero, List.getElem_cons_succ, List.setIfInBounds_toArray, List.set_cons_zero, List.set_cons_succ]
            refine wpAnyH_take (i := 22) (v := undef) rfl (by kernel_rfl) (by kernel_rfl) (by kernel_rfl) (fun _ _ _ h => h) (Or.inr ⟨by rfl, rfl⟩) HS.out ?_
            simp only [Act.put, List.getElem_toArray, List.getElem_cons_zero, List.getElem_cons_succ, List.setIfInBounds_toArray, List.set_cons_zero, List.set_cons_succ]
            refine wpAnyH_take (i := 23) (v := undef) rfl (by kernel_rfl) (by kernel_rfl) (by kernel_rfl) (fun _ _ _ h => h) (Or.inr ⟨by rfl, rfl⟩) HS.out ?_
            simp only [Act.put, List.getElem_toArray, List.getElem_cons_zero, List.getElem_cons_succ, List.setIfInBounds_toArray, List.set_cons_zero, List.set_cons_succ]
            refine wpAnyH_take (i := 24) (v := ?_) rfl (by kernel_rfl) (by kernel_rfl) (by kernel_rfl) (fun _ _ _ h => h) (Or.inl ⟨by rfl, ?q24⟩) HS.out ?_
            case q24 => intro w hSw; have q0 := (hSw.cell (p := ⟨wr.heap.size, 0, none⟩) HLT.out).trans n1; have q1 := (hSw.cell (p := ⟨wr.heap.size, 1, none⟩) HLT.out).trans n2; have qp := (hSw.cell (p := ⟨b, off + j * 2, none⟩) HPL.out).trans p1; go_simp; rfl
            simp only [Act.put, List.getElem_toArray, List.getElem_cons_zero, List.getElem_cons_succ, List.setIfInBounds_toArray, List.set_cons_zero, List.set_cons_succ]
            refine wpAnyH_done (by kernel_rfl) ?_ _
            have B3 := hid (B0.out.trans (HS.out.mono B0.out.size))
            go_wp2
            go_ret
            exact ⟨false, rfl, ⟨fun q => (by cases q), fun q => absurd ((q.2.2 (j + 1) hlt).1 (by omega)) (by rw [hx.out]; have := HWH.out; omega)⟩, B3.out⟩
          · have d5 : decide (x ≤ z) = false := decide_eq_false hwho
            have HWH : Hid ((ls.getD (j + 1 - 1) default).who < x) := hid (by rw [HGD.out, hz.out]; omega)
            clear hwho
            cases hTK : tkB y with
            | true =>
              have HTK := hid hTK
              clear hTK
              go_wp2_with fail
              rw [HW1.out]
              refine wp_region_held_drew (S := Below W1.heap.size W1) (by kernel_rfl) bd (fun hHeld => ?_)
              have HS := hid hHeld
              clear hHeld
              change wpAnyH _ _ _ _ _ _ _ _ (World.drew _)
              refine wpAnyH_take (i := 0) (v := ?_) rfl (by kernel_rfl) (by kernel_rfl) (by kernel_rfl) (fun _ _ _ h => h) (Or.inl ⟨by rfl, ?q0⟩) HS.out ?_
              case q0 => intro w hSw; have q0 := (hSw.cell (p := ⟨wr.heap.size, 0, none⟩) HLT.out).trans n1; have q1 := (hSw.cell (p := ⟨wr.heap.size, 1, none⟩) HLT.out).trans n2; have qp := (hSw.cell (p := ⟨b, off + j * 2, none⟩) HPL.out).trans p1; go_simp; rfl
              simp only [Act.put, List.getElem_toArray, List.getElem_cons_zero, List.getElem_cons_succ, List.setIfInBounds_toArray, List.set_cons_zero, List.set_cons_succ]
              refine wpAnyH_take (i := 1) (v := ?_) rfl (by kernel_rfl) (by kernel_rfl) (by kernel_rfl) (fun _ _ _ h => h) (Or.inl ⟨by rfl, ?q1⟩) HS.out ?_
              case q1 => intro w hSw; have q0 := (hSw.cell (p := ⟨wr.heap.size, 0, none⟩) HLT.out).trans n1; have q1 := (hSw.cell (p := ⟨wr.heap.size, 1, none⟩) HLT.out).trans n2; have qp := (hSw.cell (p := ⟨b, off + j * 2, none⟩) HPL.out).trans p1; go_simp; rfl
              simp only [Act.put, List.getElem_toArray, List.getElem_cons_zero, List.getElem_cons_succ, List.setIfInBounds_toArray, List.set_cons_zero, List.set_cons_succ]
              refine wpAnyH_take (i := 2) (v := ?_) rfl (by kernel_rfl) (by kernel_rfl) (by kernel_rfl) (fun _ _ _ h => h) (Or.inl ⟨by rfl, ?q2⟩) HS.out ?_
              case q2 => intro w hSw; have q0 := (hSw.cell (p := ⟨wr.heap.size, 0, none⟩) HLT.out).trans n1; have q1 := (hSw.cell (p := ⟨wr.heap.size, 1, none⟩) HLT.out).trans n2; have qp := (hSw.cell (p := ⟨b, off + j * 2, none⟩) HPL.out).trans p1; go_simp; rfl
              simp only [Act.put, List.getElem_toArray, List.getElem_cons_zero, List.getElem_cons_succ, List.setIfInBounds_toArray, List.set_cons_zero, List.set_cons_succ]
              refine wpAnyH_take (i := 3) (v := ?_) rfl (by kernel_rfl) (by kernel_rfl) (by kernel_rfl) (fun _ _ _ h => h) (Or.inl ⟨by rfl, ?q3⟩) HS.out ?_
              case q3 => intro w hSw; have q0 := (hSw.cell (p := ⟨wr.heap.size, 0, none⟩) HLT.out).trans n1; have q1 := (hSw.cell (p := ⟨wr.heap.size, 1, none⟩) HLT.out).trans n2; have qp := (hSw.cell (p := ⟨b, off + j * 2, none⟩) HPL.out).trans p1; go_simp; rfl
              simp only [Act.put, List.getElem_toArray, List.getElem_cons_zero, List.getElem_cons_succ, List.setIfInBounds_toArray, List.set_cons_zero, List.set_cons_succ]
              refine wpAnyH_take (i := 4) (v := ?_) rfl (by kernel_rfl) (by kernel_rfl) (by kernel_rfl) (fun _ _ _ h => h) (Or.inl ⟨by rfl, ?q4⟩) HS.out ?_
              case q4 => intro w hSw; have q0 := (hSw.cell (p := ⟨wr.heap.size, 0, none⟩) HLT.out).trans n1; have q1 := (hSw.cell (p := ⟨wr.heap.size, 1, none⟩) HLT.out).trans n2; have qp := (hSw.cell (p := ⟨b, off + j * 2, none⟩) HPL.out).trans p1; go_simp; rfl
              simp only [Act.put, List.getElem_toArray, List.getElem_cons_zero, List.getElem_cons_succ, List.setIfInBounds_toArray, List.set_cons_zero, List.set_cons_succ]
              refine wpAnyH_take (i := 5) (v := ?_) rfl (by kernel_rfl) (by kernel_rfl) (by kernel_rfl) (fun _ _ _ h => h) (Or.inl ⟨by rfl, ?q5⟩) HS.out ?_
              case q5 => intro w hSw; have q0 := (hSw.cell (p := ⟨wr.heap.size, 0, none⟩) HLT.out).trans n1; have q1 := (hSw.cell (p := ⟨wr.heap.size, 1, none⟩) HLT.out).trans n2; have qp := (hSw.cell (p := ⟨b, off + j * 2, none⟩) HPL.out).trans p1; go_simp; rfl
              simp only [Act.put, List.getElem_toArray, List.getElem_cons_zero, List.getElem_cons_succ, List.setIfInBounds_toArray, List.set_cons_zero, List.set_cons_succ]
              refine wpAnyH_take (i := 6) (v := ?_) rfl (by kernel_rfl) (by kernel_rfl) (by kernel_rfl) (fun _ _ _ h => h) (Or.inl ⟨by rfl, ?q6⟩) HS.out ?_
              case q6 => intro w hSw; have q0 := (hSw.cell (p := ⟨wr.heap.size, 0, none⟩) HLT.out).trans n1; have q1 := (hSw.cell (p := ⟨wr.heap.size, 1, none⟩) HLT.out).trans n2; have qp := (hSw.cell (p := ⟨b, off + j * 2, none⟩) HPL.out).trans p1; go_simp; rfl
              simp only [Act.put, List.getElem_toArray, List.getElem_cons_zero, List.getElem_cons_succ, List.setIfInBounds_toArray, List.set_cons_zero, List.set_cons_succ]
              refine wpAnyH_take (i := 7) (v := ?_) rfl (by kernel_rfl) (by kernel_rfl) (by kernel_rfl) (fun _ _ _ h => h) (Or.inl ⟨by rfl, ?q7⟩) HS.out ?_
              case q7 => intro w hSw; have q0 := (hSw.cell (p := ⟨wr.heap.size, 0, none⟩) HLT.out).trans n1; have q1 := (hSw.cell (p := ⟨wr.heap.size, 1, none⟩) HLT.out).trans n2; have qp := (hSw.cell (p := ⟨b, off + j * 2, none⟩) HPL.out).trans p1; go_simp; rfl
              simp only [Act.put, List.getElem_toArray, List.getElem_cons_zero, List.getElem_cons_succ, List.setIfInBounds_toArray, List.set_cons_zero, List.set_cons_succ]
              refine wpAnyH_take (i := 8) (v := ?_) rfl (by kernel_rfl) (by kernel_rfl) (by kernel_rfl) (fun _ _ _ h => h) (Or.inl ⟨by rfl, ?q8⟩) HS.out ?_
              case q8 => intro w hSw; have q0 := (hSw.cell (p := ⟨wr.heap.size, 0, none⟩) HLT.out).trans n1; have q1 := (hSw.cell (p := ⟨wr.heap.size, 1, none⟩) HLT.out).trans n2; have qp := (hSw.cell (p := ⟨b, off + j * 2, none⟩) HPL.out).trans p1; go_simp; rfl
              simp only [Act.put, List.getElem_toArray, List.getElem_cons_zero, List.getElem_cons_succ, List.setIfInBounds_toArray, List.set_cons_zero, List.set_cons_succ]
              refine wpAnyH_take (i := 9) (v := ?_) rfl (by kernel_rfl) (by kernel_rfl) (by kernel_rfl) (fun _ _ _ h => h) (Or.inl ⟨by rfl, ?q9⟩) HS.out ?_
              case q9 => intro w hSw; have q0 := (hSw.cell (p := ⟨wr.heap.size, 0, none⟩) HLT.out).trans n1; have q1 := (hSw.cell (p := ⟨wr.heap.size, 1, none⟩) HLT.out).trans n2; have qp := (hSw.cell (p := ⟨b, off + j * 2, none⟩) HPL.out).trans p1; go_simp; rfl
              simp only [Act.put, List.getElem_toArray, List.getElem_cons_zero, List.getElem_cons_succ, List.setIfInBounds_toArray, List.set_cons_zero, List.set_cons_succ]
              refine wpAnyH_take (i := 10) (v := ?_) rfl (by kernel_rfl) (by kernel_rfl) (by kernel_rfl) (fun _ _ _ h => h) (Or.inl ⟨by rfl, ?q10⟩) HS.out ?_
              case q10 => intro w hSw; have q0 := (hSw.cell (p := ⟨wr.heap.size, 0, none⟩) HLT.out).trans n1; have q1 := (hSw.cell (p := ⟨wr.heap.size, 1, none⟩) HLT.out).trans n2; have qp := (hSw.cell (p := ⟨b, off + j * 2, none⟩) HPL.out).trans p1; go_simp; rfl
              simp only [Act.put, List.getElem_toArray, List.getElem_cons_zero, List.getElem_cons_succ, List.setIfInBounds_toArray, List.set_cons_zero, List.set_cons_succ]
              refine wpAnyH_take (i := 11) (v := ?_) rfl (by kernel_rfl) (by kernel_rfl) (by kernel_rfl) (fun _ _ _ h => h) (Or.inl ⟨by rfl, ?q11⟩) HS.out ?_
              case q11 => intro w hSw; have q0 := (hSw.cell (p := ⟨wr.heap.size, 0, none⟩) HLT.out).trans n1; have q1 := (hSw.cell (p := ⟨wr.heap.size, 1, none⟩) HLT.out).trans n2; have qp := (hSw.cell (p := ⟨b, off + j * 2, none⟩) HPL.out).trans p1; go_simp; rfl
              simp only [Act.put, List.getElem_toArray, List.getElem_cons_zero, List.getElem_cons_succ, List.setIfInBounds_toArray, List.set_cons_zero, List.set_cons_succ]
              refine wpAnyH_take (i := 12) (v := ?_) rfl (by kernel_rfl) (by kernel_rfl) (by kernel_rfl) (fun _ _ _ h => h) (Or.inl ⟨by rfl, ?q12⟩) HS.out ?_
              case q12 => intro w hSw; have q0 := (hSw.cell (p := ⟨wr.heap.size, 0, none⟩) HLT.out).trans n1; have q1 := (hSw.cell (p := ⟨wr.heap.size, 1, none⟩) HLT.out).trans n2; have qp := (hSw.cell (p := ⟨b, off + j * 2, none⟩) HPL.out).trans p1; go_simp; rfl
              simp only [Act.put, List.getElem_toArray, List.getElem_cons_zero, List.getElem_cons_succ, List.setIfInBounds_toArray, List.set_cons_zero, List.set_cons_succ]
              refine wpAnyH_take (i := 13) (v := ?_) rfl (by kernel_rfl) (by kernel_rfl) (by kernel_rfl) (fun _ _ _ h => h) (Or.inl ⟨by rfl, ?q13⟩) HS.out ?_
              case q13 => intro w hSw; have q0 := (hSw.cell (p := ⟨wr.heap.size, 0, none⟩) HLT.out).trans n1; have q1 := (hSw.cell (p := ⟨wr.heap.size, 1, none⟩) HLT.out).trans n2; have qp := (hSw.cell (p := ⟨b, off + j * 2, none⟩) HPL.out).trans p1; go_simp; rfl
              simp only [Act.put, List.getElem_toArray, List.getElem_cons_zero, List.getElem_cons_succ, List.setIfInBounds_toArray, List.set_cons_zero, List.set_cons_succ]
              refine wpAnyH_take (i := 14) (v := ?_) rfl (by kernel_rfl) (by kernel_rfl) (by kernel_rfl) (fun _ _ _ h => h) (Or.inl ⟨by rfl, ?q14⟩) HS.out ?_
              case q14 => intro w hSw; have q0 := (hSw.cell (p := ⟨wr.heap.size, 0, none⟩) HLT.out).trans n1; have q1 := (hSw.cell (p := ⟨wr.heap.size, 1, none⟩) HLT.out).trans n2; have qp := (hSw.cell (p := ⟨b, off + j * 2, none⟩) HPL.out).trans p1; go_simp; rfl
              simp only [Act.put, List.getElem_toArray, List.getElem_cons_zero, List.getElem_cons_succ, List.setIfInBounds_toArray, List.set_cons_zero, List.set_cons_succ]
              refine wpAnyH_take (i := 15) (v := ?_) rfl (by kernel_rfl) (by kernel_rfl) (by kernel_rfl) (fun _ _ _ h => h) (Or.inl ⟨by rfl, ?q15⟩) HS.out ?_
              case q15 => intro w hSw; have q0 := (hSw.cell (p := ⟨wr.heap.size, 0, none⟩) HLT.out).trans n1; have q1 := (hSw.cell (p := ⟨wr.heap.size, 1, none⟩) HLT.out).trans n2; have qp := (hSw.cell (p := ⟨b, off + j * 2, none⟩) HPL.out).trans p1; go_simp; rfl
              simp only [Act.put, List.getElem_toArray, List.getElem_cons_zero, List.getElem_cons_succ, List.setIfInBounds_toArray, List.set_cons_zero, List.set_cons_succ]
              refine wpAnyH_ready (rs := [16]) (by kernel_rfl) (by simp) ?_
              refine AllReadyH.cons rfl (fun K hK => ?_) AllReadyH.nil
              replace hK := hid hK
              go_simp
              refine (CT.out _ y).mono ?_
              rintro e w2 ⟨rfl, hw2⟩
              rw [hw2]
              clear hw2
              rw [HTK.out]
              refine hK.out _ _ HS.out (fun _ => ?_)
              clear hK K
              refine wpAnyH_take (i := 17) (v := ?_) rfl (by kernel_rfl) (by kernel_rfl) (by kernel_rfl) (fun _ _ _ h => h) (Or.inl ⟨by rfl, ?q17⟩) HS.out ?_
              case q17 => intro w hSw; have q0 := (hSw.cell (p := ⟨wr.heap.size, 0, none⟩) HLT.out).trans n1; have q1 := (hSw.cell (p := ⟨wr.heap.size, 1, none⟩) HLT.out).trans n2; have qp := (hSw.cell (p := ⟨b, off + j * 2, none⟩) HPL.out).trans p1; go_simp; rfl
              simp only [Act.put, List.getElem_toArray, List.getElem_cons_zero, List.getElem_cons_succ, List.setIfInBounds_toArray, List.set_cons_zero, List.set_cons_succ]
              refine wpAnyH_take (i := 18) (v := ?_) rfl (by kernel_rfl) (by kernel_rfl) (by kernel_rfl) (fun _ _ _ h => h) (Or.inl ⟨by rfl, ?q18⟩) HS.out ?_
              case q18 => intro w hSw; have q0 := (hSw.cell (p := ⟨wr.heap.size, 0, none⟩) HLT.out).trans n1; have q1 := (hSw.cell (p := ⟨wr.heap.size, 1, none⟩) HLT.out).trans n2; have qp := (hSw.cell (p := ⟨b, off + j * 2, none⟩) HPL.out).trans p1; go_simp; rfl
              simp only [Act.put, List.getElem_toArray, List.getElem_cons_zero, List.getElem_cons_succ, List.setIfInBounds_toArray, List.set_cons_zero, List.set_cons_succ]
              refine wpAnyH_take (i := 19) (v := ?_) rfl (by kernel_rfl) (by kernel_rfl) (by kernel_rfl) (fun _ _ _ h => h) (Or.inl ⟨by rfl, ?q19⟩) HS.out ?_
              case q19 => intro w hSw; have q0 := (hSw.cell (p := ⟨wr.heap.size, 0, none⟩) HLT.out).trans n1; have q1 := (hSw.cell (p := ⟨wr.heap.size, 1, none⟩) HLT.out).trans n2; have qp := (hSw.cell (p := ⟨b, off + j * 2, none⟩) HPL.out).trans p1; go_simp; rfl
              simp only [Act.put, List.getElem_toArray, List.getElem_cons_zero, List.getElem_cons_succ, List.setIfInBounds_toArray, List.set_cons_zero, List.set_cons_succ]
              refine wpAnyH_take (i := 20) (v := .agg #[.int .u32 x, .int .i64 y]) rfl (by kernel_rfl) (by kernel_rfl) (by kernel_rfl) (fun _ _ _ h => h) (Or.inl ⟨by rfl, ?q20⟩) HS.out ?_
              case q20 => intro w hSw; have q0 := (hSw.cell (p := ⟨wr.heap.size, 0, none⟩) HLT.out).trans n1; have q1 := (hSw.cell (p := ⟨wr.heap.size, 1, none⟩) HLT.out).trans n2; have qp := (hSw.cell (p := ⟨b, off + j * 2, none⟩) HPL.out).trans p1; go_simp
              simp only [Act.put, List.getElem_toArray, List.getElem_cons_zero, List.getElem_cons_succ, List.setIfInBounds_toArray, List.set_cons_zero, List.set_cons_succ]
              refine wpAnyH_take (i := 21) (v := ?_) rfl (by kernel_rfl) (by kernel_rfl) (by kernel_rfl) (fun _ _ _ h => h) (Or.inl ⟨by rfl, ?q21⟩) HS.out ?_
              case q21 => intro w hSw; have q0 := (hSw.cell (p := ⟨wr.heap.size, 0, none⟩) HLT.out).trans n1; have q1 := (hSw.cell (p := ⟨wr.heap.size, 1, none⟩) HLT.out).trans n2; have qp := (hSw.cell (p := ⟨b, off + j * 2, none⟩) HPL.out).trans p1; go_simp; rfl
              simp only [Act.put, List.getElem_toArray, List.getElem_cons_zero, List.getElem_cons_succ, List.setIfInBounds_toArray, List.set_cons_zero, List.set_cons_succ]
              refine wpAnyH_ready (rs := [22]) (by kernel_rfl) (by simp) ?_
              refine AllReadyH.cons rfl (fun K hK => ?_) AllReadyH.nil
              replace hK := hid hK
              go_simp
              refine (CR1.out _).mono ?_
              rintro e w2 ⟨rfl, hb2⟩
              have B2 := hid (HS.out.trans (hb2.mono HS.out.size))
              clear hb2
              refine hK.out _ _ B2.out (fun _ => ?_)
              clear hK K HS
              have HS := B2
              refine wpAnyH_take (i := 23) (v := ?_) rfl (by kernel_rfl) (by kernel_rfl) (by kernel_rfl) (fun _ _ _ h => h) (Or.inl ⟨by rfl, ?q23⟩) HS.out ?_
              case q23 => intro w hSw; have q0 := (hSw.cell (p := ⟨wr.heap.size, 0, none⟩) HLT.out).trans n1; have q1 := (hSw.cell (p := ⟨wr.heap.size, 1, none⟩) HLT.out).trans n2; have qp := (hSw.cell (p := ⟨b, off + j * 2, none⟩) HPL.out).trans p1; go_simp; rfl
              simp only [Act.put, List.getElem_toArray, List.getElem_cons_zero, List.getElem_cons_succ, List.setIfInBounds_toArray, List.set_cons_zero, List.set_cons_succ]
              refine wpAnyH_take (i := 24) (v := ?_) rfl (by kernel_rfl) (by kernel_rfl) (by kernel_rfl) (fun _ _ _ h => h) (Or.inl ⟨by rfl, ?q24⟩) HS.out ?_
              case q24 => intro w hSw; have q0 := (hSw.cell (p := ⟨wr.heap.size, 0, none⟩) HLT.out).trans n1; have q1 := (hSw.cell (p := ⟨wr.heap.size, 1, none⟩) HLT.out).trans n2; have qp := (hSw.cell (p := ⟨b, off + j * 2, none⟩) HPL.out).trans p1; go_simp; rfl
              simp only [Act.put, List.getElem_toArray, List.getElem_cons_zero, List.getElem_cons_succ, List.setIfInBounds_toArray, List.set_cons_zero, List.set_cons_succ]
              refine wpAnyH_done (by kernel_rfl) ?_ _
              have B3 := hid (B0.out.trans (HS.out.mono B0.out.size))
              cases ty with
              | true =>
                have HJ : Hid (MlJ t ls (j + 1)) := hid (fun hj => ⟨fun h0 => by rw [hx.out]; exact HWH.out, by rw [hy.out]; exact tk_iff HTK.out, by rw [hy.out]; exact of_decide_eq_true HTY.out⟩)
                go_wp2
                refine ⟨⟨(j + 1) + 1, by omega, by go_num, fun i hi => ?_, B3.out⟩, by simp [intOf]; omega⟩
                by_cases e : i = (j + 1)
                · rw [e]; exact HJ.out
                · exact HM.out i (by omega)
              | false =>
                go_wp2
                go_ret
                exact ⟨false, rfl, ⟨fun q => (by cases q), fun q => absurd ((q.2.2 (j + 1) hlt).2.2) (by rw [hy.out]; exact of_decide_eq_false HTY.out)⟩, B3.out⟩
            | false =>
              have HTK := hid hTK
              clear hTK
              go_wp2_with fail
              rw [HW1.out]
              refine wp_region_held_drew (S := Below W1.heap.size W1) (by kernel_rfl) bd (fun hHeld => ?_)
              have HS := hid hHeld
              clear hHeld
              change wpAnyH _ _ _ _ _ _ _ _ (World.drew _)
              refine wpAnyH_take (i := 0) (v := ?_) rfl (by kernel_rfl) (by kernel_rfl) (by kernel_rfl) (fun _ _ _ h => h) (Or.inl ⟨by rfl, ?q0⟩) HS.out ?_
              case q0 => intro w hSw; have q0 := (hSw.cell (p := ⟨wr.heap.size, 0, none⟩) HLT.out).trans n1; have q1 := (hSw.cell (p := ⟨wr.heap.size, 1, none⟩) HLT.out).trans n2; have qp := (hSw.cell (p := ⟨b, off + j * 2, none⟩) HPL.out).trans p1; go_simp; rfl
              simp only [Act.put, List.getElem_toArray, List.getElem_cons_zero, List.getElem_cons_succ, List.setIfInBounds_toArray, List.set_cons_zero, List.set_cons_succ]
              refine wpAnyH_take (i := 1) (v := ?_) rfl (by kernel_rfl) (by kernel_rfl) (by kernel_rfl) (fun _ _ _ h => h) (Or.inl ⟨by rfl, ?q1⟩) HS.out ?_
              case q1 => intro w hSw; have q0 := (hSw.cell (p := ⟨wr.heap.size, 0, none⟩) HLT.out).trans n1; have q1 := (hSw.cell (p := ⟨wr.heap.size, 1, none⟩) HLT.out).trans n2; have qp := (hSw.cell (p := ⟨b, off + j * 2, none⟩) HPL.out).trans p1; go_simp; rfl
              simp only [Act.put, List.getElem_toArray, List.getElem_cons_zero, List.getElem_cons_succ, List.setIfInBounds_toArray, List.set_cons_zero, List.set_cons_succ]
              refine wpAnyH_take (i := 2) (v := ?_) rfl (by kernel_rfl) (by kernel_rfl) (by kernel_rfl) (fun _ _ _ h => h) (Or.inl ⟨by rfl, ?q2⟩) HS.out ?_
              case q2 => intro w hSw; have q0 := (hSw.cell (p := ⟨wr.heap.size, 0, none⟩) HLT.out).trans n1; have q1 := (hSw.cell (p := ⟨wr.heap.size, 1, none⟩) HLT.out).trans n2; have qp := (hSw.cell (p := ⟨b, off + j * 2, none⟩) HPL.out).trans p1; go_simp; rfl
              simp only [Act.put, List.getElem_toArray, List.getElem_cons_zero, List.getElem_cons_succ, List.setIfInBounds_toArray, List.set_cons_zero, List.set_cons_succ]
              refine wpAnyH_take (i := 3) (v := ?_) rfl (by kernel_rfl) (by kernel_rfl) (by kernel_rfl) (fun _ _ _ h => h) (Or.inl ⟨by rfl, ?q3⟩) HS.out ?_
              case q3 => intro w hSw; have q0 := (hSw.cell (p := ⟨wr.heap.size, 0, none⟩) HLT.out).trans n1; have q1 := (hSw.cell (p := ⟨wr.heap.size, 1, none⟩) HLT.out).trans n2; have qp := (hSw.cell (p := ⟨b, off + j * 2, none⟩) HPL.out).trans p1; go_simp; rfl
              simp only [Act.put, List.getElem_toArray, List.getElem_cons_zero, List.getElem_cons_succ, List.setIfInBounds_toArray, List.set_cons_zero, List.set_cons_succ]
              refine wpAnyH_take (i := 4) (v := ?_) rfl (by kernel_rfl) (by kernel_rfl) (by kernel_rfl) (fun _ _ _ h => h) (Or.inl ⟨by rfl, ?q4⟩) HS.out ?_
              case q4 => intro w hSw; have q0 := (hSw.cell (p := ⟨wr.heap.size, 0, none⟩) HLT.out).trans n1; have q1 := (hSw.cell (p := ⟨wr.heap.size, 1, none⟩) HLT.out).trans n2; have qp := (hSw.cell (p := ⟨b, off + j * 2, none⟩) HPL.out).trans p1; go_simp; rfl
              simp only [Act.put, List.getElem_toArray, List.getElem_cons_zero, List.getElem_cons_succ, List.setIfInBounds_toArray, List.set_cons_zero, List.set_cons_succ]
              refine wpAnyH_take (i := 5) (v := ?_) rfl (by kernel_rfl) (by kernel_rfl) (by kernel_rfl) (fun _ _ _ h => h) (Or.inl ⟨by rfl, ?q5⟩) HS.out ?_
              case q5 => intro w hSw; have q0 := (hSw.cell (p := ⟨wr.heap.size, 0, none⟩) HLT.out).trans n1; have q1 := (hSw.cell (p := ⟨wr.heap.size, 1, none⟩) HLT.out).trans n2; have qp := (hSw.cell (p := ⟨b, off + j * 2, none⟩) HPL.out).trans p1; go_simp; rfl
              simp only [Act.put, List.getElem_toArray, List.getElem_cons_zero, List.getElem_cons_succ, List.setIfInBounds_toArray, List.set_cons_zero, List.set_cons_succ]
              refine wpAnyH_take (i := 6) (v := ?_) rfl (by kernel_rfl) (by kernel_rfl) (by kernel_rfl) (fun _ _ _ h => h) (Or.inl ⟨by rfl, ?q6⟩) HS.out ?_
              case q6 => intro w hSw; have q0 := (hSw.cell (p := ⟨wr.heap.size, 0, none⟩) HLT.out).trans n1; have q1 := (hSw.cell (p := ⟨wr.heap.size, 1, none⟩) HLT.out).trans n2; have qp := (hSw.cell (p := ⟨b, off + j * 2, none⟩) HPL.out).trans p1; go_simp; rfl
              simp only [Act.put, List.getElem_toArray, List.getElem_cons_zero, List.getElem_cons_succ, List.setIfInBounds_toArray, List.set_cons_zero, List.set_cons_succ]
              refine wpAnyH_take (i := 7) (v := ?_) rfl (by kernel_rfl) (by kernel_rfl) (by kernel_rfl) (fun _ _ _ h => h) (Or.inl ⟨by rfl, ?q7⟩) HS.out ?_
              case q7 => intro w hSw; have q0 := (hSw.cell (p := ⟨wr.heap.size, 0, none⟩) HLT.out).trans n1; have q1 := (hSw.cell (p := ⟨wr.heap.size, 1, none⟩) HLT.out).trans n2; have qp := (hSw.cell (p := ⟨b, off + j * 2, none⟩) HPL.out).trans p1; go_simp; rfl
              simp only [Act.put, List.getElem_toArray, List.getElem_cons_zero, List.getElem_cons_succ, List.setIfInBounds_toArray, List.set_cons_zero, List.set_cons_succ]
              refine wpAnyH_take (i := 8) (v := ?_) rfl (by kernel_rfl) (by kernel_rfl) (by kernel_rfl) (fun _ _ _ h => h) (Or.inl ⟨by rfl, ?q8⟩) HS.out ?_
              case q8 => intro w hSw; have q0 := (hSw.cell (p := ⟨wr.heap.size, 0, none⟩) HLT.out).trans n1; have q1 := (hSw.cell (p := ⟨wr.heap.size, 1, none⟩) HLT.out).trans n2; have qp := (hSw.cell (p := ⟨b, off + j * 2, none⟩) HPL.out).trans p1; go_simp; rfl
              simp only [Act.put, List.getElem_toArray, List.getElem_cons_zero, List.getElem_cons_succ, List.setIfInBounds_toArray, List.set_cons_zero, List.set_cons_succ]
              refine wpAnyH_take (i := 9) (v := ?_) rfl (by kernel_rfl) (by kernel_rfl) (by kernel_rfl) (fun _ _ _ h => h) (Or.inl ⟨by rfl, ?q9⟩) HS.out ?_
              case q9 => intro w hSw; have q0 := (hSw.cell (p := ⟨wr.heap.size, 0, none⟩) HLT.out).trans n1; have q1 := (hSw.cell (p := ⟨wr.heap.size, 1, none⟩) HLT.out).trans n2; have qp := (hSw.cell (p := ⟨b, off + j * 2, none⟩) HPL.out).trans p1; go_simp; rfl
              simp only [Act.put, List.getElem_toArray, List.getElem_cons_zero, List.getElem_cons_succ, List.setIfInBounds_toArray, List.set_cons_zero, List.set_cons_succ]
              refine wpAnyH_take (i := 10) (v := ?_) rfl (by kernel_rfl) (by kernel_rfl) (by kernel_rfl) (fun _ _ _ h => h) (Or.inl ⟨by rfl, ?q10⟩) HS.out ?_
              case q10 => intro w hSw; have q0 := (hSw.cell (p := ⟨wr.heap.size, 0, none⟩) HLT.out).trans n1; have q1 := (hSw.cell (p := ⟨wr.heap.size, 1, none⟩) HLT.out).trans n2; have qp := (hSw.cell (p := ⟨b, off + j * 2, none⟩) HPL.out).trans p1; go_simp; rfl
              simp only [Act.put, List.getElem_toArray, List.getElem_cons_zero, List.getElem_cons_succ, List.setIfInBounds_toArray, List.set_cons_zero, List.set_cons_succ]
              refine wpAnyH_take (i := 11) (v := ?_) rfl (by kernel_rfl) (by kernel_rfl) (by kernel_rfl) (fun _ _ _ h => h) (Or.inl ⟨by rfl, ?q11⟩) HS.out ?_
              case q11 => intro w hSw; have q0 := (hSw.cell (p := ⟨wr.heap.size, 0, none⟩) HLT.out).trans n1; have q1 := (hSw.cell (p := ⟨wr.heap.size, 1, none⟩) HLT.out).trans n2; have qp := (hSw.cell (p := ⟨b, off + j * 2, none⟩) HPL.out).trans p1; go_simp; rfl
              simp only [Act.put, List.getElem_toArray, List.getElem_cons_zero, List.getElem_cons_succ, List.setIfInBounds_toArray, List.set_cons_zero, List.set_cons_succ]
              refine wpAnyH_take (i := 12) (v := ?_) rfl (by kernel_rfl) (by kernel_rfl) (by kernel_rfl) (fun _ _ _ h => h) (Or.inl ⟨by rfl, ?q12⟩) HS.out ?_
              case q12 => intro w hSw; have q0 := (hSw.cell (p := ⟨wr.heap.size, 0, none⟩) HLT.out).trans n1; have q1 := (hSw.cell (p := ⟨wr.heap.size, 1, none⟩) HLT.out).trans n2; have qp := (hSw.cell (p := ⟨b, off + j * 2, none⟩) HPL.out).trans p1; go_simp; rfl
              simp only [Act.put, List.getElem_toArray, List.getElem_cons_zero, List.getElem_cons_succ, List.setIfInBounds_toArray, List.set_cons_zero, List.set_cons_succ]
              refine wpAnyH_take (i := 13) (v := ?_) rfl (by kernel_rfl) (by kernel_rfl) (by kernel_rfl) (fun _ _ _ h => h) (Or.inl ⟨by rfl, ?q13⟩) HS.out ?_
              case q13 => intro w hSw; have q0 := (hSw.cell (p := ⟨wr.heap.size, 0, none⟩) HLT.out).trans n1; have q1 := (hSw.cell (p := ⟨wr.heap.size, 1, none⟩) HLT.out).trans n2; have qp := (hSw.cell (p := ⟨b, off + j * 2, none⟩) HPL.out).trans p1; go_simp; rfl
              simp only [Act.put, List.getElem_toArray, List.getElem_cons_zero, List.getElem_cons_succ, List.setIfInBounds_toArray, List.set_cons_zero, List.set_cons_succ]
              refine wpAnyH_take (i := 14) (v := ?_) rfl (by kernel_rfl) (by kernel_rfl) (by kernel_rfl) (fun _ _ _ h => h) (Or.inl ⟨by rfl, ?q14⟩) HS.out ?_
              case q14 => intro w hSw; have q0 := (hSw.cell (p := ⟨wr.heap.size, 0, none⟩) HLT.out).trans n1; have q1 := (hSw.cell (p := ⟨wr.heap.size, 1, none⟩) HLT.out).trans n2; have qp := (hSw.cell (p := ⟨b, off + j * 2, none⟩) HPL.out).trans p1; go_simp; rfl
              simp only [Act.put, List.getElem_toArray, List.getElem_cons_zero, List.getElem_cons_succ, List.setIfInBounds_toArray, List.set_cons_zero, List.set_cons_succ]
              refine wpAnyH_take (i := 15) (v := ?_) rfl (by kernel_rfl) (by kernel_rfl) (by kernel_rfl) (fun _ _ _ h => h) (Or.inl ⟨by rfl, ?q15⟩) HS.out ?_
              case q15 => intro w hSw; have q0 := (hSw.cell (p := ⟨wr.heap.size, 0, none⟩) HLT.out).trans n1; have q1 := (hSw.cell (p := ⟨wr.heap.size, 1, none⟩) HLT.out).trans n2; have qp := (hSw.cell (p := ⟨b, off + j * 2, none⟩) HPL.out).trans p1; go_simp; rfl
              simp only [Act.put, List.getElem_toArray, List.getElem_cons_zero, List.getElem_cons_succ, List.setIfInBounds_toArray, List.set_cons_zero, List.set_cons_succ]
              refine wpAnyH_ready (rs := [16]) (by kernel_rfl) (by simp) ?_
              refine AllReadyH.cons rfl (fun K hK => ?_) AllReadyH.nil
              replace hK := hid hK
              go_simp
              refine (CT.out _ y).mono ?_
              rintro e w2 ⟨rfl, hw2⟩
              rw [hw2]
              clear hw2
              rw [HTK.out]
              refine hK.out _ _ HS.out (fun _ => ?_)
              clear hK K
              refine wpAnyH_take (i := 17) (v := ?_) rfl (by kernel_rfl) (by kernel_rfl) (by kernel_rfl) (fun _ _ _ h => h) (Or.inl ⟨by rfl, ?q17⟩) HS.out ?_
              case q17 => intro w hSw; have q0 := (hSw.cell (p := ⟨wr.heap.size, 0, none⟩) HLT.out).trans n1; have q1 := (hSw.cell (p := ⟨wr.heap.size, 1, none⟩) HLT.out).trans n2; have qp := (hSw.cell (p := ⟨b, off + j * 2, none⟩) HPL.out).trans p1; go_simp; rfl
              simp only [Act.put, List.getElem_toArray, List.getElem_cons_zero, List.getElem_cons_succ, List.setIfInBounds_toArray, List.set_cons_zero, List.set_cons_succ]
              refine wpAnyH_take (i := 18) (v := ?_) rfl (by kernel_rfl) (by kernel_rfl) (by kernel_rfl) (fun _ _ _ h => h) (Or.inl ⟨by rfl, ?q18⟩) HS.out ?_
              case q18 => intro w hSw; have q0 := (hSw.cell (p := ⟨wr.heap.size, 0, none⟩) HLT.out).trans n1; have q1 := (hSw.cell (p := ⟨wr.heap.size, 1, none⟩) HLT.out).trans n2; have qp := (hSw.cell (p := ⟨b, off + j * 2, none⟩) HPL.out).trans p1; go_simp; rfl
              simp only [Act.put, List.getElem_toArray, List.getElem_cons_zero, List.getElem_cons_succ, List.setIfInBounds_toArray, List.set_cons_zero, List.set_cons_succ]
              refine wpAnyH_take (i := 19) (v := ?_) rfl (by kernel_rfl) (by kernel_rfl) (by kernel_rfl) (fun _ _ _ h => h) (Or.inl ⟨by rfl, ?q19⟩) HS.out ?_
              case q19 => intro w hSw; have q0 := (hSw.cell (p := ⟨wr.heap.size, 0, none⟩) HLT.out).trans n1; have q1 := (hSw.cell (p := ⟨wr.heap.size, 1, none⟩) HLT.out).trans n2; have qp := (hSw.cell (p := ⟨b, off + j * 2, none⟩) HPL.out).trans p1; go_simp; rfl
              simp only [Act.put, List.getElem_toArray, List.getElem_cons_zero, List.getElem_cons_succ, List.setIfInBounds_toArray, List.set_cons_zero, List.set_cons_succ]
              refine wpAnyH_take (i := 20) (v := undef) rfl (by kernel_rfl) (by kernel_rfl) (by kernel_rfl) (fun _ _ _ h => h) (Or.inr ⟨by rfl, rfl⟩) HS.out ?_
              simp only [Act.put, List.getElem_toArray, List.getElem_cons_zero, List.getElem_cons_succ, List.setIfInBounds_toArray, List.set_cons_zero, List.set_cons_succ]
              refine wpAnyH_take (i := 21) (v := undef) rfl (by kernel_rfl) (by kernel_rfl) (by kernel_rfl) (fun _ _ _ h => h) (Or.inr ⟨by rfl, rfl⟩) HS.out ?_
              simp only [Act.put, List.getElem_toArray, List.getElem_cons_zero, List.getElem_cons_succ, List.setIfInBounds_toArray, List.set_cons_zero, List.set_cons_succ]
              refine wpAnyH_take (i := 22) (v := undef) rfl (by kernel_rfl) (by kernel_rfl) (by kernel_rfl) (fun _ _ _ h => h) (Or.inr ⟨by rfl, rfl⟩) HS.out ?_
              simp only [Act.put, List.getElem_toArray, List.getElem_cons_zero, List.getElem_cons_succ, List.setIfInBounds_toArray, List.set_cons_zero, List.set_cons_succ]
              refine wpAnyH_take (i := 23) (v := undef) rfl (by kernel_rfl) (by kernel_rfl) (by kernel_rfl) (fun _ _ _ h => h) (Or.inr ⟨by rfl, rfl⟩) HS.out ?_
              simp only [Act.put, List.getElem_toArray, List.getElem_cons_zero, List.getElem_cons_succ, List.setIfInBounds_toArray, List.set_cons_zero, List.set_cons_succ]
              refine wpAnyH_take (i := 24) (v := ?_) rfl (by kernel_rfl) (by kernel_rfl) (by kernel_rfl) (fun _ _ _ h => h) (Or.inl ⟨by rfl, ?q24⟩) HS.out ?_
              case q24 => intro w hSw; have q0 := (hSw.cell (p := ⟨wr.heap.size, 0, none⟩) HLT.out).trans n1; have q1 := (hSw.cell (p := ⟨wr.heap.size, 1, none⟩) HLT.out).trans n2; have qp := (hSw.cell (p := ⟨b, off + j * 2, none⟩) HPL.out).trans p1; go_simp; rfl
              simp only [Act.put, List.getElem_toArray, List.getElem_cons_zero, List.getElem_cons_succ, List.setIfInBounds_toArray, List.set_cons_zero, List.set_cons_succ]
              refine wpAnyH_done (by kernel_rfl) ?_ _
              have B3 := hid (B0.out.trans (HS.out.mono B0.out.size))
              go_wp2
              go_ret
              exact ⟨false, rfl, ⟨fun q => (by cases q), fun q => absurd ((q.2.2 (j + 1) hlt).2.1) (by rw [hy.out]; exact tk_not HTK.out)⟩, B3.out⟩
      · have hkl : k = ls.length := by omega
        have HKL := hid hkl
        have d6 : decide ((k : Int) < (ls.length : Int)) = false := decide_eq_false (by omega)
        clear hkl hB
        go_wp2
        go_ret
        exact ⟨true, rfl, ⟨fun _ => ⟨hl1, hl2, fun j hj => HM.out j (by rw [HKL.out]; exact hj) hj⟩, fun _ => rfl⟩, HB.out⟩
  · obtain ⟨p, c, rfl, -⟩ := h
    have HN : Hid (¬ MlQ t ls) := hid (fun q => hl ⟨q.1, q.2.1⟩)
    by_cases h1 : ls.length < 1
    · have d1 : decide ((ls.length : Int) < 1) = true := decide_eq_true (by omega)
      have HH1 := hid h1
      clear h1 hl
      go_enter Try.func51, Try.ntmps51
      go_wp2
      go_ret
      exact ⟨false, rfl, ⟨fun q => (by cases q), fun q => absurd q HN.out⟩, Below.refl _ _⟩
    · have d1 : decide ((ls.length : Int) < 1) = false := decide_eq_false (by omega)
      have d2 : decide (64 < (ls.length : Int)) = true := decide_eq_true (by omega)
      have HH1 := hid h1
      clear h1 hl
      go_enter Try.func51, Try.ntmps51
      go_wp2
      all_goals go_ret
      all_goals exact ⟨false, rfl, ⟨fun q => (by cases q), fun q => absurd q HN.out⟩, Below.refl _ _⟩
def KpQ (t : Int) (k : Kp) : Prop := nbB k.sp.nb = true ∧ k.bs.length ≤ 33554432 ∧ MlQ t k.ls
set_option maxRecDepth 100000 in
set_option maxHeartbeats 4000000 in
theorem mayKeep_any (w : World) (k : Kp) (hk : k.sp.ok) (vb vl : Value) (t : Int) (hb : HB w vb k.bs) (hl : RdL w vl k.ls) : Calls Try.prog 33 #[.agg (kpL k vb vl).toArray, .int .i64 t] w fun e w' => ∃ r, e = .returned (.bool r) ∧ (r = true ↔ KpQ t k) ∧ Below w.heap.size w w' := by
  obtain ⟨p, c, hvb, -, -⟩ := hb.open
  have q16 : (kpL k vb vl).toArray[16]? = some (.int .i64 k.sp.nb) := by simpa using kpL_16 hk vb vl
  have q17 : (kpL k vb vl).toArray[17]? = some vb := by simpa using kpL_17 hk vb vl
  have q18 : (kpL k vb vl).toArray[18]? = some vl := by simpa using kpL_18 hk vb vl
  have C1 := hid isNumber_any
  obtain ⟨W1, HW1⟩ : ∃ W : World, Hid (w.alloc (.cells (kpL k vb vl).toArray 60) = W) := ⟨_, hid rfl⟩
  have B1 : Hid (Below w.heap.size w W1) := by rw [← HW1.out]; exact hid ((Below.refl _ w).alloc (Nat.le_refl _) _)
  have C2 := hid (mayLease_any W1 vl k.ls t (hl.below B1.out))
  obtain ⟨m, HM⟩ : ∃ x, Hid ((kpL k vb vl).toArray = x) := ⟨_, hid rfl⟩
  rw [HM.out] at q16 q17 q18 HW1 ⊢
  have HQ : Hid (∀ r, (r = true ↔ MlQ t k.ls) → nbB k.sp.nb = true → k.bs.length ≤ 33554432 → (r = true ↔ KpQ t k)) := hid fun r h1 h2 h3 => by unfold KpQ; rw [h1]; exact ⟨fun q => ⟨h2, h3, q⟩, fun q => q.2.2⟩
  have HN1 : Hid (nbB k.sp.nb = false → ¬ KpQ t k) := hid fun h q => by have := q.1; rw [h] at this; cases this
  have HN2 : Hid (¬ k.bs.length ≤ 33554432 → ¬ KpQ t k) := hid fun h q => h q.2.1
  subst hvb
  obtain ⟨p2, c2, hvl, -⟩ := hl
  subst hvl
  have n16 : W1.cell? ⟨w.heap.size, 16, none⟩ = some (.int .i64 k.sp.nb) := by rw [← HW1.out]; exact (cell_of_row _ _ _ _ _ _ (heap_alloc_new w _)).trans q16
  have n17 : W1.cell? ⟨w.heap.size, 17, none⟩ = some (.slice p k.bs.length c) := by rw [← HW1.out]; exact (cell_of_row _ _ _ _ _ _ (heap_alloc_new w _)).trans q17
  have n18 : W1.cell? ⟨w.heap.size, 18, none⟩ = some (.slice p2 k.ls.length c2) := by rw [← HW1.out]; exact (cell_of_row _ _ _ _ _ _ (heap_alloc_new w _)).trans q18
  obtain ⟨nb, Hnb⟩ : ∃ x, Hid (k.sp.nb = x) := ⟨_, hid rfl⟩
  obtain ⟨n, Hn⟩ : ∃ x, Hid (k.bs.length = x) := ⟨_, hid rfl⟩
  rw [Hnb.out] at n16 HN1 HQ
  rw [Hn.out] at n17 HN2 HQ
  obtain ⟨z, Hz⟩ : ∃ x, Hid (nbB nb = x) := ⟨_, hid rfl⟩
  rw [Hz.out] at HN1 HQ
  have C1' : Hid (∀ W, Calls Try.prog 44 #[.int .i64 nb] W fun e w' => e = .returned (.bool z) ∧ w' = W) := hid (by rw [← Hz.out]; exact fun W => C1.out W nb)
  clear hb q16 q17 q18
  go_enter Try.func33, Try.ntmps33
  refine wp_seq_k fun K0 h0 => ?_
  have H0 := hid h0
  clear h0
  go_wp2
  rw [HW1.out]
  refine H0.out _ _ ?_
  go_wp2_with fail
  refine (C1'.out _).mono ?_
  rintro e w2 ⟨rfl, hw2⟩
  subst hw2
  cases z with
  | false =>
    go_wp2
    go_ret
    exact ⟨false, rfl, ⟨fun q => (by cases q), fun q => absurd q (HN1.out (by simp))⟩, B1.out⟩
  | true =>
    by_cases hn : n ≤ 33554432
    · have d1 : decide ((n : Int) ≤ 33554432) = true := decide_eq_true (by omega)
      have HN := hid hn
      clear hn
      go_wp2_with fail
      refine C2.out.mono ?_
      rintro e w3 ⟨r, rfl, hr, hb3⟩
      have HR := hid hr
      have B3 := hid (B1.out.trans (hb3.mono B1.out.size))
      clear hr hb3
      cases r with
      | true =>
        go_wp2
        go_ret
        exact ⟨true, rfl, (by simpa using HQ.out true (by simpa using HR.out) (by simp) HN.out), B3.out⟩
      | false =>
        go_wp2
        go_ret
        exact ⟨false, rfl, (by simpa using HQ.out false (by simpa using HR.out) (by simp) HN.out), B3.out⟩
    · have d1 : decide ((n : Int) ≤ 33554432) = false := decide_eq_false (by omega)
      have HN := hid hn
      clear hn
      go_wp2
      go_ret
      exact ⟨false, rfl, ⟨fun q => (by cases q), fun q => absurd q (HN2.out HN.out)⟩, B1.out⟩
end Go.Proofs.Ythmhpenjegfbcaa
