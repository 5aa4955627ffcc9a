/- The kit's OverLists, walked: what it may turn. -/
import Derived.Test.YtdmdcnikhnoclabKeptLists2
namespace Go.Proofs.Ytdmdcnikhnoclab
open Go.RowKit

/-- The rows of a Lists whose bytes may have been written over. -/
def XO (B : Nat) (w : World) (vF vE : Value) (fU eU : List Value) (ls : List (List Int)) : Prop :=
  w.ownsRow B 26 1 vF (ls.length + 70) fU ∧ w.ownsRow B 26 1 vE ls.length eU ∧ ∀ j, j < ls.length → ∃ ys, w.ownsRow B 5 1 (eU.getD j undef) ((ls.getD j []).length + 70) ys

theorem XO.away {B : Nat} {w w' : World} {vF vE : Value} {fU eU : List Value} {ls : List (List Int)} (h : XO B w vF vE fU eU ls) (hg : w.grownBy w' none) : XO B w' vF vE fU eU ls :=
  ⟨own_away h.1 hg (fun k e => by cases e), own_away h.2.1 hg (fun k e => by cases e), fun j hj => by obtain ⟨ys, hy⟩ := h.2.2 j hj; exact ⟨ys, own_away hy hg (fun k e => by cases e)⟩⟩

theorem XL.xo {B : Nat} {w : World} {vL vF vE : Value} {fU eU : List Value} {ls : List (List Int)} (h : XL B w vL vF vE fU eU ls) : XO B w vF vE fU eU ls := by
  obtain ⟨h1, h2, h3, h4, h5, h6, h7⟩ := h
  refine ⟨h1, h2, fun j hj => ?_⟩
  have hl : eU.length = ls.length := by have := h4.1; simpa using this
  have ho := h4.2.1 j (by omega)
  rw [getD_map_lent ls j hj, lent_length] at ho
  exact ⟨_, ho⟩

set_option maxRecDepth 100000 in
set_option maxHeartbeats 2000000 in
theorem overLists_any3 (B N1 : Nat) (w : World) (vL vF vE : Value) (fU eU : List Value) (ls : List (List Int)) (x : XL B w vL vF vE fU eU ls) (hN : N1 ≤ w.heap.size) (hF : ∀ k, vF.ownBlock = some k → k < N1) (hE : ∀ j, j < ls.length → ∀ k, (eU.getD j undef).ownBlock = some k → k < N1) (hn : ls.length ≤ 1048576) (hb : ∀ j, (ls.getD j []).length ≤ 1048576) :
    Calls Try.prog 11 #[.agg #[vL, vF, vE]] w fun e w' => e = .returned (.tuple #[]) ∧ Fr (fun k => B ≤ k ∧ k < N1) w w' ∧ HL w' vL (List.replicate ls.length [1, 2, 3]) := by
  have HXO := hid x.xo
  have hel : eU.length = ls.length := by have := x.2.2.2.1.1; simpa using this
  have HAP := hid x.2.2.2.1.2.2
  have HBd := hid hb
  have HEn := hid hE
  obtain ⟨gF, cF, eF, hBF, hcF, hmF, _⟩ := own_cells x.1 (by omega)
  obtain ⟨pE, cE, eE⟩ := own_slice x.2.1
  obtain ⟨pL, cL, eL1, eL2⟩ := x.2.2.2.2.2.2
  rw [eF] at eL1
  simp only [Value.slice.injEq, true_and] at eL1
  obtain ⟨rfl, rfl⟩ := eL1
  subst eF eE eL2
  have hFN := hF gF rfl
  have HCM := hid hmF
  unfold maxLen at hmF
  obtain ⟨W0, hW0⟩ : ∃ W0, Hid (w.alloc (.cells #[.slice (some ⟨gF, 0, none⟩) ls.length cF, .slice (some ⟨gF, 0, none⟩) (ls.length + 70) cF, .slice pE ls.length cE] 24) = W0) := ⟨_, rfl⟩
  have F0 : Hid (Fr (fun k => B ≤ k ∧ k < N1) w W0) := by rw [← hW0.out]; exact (Fr.refl _ w).step (World.grownBy_alloc w _ none) (fun k e => by cases e)
  have X0 : Hid (W0.heap[w.heap.size]? = some (.cells #[.slice (some ⟨gF, 0, none⟩) ls.length cF, .slice (some ⟨gF, 0, none⟩) (ls.length + 70) cF, .slice pE ls.length cE] 24 (0, 0))) := by rw [← hW0.out]; exact heap_alloc_new w _
  have O0 : Hid (XO B W0 (.slice (some ⟨gF, 0, none⟩) (ls.length + 70) cF) (.slice pE ls.length cE) fU eU ls) := by rw [← hW0.out]; exact HXO.out.away (World.grownBy_alloc w _ none)
  clear hb hE hF x
  go_enter Try.func11, Try.ntmps11
  go_wp2_with fail
  rw [hW0.out]
  clear hW0
  go_loopw [2] (fun i wr => ∃ I : Nat, I ≤ ls.length ∧ i = .int .i64 I ∧ Hid (Fr (fun k => B ≤ k ∧ k < N1) w wr) ∧ Hid (wr.heap[w.heap.size]? = some (.cells #[.slice (some ⟨gF, 0, none⟩) ls.length cF, .slice (some ⟨gF, 0, none⟩) (ls.length + 70) cF, .slice pE ls.length cE] 24 (0, 0))) ∧ Hid (XO B wr (.slice (some ⟨gF, 0, none⟩) (ls.length + 70) cF) (.slice pE ls.length cE) fU eU ls)) (fun i _ => ls.length - (intOf i).toNat)
  case atStart => exact ⟨0, Nat.zero_le _, rfl, F0, X0, O0⟩
  case round =>
    clear F0 X0 O0
    obtain ⟨I, hI, rfl, HF, HXr, HO⟩ := hrel
    obtain ⟨_, y1, y2, _, _, _⟩ := three_cells HXr.out
    by_cases hlt : I < ls.length
    · obtain ⟨gE, cE', eE, _, _, hmE, hcE⟩ := own_cells HO.out.2.1 (by omega)
      simp only [Value.slice.injEq, true_and] at eE
      obtain ⟨rfl, rfl⟩ := eE
      unfold maxLen at hmE
      have hcell := hcE I hlt
      obtain ⟨ys, hy⟩ := HO.out.2.2 I hlt
      obtain ⟨t, HT⟩ : ∃ t, Hid (eU.getD I undef = t) := ⟨_, rfl⟩
      obtain ⟨m, HM⟩ : ∃ m, Hid ((ls.getD I []).length = m) := ⟨_, rfl⟩
      rw [HT.out] at hcell hy
      rw [HM.out] at hy
      have HY := hid hy
      obtain ⟨pt, ct, et⟩ := own_slice hy
      subst et
      have hln := HBd.out I
      rw [HM.out] at hln
      clear hcE hy
      go_wp2_with fail
      refine (over_any wr B _ (m + 70) ys HY.out (by omega)).mono ?_
      rintro e w2 ⟨rfl, ⟨ys2, hy2⟩, hg2⟩
      have bk := own_BT HY.out
      have F2 : Hid (Fr (fun k => B ≤ k ∧ k < N1) w w2) := HF.out.step hg2 (fun k e => .inl ⟨(HY.out.lt k e).1, HEn.out I hlt k (by rw [HT.out]; exact e)⟩)
      have X2 : Hid (w2.heap[w.heap.size]? = some (.cells #[.slice (some ⟨gF, 0, none⟩) ls.length cF, .slice (some ⟨gF, 0, none⟩) (ls.length + 70) cF, .slice (some ⟨gE, 0, none⟩) ls.length cE] 24 (0, 0))) := by
        show _ = _
        rw [hg2.block w.heap.size (Array.getElem?_eq_some_iff.1 HXr.out).1 (fun e => own_block_ne HY.out HXr.out (by decide) e.symm)]
        exact HXr.out
      have O2 : Hid (XO B w2 (.slice (some ⟨gF, 0, none⟩) (ls.length + 70) cF) (.slice (some ⟨gE, 0, none⟩) ls.length cE) fU eU ls) := by
        refine ⟨own_away HO.out.1 hg2 (fun k e => by obtain ⟨cur, fz, hb⟩ := bk k e; exact own_block_ne HO.out.1 hb (by decide)), own_away HO.out.2.1 hg2 (fun k e => by obtain ⟨cur, fz, hb⟩ := bk k e; exact own_block_ne HO.out.2.1 hb (by decide)), fun j hj => ?_⟩
        by_cases hji : j = I
        · subst hji
          rw [HT.out, HM.out]
          exact ⟨ys2, hy2⟩
        · obtain ⟨zs, hz⟩ := HO.out.2.2 j hj
          refine ⟨zs, hz.kept hg2 ?_⟩
          have := HAP.out j I (by omega) (by omega) hji
          rw [HT.out] at this
          exact this
      clear hg2 hy2 bk
      go_wp2
      exact ⟨⟨I + 1, by omega, by go_num, F2, X2, O2⟩, by simp [intOf]; omega⟩
    · have hcur : ∃ cur, wr.heap[gF]? = some (.cells cur 26 (0, 0)) ∧ ls.length + 70 ≤ cur.size := by
        rcases HO.out.1.2 with ⟨e, h0⟩ | ⟨g, cap, cur, e, _, hh, h3, _, h5, _⟩
        · omega
        · simp only [Value.slice.injEq, Option.some.injEq, Addr.mk.injEq, and_true, true_and] at e
          obtain ⟨rfl, rfl⟩ := e
          exact ⟨cur, hh, by omega⟩
      have HCu := hid hcur
      clear hcur HO
      go_wp2_with fail
      clear y1 y2
      go_loopw [3] (fun i wq => ∃ J : Nat, J ≤ ls.length + 70 ∧ i = .int .i64 J ∧ Hid (Fr (fun k => B ≤ k ∧ k < N1) w wq) ∧ Hid (wq.heap[w.heap.size]? = some (.cells #[.slice (some ⟨gF, 0, none⟩) ls.length cF, .slice (some ⟨gF, 0, none⟩) (ls.length + 70) cF, .slice pE ls.length cE] 24 (0, 0))) ∧ Hid (∃ cur, wq.heap[gF]? = some (.cells cur 26 (0, 0)) ∧ ls.length + 70 ≤ cur.size ∧ ∀ q, q < J → ∃ g3, cur[q]? = some (.slice (some ⟨g3, 0, none⟩) 3 3) ∧ wq.heap[g3]? = some (.cells #[.int .u8 1, .int .u8 2, .int .u8 3] 5 (0, 0)))) (fun i _ => ls.length + 70 - (intOf i).toNat)
      case atStart =>
        obtain ⟨cur, hq1, hq2⟩ := HCu.out
        exact ⟨0, Nat.zero_le _, rfl, HF, HXr, cur, hq1, hq2, fun q hq => by omega⟩
      case round =>
        clear HF HXr HCu
        obtain ⟨J, hJ, rfl, HF, HXr, HCu⟩ := hrel
        obtain ⟨_, y1, y2, _, _, _⟩ := three_cells HXr.out
        by_cases hlt : J < ls.length + 70
        · obtain ⟨cur, hcu, hsz, hq3⟩ := HCu.out
          have HQ3 := hid hq3
          have HCU := hid hcu
          clear hq3
          have lF : gF < wr.heap.size := (Array.getElem?_eq_some_iff.1 hcu).1
          have lX : w.heap.size < wr.heap.size := (Array.getElem?_eq_some_iff.1 HXr.out).1
          obtain ⟨W1, hW1⟩ : ∃ W1, wr.alloc (.cells #[.int .u8 1, .int .u8 2, .int .u8 3] 5) = W1 := ⟨_, rfl⟩
          have ga := World.grownBy_alloc wr (.cells #[.int .u8 1, .int .u8 2, .int .u8 3] 5) none
          rw [hW1] at ga
          have hcu1 : W1.heap[gF]? = some (.cells cur 26 (0, 0)) := (ga.block gF lF (by simp)).trans hcu
          have hx1 : W1.heap[w.heap.size]? = _ := (ga.block w.heap.size lX (by simp)).trans HXr.out
          obtain ⟨z, hz⟩ : ∃ z, W1.cell? ⟨gF, J, none⟩ = some z := ⟨cur[J]'(by omega), by simp [World.cell?, hcu1, Array.getElem?_eq_getElem (show J < cur.size by omega)]⟩
          have hfz : W1.frozen? ⟨gF, J, none⟩ = false := by simp [World.frozen?, hcu1]
          have FIN : Hid (Hid (Fr (fun k => B ≤ k ∧ k < N1) w (W1.setCell ⟨gF, J, none⟩ (.slice (some ⟨wr.heap.size, 0, none⟩) 3 3))) ∧ Hid ((W1.setCell ⟨gF, J, none⟩ (.slice (some ⟨wr.heap.size, 0, none⟩) 3 3)).heap[w.heap.size]? = some (.cells #[.slice (some ⟨gF, 0, none⟩) ls.length cF, .slice (some ⟨gF, 0, none⟩) (ls.length + 70) cF, .slice pE ls.length cE] 24 (0, 0))) ∧ Hid (∃ cur, (W1.setCell ⟨gF, J, none⟩ (.slice (some ⟨wr.heap.size, 0, none⟩) 3 3)).heap[gF]? = some (.cells cur 26 (0, 0)) ∧ ls.length + 70 ≤ cur.size ∧ ∀ q, q < J + 1 → ∃ g3, cur[q]? = some (.slice (some ⟨g3, 0, none⟩) 3 3) ∧ (W1.setCell ⟨gF, J, none⟩ (.slice (some ⟨wr.heap.size, 0, none⟩) 3 3)).heap[g3]? = some (.cells #[.int .u8 1, .int .u8 2, .int .u8 3] 5 (0, 0)))) := by
            have gs := grown_set W1 gF J (.slice (some ⟨wr.heap.size, 0, none⟩) 3 3)
            have hnew : W1.heap[wr.heap.size]? = some (.cells #[.int .u8 1, .int .u8 2, .int .u8 3] 5 (0, 0)) := by rw [← hW1]; exact heap_alloc_new wr _
            refine ⟨(HF.out.step ga (fun k e => by cases e)).step gs (fun k e => by cases e; exact .inl ⟨hBF, hFN⟩), (gs.block w.heap.size (Array.getElem?_eq_some_iff.1 hx1).1 (by simp; omega)).trans hx1, _, heap_setCell_same W1 gF J _ _ (.slice (some ⟨wr.heap.size, 0, none⟩) 3 3) hcu1, by simp; exact hsz, fun q hq => ?_⟩
            by_cases hqJ : q = J
            · subst hqJ
              refine ⟨wr.heap.size, Array.getElem?_setIfInBounds_self_of_lt (by omega), ?_⟩
              rw [heap_setCell_other _ _ _ _ (show wr.heap.size ≠ gF by omega)]
              exact hnew
            · obtain ⟨g3, e1, e2⟩ := HQ3.out q (by omega)
              have hg3 : g3 < wr.heap.size := (Array.getElem?_eq_some_iff.1 e2).1
              have hne : g3 ≠ gF := fun e => by rw [e, HCU.out] at e2; simp only [Option.some.injEq, Obj.cells.injEq] at e2; exact absurd e2.2.1 (by decide)
              refine ⟨g3, by rw [Array.getElem?_setIfInBounds_ne (by omega)]; exact e1, ?_⟩
              rw [heap_setCell_other _ _ _ _ hne, ga.block g3 hg3 (by simp)]
              exact e2
          have z0 : (0 : Int) ≤ (J : Int) := Int.natCast_nonneg _
          have z1 : (J : Int) < (ls.length : Int) + 70 := by omega
          clear hcu1 hx1 hcu ga
          go_wp2
          exact ⟨⟨J + 1, by omega, by go_num, FIN.out.1, FIN.out.2.1, FIN.out.2.2⟩, by simp [intOf]; omega⟩
        · have HLf : Hid (HL wr (.slice (some ⟨gF, 0, none⟩) ls.length cF) (List.replicate ls.length [1, 2, 3])) := by
            obtain ⟨cur, hcu, hsz, hq3⟩ := HCu.out
            refine ⟨_, cF, by simp, by simp; omega, HCM.out, (fun e => by cases e), fun hne => ⟨gF, 0, rfl, fun j hj => ?_⟩⟩
            simp only [List.length_replicate] at hj
            obtain ⟨g3, e1, e2⟩ := hq3 j (by omega)
            refine ⟨.slice (some ⟨g3, 0, none⟩) 3 3, by rw [cell_of_row _ _ _ _ _ _ hcu, Nat.zero_add]; exact e1, ?_⟩
            have eg : (List.replicate ls.length [(1 : Int), 2, 3]).getD j [] = [1, 2, 3] := by simp [List.getD, hj]
            rw [eg]
            refine ⟨⟨_, 3, rfl, by decide, by decide, (fun e => by cases e), fun _ => ⟨g3, 0, rfl, fun i hi => ?_⟩⟩, by simp⟩
            rw [cell_of_row _ _ _ _ _ _ e2]
            match i, hi with
            | 0, _ => rfl
            | 1, _ => rfl
            | 2, _ => rfl
          go_wp2
          first | go_ret | go_end0
          exact ⟨rfl, HF.out, HLf.out⟩
end Go.Proofs.Ytdmdcnikhnoclab
