/- The kit's KeptLists, walked. -/
import Derived.Test.YtdmdcnikhnoclabLentLists2
namespace Go.Proofs.Ytdmdcnikhnoclab
open Go.RowKit

theorem own_cells {w : World} {B n : Nat} {v : Value} {xs : List Value} {e : TypeId} (h : w.ownsRow B e 1 v n xs) (h0 : 0 < n) : ∃ g c, v = .slice (some ⟨g, 0, none⟩) n c ∧ B ≤ g ∧ n ≤ c ∧ c ≤ maxLen ∧ ∀ j, j < n → w.cell? ⟨g, j, none⟩ = some (xs.getD j undef) := by
  have hl := h.1
  rcases h.2 with ⟨_, e0⟩ | ⟨g, cap, cur, rfl, hbg, hg, hnc, hcm, hcs, htake⟩
  · omega
  · refine ⟨g, cap, rfl, hbg, hnc, hcm, fun j hj => ?_⟩
    have hjx : j < xs.length := by omega
    have := h.cells (g := g) rfl j (xs.getD j undef) (by rw [List.getElem?_eq_getElem hjx]; simp [List.getD, List.getElem?_eq_getElem hjx])
    rw [Addr.add_mid, Nat.zero_add] at this
    exact this

theorem getD_map_lent (ls : List (List Int)) (j : Nat) (hj : j < ls.length) : (ls.map lent).getD j [] = lent (ls.getD j []) := by
  simp [List.getD, List.getElem?_map, List.getElem?_eq_getElem hj]

theorem XL.elem {B : Nat} {w : World} {vL vF vE : Value} {fU eU : List Value} {ls : List (List Int)} (h : XL B w vL vF vE fU eU ls) (hb : ∀ j, ∀ x ∈ ls.getD j [], 0 ≤ x ∧ x < 256) (j : Nat) (hj : j < ls.length) : HB w (eU.getD j undef) (lent (ls.getD j [])) ∧ HB w (fU.getD j undef) (ls.getD j []) := by
  obtain ⟨h1, h2, h3, h4, h5, h6, h7⟩ := h
  have hl : eU.length = ls.length := by have := h4.1; simpa using this
  have ho := h4.2.1 j (by omega)
  rw [getD_map_lent ls j hj] at ho
  have hf := HB.of_own ho (lent_byt (hb j))
  refine ⟨hf, ?_⟩
  obtain ⟨p, c, e1, e2⟩ := h5 j hj
  rw [e1] at hf
  rw [e2]
  refine lent_pre hf ?_
  obtain ⟨p', c', e, h8, _⟩ := hf.open
  rw [lent_length] at e h8
  cases e
  omega

theorem XL.hl {B : Nat} {w : World} {vL vF vE : Value} {fU eU : List Value} {ls : List (List Int)} (h : XL B w vL vF vE fU eU ls) (hb : ∀ j, ∀ x ∈ ls.getD j [], 0 ≤ x ∧ x < 256) : HL w vL ls := by
  have he := h.elem hb
  obtain ⟨h1, h2, h3, h4, h5, h6, p, c, e1, e2⟩ := h
  obtain ⟨g, c', e, hbg, hnc, hcm, hcell⟩ := own_cells h1 (by omega)
  rw [e1] at e
  simp only [Value.slice.injEq, true_and] at e
  obtain ⟨rfl, rfl⟩ := e
  refine ⟨_, c, e2, by omega, hcm, (fun e => by cases e), fun hne => ⟨g, 0, rfl, fun j hj => ⟨_, by rw [Nat.zero_add]; exact hcell j (by omega), (he j hj).2⟩⟩⟩

set_option maxRecDepth 100000 in
set_option maxHeartbeats 2000000 in
theorem keptLists_any (B : Nat) (w : World) (vL vF vE v : Value) (fU eU : List Value) (ls : List (List Int)) (x : XL B w vL vF vE fU eU ls) (h : HL w v ls) (hn : ls.length ≤ 1048576) (hb : ∀ j, (ls.getD j []).length ≤ 1048576 ∧ ∀ x ∈ ls.getD j [], 0 ≤ x ∧ x < 256) :
    Calls Try.prog 10 #[.agg #[vL, vF, vE], v] w fun e w' => e = .returned (.bool true) ∧ Below w.heap.size w w' := by
  have HXL := hid x
  have HHL := hid h
  obtain ⟨p, c, rfl, hlc, hm, hpc, hcl⟩ := h
  unfold maxLen at hm
  have HBd := hid hb
  obtain ⟨g, cF, eF, _, hcF, hmF, hFc⟩ := own_cells x.1 (by omega)
  obtain ⟨pE, cE, eE⟩ := own_slice x.2.1
  obtain ⟨pL, cL, eL1, eL2⟩ := x.2.2.2.2.2.2
  rw [eF] at eL1
  simp only [Value.slice.injEq, true_and] at eL1
  obtain ⟨rfl, rfl⟩ := eL1
  subst eF eE eL2
  unfold maxLen at hmF
  have sz2 := size_bytes
  clear hcl hb x
  go_enter Try.func10, Try.ntmps10
  go_wp2_with fail
  obtain ⟨W0, hW0⟩ : ∃ W0, Hid (w.alloc (.cells #[.slice (some ⟨g, 0, none⟩) ls.length cF, .slice (some ⟨g, 0, none⟩) (ls.length + 70) cF, .slice pE ls.length cE] 24) = W0) := ⟨_, rfl⟩
  have B0 : Hid (Below w.heap.size w W0) := by rw [← hW0.out]; exact (Below.refl _ w).alloc (Nat.le_refl _) _
  have X0 : Hid (W0.heap[w.heap.size]? = some (.cells #[.slice (some ⟨g, 0, none⟩) ls.length cF, .slice (some ⟨g, 0, none⟩) (ls.length + 70) cF, .slice pE ls.length cE] 24 (0, 0))) := by rw [← hW0.out]; exact heap_alloc_new w _
  rw [hW0.out]
  clear hW0
  have HX0 := hid (HXL.out.away (grown_below (r := none) B0.out) (fun k e => by cases e))
  have HL0 := hid (HHL.out.below B0.out)
  refine (sameLists_any W0 _ _ ls ls (HX0.out.hl (fun j => (HBd.out j).2)) HL0.out).mono ?_
  rintro e w1 ⟨rfl, hd⟩
  rw [decide_eq_true rfl]
  have B1 := hid (B0.out.trans ((hd.below _).mono B0.out.size))
  have X1 : Hid (w1.heap[w.heap.size]? = _) := (congrArg (·[w.heap.size]?) hd.heap).trans X0.out
  have HX1 := hid (HX0.out.away hd.grownBy (fun k e => by cases e))
  have HL1 := hid (HL0.out.dr hd)
  clear hd HX0 HL0 X0 B0
  go_wp2_with fail
  go_loopw [5] (fun i wr => ∃ I : Nat, I ≤ ls.length ∧ i = .int .i64 I ∧ Hid (Below w1.heap.size w1 wr)) (fun i _ => ls.length - (intOf i).toNat)
  case atStart => exact ⟨0, Nat.zero_le _, rfl, Below.refl _ _⟩
  case round =>
    obtain ⟨I, hI, rfl, HBr⟩ := hrel
    have hXr : wr.heap[w.heap.size]? = _ := (HBr.out.block _ (Array.getElem?_eq_some_iff.1 X1.out).1).trans X1.out
    obtain ⟨_, y1, y2, _, _, _⟩ := three_cells hXr
    have HXr := hid (HX1.out.away (grown_below (r := none) HBr.out) (fun k e => by cases e))
    have HLr := hid (HL1.out.below HBr.out)
    by_cases hlt : I < ls.length
    · obtain ⟨gE, cE', eE, _, _, hmE, hcE⟩ := own_cells HXr.out.2.1 (by omega)
      simp only [Value.slice.injEq, true_and] at eE
      obtain ⟨rfl, rfl⟩ := eE
      obtain ⟨b, off, c', e2, _, _, hcl⟩ := HLr.out.ne (by omega)
      simp only [Value.slice.injEq, true_and] at e2
      obtain ⟨rfl, rfl⟩ := e2
      obtain ⟨u, hcu, hu⟩ := hcl I hlt
      have hE := hcE I hlt
      obtain ⟨hEe, _⟩ := HXr.out.elem (fun j => (HBd.out j).2) I hlt
      obtain ⟨t, HT⟩ : ∃ t, Hid (eU.getD I undef = t) := ⟨_, rfl⟩
      obtain ⟨y, HY⟩ : ∃ y, Hid (ls.getD I [] = y) := ⟨_, rfl⟩
      rw [HT.out] at hE hEe
      rw [HY.out] at hEe hu
      have hyl : y.length ≤ 140737488351232 := by rw [← HY.out]; have := (HBd.out I).1; omega
      have HE := hid hEe
      have HU := hid hu
      obtain ⟨pt, ct, et, _, _⟩ := hEe.open
      obtain ⟨pu, cu, eu, _, _⟩ := hu.open
      subst et eu
      have z0 : (0 : Int) ≤ (I : Int) := Int.natCast_nonneg _
      have z1 : (I : Int) < (ls.length : Int) := by omega
      have KC : Hid (∀ q, Calls Try.prog 30 #[.slice pt (lent y).length ct, .slice pu y.length cu] (wr.drewN q) fun e w' => e = .returned (.bool true) ∧ Hid (Below wr.heap.size wr w')) := by
        intro q
        refine (kept_any (wr.drewN q) _ _ (lent y) y (HE.out.dr ⟨q, rfl⟩) (HU.out.dr ⟨q, rfl⟩) hyl).mono ?_
        rintro e w' ⟨rfl, hb⟩
        rw [decide_eq_true rfl]
        exact ⟨rfl, ((Dr.below ⟨q, rfl⟩ _).trans hb)⟩
      have lX := World.block_lt_of_cell? wr _ y2
      have lE := World.block_lt_of_cell? wr _ hE
      have lu := World.block_lt_of_cell? wr _ hcu
      clear hcl hcE hEe hu y1 hFc
      go_wp2_with fail
      go_region_held3 (fun w' => w'.cell? ⟨w.heap.size, 2, none⟩ = some (.slice (some ⟨gE, 0, none⟩) ls.length cE) ∧ w'.cell? ⟨gE, I, none⟩ = some (.slice pt (lent y).length ct) ∧ w'.cell? ⟨b, off + I, none⟩ = some (.slice pu y.length cu))
        (first
          | go_keep
          | (refine ⟨(hBk.out.cell (p := ⟨w.heap.size, 2, none⟩) lX).trans y2, (hBk.out.cell (p := ⟨gE, I, none⟩) lE).trans hE, (hBk.out.cell (p := ⟨b, off + I, none⟩) lu).trans hcu⟩))
        ((go_at_call 30; refine (KC.out 1).mono ?_; rintro e wz ⟨rfl, hBk⟩))
      have HBr2 := hid (HBr.out.trans (hBk.out.mono HBr.out.size))
      go_wp2
      exact ⟨⟨I + 1, by omega, by go_num, HBr2⟩, by simp [intOf]; omega⟩
    · go_wp2_with fail
      go_loopw [6] (fun i wq => ∃ J : Nat, J ≤ 70 ∧ i = .int .i64 J ∧ Hid (Below w1.heap.size w1 wq)) (fun i _ => 70 - (intOf i).toNat)
      case atStart => exact ⟨0, Nat.zero_le _, rfl, HBr⟩
      case round =>
        clear HBr hXr y1 y2 HXr HLr
        obtain ⟨J, hJ, rfl, HBr⟩ := hrel
        by_cases hlt : J < 70
        · have hXr : wr.heap[w.heap.size]? = _ := (HBr.out.block _ (Array.getElem?_eq_some_iff.1 X1.out).1).trans X1.out
          obtain ⟨_, y1, y2, _, _, _⟩ := three_cells hXr
          have HXr := hid (HX1.out.away (grown_below (r := none) HBr.out) (fun k e => by cases e))
          obtain ⟨gF, cF', eF, _, _, _, hcF3⟩ := own_cells HXr.out.1 (by omega)
          simp only [Value.slice.injEq, true_and] at eF
          obtain ⟨eF, rfl⟩ := eF
          simp only [Option.some.injEq, Addr.mk.injEq, and_true] at eF
          subst eF
          have hm1 := hcF3 (ls.length + J) (by omega)
          have hm2 := HXr.out.2.2.2.2.2.1 J hlt
          obtain ⟨gm, cm, em, _, _, hmm, hcm⟩ := own_cells hm2 (by omega)
          rw [em] at hm1
          have c0 := hcm 0 (by omega)
          have c1 := hcm 1 (by omega)
          simp only [List.getD, List.getElem?_cons_zero, List.getElem?_cons_succ, Option.getD_some] at c0 c1
          have hJw : IntKind.u8.wrap (J : Int) = J := by
            have e1 : IntKind.u8.bits = 8 := rfl
            have e2 : IntKind.u8.signed = false := rfl
            simp [IntKind.wrap, e1, e2]
            omega
          have hww : IntKind.i64.wrap ((ls.length : Int) + (J : Int)) = ((ls.length + J : Nat) : Int) := by
            rw [IntKind.wrap_i64]; omega
          clear hcF3 hm2 hcm hFc
          go_wp2
          exact ⟨⟨J + 1, by omega, by go_num, HBr⟩, by simp [intOf]; omega⟩
        · go_wp2
          go_ret
          exact ⟨rfl, B1.out.trans (HBr.out.mono B1.out.size)⟩
end Go.Proofs.Ytdmdcnikhnoclab
