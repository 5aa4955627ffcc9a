/- The document's tree: Width, node at a leaf, Build, walked. -/
import Derived.Test.YtjmlpkemjafifaaDoorTrM
import Derived.Test.YtjmlpkemjafifaaDoorTgTwo
set_option linter.unusedVariables false
set_option linter.unusedSimpArgs false
namespace Go.Proofs.YtjmlpkemjafifaaDoor
open Go.RowKit

theorem wdN_is {n w : Nat} (hp : Pow w) (h1 : n ≤ w) (h2 : w = 1 ∨ w < 2 * n) (h3 : 1 ≤ n) : wdN n = w := by
  unfold wdN
  rcases hp with rfl | rfl | rfl | rfl | rfl | rfl | rfl | rfl | rfl | rfl <;> (repeat' split) <;> omega
theorem pow_double {w : Nat} (hp : Pow w) (h : w < 512) : Pow (w * 2) := by
  unfold Pow at hp ⊢
  omega
set_option maxRecDepth 100000 in
theorem rwidth_ok (w : World) (n : Nat) (h1 : 1 ≤ n) (h2 : n ≤ 512) : Calls Tryd.prog 51 #[.int .i64 (n : Int)] w fun e w' => e = .returned (.int .i64 (wdN n : Nat)) ∧ w' = w := by
  go_enter Tryd.func51, Tryd.ntmps51
  go_wp2
  go_loopw [3] (fun i wr => ∃ k : Nat, i = .int .i64 k ∧ Hid (Pow k) ∧ Hid (k = 1 ∨ k < 2 * n) ∧ k ≤ 512 ∧ 1 ≤ k ∧ Hid (wr = w)) (fun i _ => 1024 - (intOf i).toNat)
  case atStart => exact ⟨1, rfl, Or.inl rfl, Or.inl rfl, by omega, by omega, rfl⟩
  case round =>
    obtain ⟨k, rfl, HP, HK, hk5, hk1, HWW⟩ := hrel
    by_cases hlt : k < n
    · have ew : IntKind.i64.wrap ((k : Int) * 2) = (k : Int) * 2 := by rw [IntKind.wrap_i64]; omega
      have HP2 : Hid (Pow (k * 2)) := pow_double HP.out (by omega)
      have hk2 : k * 2 ≤ 512 := by have := HP2.out; unfold Pow at this; omega
      go_wp2
      exact ⟨⟨k * 2, by congr 1, HP2, Or.inr (by omega), hk2, by omega, HWW⟩, by simp [intOf]; omega⟩
    · have HE : Hid (wdN n = k) := wdN_is HP.out (by omega) HK.out h1
      go_wp2
      go_ret
      exact ⟨by rw [HE.out]; rfl, HWW.out⟩
set_option maxRecDepth 100000 in
theorem rwidth_bad (w : World) (n : Int) (h : ¬ (1 ≤ n ∧ n ≤ 512)) : Calls Tryd.prog 51 #[.int .i64 n] w fun e w' => e = .returned (.int .i64 0) ∧ w' = w := by
  by_cases h1 : n < 1
  · clear h
    go_enter Tryd.func51, Tryd.ntmps51
    go_wp2
    go_ret
    exact ⟨rfl, rfl⟩
  · have h2 : 512 < n := by omega
    have h3 : 1 ≤ n := by omega
    clear h
    go_enter Tryd.func51, Tryd.ntmps51
    go_wp2
    go_ret
    exact ⟨rfl, rfl⟩
set_option maxRecDepth 100000 in
set_option maxHeartbeats 2000000 in
theorem rleaf_any (w : World) (v : Value) (ls : List (List Int)) (W j : Nat) (h : HDs w v ls) (hW : W ≤ 512) (hj : j < 512) :
    Calls Tryd.prog 52 #[v, .int .i64 (W : Int), .int .i64 ((W : Int) + (j : Int))] w fun e w' => e = .returned (.agg (cellsB (lf ls j))) ∧ Below w.heap.size w w' := by
  obtain ⟨p, c, ev, hc, hm⟩ := h.open
  unfold maxLen at hm
  have HN := hid h.ne
  have HD := hid h.2
  obtain ⟨n, HNL⟩ : ∃ n, Hid (ls.length = n) := ⟨_, rfl⟩
  rw [HNL.out] at ev hc
  subst ev
  obtain ⟨zd, HZD⟩ : ∃ zd, Hid (cellsB zeros32 = zd) := ⟨_, rfl⟩
  obtain ⟨W0, hW0⟩ : ∃ W0, Hid (w.alloc (.cells zd 28) = W0) := ⟨_, rfl⟩
  have HB0 : Hid (Below w.heap.size w W0) := by rw [← hW0.out]; exact (Below.refl _ w).alloc (Nat.le_refl _) _
  have HR0 : Hid (W0.heap[w.heap.size]? = some (.cells zd 28 (0, 0))) := by rw [← hW0.out]; exact heap_alloc_new w _
  have hzs : zd.size = 32 := by rw [← HZD.out, cellsB_size, zeros32_length]
  have HZS := hid hzs
  have hlD := lf_D h.2 j
  obtain ⟨yd, HYD⟩ : ∃ yd, Hid (cellsB (lf ls j) = yd) := ⟨_, rfl⟩
  have hys : yd.size = 32 := by rw [← HYD.out, cellsB_size, hlD.1]
  have HIy : Hid ((Tryd.prog.info? 28).map (·.size) = some yd.size) := by rw [hys]; exact size_digest
  have H1y : Hid (yd.all (·.oneCell') = true) := by rw [← HYD.out]; exact cellsB_one _
  have HZY : Hid (zd.size = yd.size) := by refine hid ?_; rw [hzs, hys]
  have ew : IntKind.i64.wrap ((W : Int) + (j : Int) - (W : Int)) = (j : Int) := by rw [IntKind.wrap_i64]; omega
  have ew32 : IntKind.u32.wrap (j : Int) = (j : Int) := by rw [IntKind.wrap_u32]; omega
  rw [HYD.out]
  clear h hzs hys
  by_cases hjn : j < n
  · obtain ⟨b, off, c', e1, _, _, hbl, hr⟩ := HN.out (by rw [HNL.out]; omega)
    rw [HNL.out] at e1
    simp only [Value.slice.injEq] at e1
    obtain ⟨rfl, _, _⟩ := e1
    have HL : Hid (lf ls j = ls.getD j []) := if_pos (by rw [HNL.out]; exact hjn)
    have HRG : Hid (W0.rangeAt b (off + j * 32) (dc (lf ls j))) := by rw [HL.out]; exact range_below (hr j (by rw [HNL.out]; exact hjn)) HB0.out hbl
    have HSD := hid (size_dig hlD)
    have HDY : Hid ((dc (lf ls j)).toArray = yd) := by rw [dc_arr]; exact HYD
    clear hr hlD
    go_enter Tryd.func52, Tryd.ntmps52
    go_wp2_with (first | (refine wpList_alloc_digest rfl rfl ?_; rw [HZD.out, hW0.out]) | (refine wpList_load_mid rfl 28 _ rfl b (off + j * 32) rfl (dc (lf ls j)) _ HRG.out Tryd.underlying28 rfl HSD.out ?_; rw [HDY.out]) | (refine wpList_store_row rfl 28 _ _ rfl w.heap.size yd rfl rfl 28 zd HR0.out HIy.out HZY.out H1y.out ?_))
    refine bodyPost_ret (v := .agg yd) (results_cell_row (p := 6) (ty := 28) rfl _ _ w.heap.size 28 yd (0, 0) _ rfl (setRow_heap _ _ _ _ _ _ HR0.out) Tryd.underlying28 rfl HIy.out) rfl ?_
    exact ⟨rfl, below_setRow HB0.out (Nat.le_refl _) _⟩
  · have HL : Hid (pdL j = lf ls j) := (if_neg (by rw [HNL.out]; exact hjn)).symm
    have CP := hid (rpad5_any W0 j (by omega))
    rw [HL.out, HYD.out] at CP
    clear hlD
    go_enter Tryd.func52, Tryd.ntmps52
    go_wp2_with (first | (refine wpList_alloc_digest rfl rfl ?_; rw [HZD.out, hW0.out]) | fail)
    refine CP.out.mono ?_
    rintro e w1 ⟨rfl, hB1⟩
    have HR1 : Hid (w1.heap[w.heap.size]? = some (.cells zd 28 (0, 0))) := (hB1.block _ (Array.getElem?_eq_some_iff.1 HR0.out).1).trans HR0.out
    have BL := hid (HB0.out.trans (hB1.mono HB0.out.size))
    clear hB1 CP
    go_wp2_with (refine wpList_store_row rfl 28 _ _ rfl w.heap.size yd rfl rfl 28 zd HR1.out HIy.out HZY.out H1y.out ?_)
    refine bodyPost_ret (v := .agg yd) (results_cell_row (p := 6) (ty := 28) rfl _ _ w.heap.size 28 yd (0, 0) _ rfl (setRow_heap _ _ _ _ _ _ HR1.out) Tryd.underlying28 rfl HIy.out) rfl ?_
    exact ⟨rfl, below_setRow BL.out (Nat.le_refl _) _⟩
set_option maxRecDepth 100000 in
set_option maxHeartbeats 8000000 in
theorem rbuild_ok (w : World) (v : Value) (ls : List (List Int)) (h : HDs w v ls) (h1 : 1 ≤ ls.length) (h2 : ls.length ≤ 512) :
    Calls Tryd.prog 20 #[v] w fun e w' => ∃ g N, e = .returned (.tuple #[.slice (some ⟨g, 0, none⟩) N.length N.length, .int .i64 0]) ∧ w.heap.size ≤ g ∧ OD w' g N ∧ IsT ls (wdN ls.length) N ∧ Below w.heap.size w w' := by
  obtain ⟨p, c, ev, hc, hm⟩ := h.open
  have HV := hid h
  have CW := hid (rwidth_ok w ls.length h1 h2)
  have hWg := wdN_ge ls.length h2
  have hWl := wdN_le ls.length
  obtain ⟨n, HN⟩ : ∃ n, Hid (ls.length = n) := ⟨_, rfl⟩
  rw [HN.out] at ev h1 h2 hWg CW hc hWl
  rw [HN.out]
  generalize wdN n = W at CW hWg hWl ⊢
  obtain ⟨hW5, hW1⟩ := hWl
  obtain ⟨C, hmk, hod⟩ := run_make_dig w (2 * W - 1) (by omega)
  rw [show ((2 * W - 1 : Nat) : Int) = 2 * (W : Int) - 1 by omega] at hmk
  obtain ⟨W3, hW3⟩ : ∃ W3, Hid (w.alloc (.cells C 28) = W3) := ⟨_, rfl⟩
  rw [hW3.out] at hmk hod
  have HO3 := hid hod
  have BL3 : Hid (Below w.heap.size w W3) := by rw [← hW3.out]; exact (Below.refl _ w).alloc (Nat.le_refl _) _
  obtain ⟨g, HG⟩ : ∃ g, Hid (w.heap.size = g) := ⟨_, rfl⟩
  rw [HG.out] at hmk HO3
  have hg : w.heap.size ≤ g := by rw [HG.out]; omega
  have ew1 : IntKind.i64.wrap (2 * (W : Int)) = 2 * (W : Int) := by rw [IntKind.wrap_i64]; omega
  have ew2 : IntKind.i64.wrap (2 * (W : Int) - 1) = 2 * (W : Int) - 1 := by rw [IntKind.wrap_i64]; omega
  subst ev
  clear h hod
  go_enter Tryd.func20, Tryd.ntmps20
  go_wp2_with fail
  refine CW.out.mono ?_
  rintro e w1 ⟨rfl, rfl⟩
  have hW0 : ((W : Int) == 0) = false := by simp; omega
  have HO4 : Hid (OD W3 g (List.replicate (2 * W - 1) zeros32) ∧ (List.replicate (2 * W - 1) zeros32).length = 2 * W - 1) := ⟨HO3.out, by rw [List.length_replicate]⟩
  clear CW HO3
  go_wp2
  go_loopw [6] (fun i wr => ∃ (x : Nat) (N : List (List Int)), x ≤ 2 * W - 1 ∧ i = .int .i64 x ∧ Hid (OD wr g N) ∧ Hid (N.length = 2 * W - 1) ∧ Hid (∀ j, x < W + j → j < W → N.getD (W - 1 + j) [] = lf ls j) ∧ Hid (∀ y, x < y → y < W → InR N y) ∧ Hid (Below w1.heap.size w1 wr)) (fun i _ => (intOf i).toNat)
  case atStart => exact ⟨2 * W - 1, _, Nat.le_refl _, by congr 1; omega, HO4.out.1, HO4.out.2, (fun j a1 a2 => by omega), (fun y a1 a2 => by omega), BL3⟩
  case round =>
    clear hmk HO4 BL3
    obtain ⟨x, N, hx, rfl, HO, HL, HLf, HIn, HB⟩ := hrel
    have hsz := HB.out.size
    by_cases hx1 : 1 ≤ x
    · have hx1i : (1 : Int) ≤ (x : Int) := by omega
      have ewx : IntKind.i64.wrap ((x : Int) - 1) = (x : Int) - 1 := by rw [IntKind.wrap_i64]; omega
      have etx : ((x : Int) - 1).toNat = x - 1 := by omega
      by_cases hxW : W ≤ x
      · obtain ⟨j, hj⟩ : ∃ j, x = W + j := ⟨x - W, by omega⟩
        have CN := hid (rleaf_any wr _ ls W j (HV.out.below HB.out) hW5 (by omega))
        obtain ⟨nd, HND⟩ : ∃ nd, Hid (lf ls j = nd) := ⟨_, rfl⟩
        have HNDD : Hid (D32 nd) := by rw [← HND.out]; exact lf_D HV.out.2 j
        rw [HND.out, show (W : Int) + (j : Int) = (x : Int) by omega] at CN
        have HJ := hid hj
        have hxWi : (W : Int) ≤ (x : Int) := by omega
        clear hj
        go_wp2_with fail
        refine CN.out.mono ?_
        rintro e w5 ⟨rfl, hB5⟩
        have HO5 := hid (HO.out.below hB5)
        have BL5 := hid (HB.out.trans (hB5.mono hsz))
        have hps : (cellsB nd).size = 32 := by rw [cellsB_size, HNDD.out.1]
        have HT : Hid (w5.there g ((x - 1) * 32) (cellsB nd).size) := by
          rw [hps]
          exact HO5.out.there (x - 1) (by rw [HL.out]; omega)
        have SD : Hid ((Tryd.prog.info? 28).map (·.size) = some (cellsB nd).size) := by rw [hps]; exact size_digest
        have OD1 : Hid ((cellsB nd).all (·.oneCell') = true) := cellsB_one _
        obtain ⟨pc, HPC⟩ : ∃ pc, Hid (cellsB nd = pc) := ⟨_, rfl⟩
        have hpl : pc.toList = dc nd := by rw [← HPC.out]; rfl
        rw [HPC.out] at HT SD OD1 ⊢
        clear hB5 CN hps
        go_wp2_with (refine wpList_store_mid rfl 28 _ _ rfl g ((x - 1) * 32) pc rfl rfl HT.out SD.out OD1.out ?_)
        have hlm : x - 1 < N.length := by rw [HL.out]; omega
        refine ⟨⟨x - 1, N.set (x - 1) nd, by omega, by congr 1; omega, HO5.out.store _ hlm HNDD.out, by rw [List.length_set]; exact HL, fun q a1 a2 => ?_, fun y a1 a2 => by omega, below_setCells BL5.out hg _ _⟩, by simp [intOf]; omega⟩
        have hjx := HJ.out
        rw [getD_set N _ _ _ hlm]
        by_cases e : x - 1 = W - 1 + q
        · rw [if_pos e, show q = j by omega, HND.out]
        · rw [if_neg e]
          exact HLf.out q (by omega) a2
      · have hxW2 : (x : Int) < (W : Int) := by omega
        have ha1 := getD_D HO.out.2.2 (2 * x - 1) (by rw [HL.out]; omega)
        have ha2 := getD_D HO.out.2.2 (2 * x) (by rw [HL.out]; omega)
        have Ra1 := hid (HO.out.2.1 (2 * x - 1) (by rw [HL.out]; omega))
        have Ra2 := hid (HO.out.2.1 (2 * x) (by rw [HL.out]; omega))
        obtain ⟨nd, HND⟩ : ∃ nd, Hid (ndL (N.getD (2 * x - 1) []) (N.getD (2 * x) []) = nd) := ⟨_, rfl⟩
        have HNDD : Hid (D32 nd) := by rw [← HND.out]; exact ndL_D _ _
        have HNDG := hid HND.out
        generalize N.getD (2 * x - 1) [] = l at ha1 Ra1 HND
        generalize N.getD (2 * x) [] = r at ha2 Ra2 HND
        have ewl : IntKind.i64.wrap (2 * (x : Int)) = 2 * (x : Int) := by rw [IntKind.wrap_i64]; omega
        have ewl1 : IntKind.i64.wrap (2 * (x : Int) - 1) = 2 * (x : Int) - 1 := by rw [IntKind.wrap_i64]; omega
        have et1 : (2 * (x : Int) - 1).toNat = 2 * x - 1 := by omega
        have et2 : (2 * (x : Int)).toNat = 2 * x := by omega
        have hlen : N.length = 2 * W - 1 := HL.out
        have hps : (cellsB nd).size = 32 := by rw [cellsB_size, HNDD.out.1]
        have SD : Hid ((Tryd.prog.info? 28).map (·.size) = some (cellsB nd).size) := by rw [hps]; exact size_digest
        have OD1 : Hid ((cellsB nd).all (·.oneCell') = true) := cellsB_one _
        have hsl : (dc l).length = 32 := by rw [dc_length, ha1.1]
        have hsr : (dc r).length = 32 := by rw [dc_length, ha2.1]
        have hsn : (dc nd).length = 32 := by rw [dc_length, HNDD.out.1]
        have HSL := hid (size_dig ha1)
        have HSR := hid (size_dig ha2)
        have CN := hid (fun w' => rnode_any w' l r ha1 ha2)
        rw [HND.out] at CN
        have hgl := HO.out.lt
        have HLN := hid hlen
        have HSN := hid (And.intro hsl (And.intro hsr hsn))
        clear hlen hsl hsr hsn
        go_wp2
        refine wp_region_held_drew (S := fun W' => W'.rangeAt g ((2 * x - 1) * 32) (dc l) ∧ W'.rangeAt g (2 * x * 32) (dc r)) (by kernel_rfl) ⟨Ra1.out, Ra2.out⟩ (fun hHeld => ?_)
        have HS := hid hHeld
        clear hHeld
        change wpAnyH _ _ _ _ _ _ _ _ (World.drew _)
        refine wpAnyH_take (i := 0) (v := ?_) rfl (by kernel_rfl) (by kernel_rfl) (by kernel_rfl) (fun _ _ _ h => h) (Or.inl ⟨by rfl, ?q0⟩) HS.out ?_
        case q0 => intro w hSw; go_simp; rfl
        simp only [Act.put, List.getElem_toArray, List.getElem_cons_zero, List.getElem_cons_succ, List.setIfInBounds_toArray, List.set_cons_zero, List.set_cons_succ]
        refine wpAnyH_take (i := 1) (v := ?_) rfl (by kernel_rfl) (by kernel_rfl) (by kernel_rfl) (fun _ _ _ h => h) (Or.inl ⟨by rfl, ?q1⟩) HS.out ?_
        case q1 => intro w hSw; go_simp; rfl
        simp only [Act.put, List.getElem_toArray, List.getElem_cons_zero, List.getElem_cons_succ, List.setIfInBounds_toArray, List.set_cons_zero, List.set_cons_succ]
        refine wpAnyH_take (i := 2) (v := .int .i64 ((x : Int) - 1)) rfl (by kernel_rfl) (by kernel_rfl) (by kernel_rfl) (fun _ _ _ h => h) (Or.inl ⟨by rfl, ?q2⟩) HS.out ?_
        case q2 => intro w hSw; go_simp
        simp only [Act.put, List.getElem_toArray, List.getElem_cons_zero, List.getElem_cons_succ, List.setIfInBounds_toArray, List.set_cons_zero, List.set_cons_succ]
        refine wpAnyH_take (i := 3) (v := ?_) rfl (by kernel_rfl) (by kernel_rfl) (by kernel_rfl) (fun _ _ _ h => h) (Or.inl ⟨by rfl, ?q3⟩) HS.out ?_
        case q3 => intro w hSw; go_simp; rfl
        simp only [Act.put, List.getElem_toArray, List.getElem_cons_zero, List.getElem_cons_succ, List.setIfInBounds_toArray, List.set_cons_zero, List.set_cons_succ]
        refine wpAnyH_take (i := 4) (v := ?_) rfl (by kernel_rfl) (by kernel_rfl) (by kernel_rfl) (fun _ _ _ h => h) (Or.inl ⟨by rfl, ?q4⟩) HS.out ?_
        case q4 => intro w hSw; go_simp; rfl
        simp only [Act.put, List.getElem_toArray, List.getElem_cons_zero, List.getElem_cons_succ, List.setIfInBounds_toArray, List.set_cons_zero, List.set_cons_succ]
        refine wpAnyH_take (i := 5) (v := .int .i64 (2 * (x : Int))) rfl (by kernel_rfl) (by kernel_rfl) (by kernel_rfl) (fun _ _ _ h => h) (Or.inl ⟨by rfl, ?q5⟩) HS.out ?_
        case q5 => intro w hSw; go_simp
        simp only [Act.put, List.getElem_toArray, List.getElem_cons_zero, List.getElem_cons_succ, List.setIfInBounds_toArray, List.set_cons_zero, List.set_cons_succ]
        refine wpAnyH_take (i := 6) (v := .int .i64 (2 * (x : Int) - 1)) rfl (by kernel_rfl) (by kernel_rfl) (by kernel_rfl) (fun _ _ _ h => h) (Or.inl ⟨by rfl, ?q6⟩) HS.out ?_
        case q6 => intro w hSw; go_simp
        simp only [Act.put, List.getElem_toArray, List.getElem_cons_zero, List.getElem_cons_succ, List.setIfInBounds_toArray, List.set_cons_zero, List.set_cons_succ]
        refine wpAnyH_take (i := 7) (v := .pointer (some ⟨g, (2 * x - 1) * 32, none⟩)) rfl (by kernel_rfl) (by kernel_rfl) (by kernel_rfl) (fun _ _ _ h => h) (Or.inl ⟨by rfl, ?q7⟩) HS.out ?_
        case q7 => intro w hSw; go_simp; intro hq; exfalso; omega
        simp only [Act.put, List.getElem_toArray, List.getElem_cons_zero, List.getElem_cons_succ, List.setIfInBounds_toArray, List.set_cons_zero, List.set_cons_succ]
        refine wpAnyH_take (i := 8) rfl (by kernel_rfl) (by kernel_rfl) (by kernel_rfl) (fun _ _ _ h => h) (yieldsIf_load_mid (by rfl) 28 _ rfl g ((2 * x - 1) * 32) rfl (dc l) _ (fun W hW => hW.1) Tryd.underlying28 rfl HSL.out) HS.out ?_
        simp only [Act.put, List.getElem_toArray, List.getElem_cons_zero, List.getElem_cons_succ, List.setIfInBounds_toArray, List.set_cons_zero, List.set_cons_succ]
        refine wpAnyH_take (i := 9) (v := ?_) rfl (by kernel_rfl) (by kernel_rfl) (by kernel_rfl) (fun _ _ _ h => h) (Or.inl ⟨by rfl, ?q9⟩) HS.out ?_
        case q9 => intro w hSw; go_simp; rfl
        simp only [Act.put, List.getElem_toArray, List.getElem_cons_zero, List.getElem_cons_succ, List.setIfInBounds_toArray, List.set_cons_zero, List.set_cons_succ]
        refine wpAnyH_take (i := 10) (v := ?_) rfl (by kernel_rfl) (by kernel_rfl) (by kernel_rfl) (fun _ _ _ h => h) (Or.inl ⟨by rfl, ?q10⟩) HS.out ?_
        case q10 => intro w hSw; go_simp; rfl
        simp only [Act.put, List.getElem_toArray, List.getElem_cons_zero, List.getElem_cons_succ, List.setIfInBounds_toArray, List.set_cons_zero, List.set_cons_succ]
        refine wpAnyH_take (i := 11) (v := .int .i64 (2 * (x : Int))) rfl (by kernel_rfl) (by kernel_rfl) (by kernel_rfl) (fun _ _ _ h => h) (Or.inl ⟨by rfl, ?q11⟩) HS.out ?_
        case q11 => intro w hSw; go_simp
        simp only [Act.put, List.getElem_toArray, List.getElem_cons_zero, List.getElem_cons_succ, List.setIfInBounds_toArray, List.set_cons_zero, List.set_cons_succ]
        refine wpAnyH_take (i := 12) (v := .pointer (some ⟨g, 2 * x * 32, none⟩)) rfl (by kernel_rfl) (by kernel_rfl) (by kernel_rfl) (fun _ _ _ h => h) (Or.inl ⟨by rfl, ?q12⟩) HS.out ?_
        case q12 => intro w hSw; go_simp; intro hq; exfalso; omega
        simp only [Act.put, List.getElem_toArray, List.getElem_cons_zero, List.getElem_cons_succ, List.setIfInBounds_toArray, List.set_cons_zero, List.set_cons_succ]
        refine wpAnyH_take (i := 13) rfl (by kernel_rfl) (by kernel_rfl) (by kernel_rfl) (fun _ _ _ h => h) (yieldsIf_load_mid (by rfl) 28 _ rfl g (2 * x * 32) rfl (dc r) _ (fun W hW => hW.2) Tryd.underlying28 rfl HSR.out) HS.out ?_
        simp only [Act.put, List.getElem_toArray, List.getElem_cons_zero, List.getElem_cons_succ, List.setIfInBounds_toArray, List.set_cons_zero, List.set_cons_succ]
        rw [dc_arr, dc_arr]
        refine wpAnyH_ready (rs := [14]) (by kernel_rfl) (by simp) ?_
        refine AllReadyH.cons rfl (fun K hK => ?_) AllReadyH.nil
        go_simp
        refine (CN.out _).mono ?_
        rintro e w5 ⟨rfl, hB5⟩
        have HO5 := hid (HO.out.below (show Below wr.heap.size wr w5 from ⟨hB5.os, hB5.tape, hB5.output, hB5.size, hB5.block⟩))
        have BL5 := hid (HB.out.drew.trans (hB5.mono hsz))
        have HS5 := hid (And.intro (range_below (show wr.drew.rangeAt g ((2 * x - 1) * 32) (dc l) from Ra1.out) hB5 hgl) (range_below (show wr.drew.rangeAt g (2 * x * 32) (dc r) from Ra2.out) hB5 hgl))
        clear hB5
        refine hK.out _ _ HS5.out (fun _ => ?_)
        clear hK K
        have HS := hid HS5.out
        refine wpAnyH_take (i := 15) (v := .pointer (some ⟨g, (x - 1) * 32, none⟩)) rfl (by kernel_rfl) (by kernel_rfl) (by kernel_rfl) (fun _ _ _ h => h) (Or.inl ⟨by rfl, ?q15⟩) HS.out ?_
        case q15 => intro w hSw; go_simp; intro hq; exfalso; omega
        simp only [Act.put, List.getElem_toArray, List.getElem_cons_zero, List.getElem_cons_succ, List.setIfInBounds_toArray, List.set_cons_zero, List.set_cons_succ]
        have HT : Hid (w5.there g ((x - 1) * 32) (cellsB nd).size) := by
          rw [hps]
          exact HO5.out.there (x - 1) (by rw [HL.out]; omega)
        refine wpAnyH_ready (rs := [16]) (by kernel_rfl) (by simp) ?_
        refine AllReadyH.cons rfl (fun K hK => ?_) AllReadyH.nil
        refine wp_store_mid 28 _ _ rfl g ((x - 1) * 32) (cellsB nd) rfl rfl HT.out SD.out OD1.out ?_
        have HS6 : Hid ((w5.setCells g ((x - 1) * 32) (cellsB nd).toList).rangeAt g ((2 * x - 1) * 32) (dc l) ∧ (w5.setCells g ((x - 1) * 32) (cellsB nd).toList).rangeAt g (2 * x * 32) (dc r)) := by
          refine hid ⟨World.rangeAt_setCells_apart HS.out.1 g _ _ ?_, World.rangeAt_setCells_apart HS.out.2 g _ _ ?_⟩
          · have := HSN.out; have e2 : (cellsB nd).toList = dc nd := rfl; rw [e2]; omega
          · have := HSN.out; have e2 : (cellsB nd).toList = dc nd := rfl; rw [e2]; omega
        refine hK.out _ _ HS6.out (fun _ => ?_)
        clear hK K
        refine wpAnyH_done (by kernel_rfl) ?_ _
        go_wp2
        have hlm : x - 1 < N.length := by rw [HL.out]; omega
        refine ⟨⟨x - 1, N.set (x - 1) nd, by omega, by congr 1; omega, HO5.out.store _ hlm HNDD.out, by rw [List.length_set]; exact HL, fun q a1 a2 => ?_, fun y a1 a2 => ?_, below_setCells BL5.out hg _ _⟩, by simp [intOf]; omega⟩
        · rw [getD_set N _ _ _ hlm, if_neg (by omega)]
          exact HLf.out q (by omega) a2
        · unfold InR
          rw [getD_set N _ _ _ hlm, getD_set N _ _ _ hlm, getD_set N _ _ _ hlm, if_neg (show ¬ x - 1 = 2 * y - 1 by omega), if_neg (show ¬ x - 1 = 2 * y by omega)]
          by_cases e : y = x
          · subst e
            rw [if_pos rfl, HNDG.out]
          · rw [if_neg (by omega)]
            exact HIn.out y (by omega) a2
    · have hx0 : x = 0 := by omega
      subst hx0
      go_wp2
      go_ret2
      exact ⟨g, N, by rw [HL.out]; rfl, hg, HO.out, ⟨HL.out, fun j hj => HLf.out j (by omega) hj, fun y a1 a2 => HIn.out y (by omega) a2⟩, HB.out⟩
end Go.Proofs.YtjmlpkemjafifaaDoor
