/- tree.Build, walked. -/
import Derived.Test.YtjmlpkemjafifaaDoorTrM
set_option linter.unusedVariables false
set_option linter.unusedSimpArgs false
namespace Go.Proofs.YtjmlpkemjafifaaDoor
open Go.RowKit

set_option maxRecDepth 100000 in
set_option maxHeartbeats 2000000 in
theorem build_bad (w : World) (v : Value) (ls : List (List Int)) (h : HDs w v ls) (hn : ¬ (1 ≤ ls.length ∧ ls.length ≤ 512)) :
    Calls Tryd.prog 10 #[v] w fun e w' => e = .returned (.tuple #[.slice none 0 0, .int .i64 110]) ∧ Below w.heap.size w w' := by
  obtain ⟨p, c, rfl, hc1, hc2⟩ := h.open
  have CW := hid (width_bad w (ls.length : Int) (by omega))
  clear h
  go_enter Tryd.func10, Tryd.ntmps10
  go_wp2_with fail
  refine CW.out.mono ?_
  rintro e w1 ⟨rfl, rfl⟩
  go_wp2
  go_ret2
  exact ⟨rfl, Below.refl _ _⟩
/-- The rows of digests that a slice holds, as one row of cells. -/
theorem HDs.flat {w : World} {b off : Nat} {ds : List (List Int)} (hr : ∀ i, i < ds.length → w.rangeAt b (off + i * 32) (dc (ds.getD i []))) (hd : ∀ d ∈ ds, D32 d) : w.rangeAt b off (ds.flatMap dc) := by
  induction ds generalizing off with
  | nil => intro j v hj; simp at hj
  | cons d r ih =>
    have h0 := hr 0 (by simp)
    have ih' := ih (off := off + 32) (fun i hi => by
      have := hr (i + 1) (by simp; omega)
      rw [show off + (i + 1) * 32 = off + 32 + i * 32 by omega] at this
      exact this) (fun x hx => hd x (by simp [hx]))
    intro j v hj
    rw [List.flatMap_cons] at hj
    have hl : (dc d).length = 32 := by rw [dc_length, (hd d (by simp)).1]
    rcases Nat.lt_or_ge j 32 with h1 | h1
    · rw [List.getElem?_append_left (by omega)] at hj
      have := h0 j v hj
      rwa [Nat.zero_mul, Nat.add_zero] at this
    · rw [List.getElem?_append_right (by omega), hl] at hj
      have := ih' (j - 32) v hj
      rwa [show off + 32 + (j - 32) = off + j by omega] at this
theorem flatMap_dc_length {ds : List (List Int)} (hd : ∀ d ∈ ds, D32 d) : (ds.flatMap dc).length = ds.length * 32 := by
  induction ds with
  | nil => rfl
  | cons d r ih =>
    rw [List.flatMap_cons, List.length_append, dc_length, (hd d (by simp)).1, ih (fun x hx => hd x (by simp [hx])), List.length_cons]
    omega
set_option maxRecDepth 100000 in
set_option maxHeartbeats 4000000 in
theorem build_ok (w : World) (v : Value) (ls : List (List Int)) (h : HDs w v ls) (h1 : 1 ≤ ls.length) (h2 : ls.length ≤ 512) (hk : KC w) :
    Calls Tryd.prog 10 #[v] w fun e w' => ∃ g N, e = .returned (.tuple #[.slice (some ⟨g, 0, none⟩) N.length N.length, .int .i64 0]) ∧ w.heap.size ≤ g ∧ OD w' g N ∧ IsT ls (wdN ls.length) N ∧ Below w.heap.size w w' := by
  obtain ⟨n, HN⟩ : ∃ n, Hid (ls.length = n) := ⟨_, rfl⟩
  obtain ⟨b, off, c, ev, hc1, hc2, hbl, hr⟩ := h.ne (by omega)
  have HR := hid hr
  have HD := hid h.2
  have CW := hid (width_ok w ls.length h1 h2)
  have hWg := wdN_ge ls.length h2
  have hWl := wdN_le ls.length
  rw [HN.out] at ev h1 h2 hWg CW hc1 hWl
  rw [HN.out]
  generalize wdN n = W at CW hWg hWl ⊢
  obtain ⟨hW5, hW1⟩ := hWl
  have HK := hid hk
  subst ev
  clear h hk hr
  go_enter Tryd.func10, Tryd.ntmps10
  go_wp2_with fail
  refine CW.out.mono ?_
  rintro e w1 ⟨rfl, hB1⟩
  have CS := hid (size_w w1 W hW5)
  have BL1 := hid hB1
  clear hB1 CW
  go_wp2_with fail
  refine CS.out.mono ?_
  rintro e w2 ⟨rfl, rfl⟩
  obtain ⟨C, hmk, hod⟩ := run_make_dig w2 (2 * W - 1) (by omega)
  rw [show ((2 * W - 1 : Nat) : Int) = 2 * (W : Int) - 1 by omega] at hmk
  obtain ⟨W3, hW3⟩ : ∃ W3, Hid (w2.alloc (.cells C 28) = W3) := ⟨_, rfl⟩
  rw [hW3.out] at hmk hod
  have HO3 := hid hod
  have BL3 : Hid (Below w2.heap.size w2 W3) := by rw [← hW3.out]; exact (Below.refl _ w2).alloc (Nat.le_refl _) _
  clear hod CS
  obtain ⟨g, HG⟩ : ∃ g, Hid (w2.heap.size = g) := ⟨_, rfl⟩
  rw [HG.out] at hmk HO3 BL3
  have hg : w.heap.size ≤ g := by rw [← HG.out]; exact BL1.out.size
  have hbg : b < g := by omega
  have R3 : W3.rangeAt b off (ls.flatMap dc) := range_below (range_below (HDs.flat HR.out HD.out) BL1.out hbl) BL3.out hbg
  have hfl : (ls.flatMap dc).length = n * 32 := by rw [flatMap_dc_length HD.out, HN.out]
  have hoc := HO3.out
  obtain ⟨cur, hcur, hcs⟩ := hoc.1
  rw [List.length_replicate] at hcs
  have hcp : (Builtin.copy_ #[22, 22] 3 #[.slice (some ⟨g, (W - 1) * 32, none⟩) (2 * W - 1 - (W - 1)) (2 * W - 1 - (W - 1)), .slice (some ⟨b, off, none⟩) n c]).run Tryd.prog W3 = .ok (goInt (Nat.min n (2 * W - 1 - (W - 1)))) (W3.setCells g ((W - 1) * 32) (ls.flatMap dc)) := by
    refine run_copy_dig W3 _ g _ _ _ _ n c (ls.flatMap dc) ?_ ?_ ?_ ?_ ?_
    · rw [hfl, show Nat.min n (2 * W - 1 - (W - 1)) = n from Nat.min_eq_left (by omega)]
    · intro j v hj
      rw [Go.WideShapes.add_plain]
      exact R3 j v hj
    · intro j hj
      rw [cell_of_row W3 g _ _ _ _ hcur, Array.getElem?_eq_getElem (by omega)]
      rfl
    · intro j hj
      exact frozen_of_row W3 g _ cur _ hcur
    · intro u hu
      obtain ⟨d, _, hd⟩ := List.mem_flatMap.1 hu
      unfold dc at hd
      obtain ⟨x, _, rfl⟩ := List.mem_map.1 hd
      rfl
  have HO4 := hid (OD.copy ls _ (W - 1) W3 HO3.out (by rw [List.length_replicate, HN.out]; omega) HD.out)
  have BL4 : Hid (Below w.heap.size w (W3.setCells g ((W - 1) * 32) (ls.flatMap dc))) := below_setCells ((BL1.out.trans (BL3.out.mono hg))) hg _ _
  obtain ⟨W4, hW4⟩ : ∃ W4, Hid (W3.setCells g ((W - 1) * 32) (ls.flatMap dc) = W4) := ⟨_, rfl⟩
  rw [hW4.out] at hcp HO4 BL4
  clear R3 hfl hoc hcur hcs
  have HL4 : Hid (∀ j, j < n → (setL (List.replicate (2 * W - 1) zeros32) (W - 1) ls).getD (W - 1 + j) [] = lf ls j) := by
    intro j hj
    rw [setL_getD ls _ _ _ (by rw [List.length_replicate, HN.out]; omega), if_pos (by rw [HN.out]; omega), show W - 1 + j - (W - 1) = j by omega]
    unfold lf
    rw [if_pos (by rw [HN.out]; exact hj)]
  have HL4l : Hid ((setL (List.replicate (2 * W - 1) zeros32) (W - 1) ls).length = 2 * W - 1) := by rw [setL_length, List.length_replicate]; exact rfl
  go_wp2
  go_loopw [8] (fun i wr => ∃ (k : Nat) (N : List (List Int)), n ≤ k ∧ k ≤ W ∧ i = .int .i64 k ∧ Hid (OD wr g N) ∧ Hid (N.length = 2 * W - 1) ∧ Hid (∀ j, j < k → N.getD (W - 1 + j) [] = lf ls j) ∧ Hid (Below w.heap.size w wr)) (fun i _ => W - (intOf i).toNat)
  case atStart => exact ⟨n, _, Nat.le_refl _, hWg, rfl, HO4, HL4l, HL4, BL4⟩
  case round =>
    clear hmk hcp HO4 HL4 HL4l BL4 HO3
    obtain ⟨k, N, hk1, hk2, rfl, HO, HLn, HLf, HBel⟩ := hrel
    have hsz := HBel.out.size
    by_cases hlt : k < W
    · have CP := hid (tpad_any wr k (by omega) (HK.out.below HBel.out))
      go_wp2_with fail
      refine CP.out.mono ?_
      rintro e w5 ⟨rfl, hB5⟩
      have HO5 := hid (HO.out.below hB5)
      have BL5 := hid (HBel.out.trans (hB5.mono hsz))
      obtain ⟨pd, HPD⟩ : ∃ pd, Hid (pdL k = pd) := ⟨_, rfl⟩
      have HPDD : Hid (D32 pd) := by rw [← HPD.out]; exact pdL_D k
      rw [HPD.out]
      have hps : (cellsB pd).size = 32 := by rw [cellsB_size, HPDD.out.1]
      have HT : Hid (w5.there g ((W - 1) * 32 + k * 32) (cellsB pd).size) := by
        rw [hps, ← Nat.add_mul]
        exact HO5.out.there (W - 1 + k) (by rw [HLn.out]; omega)
      have SD : Hid ((Tryd.prog.info? 28).map (·.size) = some (cellsB pd).size) := by rw [hps]; exact size_digest
      have OD1 : Hid ((cellsB pd).all (·.oneCell') = true) := cellsB_one _
      obtain ⟨pc, HPC⟩ : ∃ pc, Hid (cellsB pd = pc) := ⟨_, rfl⟩
      have hpl : pc.toList = dc pd := by rw [← HPC.out]; rfl
      rw [HPC.out] at HT SD OD1 ⊢
      clear hB5 CP hps
      go_wp2_with (refine wpList_store_mid rfl 28 _ _ rfl g ((W - 1) * 32 + k * 32) pc rfl rfl HT.out SD.out OD1.out ?_)
      rw [← Nat.add_mul]
      refine ⟨⟨k + 1, N.set (W - 1 + k) pd, by omega, by omega, by go_num, HO5.out.store _ (by rw [HLn.out]; omega) HPDD.out, by rw [List.length_set]; exact HLn, fun j hj => ?_, below_setCells BL5.out hg _ _⟩, by simp [intOf]; omega⟩
      rw [getD_set N _ _ _ (by rw [HLn.out]; omega)]
      by_cases e : W - 1 + k = W - 1 + j
      · have : j = k := by omega
        subst this
        rw [if_pos rfl]
        unfold lf
        rw [if_neg (by rw [HN.out]; omega), HPD.out]
      · rw [if_neg e]
        exact HLf.out j (by omega)
    · have hkW : k = W := by omega
      subst hkW
      go_wp2
      go_loopw [9] (fun x wr' => ∃ (m : Nat) (M : List (List Int)), m ≤ k - 1 ∧ x = .int .i64 m ∧ Hid (OD wr' g M) ∧ Hid (M.length = 2 * k - 1) ∧ Hid (∀ j, j < k → M.getD (k - 1 + j) [] = lf ls j) ∧ Hid (∀ y, m < y → y < k → InR M y) ∧ Hid (Below w.heap.size w wr')) (fun x _ => (intOf x).toNat)
      case atStart => exact ⟨k - 1, N, Nat.le_refl _, by congr 1; omega, HO, HLn, HLf, (fun y h3 h4 => by omega), HBel⟩
      case round =>
        clear HO HLn HLf HBel hsz N hlt
        obtain ⟨m, M, hm, rfl, HO, HLn, HLf, HIn, HBel⟩ := hrel
        by_cases hm0 : 1 ≤ m
        · have hsz := HBel.out.size
          have HDm := hid (HO.out.HDs (by rw [HLn.out]; omega))
          rw [HLn.out] at HDm
          have CA := hid (above_any _ _ M m HDm.out hm0 (by rw [HLn.out]; omega) (HK.out.below HBel.out))
          obtain ⟨nd, HND⟩ : ∃ nd, Hid (ndL (M.getD (2 * m - 1) []) (M.getD (2 * m) []) = nd) := ⟨_, rfl⟩
          have HNDD : Hid (D32 nd) := by rw [← HND.out]; exact ndL_D _ _
          rw [HND.out] at CA
          have e64 : ((m - 1 : Nat) : Int) = (m : Int) - 1 := by omega
          go_wp2_with fail
          refine CA.out.mono ?_
          rintro e w5 ⟨rfl, hB5⟩
          have HO5 := hid (HO.out.below hB5)
          have BL5 := hid (HBel.out.trans (hB5.mono hsz))
          have hps : (cellsB nd).size = 32 := by rw [cellsB_size, HNDD.out.1]
          have HT : Hid (w5.there g ((m - 1) * 32) (cellsB nd).size) := by
            rw [hps]
            exact HO5.out.there (m - 1) (by rw [HLn.out]; omega)
          have SD : Hid ((Tryd.prog.info? 28).map (·.size) = some (cellsB nd).size) := by rw [hps]; exact size_digest
          have OD1 : Hid ((cellsB nd).all (·.oneCell') = true) := cellsB_one _
          obtain ⟨pc, HPC⟩ : ∃ pc, Hid (cellsB nd = pc) := ⟨_, rfl⟩
          have hpl : pc.toList = dc nd := by rw [← HPC.out]; rfl
          rw [HPC.out] at HT SD OD1 ⊢
          clear hB5 CA hps
          go_wp2_with (refine wpList_store_mid rfl 28 _ _ rfl g ((m - 1) * 32) pc rfl rfl HT.out SD.out OD1.out ?_)
          refine ⟨⟨m - 1, M.set (m - 1) nd, by omega, by congr 1; omega, HO5.out.store _ (by rw [HLn.out]; omega) HNDD.out, by rw [List.length_set]; exact HLn, fun j hj => ?_, fun y h3 h4 => ?_, below_setCells BL5.out hg _ _⟩, by simp [intOf]; omega⟩
          · rw [getD_set M _ _ _ (by rw [HLn.out]; omega), if_neg (by omega)]
            exact HLf.out j hj
          · have hlm : m - 1 < M.length := by rw [HLn.out]; omega
            unfold InR
            rw [getD_set M _ _ _ hlm, getD_set M _ _ _ hlm, getD_set M _ _ _ hlm, if_neg (show ¬ m - 1 = 2 * y - 1 by omega), if_neg (show ¬ m - 1 = 2 * y by omega)]
            by_cases e : y = m
            · subst e
              rw [if_pos rfl, HND.out]
            · rw [if_neg (by omega)]
              exact HIn.out y (by omega) h4
        · have hm00 : m = 0 := by omega
          subst hm00
          go_wp2
          go_ret2
          refine ⟨g, M, by rw [HLn.out]; rfl, hg, HO.out, ⟨HLn.out, HLf.out, fun x h3 h4 => HIn.out x (by omega) h4⟩, HBel.out⟩
end Go.Proofs.YtjmlpkemjafifaaDoor
