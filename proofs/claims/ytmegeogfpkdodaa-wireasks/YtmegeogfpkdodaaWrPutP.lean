/- wire.PutReply, walked. -/
import Derived.Test.YtmegeogfpkdodaaWrLn
import Derived.Test.YtmegeogfpkdodaaWrPut
set_option linter.unusedVariables false
set_option linter.unusedSimpArgs false
namespace Go.Proofs.Ytmegeogfpkdodaa
open Go Go.RowKit

/-- The bytes of a reply. -/
def layP (k : Int) (ns b : List Int) : List Int := k :: (if k = 1 then bigL 1 ns.length ++ ns else if k = 5 then bigL 4 b.length ++ b else [])
theorem folB_nb {ns : List Int} {x : Int} (h : folB ns x = true) : 0 ≤ x ∧ x < 255 := by
  simp only [folB, nbB, Bool.and_eq_true, decide_eq_true_eq] at h
  exact h.1
theorem risTo_at {ns : List Int} {n : Nat} (h : risTo ns n = true) : ∀ i, i < n → folB (ns.take i) (ns.getD i 0) = true := by
  induction n with
  | zero => intro i hi; omega
  | succ n ih =>
    rw [risTo, Bool.and_eq_true] at h
    intro i hi
    rcases Nat.lt_or_ge i n with h1 | h1
    · exact ih h.1 i h1
    · rw [show i = n by omega]; exact h.2
/-- A number stands at least as high as its place. -/
theorem ris_ge {ns : List Int} (h : risB ns = true) : ∀ i, i < ns.length → (i : Int) ≤ ns.getD i 0 ∧ ns.getD i 0 < 255 := by
  intro i
  induction i with
  | zero => intro hi; have := folB_nb (risTo_at h 0 hi); omega
  | succ i ih =>
    intro hi
    have h1 := ih (by omega)
    have h2 := risTo_at h (i + 1) hi
    have h3 := folB_nb h2
    simp only [folB, Bool.and_eq_true, Bool.or_eq_true, decide_eq_true_eq] at h2
    have e1 : (ns.take (i + 1)).length = i + 1 := by rw [List.length_take]; omega
    have e2 : (ns.take (i + 1)).getD i 0 = ns.getD i 0 := by simp [List.getD, List.getElem?_take]
    rcases h2.2 with h4 | h4
    · omega
    · rw [e1, Nat.add_sub_cancel, e2] at h4
      omega
theorem ris_len {ns : List Int} (h : risB ns = true) : ns.length ≤ 255 ∧ ∀ x ∈ ns, 0 ≤ x ∧ x < 255 := by
  constructor
  · apply Classical.byContradiction
    intro hc
    have := ris_ge h 255 (by omega)
    omega
  · intro x hx
    obtain ⟨i, hi, rfl⟩ := List.getElem_of_mem hx
    have := ris_ge h i hi
    rw [getD_of_lt hi] at this
    omega
set_option maxRecDepth 100000 in
set_option maxHeartbeats 32000000 in
theorem putRep_any (w : World) (k : Int) (hk : 0 ≤ k ∧ k < 256) (vn v : Value) (ns b : List Int) (hvn : I.HB w vn ns) (hv : HB w v b) :
    Calls Try.prog 18 #[.agg (rpA k vn v)] w fun e w' => PutQ w (mayP k ns b.length) (layP k ns b) 201 e w' ∧ Below w.heap.size w w' := by
  obtain ⟨vp, vc, rfl, hvc, hvm⟩ := hv.open
  obtain ⟨np, nc, rfl, hnc, hnm⟩ := hvn.open
  obtain ⟨m, HM⟩ : ∃ m, Hid (rpA k (.slice np ns.length nc) (.slice vp b.length vc) = m) := ⟨_, hid rfl⟩
  obtain ⟨W1, HW1⟩ : ∃ W : World, Hid (w.alloc (.cells m 42) = W) := ⟨_, hid rfl⟩
  have B1 : Hid (Below w.heap.size w W1) := by rw [← HW1.out]; exact hid ((Below.refl _ w).alloc (Nat.le_refl _) _)
  have Z1 : Hid (W1.heap.size = w.heap.size + 1) := hid (by rw [← HW1.out]; simp)
  have hbx : Hid (W1.heap[w.heap.size]? = some (.cells m 42 (0, 0))) := hid (by rw [← HW1.out]; exact heap_alloc_new w _)
  have HBX : Hid (∀ W, Below W1.heap.size W1 W → W.heap[w.heap.size]? = some (.cells m 42 (0, 0))) := hid (fun W hW => (hW.block _ (by have := Z1.out; omega)).trans hbx.out)
  have KX : Hid (∀ W, Below W1.heap.size W1 W → W.cell? ⟨w.heap.size, 0, none⟩ = some (.int .u8 k) ∧ W.cell? ⟨w.heap.size, 1, none⟩ = some (.slice np ns.length nc) ∧ W.cell? ⟨w.heap.size, 2, none⟩ = some (.slice vp b.length vc)) := hid (fun W hW => by
    have q2 := HBX.out W hW
    refine ⟨?_, ?_, ?_⟩ <;> rw [cell_of_row _ _ _ _ _ _ q2, ← HM.out] <;> rfl)
  have VB : Hid (∀ W, Below W1.heap.size W1 W → HB W (.slice vp b.length vc) b) := hid (fun W hW => hv.below (B1.out.trans (hW.mono B1.out.size)))
  have VN : Hid (∀ W, Below W1.heap.size W1 W → I.HB W (.slice np ns.length nc) ns) := hid (fun W hW => hvn.below (B1.out.trans (hW.mono B1.out.size)))
  have CM := hid (mayRep_any W1 k _ ns (VN.out W1 (Below.refl _ _)) vp b.length vc)
  rw [show (#[.int .u8 k, .slice np ns.length nc, .slice vp b.length vc] : Array Value) = m from HM.out] at CM
  rw [HM.out]
  have SL : Hid ((Try.prog.info? 42).map (·.size) = some m.toList.length) := hid (by rw [← HM.out]; show _ = some 3; kernel_rfl)
  have RG0 : Hid (W1.rangeAt w.heap.size 0 m.toList) := hid (fun j u hj => by rw [cell_of_row _ _ _ _ _ _ hbx.out, Nat.zero_add, ← Array.getElem?_toList]; exact hj)
  have HMM : Hid (m.toList.toArray = m) := hid (by simp)
  obtain ⟨L, HLQ⟩ : ∃ L, Hid (layP k ns b = L) := ⟨_, hid rfl⟩
  rw [HLQ.out]
  obtain ⟨mb, HMB⟩ : ∃ x, Hid (mayP k ns b.length = x) := ⟨_, hid rfl⟩
  rw [HMB.out] at CM
  rw [HMB.out]
  clear hv hvn hbx
  go_enter Try.func18, Try.ntmps18
  go_wp2_with (first | rw [HW1.out] | (refine wpList_load_mid rfl 42 _ rfl w.heap.size 0 rfl m.toList _ RG0.out Try.underlying42 rfl SL.out ?_; rw [HMM.out]) | fail)
  refine CM.out.mono ?_
  rintro e w5 ⟨rfl, hb2⟩
  have B2 := hid hb2
  clear hb2 CM
  cases mb with
  | false =>
    go_wp2_with fail
    go_ret2
    exact ⟨.inl ⟨rfl, rfl⟩, B1.out.trans (B2.out.mono B1.out.size)⟩
  | true =>
    have KY : Hid (∀ W, Below w5.heap.size w5 W → Below W1.heap.size W1 W) := hid (fun W hW => B2.out.trans (hW.mono B2.out.size))
    have BW : Hid (∀ W, Below w5.heap.size w5 W → Below w.heap.size w W) := hid (fun W hW => B1.out.trans ((KY.out W hW).mono B1.out.size))
    obtain ⟨kN, rfl⟩ := Int.eq_ofNat_of_zero_le hk.1
    have CL : Hid (∀ W us (ls : List (List Int)), W.heap[W.heap.size - 1]? = some (.cells (List.toArray us) 36 (0, 0)) → 0 < W.heap.size → Below w5.heap.size w5 W → us.length = ls.length → 0 < ls.length → ls.length ≤ 10 → ls.flatten.length + 1 ≤ 140737488355328 → (∀ j u, us[j]? = some u → HB W u (ls.getD j [])) → Calls Try.prog 40 #[.int .u8 (kN : Int), .slice (some ⟨W.heap.size - 1, 0, none⟩) ls.length ls.length] W fun e w' => ∃ v', e = .returned v' ∧ w'.ownsRow W.heap.size 5 1 v' (ls.flatten.length + 1) (((kN : Int) :: ls.flatten).map (Value.int .u8)) ∧ Below W.heap.size W w') := hid (fun W us ls h1 h2 h3 h4 h5 h6 h7 h8 => laid_any W kN (by omega) _ ls (HL.lit h1 h4 (by omega) h8) h5 (by omega) h7)
    have FIN : Hid (∀ W w' (u : Value) (M : List Int), Below w5.heap.size w5 W → Below W.heap.size W w' → L = M → w'.ownsRow W.heap.size 5 1 u M.length (M.map (Value.int .u8)) → PutQ w true L 201 (.returned (.tuple #[u, .int .i64 0])) w' ∧ Below w.heap.size w w') := hid (fun W w' u M h1 h2 h3 h4 => by
      have h5 := BW.out W h1
      refine ⟨.inr ⟨rfl, u, rfl, ?_⟩, h5.trans (h2.mono h5.size)⟩
      rw [h3]
      exact ⟨h4.1, h4.2.elim .inl fun ⟨gg, cap, cur, z1, z2, z3⟩ => .inr ⟨gg, cap, cur, z1, Nat.le_trans h5.size z2, z3⟩⟩)
    have hmb := HMB.out
    by_cases h1 : kN = 1
    · subst h1
      have yk : w5.cell? ⟨w.heap.size, 0, none⟩ = some (.int .u8 1) := (KX.out w5 (KY.out w5 (Below.refl _ _))).1
      have hri : risB ns = true ∧ b.length = 0 := by simpa [mayP] using hmb
      obtain ⟨hl255, hbn⟩ := ris_len hri.1
      have u8l : IntKind.u8.wrap (ns.length : Int) = (ns.length : Int) := by rw [IntKind.wrap_u8]; omega
      have CB := hid (fun W => big_uint8 ns.length (by omega) W)
      have CN := hid (fun W hW => laidNum_any W _ ns (VN.out W (KY.out W hW)) (fun x hx => by have := hbn x hx; omega) (by omega))
      clear hmb
      go_wp2_with fail
      refine wp_region_held_drew (S := (Below w5.heap.size w5)) (by kernel_rfl) (by repeat' first | exact Below.refl _ _ | apply bel_drewN) (fun hHeld => ?_)
      have HS := hid hHeld
      clear hHeld
      change wpAnyH _ _ _ _ _ _ _ _ (World.drew _)
      refine wpAnyH_take (i := 0) (v := ?_) rfl (by kernel_rfl) (by kernel_rfl) (by kernel_rfl) (fun _ _ _ h => h) (Or.inl ⟨by rfl, ?q0⟩) HS.out ?_
      case q0 => intro w hSw; obtain ⟨y0, y1, y2⟩ := KX.out _ (KY.out _ hSw); go_simp; rfl
      simp only [Act.put, List.getElem_toArray, List.getElem_cons_zero, List.getElem_cons_succ, List.setIfInBounds_toArray, List.set_cons_zero, List.set_cons_succ]
      refine wpAnyH_take (i := 1) (v := ?_) rfl (by kernel_rfl) (by kernel_rfl) (by kernel_rfl) (fun _ _ _ h => h) (Or.inl ⟨by rfl, ?q1⟩) HS.out ?_
      case q1 => intro w hSw; obtain ⟨y0, y1, y2⟩ := KX.out _ (KY.out _ hSw); go_simp; rfl
      simp only [Act.put, List.getElem_toArray, List.getElem_cons_zero, List.getElem_cons_succ, List.setIfInBounds_toArray, List.set_cons_zero, List.set_cons_succ]
      refine wpAnyH_take (i := 2) (v := ?_) rfl (by kernel_rfl) (by kernel_rfl) (by kernel_rfl) (fun _ _ _ h => h) (Or.inl ⟨by rfl, ?q2⟩) HS.out ?_
      case q2 => intro w hSw; obtain ⟨y0, y1, y2⟩ := KX.out _ (KY.out _ hSw); go_simp; rfl
      simp only [Act.put, List.getElem_toArray, List.getElem_cons_zero, List.getElem_cons_succ, List.setIfInBounds_toArray, List.set_cons_zero, List.set_cons_succ]
      refine wpAnyH_take (i := 3) (v := ?_) rfl (by kernel_rfl) (by kernel_rfl) (by kernel_rfl) (fun _ _ _ h => h) (Or.inl ⟨by rfl, ?q3⟩) HS.out ?_
      case q3 => intro w hSw; obtain ⟨y0, y1, y2⟩ := KX.out _ (KY.out _ hSw); go_simp; rfl
      simp only [Act.put, List.getElem_toArray, List.getElem_cons_zero, List.getElem_cons_succ, List.setIfInBounds_toArray, List.set_cons_zero, List.set_cons_succ]
      refine wpAnyH_take (i := 4) (v := ?_) rfl (by kernel_rfl) (by kernel_rfl) (by kernel_rfl) (fun _ _ _ h => h) (Or.inl ⟨by rfl, ?q4⟩) HS.out ?_
      case q4 => intro w hSw; obtain ⟨y0, y1, y2⟩ := KX.out _ (KY.out _ hSw); go_simp; rfl
      simp only [Act.put, List.getElem_toArray, List.getElem_cons_zero, List.getElem_cons_succ, List.setIfInBounds_toArray, List.set_cons_zero, List.set_cons_succ]
      refine wpAnyH_take (i := 5) (v := ?_) rfl (by kernel_rfl) (by kernel_rfl) (by kernel_rfl) (fun _ _ _ h => h) (Or.inl ⟨by rfl, ?q5⟩) HS.out ?_
      case q5 => intro w hSw; obtain ⟨y0, y1, y2⟩ := KX.out _ (KY.out _ hSw); go_simp; rfl
      simp only [Act.put, List.getElem_toArray, List.getElem_cons_zero, List.getElem_cons_succ, List.setIfInBounds_toArray, List.set_cons_zero, List.set_cons_succ]
      refine wpAnyH_take (i := 7) (v := ?_) rfl (by kernel_rfl) (by kernel_rfl) (by kernel_rfl) (fun _ _ _ h => h) (Or.inl ⟨by rfl, ?q7⟩) HS.out ?_
      case q7 => intro w hSw; obtain ⟨y0, y1, y2⟩ := KX.out _ (KY.out _ hSw); go_simp; rfl
      simp only [Act.put, List.getElem_toArray, List.getElem_cons_zero, List.getElem_cons_succ, List.setIfInBounds_toArray, List.set_cons_zero, List.set_cons_succ]
      refine wpAnyH_take (i := 8) (v := ?_) rfl (by kernel_rfl) (by kernel_rfl) (by kernel_rfl) (fun _ _ _ h => h) (Or.inl ⟨by rfl, ?q8⟩) HS.out ?_
      case q8 => intro w hSw; obtain ⟨y0, y1, y2⟩ := KX.out _ (KY.out _ hSw); go_simp; rfl
      simp only [Act.put, List.getElem_toArray, List.getElem_cons_zero, List.getElem_cons_succ, List.setIfInBounds_toArray, List.set_cons_zero, List.set_cons_succ]
      refine wpAnyH_ready (rs := [6]) (by kernel_rfl) (by simp) ?_
      refine AllReadyH.cons rfl (fun K hK => ?_) AllReadyH.nil
      replace hK := hid hK
      go_simp
      refine (CB.out _).mono ?_
      rintro e w6 ⟨v6, rfl, ho6, hb6⟩
      have B6 : Hid (Below w5.heap.size w5 w6) := hid ((bel_drewN (Below.refl _ w5) _).trans hb6)
      have h6 : HB w6 v6 (bigL 1 ns.length) := HB.of_own (by rw [bigL_len]; exact ho6) (bigL_byt 1 ns.length)
      have H6 := hid h6
      obtain ⟨p6, c6, e6, -, -⟩ := h6.open
      rw [bigL_len] at e6
      clear h6 ho6 hb6 HS
      subst e6
      refine hK.out _ _ B6.out (fun _ => ?_)
      clear hK K
      refine wpAnyH_ready (rs := [9]) (by kernel_rfl) (by simp) ?_
      refine AllReadyH.cons rfl (fun K hK => ?_) AllReadyH.nil
      replace hK := hid hK
      go_simp
      refine (CN.out _ B6.out).mono ?_
      rintro e w7 ⟨v7, rfl, ho7, hb7⟩
      have B67 := hid hb7
      have B7 : Hid (Below w5.heap.size w5 w7) := hid (B6.out.trans (hb7.mono B6.out.size))
      have h7 : HB w7 v7 ns := HB.of_own ho7 (fun x hx => by have := hbn x hx; omega)
      have H7 := hid h7
      obtain ⟨p7, c7, e7, -, -⟩ := h7.open
      clear h7 ho7 hb7
      subst e7
      refine hK.out _ _ B7.out (fun _ => ?_)
      clear hK K
      obtain ⟨WL, HWL⟩ : ∃ W : World, Hid (w7.alloc (.cells #[.slice p6 1 c6, .slice p7 ns.length c7] 36) = W) := ⟨_, hid rfl⟩
      have hlit := run_lit2 w7 p6 1 c6 p7 ns.length c7
      rw [HWL.out] at hlit
      have BL : Hid (Below w5.heap.size w5 WL) := hid (B7.out.trans (by rw [← HWL.out]; exact (Below.refl _ _).alloc B7.out.size _))
      have ZL : Hid (WL.heap.size = w7.heap.size + 1) := hid (by rw [← HWL.out]; simp)
      have LL : Hid (WL.heap[w7.heap.size]? = some (.cells #[.slice p6 1 c6, .slice p7 ns.length c7] 36 (0, 0))) := hid (by rw [← HWL.out]; exact heap_alloc_new _ _)
      have CL2 := hid (CL.out WL [.slice p6 1 c6, .slice p7 ns.length c7] [bigL 1 ns.length, ns] (by rw [ZL.out]; exact LL.out) (by have := ZL.out; omega) BL.out rfl (by simp) (by simp) (by simp [bigL_len]; omega) (fun j u hj => by
        match j, hj with
        | 0, hj => cases hj; exact (H6.out.below B67.out).below (by rw [← HWL.out]; exact (Below.refl _ _).alloc (Nat.le_refl _) _)
        | 1, hj => cases hj; exact H7.out.below (by rw [← HWL.out]; exact (Below.refl _ _).alloc (Nat.le_refl _) _)
        | n + 2, hj => cases hj))
      rw [ZL.out, Nat.add_sub_cancel] at CL2
      refine wpAnyH_ready (rs := [10]) (by kernel_rfl) (by simp) ?_
      refine AllReadyH.cons rfl (fun K hK => ?_) AllReadyH.nil
      replace hK := hid hK
      refine wanted_litQ (by rfl) 24 2 _ rfl #[(0, .slice p6 1 c6), (1, .slice p7 ns.length c7)] (by go_simp) _ hlit ?_
      simp only [Act.put, List.getElem_toArray, List.getElem_cons_zero, List.getElem_cons_succ, List.setIfInBounds_toArray, List.set_cons_zero, List.set_cons_succ]
      refine hK.out _ _ BL.out (fun _ => ?_)
      clear hK K hlit
      refine wpAnyH_ready (rs := [11]) (by kernel_rfl) (by simp) ?_
      refine AllReadyH.cons rfl (fun K hK => ?_) AllReadyH.nil
      replace hK := hid hK
      go_simp
      refine CL2.out.mono ?_
      rintro e w9 ⟨v9, rfl, ho9, hb9⟩
      rw [← ZL.out] at ho9 hb9
      have BF : Hid (Below w5.heap.size w5 w9) := hid (BL.out.trans (hb9.mono BL.out.size))
      have FF := hid (FIN.out WL w9 v9 _ BL.out hb9 (by rw [← HLQ.out]; simp [layP]) ho9)
      clear ho9 hb9 CL2
      refine hK.out _ _ BF.out (fun _ => ?_)
      clear hK K
      try clear HS
      have HS := BF
      refine wpAnyH_take (i := 12) (v := ?_) rfl (by kernel_rfl) (by kernel_rfl) (by kernel_rfl) (fun _ _ _ h => h) (Or.inl ⟨by rfl, ?q12⟩) HS.out ?_
      case q12 => intro w hSw; obtain ⟨y0, y1, y2⟩ := KX.out _ (KY.out _ hSw); go_simp; rfl
      simp only [Act.put, List.getElem_toArray, List.getElem_cons_zero, List.getElem_cons_succ, List.setIfInBounds_toArray, List.set_cons_zero, List.set_cons_succ]
      refine wpAnyH_take (i := 13) (v := ?_) rfl (by kernel_rfl) (by kernel_rfl) (by kernel_rfl) (fun _ _ _ h => h) (Or.inl ⟨by rfl, ?q13⟩) HS.out ?_
      case q13 => intro w hSw; obtain ⟨y0, y1, y2⟩ := KX.out _ (KY.out _ hSw); go_simp; rfl
      simp only [Act.put, List.getElem_toArray, List.getElem_cons_zero, List.getElem_cons_succ, List.setIfInBounds_toArray, List.set_cons_zero, List.set_cons_succ]
      refine wpAnyH_done (by kernel_rfl) ?_ _
      go_wp2_with fail
      go_ret2
      exact FF.out
    · by_cases h5 : kN = 5
      · subst h5
        have yk : w5.cell? ⟨w.heap.size, 0, none⟩ = some (.int .u8 5) := (KX.out w5 (KY.out w5 (Below.refl _ _))).1
        have hbl : 1 ≤ b.length ∧ b.length ≤ 131072 := by
          simp [mayP, flB] at hmb
          omega
        have u32l : IntKind.u32.wrap (b.length : Int) = (b.length : Int) := by rw [IntKind.wrap_u32]; omega
        have CB := hid (fun W => big_uint32 b.length (by omega) W)
        clear hmb
        go_wp2_with fail
        refine wp_region_held_drew (S := (Below w5.heap.size w5)) (by kernel_rfl) (by repeat' first | exact Below.refl _ _ | apply bel_drewN) (fun hHeld => ?_)
        have HS := hid hHeld
        clear hHeld
        change wpAnyH _ _ _ _ _ _ _ _ (World.drew _)
        refine wpAnyH_take (i := 0) (v := ?_) rfl (by kernel_rfl) (by kernel_rfl) (by kernel_rfl) (fun _ _ _ h => h) (Or.inl ⟨by rfl, ?q0⟩) HS.out ?_
        case q0 => intro w hSw; obtain ⟨y0, y1, y2⟩ := KX.out _ (KY.out _ hSw); go_simp; rfl
        simp only [Act.put, List.getElem_toArray, List.getElem_cons_zero, List.getElem_cons_succ, List.setIfInBounds_toArray, List.set_cons_zero, List.set_cons_succ]
        refine wpAnyH_take (i := 1) (v := ?_) rfl (by kernel_rfl) (by kernel_rfl) (by kernel_rfl) (fun _ _ _ h => h) (Or.inl ⟨by rfl, ?q1⟩) HS.out ?_
        case q1 => intro w hSw; obtain ⟨y0, y1, y2⟩ := KX.out _ (KY.out _ hSw); go_simp; rfl
        simp only [Act.put, List.getElem_toArray, List.getElem_cons_zero, List.getElem_cons_succ, List.setIfInBounds_toArray, List.set_cons_zero, List.set_cons_succ]
        refine wpAnyH_take (i := 2) (v := ?_) rfl (by kernel_rfl) (by kernel_rfl) (by kernel_rfl) (fun _ _ _ h => h) (Or.inl ⟨by rfl, ?q2⟩) HS.out ?_
        case q2 => intro w hSw; obtain ⟨y0, y1, y2⟩ := KX.out _ (KY.out _ hSw); go_simp; rfl
        simp only [Act.put, List.getElem_toArray, List.getElem_cons_zero, List.getElem_cons_succ, List.setIfInBounds_toArray, List.set_cons_zero, List.set_cons_succ]
        refine wpAnyH_take (i := 3) (v := ?_) rfl (by kernel_rfl) (by kernel_rfl) (by kernel_rfl) (fun _ _ _ h => h) (Or.inl ⟨by rfl, ?q3⟩) HS.out ?_
        case q3 => intro w hSw; obtain ⟨y0, y1, y2⟩ := KX.out _ (KY.out _ hSw); go_simp; rfl
        simp only [Act.put, List.getElem_toArray, List.getElem_cons_zero, List.getElem_cons_succ, List.setIfInBounds_toArray, List.set_cons_zero, List.set_cons_succ]
        refine wpAnyH_take (i := 4) (v := ?_) rfl (by kernel_rfl) (by kernel_rfl) (by kernel_rfl) (fun _ _ _ h => h) (Or.inl ⟨by rfl, ?q4⟩) HS.out ?_
        case q4 => intro w hSw; obtain ⟨y0, y1, y2⟩ := KX.out _ (KY.out _ hSw); go_simp; rfl
        simp only [Act.put, List.getElem_toArray, List.getElem_cons_zero, List.getElem_cons_succ, List.setIfInBounds_toArray, List.set_cons_zero, List.set_cons_succ]
        refine wpAnyH_take (i := 5) (v := ?_) rfl (by kernel_rfl) (by kernel_rfl) (by kernel_rfl) (fun _ _ _ h => h) (Or.inl ⟨by rfl, ?q5⟩) HS.out ?_
        case q5 => intro w hSw; obtain ⟨y0, y1, y2⟩ := KX.out _ (KY.out _ hSw); go_simp; rfl
        simp only [Act.put, List.getElem_toArray, List.getElem_cons_zero, List.getElem_cons_succ, List.setIfInBounds_toArray, List.set_cons_zero, List.set_cons_succ]
        refine wpAnyH_take (i := 7) (v := ?_) rfl (by kernel_rfl) (by kernel_rfl) (by kernel_rfl) (fun _ _ _ h => h) (Or.inl ⟨by rfl, ?q7⟩) HS.out ?_
        case q7 => intro w hSw; obtain ⟨y0, y1, y2⟩ := KX.out _ (KY.out _ hSw); go_simp; rfl
        simp only [Act.put, List.getElem_toArray, List.getElem_cons_zero, List.getElem_cons_succ, List.setIfInBounds_toArray, List.set_cons_zero, List.set_cons_succ]
        refine wpAnyH_take (i := 8) (v := ?_) rfl (by kernel_rfl) (by kernel_rfl) (by kernel_rfl) (fun _ _ _ h => h) (Or.inl ⟨by rfl, ?q8⟩) HS.out ?_
        case q8 => intro w hSw; obtain ⟨y0, y1, y2⟩ := KX.out _ (KY.out _ hSw); go_simp; rfl
        simp only [Act.put, List.getElem_toArray, List.getElem_cons_zero, List.getElem_cons_succ, List.setIfInBounds_toArray, List.set_cons_zero, List.set_cons_succ]
        refine wpAnyH_ready (rs := [6]) (by kernel_rfl) (by simp) ?_
        refine AllReadyH.cons rfl (fun K hK => ?_) AllReadyH.nil
        replace hK := hid hK
        go_simp
        refine (CB.out _).mono ?_
        rintro e w6 ⟨v6, rfl, ho6, hb6⟩
        have B6 : Hid (Below w5.heap.size w5 w6) := hid ((bel_drewN (Below.refl _ w5) _).trans hb6)
        have h6 : HB w6 v6 (bigL 4 b.length) := HB.of_own (by rw [bigL_len]; exact ho6) (bigL_byt 4 b.length)
        have H6 := hid h6
        obtain ⟨p6, c6, e6, -, -⟩ := h6.open
        rw [bigL_len] at e6
        clear h6 ho6 hb6 HS
        subst e6
        refine hK.out _ _ B6.out (fun _ => ?_)
        clear hK K
        obtain ⟨WL, HWL⟩ : ∃ W : World, Hid (w6.alloc (.cells #[.slice p6 4 c6, .slice vp b.length vc] 36) = W) := ⟨_, hid rfl⟩
        have hlit := run_lit2 w6 p6 4 c6 vp b.length vc
        rw [HWL.out] at hlit
        have BL : Hid (Below w5.heap.size w5 WL) := hid (B6.out.trans (by rw [← HWL.out]; exact (Below.refl _ _).alloc B6.out.size _))
        have ZL : Hid (WL.heap.size = w6.heap.size + 1) := hid (by rw [← HWL.out]; simp)
        have LL : Hid (WL.heap[w6.heap.size]? = some (.cells #[.slice p6 4 c6, .slice vp b.length vc] 36 (0, 0))) := hid (by rw [← HWL.out]; exact heap_alloc_new _ _)
        have CL2 := hid (CL.out WL [.slice p6 4 c6, .slice vp b.length vc] [bigL 4 b.length, b] (by rw [ZL.out]; exact LL.out) (by have := ZL.out; omega) BL.out rfl (by simp) (by simp) (by simp [bigL_len]; omega) (fun j u hj => by
          match j, hj with
          | 0, hj => cases hj; exact H6.out.below (by rw [← HWL.out]; exact (Below.refl _ _).alloc (Nat.le_refl _) _)
          | 1, hj => cases hj; exact VB.out _ (KY.out _ BL.out)
          | n + 2, hj => cases hj))
        rw [ZL.out, Nat.add_sub_cancel] at CL2
        refine wpAnyH_ready (rs := [9]) (by kernel_rfl) (by simp) ?_
        refine AllReadyH.cons rfl (fun K hK => ?_) AllReadyH.nil
        replace hK := hid hK
        refine wanted_litQ (by rfl) 24 2 _ rfl #[(0, .slice p6 4 c6), (1, .slice vp b.length vc)] (by go_simp) _ hlit ?_
        simp only [Act.put, List.getElem_toArray, List.getElem_cons_zero, List.getElem_cons_succ, List.setIfInBounds_toArray, List.set_cons_zero, List.set_cons_succ]
        refine hK.out _ _ BL.out (fun _ => ?_)
        clear hK K hlit
        refine wpAnyH_ready (rs := [10]) (by kernel_rfl) (by simp) ?_
        refine AllReadyH.cons rfl (fun K hK => ?_) AllReadyH.nil
        replace hK := hid hK
        go_simp
        refine CL2.out.mono ?_
        rintro e w9 ⟨v9, rfl, ho9, hb9⟩
        rw [← ZL.out] at ho9 hb9
        have BF : Hid (Below w5.heap.size w5 w9) := hid (BL.out.trans (hb9.mono BL.out.size))
        have FF := hid (FIN.out WL w9 v9 _ BL.out hb9 (by rw [← HLQ.out]; simp [layP]) ho9)
        clear ho9 hb9 CL2
        refine hK.out _ _ BF.out (fun _ => ?_)
        clear hK K
        try clear HS
        have HS := BF
        refine wpAnyH_take (i := 11) (v := ?_) rfl (by kernel_rfl) (by kernel_rfl) (by kernel_rfl) (fun _ _ _ h => h) (Or.inl ⟨by rfl, ?q11⟩) HS.out ?_
        case q11 => intro w hSw; obtain ⟨y0, y1, y2⟩ := KX.out _ (KY.out _ hSw); go_simp; rfl
        simp only [Act.put, List.getElem_toArray, List.getElem_cons_zero, List.getElem_cons_succ, List.setIfInBounds_toArray, List.set_cons_zero, List.set_cons_succ]
        refine wpAnyH_take (i := 12) (v := ?_) rfl (by kernel_rfl) (by kernel_rfl) (by kernel_rfl) (fun _ _ _ h => h) (Or.inl ⟨by rfl, ?q12⟩) HS.out ?_
        case q12 => intro w hSw; obtain ⟨y0, y1, y2⟩ := KX.out _ (KY.out _ hSw); go_simp; rfl
        simp only [Act.put, List.getElem_toArray, List.getElem_cons_zero, List.getElem_cons_succ, List.setIfInBounds_toArray, List.set_cons_zero, List.set_cons_succ]
        refine wpAnyH_done (by kernel_rfl) ?_ _
        go_wp2_with fail
        go_ret2
        exact FF.out
      · have yk : w5.cell? ⟨w.heap.size, 0, none⟩ = some (.int .u8 (kN : Int)) := (KX.out w5 (KY.out w5 (Below.refl _ _))).1
        have b1 : ((kN : Int) == 1) = false := beq_eq_false_iff_ne.2 (by omega)
        have b5 : ((kN : Int) == 5) = false := beq_eq_false_iff_ne.2 (by omega)
        have C0 := hid (laid0_any w5 kN (by omega))
        have HLL : Hid (L = [(kN : Int)]) := hid (by rw [← HLQ.out, layP, if_neg (by omega), if_neg (by omega)])
        clear hmb
        go_wp2_with fail
        refine C0.out.mono ?_
        rintro e w9 ⟨v9, rfl, ho9, hb9⟩
        have FF := hid (FIN.out w5 w9 v9 _ (Below.refl _ _) hb9 HLL.out ho9)
        clear ho9 hb9 C0
        go_wp2_with fail
        go_ret2
        exact FF.out
end Go.Proofs.Ytmegeogfpkdodaa
