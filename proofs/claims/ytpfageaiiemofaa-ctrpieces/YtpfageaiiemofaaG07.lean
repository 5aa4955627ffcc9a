/- Of the road to ctrPiecesUpto_holds: CtrPcW. -/
import Derived.Test.YtpfageaiiemofaaG06
import Derived.Deep.RegionHeld
import Derived.OrdersHeld
set_option linter.unusedVariables false
set_option linter.unusedSimpArgs false
namespace Go.Proofs.Ytpfageaiiemofaa
open Go Go.RowKit Ev
theorem cell_of_row5 (w : World) (g o : Nat) (m : Array Value) (T : TypeId) (fr : Nat × Nat) (h : w.heap[g]? = some (.cells m T fr)) : w.cell? ⟨g, o, none⟩ = m[o]? := by simp [World.cell?, h]
set_option maxRecDepth 100000 in
set_option maxHeartbeats 16000000 in
theorem pieces_ok (w : World) (k : List Nat) (at' : Nat) (v : Value) (l : List Int) (vc : Value) (cuts : List Int) (hk : Byt k) (hl : k.length = 16) (hv : HB w v l) (hs : l.length ≤ 3000) (hpl : at' + l.length ≤ 4611686018427387904) (hc : HJ w vc cuts) (hcn : cuts.length ≤ 1100000) :
    Calls Try.prog 3 #[.agg (cells8 k), .int .i64 (at' : Int), v, vc] w fun e w' => e = .returned (.bool true) ∧ Below w.heap.size w w' := by
  obtain ⟨z0, z1, z2, z3, z4, z5, z6, z7, z8, z9, z10, z11, z12, z13, z14, z15, hz⟩ := list16 hl
  have hcz : cells8 k = #[.int .u8 (z0 : Int), .int .u8 (z1 : Int), .int .u8 (z2 : Int), .int .u8 (z3 : Int), .int .u8 (z4 : Int), .int .u8 (z5 : Int), .int .u8 (z6 : Int), .int .u8 (z7 : Int), .int .u8 (z8 : Int), .int .u8 (z9 : Int), .int .u8 (z10 : Int), .int .u8 (z11 : Int), .int .u8 (z12 : Int), .int .u8 (z13 : Int), .int .u8 (z14 : Int), .int .u8 (z15 : Int)] := by rw [hz]; rfl
  have HCZ := hid hcz
  rw [hcz]
  clear hz hcz
  have HV := hid hv
  have HC := hid hc
  obtain ⟨pa, ca, rfl, hca, hcm⟩ := hv.open
  obtain ⟨pc, cc, rfl, hcc, hccm, hcell⟩ := hc
  have HCL := hid hcell
  clear hv hcell
  unfold maxLen at hccm hcm
  obtain ⟨X, HX⟩ : ∃ y, Hid (xorL l (strL k at' l.length) = y) := ⟨_, rfl⟩
  have PCS : Hid (∀ F m, F + m ≤ l.length → xorL ((l.drop F).take m) (strL k (at' + F) m) = (X.drop F).take m) := hid fun F m h => by rw [← HX.out]; exact apply_piece k at' F m l h
  have hstl : (strL k at' l.length).length = l.length := by simp [strL]
  have XL : Hid (X.length = l.length) := by rw [← HX.out]; exact xorL_length hstl.symm
  have XB : Hid (∀ x ∈ X, 0 ≤ x ∧ x < 256) := by rw [← HX.out]; exact xorL_byt HV.out.2 (strL_byt hl hk at' l.length)
  clear hstl
  refine Calls.mono (calls_of_wp Try.func3 rfl (R := fun e w' => e = .returned (.bool true) ∧ Below w.heap.size w w') ?_) (fun e w' h => h)
  simp only [Try.ntmps3, List.size_toArray, List.length_cons, List.length_nil, Nat.reduceAdd, Nat.reduceSub, Array.replicate_succ, Array.replicate_zero, List.push_toArray, List.append_toArray, List.nil_append, List.cons_append]
  refine wp_seq_k fun K1 h1 => ?_
  have H1 := hid h1
  clear h1
  go_wp2
  refine H1.out _ _ ?_
  clear H1 K1
  rw [← HCZ.out]
  clear HCZ
  obtain ⟨w0, hw0⟩ : ∃ w0, Hid (w.alloc (.cells (cells8 k) 23) = w0) := ⟨_, rfl⟩
  rw [hw0.out]
  have B0 : Hid (Below w.heap.size w w0) := by rw [← hw0.out]; exact (Below.refl _ w).alloc (Nat.le_refl _) _
  have K0 : Hid (KeyIn w0 w.heap.size k) := by rw [← hw0.out]; exact World.alloc_heap_new w _
  have CA := hid (cawake_any w0)
  go_wp2_with fail
  refine CA.out.mono ?_
  rintro e w1 ⟨rfl, hB1⟩
  have K1 := hid (K0.out.below hB1)
  have B1 := hid (B0.out.trans (hB1.mono B0.out.size))
  clear hB1 CA
  have V1 := hid (HV.out.below B1.out)
  have e1 : decide ((3000 : Int) < (l.length : Int)) = false := decide_eq_false (by omega)
  have C2 := apply_ok w1 k at' _ l hk hl V1.out hpl (by omega)
  rw [HX.out] at C2
  have C2 := hid C2
  obtain ⟨n, Hn⟩ : ∃ y, Hid (l.length = y) := ⟨_, rfl⟩
  rw [Hn.out] at C2 hs hpl hca e1 XL PCS ⊢
  go_wp2_with (refine wpList_ldk K1 hl rfl rfl rfl ?_)
  refine C2.out.mono ?_
  rintro e w2 ⟨v2, rfl, ho2, hB2⟩
  have B2 := hid (B1.out.trans (hB2.mono B1.out.size))
  have K2 := hid (K1.out.below hB2)
  have X2 := hid (HB.of_own (by rw [XL.out]; exact ho2) XB.out)
  obtain ⟨px, cx, rfl, _, _⟩ := X2.out.open
  rw [XL.out] at X2 ⊢
  clear hB2 C2 ho2
  have C3 := hid (cnew_any w2 k hk hl)
  go_wp2_with (refine wpList_ldk K2 hl rfl rfl rfl ?_)
  refine C3.out.mono ?_
  rintro e w3 ⟨g, rfl, hct3, hg3, hB3⟩
  have C4 := hid (cseek_ok w3 g k 0 at' hct3 (by omega))
  have T4 := hid (hct3.set (at' : Int))
  have G3 := hid hct3.lt
  have HG := hid hg3
  have B23 := hid hB3
  clear hB3 hct3 C3 hg3
  go_wp2_with fail
  refine C4.out.mono ?_
  rintro e w4 ⟨rfl, hw4⟩
  rw [← hw4] at T4
  have G4 : Hid (g < w4.heap.size) := hid T4.out.lt
  have B24 : Hid (Below w2.heap.size w2 w4) := by rw [hw4]; exact hid (B23.out.setCell HG.out _)
  clear hw4 C4 B23 G3
  obtain ⟨B, HBB⟩ : ∃ y, Hid (w4.heap.size = y) := ⟨_, rfl⟩
  rw [HBB.out] at G4
  go_wp2
  go_loopw [12, 13, 14, 15] (fun o12 o13 fr ii wr => ∃ (I F : Nat) (ps qs : List (List Int)), I ≤ cuts.length + 1 ∧ F ≤ n ∧ fr = .int .i64 (F : Int) ∧ ii = .int .i64 (I : Int) ∧ ps.length = I ∧ qs.length = I ∧ Hid (ps.flatten = X.take F) ∧ Hid (qs.flatten = X.take F) ∧ Hid (I = cuts.length + 1 → F = n) ∧ Hid (PX B wr o12 ps) ∧ Hid (PX B wr o13 qs) ∧ Hid (o12.ownBlock = none ∨ o12.ownBlock ≠ o13.ownBlock) ∧ Hid (HCt wr g k ((at' + F : Nat) : Int)) ∧ Hid (Below w2.heap.size w2 wr) ∧ Hid (B ≤ wr.heap.size)) (fun _ _ _ ii _ => cuts.length + 1 - (intOf ii).toNat)
  case atStart => exact ⟨0, 0, [], [], by omega, by omega, rfl, rfl, rfl, rfl, hid rfl, hid rfl, hid (fun h => by omega), hid (PX.nil _ _), hid (PX.nil _ _), hid (.inl rfl), hid (by simpa using T4.out), B24, hid (Nat.le_of_eq HBB.out.symm)⟩
  case round =>
    clear T4 B24
    obtain ⟨I, F, ps, qs, hI, hF, rfl, rfl, hpsl, hqsl, FP, FQ, FN, P12, P13, NE, HT, B2r, BSZ⟩ := hrel
    have BR := hid (B2.out.trans (B2r.out.mono B2.out.size))
    by_cases hlt : I ≤ cuts.length
    case neg =>
      have hIc : I = cuts.length + 1 := by omega
      have hFn : F = n := FN.out hIc
      subst hFn
      have XT : X.take F = X := List.take_of_length_le (by rw [XL.out]; exact Nat.le_refl _)
      rw [XT] at FP FQ
      have hXn : X.length ≤ 3000 := by rw [XL.out]; exact hs
      have CJ1 := join_any wr _ ps P12.out.hl (by rw [FP.out]; omega)
      rw [FP.out] at CJ1
      have CJ1 := hid CJ1
      clear XT
      go_wp2_with fail
      refine CJ1.out.mono ?_
      rintro e w5 ⟨v5, rfl, ho5, hb5⟩
      have XJ5 := hid (HB.of_own ho5 XB.out)
      have X5 := hid ((X2.out.below B2r.out).below hb5)
      have CS5 := hid (sameBytes_any w5 _ _ X X XJ5.out X5.out)
      rw [decide_eq_true rfl] at CS5
      have Q5 := hid (P13.out.below hb5)
      have T5 := hid (HT.out.below hb5)
      have B5 := hid (B2r.out.trans (hb5.mono B2r.out.size))
      clear ho5 hb5 CJ1 P12
      go_wp2_with fail
      refine CS5.out.mono ?_
      rintro e w6 ⟨rfl, hd6⟩
      have Q6 := hid (Q5.out.below (hd6.below _))
      have T6 := hid (T5.out.below (hd6.below _))
      have B6 := hid (B5.out.trans ((hd6.below _).mono B5.out.size))
      clear hd6 CS5 Q5 T5 B5
      have CJ2 := join_any w6 _ qs Q6.out.hl (by rw [FQ.out]; omega)
      rw [FQ.out] at CJ2
      have CJ2 := hid CJ2
      go_wp2_with fail
      refine CJ2.out.mono ?_
      rintro e w7 ⟨v7, rfl, ho7, hb7⟩
      have XJ7 := hid (HB.of_own ho7 XB.out)
      have X7 := hid ((X2.out.below B6.out).below hb7)
      have CS7 := hid (sameBytes_any w7 _ _ X X XJ7.out X7.out)
      rw [decide_eq_true rfl] at CS7
      have T7 := hid (T6.out.below hb7)
      have B7 := hid (B6.out.trans (hb7.mono B6.out.size))
      clear ho7 hb7 CJ2
      go_wp2_with fail
      refine CS7.out.mono ?_
      rintro e w8 ⟨rfl, hd8⟩
      have T8 := hid (T7.out.below (hd8.below _))
      have B8 := hid (B7.out.trans ((hd8.below _).mono B7.out.size))
      clear hd8 CS7
      have CT := hid (cat_any w8 g k _ T8.out)
      go_wp2_with fail
      refine CT.out.mono ?_
      rintro e w9 ⟨rfl, hw9⟩
      have hw9' := hw9.symm
      subst hw9'
      have BF := hid (B2.out.trans (B8.out.mono B2.out.size))
      have heq : ((at' + F : Nat) : Int) = (at' : Int) + (F : Int) := by omega
      rw [heq]
      clear hw9 heq
      have hb1 : (at' : Int) + (F : Int) ≤ 4611686018427387904 := by omega
      go_wp2
      go_ret
      exact ⟨rfl, BF.out⟩
    case pos =>
      have hcast : ((n - F : Nat) : Int) = (n : Int) - (F : Int) := by omega
      by_cases hic : I < cuts.length
      case pos =>
        have hic2 : (I : Int) < (cuts.length : Int) := by omega
        obtain ⟨bc, oc, epc, hcs⟩ := HCL.out (by intro e; rw [e] at hic; simp at hic)
        subst epc
        have hcc1 : wr.cell? ⟨bc, oc + I, none⟩ = some (.int .i64 (cuts.getD I 0)) := (BR.out.cell (World.block_lt_of_cell? w _ (hcs I hic))).trans (hcs I hic)
        have CP := kpick_any wr (cuts.getD I 0) (n - F + 1) (by omega) (by omega)
        rw [show ((n - F + 1 : Nat) : Int) = (n : Int) - (F : Int) + 1 by omega] at CP
        have CP := hid CP
        obtain ⟨cI, HcI⟩ : ∃ y, Hid (cuts.getD I 0 = y) := ⟨_, rfl⟩
        rw [HcI.out] at hcc1 CP
        clear hcs
        go_wp2_with fail
        refine CP.out.mono ?_
        rintro e w5 ⟨⟨m, hm, rfl⟩, hw5⟩
        have hw5' := hw5.symm
        subst hw5'
        have hmF : F + m ≤ n := by omega
        have LAST : Hid (I + 1 = cuts.length + 1 → F + m = n) := hid fun h => by omega
        clear CP hw5 hcc1 hm
        as_aux_lemma =>
        have hsl := HV.out.sliced F (F + m) ca (by omega) (by rw [Hn.out]; exact hmF) (by omega) (Nat.le_refl _)
        rw [Nat.add_sub_cancel_left, List.drop_take, Nat.add_sub_cancel_left] at hsl
        have hr1 := fun W => slice_lh5 W pa n ca F (F + m) (by omega) (by omega)
        rw [Nat.add_sub_cancel_left, show ((F + m : Nat) : Int) = (F : Int) + (m : Int) by omega] at hr1
        obtain ⟨pn, Hpn⟩ : ∃ y, Hid ((if ca = F then pa else pa.map (·.add F)) = y) := ⟨_, rfl⟩
        rw [Hpn.out] at hsl hr1
        have HSL := hid hsl
        have lml : Hid (((l.drop F).take m).length = m) := hid (by rw [List.length_take, List.length_drop, Hn.out]; omega)
        have PC := hid (PCS.out F m hmF)
        have PB : Hid (∀ x ∈ (X.drop F).take m, 0 ≤ x ∧ x < 256) := hid fun x hx => XB.out x (List.mem_of_mem_drop (List.mem_of_mem_take hx))
        have PL : Hid (((X.drop F).take m).length = m) := hid (by rw [List.length_take, List.length_drop, XL.out]; omega)
        have FP2 : Hid ((ps ++ [(X.drop F).take m]).flatten = X.take (F + m)) := hid (by rw [List.flatten_append, FP.out]; simp only [List.flatten_cons, List.flatten_nil, List.append_nil]; exact pieces_step X F m)
        have FQ2 : Hid ((qs ++ [(X.drop F).take m]).flatten = X.take (F + m)) := hid (by rw [List.flatten_append, FQ.out]; simp only [List.flatten_cons, List.flatten_nil, List.append_nil]; exact pieces_step X F m)
        obtain ⟨lm, Hlm⟩ : ∃ y, Hid ((l.drop F).take m = y) := ⟨_, rfl⟩
        obtain ⟨xm, Hxm⟩ : ∃ y, Hid ((X.drop F).take m = y) := ⟨_, rfl⟩
        rw [Hlm.out] at HSL lml PC
        rw [Hxm.out] at PC PB PL FP2 FQ2
        have KEY : Hid (∀ W, Below wr.heap.size wr W → KeyIn W w.heap.size k) := hid fun W hW => (K2.out.below B2r.out).below hW
        have hat : ((at' + F : Nat) : Int) = (at' : Int) + (F : Int) := by omega
        have CAP := hid fun (W : World) (hW : Below wr.heap.size wr W) => apply_ok W k (at' + F) _ lm hk hl (HSL.out.below (BR.out.trans (hW.mono BR.out.size))) (by rw [lml.out]; omega) (by rw [lml.out]; omega)
        rw [lml.out, PC.out, hat] at CAP
        clear hsl Hpn Hlm Hxm
        have hb1 : (at' : Int) + (F : Int) ≤ 4611686018427387904 := by omega
        have hb2 : (F : Int) + (m : Int) ≤ 3000 := by omega
        go_wp2
        refine wp_region_held_drew (S := Below wr.heap.size wr) (by kernel_rfl) (Below.refl _ _).drew (fun hHeld => ?_)
        have HS := hid hHeld
        clear hHeld
        change wpAnyH _ _ _ _ _ _ _ _ (World.drew _)
        refine wpAnyH_take (i := 0) (v := .agg (cells8 k)) rfl (by kernel_rfl) (by kernel_rfl) (by kernel_rfl) (fun _ _ _ h => h) (Or.inl ⟨by rfl, fun w hSw => ldk_exec (KEY.out w hSw) hl rfl rfl⟩) HS.out ?_
        simp only [Act.put, List.getElem_toArray, List.getElem_cons_zero, List.getElem_cons_succ, List.setIfInBounds_toArray, List.set_cons_zero, List.set_cons_succ]
        refine wpAnyH_take (i := 1) (v := ?_) rfl (by kernel_rfl) (by kernel_rfl) (by kernel_rfl) (fun _ _ _ h => h) (Or.inl ⟨by rfl, ?q1⟩) HS.out ?_
        case q1 => intro w hSw; go_simp; rfl
        simp only [Act.put, List.getElem_toArray, List.getElem_cons_zero, List.getElem_cons_succ, List.setIfInBounds_toArray, List.set_cons_zero, List.set_cons_succ]
        refine wpAnyH_take (i := 2) (v := ?_) rfl (by kernel_rfl) (by kernel_rfl) (by kernel_rfl) (fun _ _ _ h => h) (Or.inl ⟨by rfl, ?q2⟩) HS.out ?_
        case q2 => intro w hSw; go_simp; rfl
        simp only [Act.put, List.getElem_toArray, List.getElem_cons_zero, List.getElem_cons_succ, List.setIfInBounds_toArray, List.set_cons_zero, List.set_cons_succ]
        refine wpAnyH_take (i := 3) (v := .int .i64 ((at' : Int) + (F : Int))) rfl (by kernel_rfl) (by kernel_rfl) (by kernel_rfl) (fun _ _ _ h => h) (Or.inl ⟨by rfl, ?q3⟩) HS.out ?_
        case q3 => intro w hSw; go_simp; rw [IntKind.wrap_i64]; omega
        simp only [Act.put, List.getElem_toArray, List.getElem_cons_zero, List.getElem_cons_succ, List.setIfInBounds_toArray, List.set_cons_zero, List.set_cons_succ]
        refine wpAnyH_take (i := 4) (v := ?_) rfl (by kernel_rfl) (by kernel_rfl) (by kernel_rfl) (fun _ _ _ h => h) (Or.inl ⟨by rfl, ?q4⟩) HS.out ?_
        case q4 => intro w hSw; go_simp; rfl
        simp only [Act.put, List.getElem_toArray, List.getElem_cons_zero, List.getElem_cons_succ, List.setIfInBounds_toArray, List.set_cons_zero, List.set_cons_succ]
        refine wpAnyH_take (i := 5) (v := ?_) rfl (by kernel_rfl) (by kernel_rfl) (by kernel_rfl) (fun _ _ _ h => h) (Or.inl ⟨by rfl, ?q5⟩) HS.out ?_
        case q5 => intro w hSw; go_simp; rfl
        simp only [Act.put, List.getElem_toArray, List.getElem_cons_zero, List.getElem_cons_succ, List.setIfInBounds_toArray, List.set_cons_zero, List.set_cons_succ]
        refine wpAnyH_take (i := 6) (v := ?_) rfl (by kernel_rfl) (by kernel_rfl) (by kernel_rfl) (fun _ _ _ h => h) (Or.inl ⟨by rfl, ?q6⟩) HS.out ?_
        case q6 => intro w hSw; go_simp; rfl
        simp only [Act.put, List.getElem_toArray, List.getElem_cons_zero, List.getElem_cons_succ, List.setIfInBounds_toArray, List.set_cons_zero, List.set_cons_succ]
        refine wpAnyH_take (i := 7) (v := ?_) rfl (by kernel_rfl) (by kernel_rfl) (by kernel_rfl) (fun _ _ _ h => h) (Or.inl ⟨by rfl, ?q7⟩) HS.out ?_
        case q7 => intro w hSw; go_simp; rfl
        simp only [Act.put, List.getElem_toArray, List.getElem_cons_zero, List.getElem_cons_succ, List.setIfInBounds_toArray, List.set_cons_zero, List.set_cons_succ]
        refine wpAnyH_take (i := 8) (v := .int .i64 ((F : Int) + (m : Int))) rfl (by kernel_rfl) (by kernel_rfl) (by kernel_rfl) (fun _ _ _ h => h) (Or.inl ⟨by rfl, ?q8⟩) HS.out ?_
        case q8 => intro w hSw; go_simp; rw [IntKind.wrap_i64]; omega
        simp only [Act.put, List.getElem_toArray, List.getElem_cons_zero, List.getElem_cons_succ, List.setIfInBounds_toArray, List.set_cons_zero, List.set_cons_succ]
        refine wpAnyH_take (i := 9) (v := .slice pn m (ca - F)) rfl (by kernel_rfl) (by kernel_rfl) (by kernel_rfl) (fun _ _ _ h => h) (Or.inl ⟨by rfl, ?q9⟩) HS.out ?_
        case q9 => intro w hSw; go_simp
        simp only [Act.put, List.getElem_toArray, List.getElem_cons_zero, List.getElem_cons_succ, List.setIfInBounds_toArray, List.set_cons_zero, List.set_cons_succ]
        refine wpAnyH_ready (rs := [10]) (by kernel_rfl) (by simp) ?_
        refine AllReadyH.cons rfl (fun K hK => ?_) AllReadyH.nil
        replace hK := hid hK
        go_simp
        refine (CAP.out _ HS.out).mono ?_
        rintro e w6 ⟨v6, rfl, ho6, hb6⟩
        have HS2 := hid (HS.out.trans (hb6.mono HS.out.size))
        have E6 : Hid (ER B w6 v6 xm) := hid ⟨by rw [PL.out]; exact own_mono ho6 (Nat.le_trans BSZ.out HS.out.size), PB.out⟩
        clear hb6 ho6
        obtain ⟨p6, c6, ev6⟩ := own_slc E6.out.1
        rw [PL.out] at ev6
        subst ev6
        refine hK.out _ _ HS2.out (fun _ => ?_)
        clear hK K
        clear HS
        have HS := HS2
        clear HS2
        try simp only [Act.put, List.getElem_toArray, List.getElem_cons_zero, List.getElem_cons_succ, List.setIfInBounds_toArray, List.set_cons_zero, List.set_cons_succ]
        refine wpAnyH_take (i := 11) (v := ?_) rfl (by kernel_rfl) (by kernel_rfl) (by kernel_rfl) (fun _ _ _ h => h) (Or.inl ⟨by rfl, ?q11⟩) HS.out ?_
        case q11 => intro w hSw; go_simp; rfl
        simp only [Act.put, List.getElem_toArray, List.getElem_cons_zero, List.getElem_cons_succ, List.setIfInBounds_toArray, List.set_cons_zero, List.set_cons_succ]
        refine wpAnyH_take (i := 12) (v := ?_) rfl (by kernel_rfl) (by kernel_rfl) (by kernel_rfl) (fun _ _ _ h => h) (Or.inl ⟨by rfl, ?q12⟩) HS.out ?_
        case q12 => intro w hSw; go_simp; rfl
        simp only [Act.put, List.getElem_toArray, List.getElem_cons_zero, List.getElem_cons_succ, List.setIfInBounds_toArray, List.set_cons_zero, List.set_cons_succ]
        refine wpAnyH_take (i := 13) (v := ?_) rfl (by kernel_rfl) (by kernel_rfl) (by kernel_rfl) (fun _ _ _ h => h) (Or.inl ⟨by rfl, ?q13⟩) HS.out ?_
        case q13 => intro w hSw; go_simp; rfl
        simp only [Act.put, List.getElem_toArray, List.getElem_cons_zero, List.getElem_cons_succ, List.setIfInBounds_toArray, List.set_cons_zero, List.set_cons_succ]
        refine wpAnyH_take (i := 14) (v := ?_) rfl (by kernel_rfl) (by kernel_rfl) (by kernel_rfl) (fun _ _ _ h => h) (Or.inl ⟨by rfl, ?q14⟩) HS.out ?_
        case q14 => intro w hSw; go_simp; rfl
        simp only [Act.put, List.getElem_toArray, List.getElem_cons_zero, List.getElem_cons_succ, List.setIfInBounds_toArray, List.set_cons_zero, List.set_cons_succ]
        refine wpAnyH_take (i := 15) (v := ?_) rfl (by kernel_rfl) (by kernel_rfl) (by kernel_rfl) (fun _ _ _ h => h) (Or.inl ⟨by rfl, ?q15⟩) HS.out ?_
        case q15 => intro w hSw; go_simp; rfl
        simp only [Act.put, List.getElem_toArray, List.getElem_cons_zero, List.getElem_cons_succ, List.setIfInBounds_toArray, List.set_cons_zero, List.set_cons_succ]
        refine wpAnyH_done (by kernel_rfl) ?_ _
        have B26 := hid (B2r.out.trans (HS.out.mono B2r.out.size))
        have BZ6 := hid (Nat.le_trans BSZ.out HS.out.size)
        have HT6 := hid (HT.out.below HS.out)
        have P12 := hid (P12.out.below HS.out)
        have P13 := hid (P13.out.below HS.out)
        have BR6 := hid (BR.out.trans (HS.out.mono BR.out.size))
        have CN := cnext_ok w6 g k (at' + F) _ lm hk hl HT6.out (HSL.out.below BR6.out) (by rw [lml.out]; omega) (by rw [lml.out]; omega)
        rw [lml.out, PC.out] at CN
        have CN := hid CN
        clear CAP KEY
        go_wp2_with fail
        refine CN.out.mono ?_
        rintro e w8 ⟨v8, w7, rfl, ho7, hb7, hw8⟩
        have HT8 : Hid (HCt w8 g k ((at' + F + m : Nat) : Int)) := hid (by rw [hw8]; exact (HT6.out.below hb7).set _)
        have E8 : Hid (ER B w8 (.slice p6 m c6) xm) := hid (by rw [hw8]; exact (E6.out.below hb7).setLow g 17 _ G4.out)
        have Q8 : Hid (ER B w8 v8 xm) := hid (by rw [hw8]; exact ER.setLow ⟨by rw [PL.out]; exact own_mono ho7 BZ6.out, PB.out⟩ g 17 _ G4.out)
        obtain ⟨p8, c8, ev8⟩ := own_slc Q8.out.1
        rw [PL.out] at ev8
        subst ev8
        have P12 : Hid (PX B w8 _ ps) := hid (by rw [hw8]; exact (P12.out.below hb7).setLow g 17 _ G4.out)
        have P13 : Hid (PX B w8 _ qs) := hid (by rw [hw8]; exact (P13.out.below hb7).setLow g 17 _ G4.out)
        have B28 : Hid (Below w2.heap.size w2 w8) := hid (by rw [hw8]; exact (B26.out.trans (hb7.mono B26.out.size)).setCell HG.out _)
        have BZ8 : Hid (B ≤ w8.heap.size) := hid (by rw [hw8]; have h1 := hb7.size; have h2 := BZ6.out; simp [World.setCell]; omega)
        clear CN ho7 hb7 hw8 E6 HT6 B26 BR6 BZ6 HT B2r BR BSZ HS
        have hal : Below w8.heap.size w8 (w8.alloc (.cells #[.slice p6 m c6] 24)) := (Below.refl _ _).alloc (Nat.le_refl _) _
        have P12A := hid (P12.out.below hal)
        have P13A := hid (P13.out.below hal)
        have E8A := hid (E8.out.below hal)
        have Q8A := hid (Q8.out.below hal)
        have HT8A := hid (HT8.out.below hal)
        have B28A := hid (B28.out.trans (hal.mono B28.out.size))
        have BZA := hid (Nat.le_trans BZ8.out hal.size)
        have CLA : Hid ((w8.alloc (.cells #[.slice p6 m c6] 24)).cell? ⟨w8.heap.size, 0, none⟩ = some (.slice p6 m c6)) := hid ((cell_of_row5 _ _ 0 _ _ _ (World.alloc_heap_new w8 _)).trans rfl)
        clear hal P12 P13 E8 Q8 HT8 B28 BZ8
        go_wp2_with (at_builtin; refine wpList_append_PX rfl _ _ rfl _ ps rfl P12A.out ⟨w8.heap.size, 0, none⟩ 1 (.slice p6 m c6) xm rfl CLA.out E8A.out (by rw [hpsl]; omega) BZA.out ?_)
        intro o12' w9 hp9 hg9 hbk9 hob9
        have NE9 := hid (ne_left NE.out hob9 (fun g e => by simpa using (P13A.out.lt g e).2))
        have P13B := hid (P13A.out.kept hg9 (fun g e q => (ne_some NE.out g q) e) (fun g e => .inr (hbk9 g e).2))
        have P12B := hid hp9
        have Q9 := hid (Q8A.out.kept hg9 (fun g e => own_block_ne Q8A.out.1 (hbk9 g e).2.choose_spec.choose_spec (by decide)))
        have HT9 := hid (HT8A.out.kept hg9.size (hg9.block g HT8A.out.lt (fun e => by have := (hbk9 g e.symm).1; have := G4.out; omega)))
        have B29 := hid (B28A.out.grown hg9 B28A.out.size (fun q e => by have := (hbk9 q e).1; have h3 := HBB.out; have h4 := HG.out; have h5 := G4.out; omega))
        have BZ9 := hid (Nat.le_trans BZA.out hg9.size)
        clear hp9 hg9 hbk9 hob9 NE P12A P13A E8A Q8A HT8A B28A BZA CLA
        have hal : Below w9.heap.size w9 (w9.alloc (.cells #[.slice p8 m c8] 24)) := (Below.refl _ _).alloc (Nat.le_refl _) _
        have P12A := hid (P12B.out.below hal)
        have P13A := hid (P13B.out.below hal)
        have Q8A := hid (Q9.out.below hal)
        have HT8A := hid (HT9.out.below hal)
        have B28A := hid (B29.out.trans (hal.mono B29.out.size))
        have BZA := hid (Nat.le_trans BZ9.out hal.size)
        have CLA : Hid ((w9.alloc (.cells #[.slice p8 m c8] 24)).cell? ⟨w9.heap.size, 0, none⟩ = some (.slice p8 m c8)) := hid ((cell_of_row5 _ _ 0 _ _ _ (World.alloc_heap_new w9 _)).trans rfl)
        clear hal P12B P13B Q9 HT9 B29 BZ9
        go_wp2_with (at_builtin; refine wpList_append_PX rfl _ _ rfl _ qs rfl P13A.out ⟨w9.heap.size, 0, none⟩ 1 (.slice p8 m c8) xm rfl CLA.out Q8A.out (by rw [hqsl]; omega) BZA.out ?_)
        intro o13' w11 hp11 hg11 hbk11 hob11
        have NE11 := hid (ne_right NE9.out hob11 (fun g e => by simpa using (P12A.out.lt g e).2))
        have P12B := hid (P12A.out.kept hg11 (ne_some NE9.out) (fun g e => .inr (hbk11 g e).2))
        have P13B := hid hp11
        have HT11 := hid (HT8A.out.kept hg11.size (hg11.block g HT8A.out.lt (fun e => by have := (hbk11 g e.symm).1; have := G4.out; omega)))
        have B211 := hid (B28A.out.grown hg11 B28A.out.size (fun q e => by have := (hbk11 q e).1; have h3 := HBB.out; have h4 := HG.out; have h5 := G4.out; omega))
        have BZ11 := hid (Nat.le_trans BZA.out hg11.size)
        clear hp11 hg11 hbk11 hob11 NE9 P12A P13A Q8A HT8A B28A BZA CLA
        go_wp2
        exact ⟨⟨I + 1, F + m, ps ++ [xm], qs ++ [xm], by omega, by omega, by go_num, by go_num, by rw [List.length_append, hpsl]; rfl, by rw [List.length_append, hqsl]; rfl, FP2, FQ2, LAST, P12B, P13B, NE11, by rw [← Nat.add_assoc]; exact HT11, B211, BZ11⟩, by simp [intOf]; omega⟩
      case neg =>
        have hic2 : ¬ (I : Int) < (cuts.length : Int) := by omega
        obtain ⟨m, Hm⟩ : ∃ y, Hid (n - F = y) := ⟨_, rfl⟩
        have hcast2 : (n : Int) - (F : Int) = (m : Int) := by have := Hm.out; omega
        have hmF : F + m ≤ n := by have := Hm.out; omega
        have LAST : Hid (I + 1 = cuts.length + 1 → F + m = n) := hid fun h => by have := Hm.out; omega
        clear hcast
        go_wp2
        try rw [hcast2]
        clear hcast2
        as_aux_lemma =>
        have hsl := HV.out.sliced F (F + m) ca (by omega) (by rw [Hn.out]; exact hmF) (by omega) (Nat.le_refl _)
        rw [Nat.add_sub_cancel_left, List.drop_take, Nat.add_sub_cancel_left] at hsl
        have hr1 := fun W => slice_lh5 W pa n ca F (F + m) (by omega) (by omega)
        rw [Nat.add_sub_cancel_left, show ((F + m : Nat) : Int) = (F : Int) + (m : Int) by omega] at hr1
        obtain ⟨pn, Hpn⟩ : ∃ y, Hid ((if ca = F then pa else pa.map (·.add F)) = y) := ⟨_, rfl⟩
        rw [Hpn.out] at hsl hr1
        have HSL := hid hsl
        have lml : Hid (((l.drop F).take m).length = m) := hid (by rw [List.length_take, List.length_drop, Hn.out]; omega)
        have PC := hid (PCS.out F m hmF)
        have PB : Hid (∀ x ∈ (X.drop F).take m, 0 ≤ x ∧ x < 256) := hid fun x hx => XB.out x (List.mem_of_mem_drop (List.mem_of_mem_take hx))
        have PL : Hid (((X.drop F).take m).length = m) := hid (by rw [List.length_take, List.length_drop, XL.out]; omega)
        have FP2 : Hid ((ps ++ [(X.drop F).take m]).flatten = X.take (F + m)) := hid (by rw [List.flatten_append, FP.out]; simp only [List.flatten_cons, List.flatten_nil, List.append_nil]; exact pieces_step X F m)
        have FQ2 : Hid ((qs ++ [(X.drop F).take m]).flatten = X.take (F + m)) := hid (by rw [List.flatten_append, FQ.out]; simp only [List.flatten_cons, List.flatten_nil, List.append_nil]; exact pieces_step X F m)
        obtain ⟨lm, Hlm⟩ : ∃ y, Hid ((l.drop F).take m = y) := ⟨_, rfl⟩
        obtain ⟨xm, Hxm⟩ : ∃ y, Hid ((X.drop F).take m = y) := ⟨_, rfl⟩
        rw [Hlm.out] at HSL lml PC
        rw [Hxm.out] at PC PB PL FP2 FQ2
        have KEY : Hid (∀ W, Below wr.heap.size wr W → KeyIn W w.heap.size k) := hid fun W hW => (K2.out.below B2r.out).below hW
        have hat : ((at' + F : Nat) : Int) = (at' : Int) + (F : Int) := by omega
        have CAP := hid fun (W : World) (hW : Below wr.heap.size wr W) => apply_ok W k (at' + F) _ lm hk hl (HSL.out.below (BR.out.trans (hW.mono BR.out.size))) (by rw [lml.out]; omega) (by rw [lml.out]; omega)
        rw [lml.out, PC.out, hat] at CAP
        clear hsl Hpn Hlm Hxm
        have hb1 : (at' : Int) + (F : Int) ≤ 4611686018427387904 := by omega
        have hb2 : (F : Int) + (m : Int) ≤ 3000 := by omega
        go_wp2
        refine wp_region_held_drew (S := Below wr.heap.size wr) (by kernel_rfl) (Below.refl _ _).drew (fun hHeld => ?_)
        have HS := hid hHeld
        clear hHeld
        change wpAnyH _ _ _ _ _ _ _ _ (World.drew _)
        refine wpAnyH_take (i := 0) (v := .agg (cells8 k)) rfl (by kernel_rfl) (by kernel_rfl) (by kernel_rfl) (fun _ _ _ h => h) (Or.inl ⟨by rfl, fun w hSw => ldk_exec (KEY.out w hSw) hl rfl rfl⟩) HS.out ?_
        simp only [Act.put, List.getElem_toArray, List.getElem_cons_zero, List.getElem_cons_succ, List.setIfInBounds_toArray, List.set_cons_zero, List.set_cons_succ]
        refine wpAnyH_take (i := 1) (v := ?_) rfl (by kernel_rfl) (by kernel_rfl) (by kernel_rfl) (fun _ _ _ h => h) (Or.inl ⟨by rfl, ?q1⟩) HS.out ?_
        case q1 => intro w hSw; go_simp; rfl
        simp only [Act.put, List.getElem_toArray, List.getElem_cons_zero, List.getElem_cons_succ, List.setIfInBounds_toArray, List.set_cons_zero, List.set_cons_succ]
        refine wpAnyH_take (i := 2) (v := ?_) rfl (by kernel_rfl) (by kernel_rfl) (by kernel_rfl) (fun _ _ _ h => h) (Or.inl ⟨by rfl, ?q2⟩) HS.out ?_
        case q2 => intro w hSw; go_simp; rfl
        simp only [Act.put, List.getElem_toArray, List.getElem_cons_zero, List.getElem_cons_succ, List.setIfInBounds_toArray, List.set_cons_zero, List.set_cons_succ]
        refine wpAnyH_take (i := 3) (v := .int .i64 ((at' : Int) + (F : Int))) rfl (by kernel_rfl) (by kernel_rfl) (by kernel_rfl) (fun _ _ _ h => h) (Or.inl ⟨by rfl, ?q3⟩) HS.out ?_
        case q3 => intro w hSw; go_simp; rw [IntKind.wrap_i64]; omega
        simp only [Act.put, List.getElem_toArray, List.getElem_cons_zero, List.getElem_cons_succ, List.setIfInBounds_toArray, List.set_cons_zero, List.set_cons_succ]
        refine wpAnyH_take (i := 4) (v := ?_) rfl (by kernel_rfl) (by kernel_rfl) (by kernel_rfl) (fun _ _ _ h => h) (Or.inl ⟨by rfl, ?q4⟩) HS.out ?_
        case q4 => intro w hSw; go_simp; rfl
        simp only [Act.put, List.getElem_toArray, List.getElem_cons_zero, List.getElem_cons_succ, List.setIfInBounds_toArray, List.set_cons_zero, List.set_cons_succ]
        refine wpAnyH_take (i := 5) (v := ?_) rfl (by kernel_rfl) (by kernel_rfl) (by kernel_rfl) (fun _ _ _ h => h) (Or.inl ⟨by rfl, ?q5⟩) HS.out ?_
        case q5 => intro w hSw; go_simp; rfl
        simp only [Act.put, List.getElem_toArray, List.getElem_cons_zero, List.getElem_cons_succ, List.setIfInBounds_toArray, List.set_cons_zero, List.set_cons_succ]
        refine wpAnyH_take (i := 6) (v := ?_) rfl (by kernel_rfl) (by kernel_rfl) (by kernel_rfl) (fun _ _ _ h => h) (Or.inl ⟨by rfl, ?q6⟩) HS.out ?_
        case q6 => intro w hSw; go_simp; rfl
        simp only [Act.put, List.getElem_toArray, List.getElem_cons_zero, List.getElem_cons_succ, List.setIfInBounds_toArray, List.set_cons_zero, List.set_cons_succ]
        refine wpAnyH_take (i := 7) (v := ?_) rfl (by kernel_rfl) (by kernel_rfl) (by kernel_rfl) (fun _ _ _ h => h) (Or.inl ⟨by rfl, ?q7⟩) HS.out ?_
        case q7 => intro w hSw; go_simp; rfl
        simp only [Act.put, List.getElem_toArray, List.getElem_cons_zero, List.getElem_cons_succ, List.setIfInBounds_toArray, List.set_cons_zero, List.set_cons_succ]
        refine wpAnyH_take (i := 8) (v := .int .i64 ((F : Int) + (m : Int))) rfl (by kernel_rfl) (by kernel_rfl) (by kernel_rfl) (fun _ _ _ h => h) (Or.inl ⟨by rfl, ?q8⟩) HS.out ?_
        case q8 => intro w hSw; go_simp; rw [IntKind.wrap_i64]; omega
        simp only [Act.put, List.getElem_toArray, List.getElem_cons_zero, List.getElem_cons_succ, List.setIfInBounds_toArray, List.set_cons_zero, List.set_cons_succ]
        refine wpAnyH_take (i := 9) (v := .slice pn m (ca - F)) rfl (by kernel_rfl) (by kernel_rfl) (by kernel_rfl) (fun _ _ _ h => h) (Or.inl ⟨by rfl, ?q9⟩) HS.out ?_
        case q9 => intro w hSw; go_simp
        simp only [Act.put, List.getElem_toArray, List.getElem_cons_zero, List.getElem_cons_succ, List.setIfInBounds_toArray, List.set_cons_zero, List.set_cons_succ]
        refine wpAnyH_ready (rs := [10]) (by kernel_rfl) (by simp) ?_
        refine AllReadyH.cons rfl (fun K hK => ?_) AllReadyH.nil
        replace hK := hid hK
        go_simp
        refine (CAP.out _ HS.out).mono ?_
        rintro e w6 ⟨v6, rfl, ho6, hb6⟩
        have HS2 := hid (HS.out.trans (hb6.mono HS.out.size))
        have E6 : Hid (ER B w6 v6 xm) := hid ⟨by rw [PL.out]; exact own_mono ho6 (Nat.le_trans BSZ.out HS.out.size), PB.out⟩
        clear hb6 ho6
        obtain ⟨p6, c6, ev6⟩ := own_slc E6.out.1
        rw [PL.out] at ev6
        subst ev6
        refine hK.out _ _ HS2.out (fun _ => ?_)
        clear hK K
        clear HS
        have HS := HS2
        clear HS2
        try simp only [Act.put, List.getElem_toArray, List.getElem_cons_zero, List.getElem_cons_succ, List.setIfInBounds_toArray, List.set_cons_zero, List.set_cons_succ]
        refine wpAnyH_take (i := 11) (v := ?_) rfl (by kernel_rfl) (by kernel_rfl) (by kernel_rfl) (fun _ _ _ h => h) (Or.inl ⟨by rfl, ?q11⟩) HS.out ?_
        case q11 => intro w hSw; go_simp; rfl
        simp only [Act.put, List.getElem_toArray, List.getElem_cons_zero, List.getElem_cons_succ, List.setIfInBounds_toArray, List.set_cons_zero, List.set_cons_succ]
        refine wpAnyH_take (i := 12) (v := ?_) rfl (by kernel_rfl) (by kernel_rfl) (by kernel_rfl) (fun _ _ _ h => h) (Or.inl ⟨by rfl, ?q12⟩) HS.out ?_
        case q12 => intro w hSw; go_simp; rfl
        simp only [Act.put, List.getElem_toArray, List.getElem_cons_zero, List.getElem_cons_succ, List.setIfInBounds_toArray, List.set_cons_zero, List.set_cons_succ]
        refine wpAnyH_take (i := 13) (v := ?_) rfl (by kernel_rfl) (by kernel_rfl) (by kernel_rfl) (fun _ _ _ h => h) (Or.inl ⟨by rfl, ?q13⟩) HS.out ?_
        case q13 => intro w hSw; go_simp; rfl
        simp only [Act.put, List.getElem_toArray, List.getElem_cons_zero, List.getElem_cons_succ, List.setIfInBounds_toArray, List.set_cons_zero, List.set_cons_succ]
        refine wpAnyH_take (i := 14) (v := ?_) rfl (by kernel_rfl) (by kernel_rfl) (by kernel_rfl) (fun _ _ _ h => h) (Or.inl ⟨by rfl, ?q14⟩) HS.out ?_
        case q14 => intro w hSw; go_simp; rfl
        simp only [Act.put, List.getElem_toArray, List.getElem_cons_zero, List.getElem_cons_succ, List.setIfInBounds_toArray, List.set_cons_zero, List.set_cons_succ]
        refine wpAnyH_take (i := 15) (v := ?_) rfl (by kernel_rfl) (by kernel_rfl) (by kernel_rfl) (fun _ _ _ h => h) (Or.inl ⟨by rfl, ?q15⟩) HS.out ?_
        case q15 => intro w hSw; go_simp; rfl
        simp only [Act.put, List.getElem_toArray, List.getElem_cons_zero, List.getElem_cons_succ, List.setIfInBounds_toArray, List.set_cons_zero, List.set_cons_succ]
        refine wpAnyH_done (by kernel_rfl) ?_ _
        have B26 := hid (B2r.out.trans (HS.out.mono B2r.out.size))
        have BZ6 := hid (Nat.le_trans BSZ.out HS.out.size)
        have HT6 := hid (HT.out.below HS.out)
        have P12 := hid (P12.out.below HS.out)
        have P13 := hid (P13.out.below HS.out)
        have BR6 := hid (BR.out.trans (HS.out.mono BR.out.size))
        have CN := cnext_ok w6 g k (at' + F) _ lm hk hl HT6.out (HSL.out.below BR6.out) (by rw [lml.out]; omega) (by rw [lml.out]; omega)
        rw [lml.out, PC.out] at CN
        have CN := hid CN
        clear CAP KEY
        go_wp2_with fail
        refine CN.out.mono ?_
        rintro e w8 ⟨v8, w7, rfl, ho7, hb7, hw8⟩
        have HT8 : Hid (HCt w8 g k ((at' + F + m : Nat) : Int)) := hid (by rw [hw8]; exact (HT6.out.below hb7).set _)
        have E8 : Hid (ER B w8 (.slice p6 m c6) xm) := hid (by rw [hw8]; exact (E6.out.below hb7).setLow g 17 _ G4.out)
        have Q8 : Hid (ER B w8 v8 xm) := hid (by rw [hw8]; exact ER.setLow ⟨by rw [PL.out]; exact own_mono ho7 BZ6.out, PB.out⟩ g 17 _ G4.out)
        obtain ⟨p8, c8, ev8⟩ := own_slc Q8.out.1
        rw [PL.out] at ev8
        subst ev8
        have P12 : Hid (PX B w8 _ ps) := hid (by rw [hw8]; exact (P12.out.below hb7).setLow g 17 _ G4.out)
        have P13 : Hid (PX B w8 _ qs) := hid (by rw [hw8]; exact (P13.out.below hb7).setLow g 17 _ G4.out)
        have B28 : Hid (Below w2.heap.size w2 w8) := hid (by rw [hw8]; exact (B26.out.trans (hb7.mono B26.out.size)).setCell HG.out _)
        have BZ8 : Hid (B ≤ w8.heap.size) := hid (by rw [hw8]; have h1 := hb7.size; have h2 := BZ6.out; simp [World.setCell]; omega)
        clear CN ho7 hb7 hw8 E6 HT6 B26 BR6 BZ6 HT B2r BR BSZ HS
        have hal : Below w8.heap.size w8 (w8.alloc (.cells #[.slice p6 m c6] 24)) := (Below.refl _ _).alloc (Nat.le_refl _) _
        have P12A := hid (P12.out.below hal)
        have P13A := hid (P13.out.below hal)
        have E8A := hid (E8.out.below hal)
        have Q8A := hid (Q8.out.below hal)
        have HT8A := hid (HT8.out.below hal)
        have B28A := hid (B28.out.trans (hal.mono B28.out.size))
        have BZA := hid (Nat.le_trans BZ8.out hal.size)
        have CLA : Hid ((w8.alloc (.cells #[.slice p6 m c6] 24)).cell? ⟨w8.heap.size, 0, none⟩ = some (.slice p6 m c6)) := hid ((cell_of_row5 _ _ 0 _ _ _ (World.alloc_heap_new w8 _)).trans rfl)
        clear hal P12 P13 E8 Q8 HT8 B28 BZ8
        go_wp2_with (at_builtin; refine wpList_append_PX rfl _ _ rfl _ ps rfl P12A.out ⟨w8.heap.size, 0, none⟩ 1 (.slice p6 m c6) xm rfl CLA.out E8A.out (by rw [hpsl]; omega) BZA.out ?_)
        intro o12' w9 hp9 hg9 hbk9 hob9
        have NE9 := hid (ne_left NE.out hob9 (fun g e => by simpa using (P13A.out.lt g e).2))
        have P13B := hid (P13A.out.kept hg9 (fun g e q => (ne_some NE.out g q) e) (fun g e => .inr (hbk9 g e).2))
        have P12B := hid hp9
        have Q9 := hid (Q8A.out.kept hg9 (fun g e => own_block_ne Q8A.out.1 (hbk9 g e).2.choose_spec.choose_spec (by decide)))
        have HT9 := hid (HT8A.out.kept hg9.size (hg9.block g HT8A.out.lt (fun e => by have := (hbk9 g e.symm).1; have := G4.out; omega)))
        have B29 := hid (B28A.out.grown hg9 B28A.out.size (fun q e => by have := (hbk9 q e).1; have h3 := HBB.out; have h4 := HG.out; have h5 := G4.out; omega))
        have BZ9 := hid (Nat.le_trans BZA.out hg9.size)
        clear hp9 hg9 hbk9 hob9 NE P12A P13A E8A Q8A HT8A B28A BZA CLA
        have hal : Below w9.heap.size w9 (w9.alloc (.cells #[.slice p8 m c8] 24)) := (Below.refl _ _).alloc (Nat.le_refl _) _
        have P12A := hid (P12B.out.below hal)
        have P13A := hid (P13B.out.below hal)
        have Q8A := hid (Q9.out.below hal)
        have HT8A := hid (HT9.out.below hal)
        have B28A := hid (B29.out.trans (hal.mono B29.out.size))
        have BZA := hid (Nat.le_trans BZ9.out hal.size)
        have CLA : Hid ((w9.alloc (.cells #[.slice p8 m c8] 24)).cell? ⟨w9.heap.size, 0, none⟩ = some (.slice p8 m c8)) := hid ((cell_of_row5 _ _ 0 _ _ _ (World.alloc_heap_new w9 _)).trans rfl)
        clear hal P12B P13B Q9 HT9 B29 BZ9
        go_wp2_with (at_builtin; refine wpList_append_PX rfl _ _ rfl _ qs rfl P13A.out ⟨w9.heap.size, 0, none⟩ 1 (.slice p8 m c8) xm rfl CLA.out Q8A.out (by rw [hqsl]; omega) BZA.out ?_)
        intro o13' w11 hp11 hg11 hbk11 hob11
        have NE11 := hid (ne_right NE9.out hob11 (fun g e => by simpa using (P12A.out.lt g e).2))
        have P12B := hid (P12A.out.kept hg11 (ne_some NE9.out) (fun g e => .inr (hbk11 g e).2))
        have P13B := hid hp11
        have HT11 := hid (HT8A.out.kept hg11.size (hg11.block g HT8A.out.lt (fun e => by have := (hbk11 g e.symm).1; have := G4.out; omega)))
        have B211 := hid (B28A.out.grown hg11 B28A.out.size (fun q e => by have := (hbk11 q e).1; have h3 := HBB.out; have h4 := HG.out; have h5 := G4.out; omega))
        have BZ11 := hid (Nat.le_trans BZA.out hg11.size)
        clear hp11 hg11 hbk11 hob11 NE9 P12A P13A Q8A HT8A B28A BZA CLA
        go_wp2
        exact ⟨⟨I + 1, F + m, ps ++ [xm], qs ++ [xm], by omega, by omega, by go_num, by go_num, by rw [List.length_append, hpsl]; rfl, by rw [List.length_append, hqsl]; rfl, FP2, FQ2, LAST, P12B, P13B, NE11, by rw [← Nat.add_assoc]; exact HT11, B211, BZ11⟩, by simp [intOf]; omega⟩
theorem pieces_walk (w : World) (k : List Nat) (p : Int) (v : Value) (l : List Int) (vc : Value) (cuts : List Int) (hk : Byt k) (hl : k.length = 16) (hv : HB w v l) (hp : -9223372036854775808 ≤ p ∧ p ≤ 9223372036854775807) (hc : HJ w vc cuts) (hn : l.length ≤ 1100000) (hcn : cuts.length ≤ 1100000) :
    Calls Try.prog 3 #[.agg (cells8 k), .int .i64 p, v, vc] w fun e w' => e = .returned (.bool true) ∧ Below w.heap.size w w' := by
  by_cases h2 : okPl p l.length
  · obtain ⟨m, rfl⟩ := Int.eq_ofNat_of_zero_le h2.1
    have := h2.2
    by_cases h1 : l.length ≤ 3000
    · exact pieces_ok w k m v l vc cuts hk hl hv h1 (by omega) hc hcn
    · exact pieces_long w k m v l vc hk hl hv (by omega) (by omega) h1
  · exact pieces_bad w k p v l vc hl hv hp (by omega) h2
end Go.Proofs.Ytpfageaiiemofaa
