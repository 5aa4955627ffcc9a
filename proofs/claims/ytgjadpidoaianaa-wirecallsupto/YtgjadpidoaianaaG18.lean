/- Of the road to wireCallsUpto_holds: WrRPut, WrRPutP, MarksMore, LentKit, WrAsk0, WrAsk1. -/
import Derived.Test.YtgjadpidoaianaaG17
import Derived.Test.YtgjadpidoaianaaG10
import Derived.Test.YtgjadpidoaianaaG00
import Derived.Test.YtgjadpidoaianaaG11
import Derived.Test.YtgjadpidoaianaaG14
import Derived.Test.YtgjadpidoaianaaG09
set_option linter.unusedVariables false
set_option linter.unusedSimpArgs false
namespace Go.Proofs.Ytgjadpidoaianaa
open Go Go.RowKit
theorem own_key {w : World} {B : Nat} {u : Value} {N : Nat} {xs : List Value} {l : List Int} (h1 : N = l.length) (h2 : xs = l.map (Value.int .u8)) (h : w.ownsRow B 5 1 u N xs) : w.ownsRow B 5 1 u l.length (l.map (Value.int .u8)) := by subst h1 h2; exact h
set_option maxRecDepth 100000 in
set_option maxHeartbeats 32000000 in
theorem rputReq_any (w : World) (r : Rq) (hr : r.ok) (hk : 0 ≤ r.k ∧ r.k < 256) (hwho : 0 ≤ r.who ∧ r.who < 4294967296) (v : Value) (b : List Int) (hv : HB w v b) :
    Calls Try.prog 24 #[.agg (rqA r v)] w fun e w' => PutQ w (mayB r b.length) (layQ r b) 200 e w' ∧ Below w.heap.size w w' := by
  obtain ⟨vp, vc, rfl, hvc, hvm⟩ := hv.open
  have hbb := hv.2
  obtain ⟨m, HM⟩ : ∃ m, Hid (rqA r (.slice vp b.length vc) = m) := ⟨_, hid rfl⟩
  obtain ⟨W1, HW1⟩ : ∃ W : World, Hid (w.alloc (.cells m 38) = W) := ⟨_, hid rfl⟩
  have B1 : Hid (Below w.heap.size w W1) := by rw [← HW1.out]; exact hid ((Below.refl _ w).alloc (Nat.le_refl _) _)
  have Z1 : Hid (W1.heap.size = w.heap.size + 1) := hid (by rw [← HW1.out]; simp)
  have hbx : Hid (W1.heap[w.heap.size]? = some (.cells m 38 (0, 0))) := hid (by rw [← HW1.out]; exact heap_alloc_new w _)
  have HBX : Hid (∀ W, Below W1.heap.size W1 W → W.heap[w.heap.size]? = some (.cells m 38 (0, 0))) := hid (fun W hW => (hW.block _ (by have := Z1.out; omega)).trans hbx.out)
  have KX : Hid (∀ W, Below W1.heap.size W1 W → W.cell? ⟨w.heap.size, 0, none⟩ = some (.int .u8 r.k) ∧ W.cell? ⟨w.heap.size, 17, none⟩ = some (.int .i64 r.nb) ∧ W.cell? ⟨w.heap.size, 18, none⟩ = some (.int .i64 r.pl) ∧ W.cell? ⟨w.heap.size, 19, none⟩ = some (.int .i64 r.ln) ∧ W.cell? ⟨w.heap.size, 20, none⟩ = some (.int .u32 r.who) ∧ W.cell? ⟨w.heap.size, 21, none⟩ = some (.int .i64 r.til) ∧ W.cell? ⟨w.heap.size, 22, none⟩ = some (.slice vp b.length vc)) := hid (fun W hW => by
    have q2 := HBX.out W hW
    refine ⟨?_, ?_, ?_, ?_, ?_, ?_, ?_⟩ <;> rw [cell_of_row _ _ _ _ _ _ q2, ← HM.out]
    · rfl
    · exact rqA_17 hr _
    · exact rqA_18 hr _
    · exact rqA_19 hr _
    · exact rqA_20 hr _
    · exact rqA_21 hr _
    · exact rqA_22 hr _)
  have IX : Hid (∀ W, Below W1.heap.size W1 W → HB W (.slice (some ⟨w.heap.size, 1, none⟩) 16 16) r.ix) := hid (fun W hW => by
    refine ⟨⟨_, 16, by rw [hr.1], by rw [hr.1]; omega, by unfold maxLen; omega, (fun e => by cases e), fun _ => ⟨w.heap.size, 1, rfl, fun j hj => ?_⟩⟩, hr.2⟩
    rw [cell_of_row _ _ _ _ _ _ (HBX.out W hW), ← HM.out]
    unfold rqA rqL
    rw [List.getElem?_toArray, show 1 + j = j + 1 by omega, List.getElem?_cons_succ, List.getElem?_append_left (by simpa using hj), List.getElem?_map, List.getElem?_eq_getElem hj, getD_of_lt hj]
    rfl)
  have VB : Hid (∀ W, Below W1.heap.size W1 W → HB W (.slice vp b.length vc) b) := hid (fun W hW => hv.below (B1.out.trans (hW.mono B1.out.size)))
  have CM := hid (rmay20_any W1 r hr vp b.length vc)
  rw [HM.out] at CM
  rw [HM.out]
  have SL : Hid ((Try.prog.info? 38).map (·.size) = some m.toList.length) := hid (by rw [← HM.out]; show _ = some (rqL r _).length; rw [show (rqL r (.slice vp b.length vc)).length = 23 by simp [rqL, hr.1]]; kernel_rfl)
  have RG0 : Hid (W1.rangeAt w.heap.size 0 m.toList) := hid (fun j u hj => by rw [cell_of_row _ _ _ _ _ _ hbx.out, Nat.zero_add, ← Array.getElem?_toList]; exact hj)
  have HMM : Hid (m.toList.toArray = m) := hid (by simp)
  have LQ : Hid (layQ r b = layQ r b) := hid rfl
  obtain ⟨L, HLQ⟩ : ∃ L, Hid (layQ r b = L) := ⟨_, hid rfl⟩
  rw [HLQ.out]
  obtain ⟨mb, HMB⟩ : ∃ x, Hid (mayB r b.length = x) := ⟨_, hid rfl⟩
  rw [HMB.out] at CM
  rw [HMB.out]
  have HV := hid hv
  have HR := hid hr
  clear hv hr hbx LQ
  go_enter Try.func24, Try.ntmps24
  go_wp2_with (first | rw [HW1.out] | (refine wpList_load_mid rfl 38 _ rfl w.heap.size 0 rfl m.toList _ RG0.out Try.underlying38 rfl SL.out ?_; rw [HMM.out]) | fail)
  refine CM.out.mono ?_
  rintro e w2 ⟨rfl, hb2⟩
  have B2 := hid hb2
  clear hb2 CM
  cases mb with
  | false =>
    go_wp2_with fail
    go_ret2
    exact ⟨.inl ⟨rfl, rfl⟩, B1.out.trans (B2.out.mono B1.out.size)⟩
  | true =>
    have hmb := HMB.out
    obtain ⟨k, ix, nb, pl, ln, who, til⟩ := r
    simp only at hk hwho KX IX
    have hrest : (0 ≤ nb ∧ nb < 255) ∧ (0 ≤ til ∧ til ≤ 1099511627776) ∧ (k = 1 ∨ k = 2 ∨ k = 3 ∨ k = 4 ∨ k = 5) ∧ (k = 2 → b.length ≤ 33554432) ∧ (k = 3 → (0 ≤ pl ∧ pl ≤ 33554432) ∧ 1 ≤ ln ∧ ln ≤ 131072) := by
      unfold mayB nbB tkB stB at hmb
      simp only at hmb
      (repeat' split at hmb) <;> simp at hmb <;> refine ⟨?_, ?_, ?_, ?_, ?_⟩ <;> omega
    obtain ⟨hnb, htil, hk5, hk2, hk3⟩ := hrest
    obtain ⟨nbN, rfl⟩ := Int.eq_ofNat_of_zero_le hnb.1
    obtain ⟨tiN, rfl⟩ := Int.eq_ofNat_of_zero_le htil.1
    obtain ⟨whN, rfl⟩ := Int.eq_ofNat_of_zero_le hwho.1
    have u8w : IntKind.u8.wrap (nbN : Int) = (nbN : Int) := by rw [IntKind.wrap_u8]; omega
    have w64 : IntKind.i64.wrap (whN : Int) = (whN : Int) := by rw [IntKind.wrap_i64]; omega
    have CW := hid (fun W => rbig4_any W whN (by omega))
    have CT := hid (fun W => rbig8_any W tiN (by omega))
    obtain ⟨kN, rfl⟩ := Int.eq_ofNat_of_zero_le hk.1
    have KY : Hid (∀ W, Below w2.heap.size w2 W → Below W1.heap.size W1 W) := hid (fun W hW => B2.out.trans (hW.mono B2.out.size))
    have BW : Hid (∀ W, Below w2.heap.size w2 W → Below w.heap.size w W) := hid (fun W hW => B1.out.trans ((KY.out W hW).mono B1.out.size))
    have FIN : Hid (∀ w' (u : Value) (M : List Int), Below w2.heap.size w2 w' → L = M → w'.ownsRow w2.heap.size 5 1 u M.length (M.map (Value.int .u8)) → PutQ w true L 200 (.returned (.tuple #[u, .int .i64 0])) w' ∧ Below w.heap.size w w') := hid (fun w' u M h1 h3 h4 => by
      have h5 := BW.out w' h1
      refine ⟨.inr ⟨rfl, u, rfl, ?_⟩, h5⟩
      rw [h3]
      exact ⟨h4.1, h4.2.elim .inl fun ⟨gg, cap, cur, z1, z2, z3⟩ => .inr ⟨gg, cap, cur, z1, Nat.le_trans (BW.out w2 (Below.refl _ _)).size z2, z3⟩⟩)
    clear hmb
    rcases hk5 with hk1 | hk1 | hk1 | hk1 | hk1
    · have hkk : kN = 1 := by omega
      subst hkk
      obtain ⟨X0, HX0⟩ : ∃ W : World, Hid (w2.alloc (.cells #[.int .u8 1] 5) = W) := ⟨_, hid rfl⟩
      have B0 : Hid (Below w2.heap.size w2 X0) := by rw [← HX0.out]; exact hid ((Below.refl _ w2).alloc (Nat.le_refl _) _)
      have O0 : Hid (X0.ownsRow w2.heap.size 5 1 (.slice (some ⟨w2.heap.size, 0, none⟩) 1 1) 1 ([(1 : Int)].map (Value.int .u8))) := hid ⟨rfl, .inr ⟨_, _, _, rfl, Nat.le_refl _, by rw [← HX0.out]; exact heap_alloc_new w2 _, Nat.le_refl _, by decide, rfl, rfl⟩⟩
      obtain ⟨y0, y1, y2, y3, y4, y5, y6⟩ := KX.out w2 (KY.out w2 (Below.refl _ _))
      obtain ⟨z0, z1, z2, z3, z4, z5, z6⟩ := KX.out X0 (KY.out X0 B0.out)
      have y0' : w2.cell? ⟨w.heap.size, 0, none⟩ = some (.int .u8 1) := y0
      have z0' : X0.cell? ⟨w.heap.size, 0, none⟩ = some (.int .u8 1) := z0
      clear y0 y1 y2 y3 y4 y5 y6 z0
      go_wp2_with (first | rw [HX0.out] | (at_builtin; refine wpList_append_HB rfl _ _ rfl w2.heap.size _ _ _ rfl O0.out _ _ rfl (IX.out X0 (KY.out X0 B0.out)) ?q1 ?r1 ?_) | fail)
      case q1 => have := HR.out.1; simp only at this; (try simp only [List.length_append, List.length_cons, List.length_nil, bigL_len, this]); omega
      case r1 => exact B0.out.size
      intro u1 X1 hu1 hg1
      have BX1 : Hid (Below w2.heap.size w2 X1) := hid (B0.out.grown hg1 B0.out.size (fun k e => (O0.out.lt k e).1))
      have OX1 : Hid (X1.ownsRow w2.heap.size 5 1 u1 ([(1 : Int)] ++ ix).length (([(1 : Int)] ++ ix).map (Value.int .u8))) := hid (by rw [List.length_append, List.map_append]; exact hu1)
      obtain ⟨pu1, cu1, eu1⟩ := own_slice OX1.out
      obtain ⟨z0, z1, z2, z3, z4, z5, z6⟩ := KX.out X1 (KY.out X1 BX1.out)
      have z0' : X1.cell? ⟨w.heap.size, 0, none⟩ = some (.int .u8 1) := z0
      clear hu1 hg1 z0
      obtain ⟨N1, HN1⟩ : ∃ x, Hid (([(1 : Int)] ++ ix).length = x) := ⟨_, hid rfl⟩
      rw [HN1.out] at eu1
      have OZ1 : Hid (X1.ownsRow w2.heap.size 5 1 u1 N1 (([(1 : Int)] ++ ix).map (Value.int .u8))) := hid (by rw [← HN1.out]; exact OX1.out)
      have hN1 : N1 ≤ 33554500 := by rw [← HN1.out]; have := HR.out.1; simp only at this; simp only [List.length_append, List.length_cons, List.length_nil, bigL_len, this]; omega
      subst eu1
      have FF := hid (FIN.out X1 _ ([(1 : Int)] ++ ix) BX1.out (by rw [← HLQ.out]; simp [layQ]) OX1.out)
      go_wp2_with fail
      go_ret2
      exact FF.out
    · have hkk : kN = 2 := by omega
      subst hkk
      have hbl := hk2 rfl
      have CL := hid (fun W => rbig4_any W b.length (by omega))
      obtain ⟨X0, HX0⟩ : ∃ W : World, Hid (w2.alloc (.cells #[.int .u8 2] 5) = W) := ⟨_, hid rfl⟩
      have B0 : Hid (Below w2.heap.size w2 X0) := by rw [← HX0.out]; exact hid ((Below.refl _ w2).alloc (Nat.le_refl _) _)
      have O0 : Hid (X0.ownsRow w2.heap.size 5 1 (.slice (some ⟨w2.heap.size, 0, none⟩) 1 1) 1 ([(2 : Int)].map (Value.int .u8))) := hid ⟨rfl, .inr ⟨_, _, _, rfl, Nat.le_refl _, by rw [← HX0.out]; exact heap_alloc_new w2 _, Nat.le_refl _, by decide, rfl, rfl⟩⟩
      obtain ⟨y0, y1, y2, y3, y4, y5, y6⟩ := KX.out w2 (KY.out w2 (Below.refl _ _))
      obtain ⟨z0, z1, z2, z3, z4, z5, z6⟩ := KX.out X0 (KY.out X0 B0.out)
      have y0' : w2.cell? ⟨w.heap.size, 0, none⟩ = some (.int .u8 2) := y0
      have z0' : X0.cell? ⟨w.heap.size, 0, none⟩ = some (.int .u8 2) := z0
      clear y0 y1 y2 y3 y4 y5 y6 z0
      go_wp2_with (first | rw [HX0.out] | (at_builtin; refine wpList_append_HB rfl _ _ rfl w2.heap.size _ _ _ rfl O0.out _ _ rfl (IX.out X0 (KY.out X0 B0.out)) ?q1 ?r1 ?_) | fail)
      case q1 => have := HR.out.1; simp only at this; have := hk2 rfl; (try simp only [List.length_append, List.length_cons, List.length_nil, bigL_len, this]); omega
      case r1 => exact B0.out.size
      intro u1 X1 hu1 hg1
      have BX1 : Hid (Below w2.heap.size w2 X1) := hid (B0.out.grown hg1 B0.out.size (fun k e => (O0.out.lt k e).1))
      have OX1 : Hid (X1.ownsRow w2.heap.size 5 1 u1 ([(2 : Int)] ++ ix).length (([(2 : Int)] ++ ix).map (Value.int .u8))) := hid (by rw [List.length_append, List.map_append]; exact hu1)
      obtain ⟨pu1, cu1, eu1⟩ := own_slice OX1.out
      obtain ⟨z0, z1, z2, z3, z4, z5, z6⟩ := KX.out X1 (KY.out X1 BX1.out)
      have z0' : X1.cell? ⟨w.heap.size, 0, none⟩ = some (.int .u8 2) := z0
      clear hu1 hg1 z0
      obtain ⟨N1, HN1⟩ : ∃ x, Hid (([(2 : Int)] ++ ix).length = x) := ⟨_, hid rfl⟩
      rw [HN1.out] at eu1
      have OZ1 : Hid (X1.ownsRow w2.heap.size 5 1 u1 N1 (([(2 : Int)] ++ ix).map (Value.int .u8))) := hid (by rw [← HN1.out]; exact OX1.out)
      have hN1 : N1 ≤ 33554500 := by rw [← HN1.out]; have := HR.out.1; simp only at this; have := hk2 rfl; simp only [List.length_append, List.length_cons, List.length_nil, bigL_len, this]; omega
      subst eu1
      obtain ⟨Y2, HY2⟩ : ∃ W : World, Hid (X1.alloc (.cells #[.int .u8 (nbN : Int)] 5) = W) := ⟨_, hid rfl⟩
      have BY2 : Hid (Below X1.heap.size X1 Y2) := by rw [← HY2.out]; exact hid ((Below.refl _ X1).alloc (Nat.le_refl _) _)
      have LY2 : Hid (HB Y2 (.slice (some ⟨X1.heap.size, 0, none⟩) 1 1) [(nbN : Int)]) := hid (HB.lit (l := [(nbN : Int)]) (by rw [← HY2.out]; exact heap_alloc_new X1 _) (by simp) (by simp; omega))
      have BZ2 : Hid (Below w2.heap.size w2 Y2) := hid (BX1.out.trans (BY2.out.mono BX1.out.size))
      have OY2 := hid (own_ex OZ1.out (Ex.of_below (S := fun _ => False) BY2.out) (fun _ _ _ e => e))
      go_wp2_with (first | rw [HY2.out] | (at_builtin; refine wpList_append_HB rfl _ _ rfl w2.heap.size _ _ _ rfl OY2.out _ _ rfl LY2.out ?q2 ?r2 ?_) | fail)
      case q2 => have := HR.out.1; simp only at this; have := hk2 rfl; (try simp only [List.length_append, List.length_cons, List.length_nil, bigL_len, this]); omega
      case r2 => exact BZ2.out.size
      intro u2 X2 hu2 hg2
      have BX2 : Hid (Below w2.heap.size w2 X2) := hid (BZ2.out.grown hg2 BZ2.out.size (fun k e => (OY2.out.lt k e).1))
      have OX2 : Hid (X2.ownsRow w2.heap.size 5 1 u2 (([(2 : Int)] ++ ix) ++ [(nbN : Int)]).length ((([(2 : Int)] ++ ix) ++ [(nbN : Int)]).map (Value.int .u8))) := hid (own_key (l := (([(2 : Int)] ++ ix) ++ [(nbN : Int)])) (by rw [← HN1.out]; simp <;> omega) (by simp) hu2)
      obtain ⟨pu2, cu2, eu2⟩ := own_slice OX2.out
      obtain ⟨z0, z1, z2, z3, z4, z5, z6⟩ := KX.out X2 (KY.out X2 BX2.out)
      have z0' : X2.cell? ⟨w.heap.size, 0, none⟩ = some (.int .u8 2) := z0
      clear hu2 hg2 z0
      obtain ⟨N2, HN2⟩ : ∃ x, Hid ((([(2 : Int)] ++ ix) ++ [(nbN : Int)]).length = x) := ⟨_, hid rfl⟩
      rw [HN2.out] at eu2
      have OZ2 : Hid (X2.ownsRow w2.heap.size 5 1 u2 N2 ((([(2 : Int)] ++ ix) ++ [(nbN : Int)]).map (Value.int .u8))) := hid (by rw [← HN2.out]; exact OX2.out)
      have hN2 : N2 ≤ 33554500 := by rw [← HN2.out]; have := HR.out.1; simp only at this; have := hk2 rfl; simp only [List.length_append, List.length_cons, List.length_nil, bigL_len, this]; omega
      subst eu2
      go_wp2_with (first | fail)
      refine (CW.out _).mono ?_
      rintro e Y3 ⟨v3, rfl, ho3, hb3⟩
      have BY3 := hid hb3
      have LY3 : HB Y3 v3 (bigL 4 whN) := HB.of_own (by rw [bigL_len]; exact ho3) (bigL_byt 4 whN)
      obtain ⟨pb3, cb3, eb3, -, -⟩ := LY3.open
      rw [bigL_len] at eb3
      have HLY3 := hid LY3
      have BZ3 : Hid (Below w2.heap.size w2 Y3) := hid (BX2.out.trans (BY3.out.mono BX2.out.size))
      have OY3 := hid (own_ex OZ2.out (Ex.of_below (S := fun _ => False) BY3.out) (fun _ _ _ e => e))
      clear ho3 hb3 LY3
      subst eb3
      go_wp2_with (first | (at_builtin; refine wpList_append_HB rfl _ _ rfl w2.heap.size _ _ _ rfl OY3.out _ _ rfl HLY3.out ?q3 ?r3 ?_) | fail)
      case q3 => have := HR.out.1; simp only at this; have := hk2 rfl; (try simp only [List.length_append, List.length_cons, List.length_nil, bigL_len, this]); omega
      case r3 => exact BZ3.out.size
      intro u3 X3 hu3 hg3
      have BX3 : Hid (Below w2.heap.size w2 X3) := hid (BZ3.out.grown hg3 BZ3.out.size (fun k e => (OY3.out.lt k e).1))
      have OX3 : Hid (X3.ownsRow w2.heap.size 5 1 u3 ((([(2 : Int)] ++ ix) ++ [(nbN : Int)]) ++ bigL 4 whN).length (((([(2 : Int)] ++ ix) ++ [(nbN : Int)]) ++ bigL 4 whN).map (Value.int .u8))) := hid (own_key (l := ((([(2 : Int)] ++ ix) ++ [(nbN : Int)]) ++ bigL 4 whN)) (by rw [← HN2.out]; simp <;> omega) (by simp) hu3)
      obtain ⟨pu3, cu3, eu3⟩ := own_slice OX3.out
      obtain ⟨z0, z1, z2, z3, z4, z5, z6⟩ := KX.out X3 (KY.out X3 BX3.out)
      have z0' : X3.cell? ⟨w.heap.size, 0, none⟩ = some (.int .u8 2) := z0
      clear hu3 hg3 z0
      obtain ⟨N3, HN3⟩ : ∃ x, Hid (((([(2 : Int)] ++ ix) ++ [(nbN : Int)]) ++ bigL 4 whN).length = x) := ⟨_, hid rfl⟩
      rw [HN3.out] at eu3
      have OZ3 : Hid (X3.ownsRow w2.heap.size 5 1 u3 N3 (((([(2 : Int)] ++ ix) ++ [(nbN : Int)]) ++ bigL 4 whN).map (Value.int .u8))) := hid (by rw [← HN3.out]; exact OX3.out)
      have hN3 : N3 ≤ 33554500 := by rw [← HN3.out]; have := HR.out.1; simp only at this; have := hk2 rfl; simp only [List.length_append, List.length_cons, List.length_nil, bigL_len, this]; omega
      subst eu3
      go_wp2_with (first | fail)
      refine (CT.out _).mono ?_
      rintro e Y4 ⟨v4, rfl, ho4, hb4⟩
      have BY4 := hid hb4
      have LY4 : HB Y4 v4 (bigL 8 tiN) := HB.of_own (by rw [bigL_len]; exact ho4) (bigL_byt 8 tiN)
      obtain ⟨pb4, cb4, eb4, -, -⟩ := LY4.open
      rw [bigL_len] at eb4
      have HLY4 := hid LY4
      have BZ4 : Hid (Below w2.heap.size w2 Y4) := hid (BX3.out.trans (BY4.out.mono BX3.out.size))
      have OY4 := hid (own_ex OZ3.out (Ex.of_below (S := fun _ => False) BY4.out) (fun _ _ _ e => e))
      clear ho4 hb4 LY4
      subst eb4
      go_wp2_with (first | (at_builtin; refine wpList_append_HB rfl _ _ rfl w2.heap.size _ _ _ rfl OY4.out _ _ rfl HLY4.out ?q4 ?r4 ?_) | fail)
      case q4 => have := HR.out.1; simp only at this; have := hk2 rfl; (try simp only [List.length_append, List.length_cons, List.length_nil, bigL_len, this]); omega
      case r4 => exact BZ4.out.size
      intro u4 X4 hu4 hg4
      have BX4 : Hid (Below w2.heap.size w2 X4) := hid (BZ4.out.grown hg4 BZ4.out.size (fun k e => (OY4.out.lt k e).1))
      have OX4 : Hid (X4.ownsRow w2.heap.size 5 1 u4 (((([(2 : Int)] ++ ix) ++ [(nbN : Int)]) ++ bigL 4 whN) ++ bigL 8 tiN).length ((((([(2 : Int)] ++ ix) ++ [(nbN : Int)]) ++ bigL 4 whN) ++ bigL 8 tiN).map (Value.int .u8))) := hid (own_key (l := (((([(2 : Int)] ++ ix) ++ [(nbN : Int)]) ++ bigL 4 whN) ++ bigL 8 tiN)) (by rw [← HN3.out]; simp <;> omega) (by simp) hu4)
      obtain ⟨pu4, cu4, eu4⟩ := own_slice OX4.out
      obtain ⟨z0, z1, z2, z3, z4, z5, z6⟩ := KX.out X4 (KY.out X4 BX4.out)
      have z0' : X4.cell? ⟨w.heap.size, 0, none⟩ = some (.int .u8 2) := z0
      clear hu4 hg4 z0
      obtain ⟨N4, HN4⟩ : ∃ x, Hid ((((([(2 : Int)] ++ ix) ++ [(nbN : Int)]) ++ bigL 4 whN) ++ bigL 8 tiN).length = x) := ⟨_, hid rfl⟩
      rw [HN4.out] at eu4
      have OZ4 : Hid (X4.ownsRow w2.heap.size 5 1 u4 N4 ((((([(2 : Int)] ++ ix) ++ [(nbN : Int)]) ++ bigL 4 whN) ++ bigL 8 tiN).map (Value.int .u8))) := hid (by rw [← HN4.out]; exact OX4.out)
      have hN4 : N4 ≤ 33554500 := by rw [← HN4.out]; have := HR.out.1; simp only at this; have := hk2 rfl; simp only [List.length_append, List.length_cons, List.length_nil, bigL_len, this]; omega
      subst eu4
      go_wp2_with (first | fail)
      refine (CL.out _).mono ?_
      rintro e Y5 ⟨v5, rfl, ho5, hb5⟩
      have BY5 := hid hb5
      have LY5 : HB Y5 v5 (bigL 4 b.length) := HB.of_own (by rw [bigL_len]; exact ho5) (bigL_byt 4 b.length)
      obtain ⟨pb5, cb5, eb5, -, -⟩ := LY5.open
      rw [bigL_len] at eb5
      have HLY5 := hid LY5
      have BZ5 : Hid (Below w2.heap.size w2 Y5) := hid (BX4.out.trans (BY5.out.mono BX4.out.size))
      have OY5 := hid (own_ex OZ4.out (Ex.of_below (S := fun _ => False) BY5.out) (fun _ _ _ e => e))
      clear ho5 hb5 LY5
      subst eb5
      go_wp2_with (first | (at_builtin; refine wpList_append_HB rfl _ _ rfl w2.heap.size _ _ _ rfl OY5.out _ _ rfl HLY5.out ?q5 ?r5 ?_) | fail)
      case q5 => have := HR.out.1; simp only at this; have := hk2 rfl; (try simp only [List.length_append, List.length_cons, List.length_nil, bigL_len, this]); omega
      case r5 => exact BZ5.out.size
      intro u5 X5 hu5 hg5
      have BX5 : Hid (Below w2.heap.size w2 X5) := hid (BZ5.out.grown hg5 BZ5.out.size (fun k e => (OY5.out.lt k e).1))
      have OX5 : Hid (X5.ownsRow w2.heap.size 5 1 u5 ((((([(2 : Int)] ++ ix) ++ [(nbN : Int)]) ++ bigL 4 whN) ++ bigL 8 tiN) ++ bigL 4 b.length).length (((((([(2 : Int)] ++ ix) ++ [(nbN : Int)]) ++ bigL 4 whN) ++ bigL 8 tiN) ++ bigL 4 b.length).map (Value.int .u8))) := hid (own_key (l := ((((([(2 : Int)] ++ ix) ++ [(nbN : Int)]) ++ bigL 4 whN) ++ bigL 8 tiN) ++ bigL 4 b.length)) (by rw [← HN4.out]; simp <;> omega) (by simp) hu5)
      obtain ⟨pu5, cu5, eu5⟩ := own_slice OX5.out
      obtain ⟨z0, z1, z2, z3, z4, z5, z6⟩ := KX.out X5 (KY.out X5 BX5.out)
      have z0' : X5.cell? ⟨w.heap.size, 0, none⟩ = some (.int .u8 2) := z0
      clear hu5 hg5 z0
      obtain ⟨N5, HN5⟩ : ∃ x, Hid (((((([(2 : Int)] ++ ix) ++ [(nbN : Int)]) ++ bigL 4 whN) ++ bigL 8 tiN) ++ bigL 4 b.length).length = x) := ⟨_, hid rfl⟩
      rw [HN5.out] at eu5
      have OZ5 : Hid (X5.ownsRow w2.heap.size 5 1 u5 N5 (((((([(2 : Int)] ++ ix) ++ [(nbN : Int)]) ++ bigL 4 whN) ++ bigL 8 tiN) ++ bigL 4 b.length).map (Value.int .u8))) := hid (by rw [← HN5.out]; exact OX5.out)
      have hN5 : N5 ≤ 33554500 := by rw [← HN5.out]; have := HR.out.1; simp only at this; have := hk2 rfl; simp only [List.length_append, List.length_cons, List.length_nil, bigL_len, this]; omega
      subst eu5
      go_wp2_with (first | (at_builtin; refine wpList_append_HB rfl _ _ rfl w2.heap.size _ _ _ rfl OZ5.out _ _ rfl (VB.out X5 (KY.out X5 BX5.out)) ?q6 ?r6 ?_) | fail)
      case q6 => have := HR.out.1; simp only at this; have := hk2 rfl; (try simp only [List.length_append, List.length_cons, List.length_nil, bigL_len, this]); omega
      case r6 => exact BX5.out.size
      intro u6 X6 hu6 hg6
      have BX6 : Hid (Below w2.heap.size w2 X6) := hid (BX5.out.grown hg6 BX5.out.size (fun k e => (OZ5.out.lt k e).1))
      have OX6 : Hid (X6.ownsRow w2.heap.size 5 1 u6 (((((([(2 : Int)] ++ ix) ++ [(nbN : Int)]) ++ bigL 4 whN) ++ bigL 8 tiN) ++ bigL 4 b.length) ++ b).length ((((((([(2 : Int)] ++ ix) ++ [(nbN : Int)]) ++ bigL 4 whN) ++ bigL 8 tiN) ++ bigL 4 b.length) ++ b).map (Value.int .u8))) := hid (own_key (l := (((((([(2 : Int)] ++ ix) ++ [(nbN : Int)]) ++ bigL 4 whN) ++ bigL 8 tiN) ++ bigL 4 b.length) ++ b)) (by rw [← HN5.out]; simp <;> omega) (by simp) hu6)
      obtain ⟨pu6, cu6, eu6⟩ := own_slice OX6.out
      obtain ⟨z0, z1, z2, z3, z4, z5, z6⟩ := KX.out X6 (KY.out X6 BX6.out)
      have z0' : X6.cell? ⟨w.heap.size, 0, none⟩ = some (.int .u8 2) := z0
      clear hu6 hg6 z0
      obtain ⟨N6, HN6⟩ : ∃ x, Hid ((((((([(2 : Int)] ++ ix) ++ [(nbN : Int)]) ++ bigL 4 whN) ++ bigL 8 tiN) ++ bigL 4 b.length) ++ b).length = x) := ⟨_, hid rfl⟩
      rw [HN6.out] at eu6
      have OZ6 : Hid (X6.ownsRow w2.heap.size 5 1 u6 N6 ((((((([(2 : Int)] ++ ix) ++ [(nbN : Int)]) ++ bigL 4 whN) ++ bigL 8 tiN) ++ bigL 4 b.length) ++ b).map (Value.int .u8))) := hid (by rw [← HN6.out]; exact OX6.out)
      have hN6 : N6 ≤ 33554500 := by rw [← HN6.out]; have := HR.out.1; simp only at this; have := hk2 rfl; simp only [List.length_append, List.length_cons, List.length_nil, bigL_len, this]; omega
      subst eu6
      have FF := hid (FIN.out X6 _ (((((([(2 : Int)] ++ ix) ++ [(nbN : Int)]) ++ bigL 4 whN) ++ bigL 8 tiN) ++ bigL 4 b.length) ++ b) BX6.out (by rw [← HLQ.out]; simp [layQ, bigL_one nbN (by omega)]) OX6.out)
      go_wp2_with fail
      go_ret2
      exact FF.out
    · have hkk : kN = 3 := by omega
      subst hkk
      obtain ⟨⟨hp1, hp2⟩, hn1, hn2⟩ := hk3 rfl
      obtain ⟨plN, rfl⟩ := Int.eq_ofNat_of_zero_le hp1
      obtain ⟨lnN, rfl⟩ := Int.eq_ofNat_of_zero_le (show 0 ≤ ln by omega)
      have CP := hid (fun W => rbig4_any W plN (by omega))
      have CN := hid (fun W => rbig4_any W lnN (by omega))
      obtain ⟨X0, HX0⟩ : ∃ W : World, Hid (w2.alloc (.cells #[.int .u8 3] 5) = W) := ⟨_, hid rfl⟩
      have B0 : Hid (Below w2.heap.size w2 X0) := by rw [← HX0.out]; exact hid ((Below.refl _ w2).alloc (Nat.le_refl _) _)
      have O0 : Hid (X0.ownsRow w2.heap.size 5 1 (.slice (some ⟨w2.heap.size, 0, none⟩) 1 1) 1 ([(3 : Int)].map (Value.int .u8))) := hid ⟨rfl, .inr ⟨_, _, _, rfl, Nat.le_refl _, by rw [← HX0.out]; exact heap_alloc_new w2 _, Nat.le_refl _, by decide, rfl, rfl⟩⟩
      obtain ⟨y0, y1, y2, y3, y4, y5, y6⟩ := KX.out w2 (KY.out w2 (Below.refl _ _))
      obtain ⟨z0, z1, z2, z3, z4, z5, z6⟩ := KX.out X0 (KY.out X0 B0.out)
      have y0' : w2.cell? ⟨w.heap.size, 0, none⟩ = some (.int .u8 3) := y0
      have z0' : X0.cell? ⟨w.heap.size, 0, none⟩ = some (.int .u8 3) := z0
      clear y0 y1 y2 y3 y4 y5 y6 z0
      go_wp2_with (first | rw [HX0.out] | (at_builtin; refine wpList_append_HB rfl _ _ rfl w2.heap.size _ _ _ rfl O0.out _ _ rfl (IX.out X0 (KY.out X0 B0.out)) ?q1 ?r1 ?_) | fail)
      case q1 => have := HR.out.1; simp only at this; (try simp only [List.length_append, List.length_cons, List.length_nil, bigL_len, this]); omega
      case r1 => exact B0.out.size
      intro u1 X1 hu1 hg1
      have BX1 : Hid (Below w2.heap.size w2 X1) := hid (B0.out.grown hg1 B0.out.size (fun k e => (O0.out.lt k e).1))
      have OX1 : Hid (X1.ownsRow w2.heap.size 5 1 u1 ([(3 : Int)] ++ ix).length (([(3 : Int)] ++ ix).map (Value.int .u8))) := hid (by rw [List.length_append, List.map_append]; exact hu1)
      obtain ⟨pu1, cu1, eu1⟩ := own_slice OX1.out
      obtain ⟨z0, z1, z2, z3, z4, z5, z6⟩ := KX.out X1 (KY.out X1 BX1.out)
      have z0' : X1.cell? ⟨w.heap.size, 0, none⟩ = some (.int .u8 3) := z0
      clear hu1 hg1 z0
      obtain ⟨N1, HN1⟩ : ∃ x, Hid (([(3 : Int)] ++ ix).length = x) := ⟨_, hid rfl⟩
      rw [HN1.out] at eu1
      have OZ1 : Hid (X1.ownsRow w2.heap.size 5 1 u1 N1 (([(3 : Int)] ++ ix).map (Value.int .u8))) := hid (by rw [← HN1.out]; exact OX1.out)
      have hN1 : N1 ≤ 33554500 := by rw [← HN1.out]; have := HR.out.1; simp only at this; simp only [List.length_append, List.length_cons, List.length_nil, bigL_len, this]; omega
      subst eu1
      obtain ⟨Y2, HY2⟩ : ∃ W : World, Hid (X1.alloc (.cells #[.int .u8 (nbN : Int)] 5) = W) := ⟨_, hid rfl⟩
      have BY2 : Hid (Below X1.heap.size X1 Y2) := by rw [← HY2.out]; exact hid ((Below.refl _ X1).alloc (Nat.le_refl _) _)
      have LY2 : Hid (HB Y2 (.slice (some ⟨X1.heap.size, 0, none⟩) 1 1) [(nbN : Int)]) := hid (HB.lit (l := [(nbN : Int)]) (by rw [← HY2.out]; exact heap_alloc_new X1 _) (by simp) (by simp; omega))
      have BZ2 : Hid (Below w2.heap.size w2 Y2) := hid (BX1.out.trans (BY2.out.mono BX1.out.size))
      have OY2 := hid (own_ex OZ1.out (Ex.of_below (S := fun _ => False) BY2.out) (fun _ _ _ e => e))
      go_wp2_with (first | rw [HY2.out] | (at_builtin; refine wpList_append_HB rfl _ _ rfl w2.heap.size _ _ _ rfl OY2.out _ _ rfl LY2.out ?q2 ?r2 ?_) | fail)
      case q2 => have := HR.out.1; simp only at this; (try simp only [List.length_append, List.length_cons, List.length_nil, bigL_len, this]); omega
      case r2 => exact BZ2.out.size
      intro u2 X2 hu2 hg2
      have BX2 : Hid (Below w2.heap.size w2 X2) := hid (BZ2.out.grown hg2 BZ2.out.size (fun k e => (OY2.out.lt k e).1))
      have OX2 : Hid (X2.ownsRow w2.heap.size 5 1 u2 (([(3 : Int)] ++ ix) ++ [(nbN : Int)]).length ((([(3 : Int)] ++ ix) ++ [(nbN : Int)]).map (Value.int .u8))) := hid (own_key (l := (([(3 : Int)] ++ ix) ++ [(nbN : Int)])) (by rw [← HN1.out]; simp <;> omega) (by simp) hu2)
      obtain ⟨pu2, cu2, eu2⟩ := own_slice OX2.out
      obtain ⟨z0, z1, z2, z3, z4, z5, z6⟩ := KX.out X2 (KY.out X2 BX2.out)
      have z0' : X2.cell? ⟨w.heap.size, 0, none⟩ = some (.int .u8 3) := z0
      clear hu2 hg2 z0
      obtain ⟨N2, HN2⟩ : ∃ x, Hid ((([(3 : Int)] ++ ix) ++ [(nbN : Int)]).length = x) := ⟨_, hid rfl⟩
      rw [HN2.out] at eu2
      have OZ2 : Hid (X2.ownsRow w2.heap.size 5 1 u2 N2 ((([(3 : Int)] ++ ix) ++ [(nbN : Int)]).map (Value.int .u8))) := hid (by rw [← HN2.out]; exact OX2.out)
      have hN2 : N2 ≤ 33554500 := by rw [← HN2.out]; have := HR.out.1; simp only at this; simp only [List.length_append, List.length_cons, List.length_nil, bigL_len, this]; omega
      subst eu2
      go_wp2_with (first | fail)
      refine (CP.out _).mono ?_
      rintro e Y3 ⟨v3, rfl, ho3, hb3⟩
      have BY3 := hid hb3
      have LY3 : HB Y3 v3 (bigL 4 plN) := HB.of_own (by rw [bigL_len]; exact ho3) (bigL_byt 4 plN)
      obtain ⟨pb3, cb3, eb3, -, -⟩ := LY3.open
      rw [bigL_len] at eb3
      have HLY3 := hid LY3
      have BZ3 : Hid (Below w2.heap.size w2 Y3) := hid (BX2.out.trans (BY3.out.mono BX2.out.size))
      have OY3 := hid (own_ex OZ2.out (Ex.of_below (S := fun _ => False) BY3.out) (fun _ _ _ e => e))
      clear ho3 hb3 LY3
      subst eb3
      go_wp2_with (first | (at_builtin; refine wpList_append_HB rfl _ _ rfl w2.heap.size _ _ _ rfl OY3.out _ _ rfl HLY3.out ?q3 ?r3 ?_) | fail)
      case q3 => have := HR.out.1; simp only at this; (try simp only [List.length_append, List.length_cons, List.length_nil, bigL_len, this]); omega
      case r3 => exact BZ3.out.size
      intro u3 X3 hu3 hg3
      have BX3 : Hid (Below w2.heap.size w2 X3) := hid (BZ3.out.grown hg3 BZ3.out.size (fun k e => (OY3.out.lt k e).1))
      have OX3 : Hid (X3.ownsRow w2.heap.size 5 1 u3 ((([(3 : Int)] ++ ix) ++ [(nbN : Int)]) ++ bigL 4 plN).length (((([(3 : Int)] ++ ix) ++ [(nbN : Int)]) ++ bigL 4 plN).map (Value.int .u8))) := hid (own_key (l := ((([(3 : Int)] ++ ix) ++ [(nbN : Int)]) ++ bigL 4 plN)) (by rw [← HN2.out]; simp <;> omega) (by simp) hu3)
      obtain ⟨pu3, cu3, eu3⟩ := own_slice OX3.out
      obtain ⟨z0, z1, z2, z3, z4, z5, z6⟩ := KX.out X3 (KY.out X3 BX3.out)
      have z0' : X3.cell? ⟨w.heap.size, 0, none⟩ = some (.int .u8 3) := z0
      clear hu3 hg3 z0
      obtain ⟨N3, HN3⟩ : ∃ x, Hid (((([(3 : Int)] ++ ix) ++ [(nbN : Int)]) ++ bigL 4 plN).length = x) := ⟨_, hid rfl⟩
      rw [HN3.out] at eu3
      have OZ3 : Hid (X3.ownsRow w2.heap.size 5 1 u3 N3 (((([(3 : Int)] ++ ix) ++ [(nbN : Int)]) ++ bigL 4 plN).map (Value.int .u8))) := hid (by rw [← HN3.out]; exact OX3.out)
      have hN3 : N3 ≤ 33554500 := by rw [← HN3.out]; have := HR.out.1; simp only at this; simp only [List.length_append, List.length_cons, List.length_nil, bigL_len, this]; omega
      subst eu3
      go_wp2_with (first | fail)
      refine (CN.out _).mono ?_
      rintro e Y4 ⟨v4, rfl, ho4, hb4⟩
      have BY4 := hid hb4
      have LY4 : HB Y4 v4 (bigL 4 lnN) := HB.of_own (by rw [bigL_len]; exact ho4) (bigL_byt 4 lnN)
      obtain ⟨pb4, cb4, eb4, -, -⟩ := LY4.open
      rw [bigL_len] at eb4
      have HLY4 := hid LY4
      have BZ4 : Hid (Below w2.heap.size w2 Y4) := hid (BX3.out.trans (BY4.out.mono BX3.out.size))
      have OY4 := hid (own_ex OZ3.out (Ex.of_below (S := fun _ => False) BY4.out) (fun _ _ _ e => e))
      clear ho4 hb4 LY4
      subst eb4
      go_wp2_with (first | (at_builtin; refine wpList_append_HB rfl _ _ rfl w2.heap.size _ _ _ rfl OY4.out _ _ rfl HLY4.out ?q4 ?r4 ?_) | fail)
      case q4 => have := HR.out.1; simp only at this; (try simp only [List.length_append, List.length_cons, List.length_nil, bigL_len, this]); omega
      case r4 => exact BZ4.out.size
      intro u4 X4 hu4 hg4
      have BX4 : Hid (Below w2.heap.size w2 X4) := hid (BZ4.out.grown hg4 BZ4.out.size (fun k e => (OY4.out.lt k e).1))
      have OX4 : Hid (X4.ownsRow w2.heap.size 5 1 u4 (((([(3 : Int)] ++ ix) ++ [(nbN : Int)]) ++ bigL 4 plN) ++ bigL 4 lnN).length ((((([(3 : Int)] ++ ix) ++ [(nbN : Int)]) ++ bigL 4 plN) ++ bigL 4 lnN).map (Value.int .u8))) := hid (own_key (l := (((([(3 : Int)] ++ ix) ++ [(nbN : Int)]) ++ bigL 4 plN) ++ bigL 4 lnN)) (by rw [← HN3.out]; simp <;> omega) (by simp) hu4)
      obtain ⟨pu4, cu4, eu4⟩ := own_slice OX4.out
      obtain ⟨z0, z1, z2, z3, z4, z5, z6⟩ := KX.out X4 (KY.out X4 BX4.out)
      have z0' : X4.cell? ⟨w.heap.size, 0, none⟩ = some (.int .u8 3) := z0
      clear hu4 hg4 z0
      obtain ⟨N4, HN4⟩ : ∃ x, Hid ((((([(3 : Int)] ++ ix) ++ [(nbN : Int)]) ++ bigL 4 plN) ++ bigL 4 lnN).length = x) := ⟨_, hid rfl⟩
      rw [HN4.out] at eu4
      have OZ4 : Hid (X4.ownsRow w2.heap.size 5 1 u4 N4 ((((([(3 : Int)] ++ ix) ++ [(nbN : Int)]) ++ bigL 4 plN) ++ bigL 4 lnN).map (Value.int .u8))) := hid (by rw [← HN4.out]; exact OX4.out)
      have hN4 : N4 ≤ 33554500 := by rw [← HN4.out]; have := HR.out.1; simp only at this; simp only [List.length_append, List.length_cons, List.length_nil, bigL_len, this]; omega
      subst eu4
      have FF := hid (FIN.out X4 _ (((([(3 : Int)] ++ ix) ++ [(nbN : Int)]) ++ bigL 4 plN) ++ bigL 4 lnN) BX4.out (by rw [← HLQ.out]; simp [layQ, bigL_one nbN (by omega)]) OX4.out)
      go_wp2_with fail
      go_ret2
      exact FF.out
    · have hkk : kN = 4 := by omega
      subst hkk
      obtain ⟨X0, HX0⟩ : ∃ W : World, Hid (w2.alloc (.cells #[.int .u8 4] 5) = W) := ⟨_, hid rfl⟩
      have B0 : Hid (Below w2.heap.size w2 X0) := by rw [← HX0.out]; exact hid ((Below.refl _ w2).alloc (Nat.le_refl _) _)
      have O0 : Hid (X0.ownsRow w2.heap.size 5 1 (.slice (some ⟨w2.heap.size, 0, none⟩) 1 1) 1 ([(4 : Int)].map (Value.int .u8))) := hid ⟨rfl, .inr ⟨_, _, _, rfl, Nat.le_refl _, by rw [← HX0.out]; exact heap_alloc_new w2 _, Nat.le_refl _, by decide, rfl, rfl⟩⟩
      obtain ⟨y0, y1, y2, y3, y4, y5, y6⟩ := KX.out w2 (KY.out w2 (Below.refl _ _))
      obtain ⟨z0, z1, z2, z3, z4, z5, z6⟩ := KX.out X0 (KY.out X0 B0.out)
      have y0' : w2.cell? ⟨w.heap.size, 0, none⟩ = some (.int .u8 4) := y0
      have z0' : X0.cell? ⟨w.heap.size, 0, none⟩ = some (.int .u8 4) := z0
      clear y0 y1 y2 y3 y4 y5 y6 z0
      go_wp2_with (first | rw [HX0.out] | (at_builtin; refine wpList_append_HB rfl _ _ rfl w2.heap.size _ _ _ rfl O0.out _ _ rfl (IX.out X0 (KY.out X0 B0.out)) ?q1 ?r1 ?_) | fail)
      case q1 => have := HR.out.1; simp only at this; (try simp only [List.length_append, List.length_cons, List.length_nil, bigL_len, this]); omega
      case r1 => exact B0.out.size
      intro u1 X1 hu1 hg1
      have BX1 : Hid (Below w2.heap.size w2 X1) := hid (B0.out.grown hg1 B0.out.size (fun k e => (O0.out.lt k e).1))
      have OX1 : Hid (X1.ownsRow w2.heap.size 5 1 u1 ([(4 : Int)] ++ ix).length (([(4 : Int)] ++ ix).map (Value.int .u8))) := hid (by rw [List.length_append, List.map_append]; exact hu1)
      obtain ⟨pu1, cu1, eu1⟩ := own_slice OX1.out
      obtain ⟨z0, z1, z2, z3, z4, z5, z6⟩ := KX.out X1 (KY.out X1 BX1.out)
      have z0' : X1.cell? ⟨w.heap.size, 0, none⟩ = some (.int .u8 4) := z0
      clear hu1 hg1 z0
      obtain ⟨N1, HN1⟩ : ∃ x, Hid (([(4 : Int)] ++ ix).length = x) := ⟨_, hid rfl⟩
      rw [HN1.out] at eu1
      have OZ1 : Hid (X1.ownsRow w2.heap.size 5 1 u1 N1 (([(4 : Int)] ++ ix).map (Value.int .u8))) := hid (by rw [← HN1.out]; exact OX1.out)
      have hN1 : N1 ≤ 33554500 := by rw [← HN1.out]; have := HR.out.1; simp only at this; simp only [List.length_append, List.length_cons, List.length_nil, bigL_len, this]; omega
      subst eu1
      go_wp2_with (first | fail)
      refine (CW.out _).mono ?_
      rintro e Y2 ⟨v2, rfl, ho2, hb2⟩
      have BY2 := hid hb2
      have LY2 : HB Y2 v2 (bigL 4 whN) := HB.of_own (by rw [bigL_len]; exact ho2) (bigL_byt 4 whN)
      obtain ⟨pb2, cb2, eb2, -, -⟩ := LY2.open
      rw [bigL_len] at eb2
      have HLY2 := hid LY2
      have BZ2 : Hid (Below w2.heap.size w2 Y2) := hid (BX1.out.trans (BY2.out.mono BX1.out.size))
      have OY2 := hid (own_ex OZ1.out (Ex.of_below (S := fun _ => False) BY2.out) (fun _ _ _ e => e))
      clear ho2 hb2 LY2
      subst eb2
      go_wp2_with (first | (at_builtin; refine wpList_append_HB rfl _ _ rfl w2.heap.size _ _ _ rfl OY2.out _ _ rfl HLY2.out ?q2 ?r2 ?_) | fail)
      case q2 => have := HR.out.1; simp only at this; (try simp only [List.length_append, List.length_cons, List.length_nil, bigL_len, this]); omega
      case r2 => exact BZ2.out.size
      intro u2 X2 hu2 hg2
      have BX2 : Hid (Below w2.heap.size w2 X2) := hid (BZ2.out.grown hg2 BZ2.out.size (fun k e => (OY2.out.lt k e).1))
      have OX2 : Hid (X2.ownsRow w2.heap.size 5 1 u2 (([(4 : Int)] ++ ix) ++ bigL 4 whN).length ((([(4 : Int)] ++ ix) ++ bigL 4 whN).map (Value.int .u8))) := hid (own_key (l := (([(4 : Int)] ++ ix) ++ bigL 4 whN)) (by rw [← HN1.out]; simp <;> omega) (by simp) hu2)
      obtain ⟨pu2, cu2, eu2⟩ := own_slice OX2.out
      obtain ⟨z0, z1, z2, z3, z4, z5, z6⟩ := KX.out X2 (KY.out X2 BX2.out)
      have z0' : X2.cell? ⟨w.heap.size, 0, none⟩ = some (.int .u8 4) := z0
      clear hu2 hg2 z0
      obtain ⟨N2, HN2⟩ : ∃ x, Hid ((([(4 : Int)] ++ ix) ++ bigL 4 whN).length = x) := ⟨_, hid rfl⟩
      rw [HN2.out] at eu2
      have OZ2 : Hid (X2.ownsRow w2.heap.size 5 1 u2 N2 ((([(4 : Int)] ++ ix) ++ bigL 4 whN).map (Value.int .u8))) := hid (by rw [← HN2.out]; exact OX2.out)
      have hN2 : N2 ≤ 33554500 := by rw [← HN2.out]; have := HR.out.1; simp only at this; simp only [List.length_append, List.length_cons, List.length_nil, bigL_len, this]; omega
      subst eu2
      go_wp2_with (first | fail)
      refine (CT.out _).mono ?_
      rintro e Y3 ⟨v3, rfl, ho3, hb3⟩
      have BY3 := hid hb3
      have LY3 : HB Y3 v3 (bigL 8 tiN) := HB.of_own (by rw [bigL_len]; exact ho3) (bigL_byt 8 tiN)
      obtain ⟨pb3, cb3, eb3, -, -⟩ := LY3.open
      rw [bigL_len] at eb3
      have HLY3 := hid LY3
      have BZ3 : Hid (Below w2.heap.size w2 Y3) := hid (BX2.out.trans (BY3.out.mono BX2.out.size))
      have OY3 := hid (own_ex OZ2.out (Ex.of_below (S := fun _ => False) BY3.out) (fun _ _ _ e => e))
      clear ho3 hb3 LY3
      subst eb3
      go_wp2_with (first | (at_builtin; refine wpList_append_HB rfl _ _ rfl w2.heap.size _ _ _ rfl OY3.out _ _ rfl HLY3.out ?q3 ?r3 ?_) | fail)
      case q3 => have := HR.out.1; simp only at this; (try simp only [List.length_append, List.length_cons, List.length_nil, bigL_len, this]); omega
      case r3 => exact BZ3.out.size
      intro u3 X3 hu3 hg3
      have BX3 : Hid (Below w2.heap.size w2 X3) := hid (BZ3.out.grown hg3 BZ3.out.size (fun k e => (OY3.out.lt k e).1))
      have OX3 : Hid (X3.ownsRow w2.heap.size 5 1 u3 ((([(4 : Int)] ++ ix) ++ bigL 4 whN) ++ bigL 8 tiN).length (((([(4 : Int)] ++ ix) ++ bigL 4 whN) ++ bigL 8 tiN).map (Value.int .u8))) := hid (own_key (l := ((([(4 : Int)] ++ ix) ++ bigL 4 whN) ++ bigL 8 tiN)) (by rw [← HN2.out]; simp <;> omega) (by simp) hu3)
      obtain ⟨pu3, cu3, eu3⟩ := own_slice OX3.out
      obtain ⟨z0, z1, z2, z3, z4, z5, z6⟩ := KX.out X3 (KY.out X3 BX3.out)
      have z0' : X3.cell? ⟨w.heap.size, 0, none⟩ = some (.int .u8 4) := z0
      clear hu3 hg3 z0
      obtain ⟨N3, HN3⟩ : ∃ x, Hid (((([(4 : Int)] ++ ix) ++ bigL 4 whN) ++ bigL 8 tiN).length = x) := ⟨_, hid rfl⟩
      rw [HN3.out] at eu3
      have OZ3 : Hid (X3.ownsRow w2.heap.size 5 1 u3 N3 (((([(4 : Int)] ++ ix) ++ bigL 4 whN) ++ bigL 8 tiN).map (Value.int .u8))) := hid (by rw [← HN3.out]; exact OX3.out)
      have hN3 : N3 ≤ 33554500 := by rw [← HN3.out]; have := HR.out.1; simp only at this; simp only [List.length_append, List.length_cons, List.length_nil, bigL_len, this]; omega
      subst eu3
      have FF := hid (FIN.out X3 _ ((([(4 : Int)] ++ ix) ++ bigL 4 whN) ++ bigL 8 tiN) BX3.out (by rw [← HLQ.out]; simp [layQ]) OX3.out)
      go_wp2_with fail
      go_ret2
      exact FF.out
    · have hkk : kN = 5 := by omega
      subst hkk
      obtain ⟨X0, HX0⟩ : ∃ W : World, Hid (w2.alloc (.cells #[.int .u8 5] 5) = W) := ⟨_, hid rfl⟩
      have B0 : Hid (Below w2.heap.size w2 X0) := by rw [← HX0.out]; exact hid ((Below.refl _ w2).alloc (Nat.le_refl _) _)
      have O0 : Hid (X0.ownsRow w2.heap.size 5 1 (.slice (some ⟨w2.heap.size, 0, none⟩) 1 1) 1 ([(5 : Int)].map (Value.int .u8))) := hid ⟨rfl, .inr ⟨_, _, _, rfl, Nat.le_refl _, by rw [← HX0.out]; exact heap_alloc_new w2 _, Nat.le_refl _, by decide, rfl, rfl⟩⟩
      obtain ⟨y0, y1, y2, y3, y4, y5, y6⟩ := KX.out w2 (KY.out w2 (Below.refl _ _))
      obtain ⟨z0, z1, z2, z3, z4, z5, z6⟩ := KX.out X0 (KY.out X0 B0.out)
      have y0' : w2.cell? ⟨w.heap.size, 0, none⟩ = some (.int .u8 5) := y0
      have z0' : X0.cell? ⟨w.heap.size, 0, none⟩ = some (.int .u8 5) := z0
      clear y0 y1 y2 y3 y4 y5 y6 z0
      go_wp2_with (first | rw [HX0.out] | (at_builtin; refine wpList_append_HB rfl _ _ rfl w2.heap.size _ _ _ rfl O0.out _ _ rfl (IX.out X0 (KY.out X0 B0.out)) ?q1 ?r1 ?_) | fail)
      case q1 => have := HR.out.1; simp only at this; (try simp only [List.length_append, List.length_cons, List.length_nil, bigL_len, this]); omega
      case r1 => exact B0.out.size
      intro u1 X1 hu1 hg1
      have BX1 : Hid (Below w2.heap.size w2 X1) := hid (B0.out.grown hg1 B0.out.size (fun k e => (O0.out.lt k e).1))
      have OX1 : Hid (X1.ownsRow w2.heap.size 5 1 u1 ([(5 : Int)] ++ ix).length (([(5 : Int)] ++ ix).map (Value.int .u8))) := hid (by rw [List.length_append, List.map_append]; exact hu1)
      obtain ⟨pu1, cu1, eu1⟩ := own_slice OX1.out
      obtain ⟨z0, z1, z2, z3, z4, z5, z6⟩ := KX.out X1 (KY.out X1 BX1.out)
      have z0' : X1.cell? ⟨w.heap.size, 0, none⟩ = some (.int .u8 5) := z0
      clear hu1 hg1 z0
      obtain ⟨N1, HN1⟩ : ∃ x, Hid (([(5 : Int)] ++ ix).length = x) := ⟨_, hid rfl⟩
      rw [HN1.out] at eu1
      have OZ1 : Hid (X1.ownsRow w2.heap.size 5 1 u1 N1 (([(5 : Int)] ++ ix).map (Value.int .u8))) := hid (by rw [← HN1.out]; exact OX1.out)
      have hN1 : N1 ≤ 33554500 := by rw [← HN1.out]; have := HR.out.1; simp only at this; simp only [List.length_append, List.length_cons, List.length_nil, bigL_len, this]; omega
      subst eu1
      go_wp2_with (first | fail)
      refine (CW.out _).mono ?_
      rintro e Y2 ⟨v2, rfl, ho2, hb2⟩
      have BY2 := hid hb2
      have LY2 : HB Y2 v2 (bigL 4 whN) := HB.of_own (by rw [bigL_len]; exact ho2) (bigL_byt 4 whN)
      obtain ⟨pb2, cb2, eb2, -, -⟩ := LY2.open
      rw [bigL_len] at eb2
      have HLY2 := hid LY2
      have BZ2 : Hid (Below w2.heap.size w2 Y2) := hid (BX1.out.trans (BY2.out.mono BX1.out.size))
      have OY2 := hid (own_ex OZ1.out (Ex.of_below (S := fun _ => False) BY2.out) (fun _ _ _ e => e))
      clear ho2 hb2 LY2
      subst eb2
      go_wp2_with (first | (at_builtin; refine wpList_append_HB rfl _ _ rfl w2.heap.size _ _ _ rfl OY2.out _ _ rfl HLY2.out ?q2 ?r2 ?_) | fail)
      case q2 => have := HR.out.1; simp only at this; (try simp only [List.length_append, List.length_cons, List.length_nil, bigL_len, this]); omega
      case r2 => exact BZ2.out.size
      intro u2 X2 hu2 hg2
      have BX2 : Hid (Below w2.heap.size w2 X2) := hid (BZ2.out.grown hg2 BZ2.out.size (fun k e => (OY2.out.lt k e).1))
      have OX2 : Hid (X2.ownsRow w2.heap.size 5 1 u2 (([(5 : Int)] ++ ix) ++ bigL 4 whN).length ((([(5 : Int)] ++ ix) ++ bigL 4 whN).map (Value.int .u8))) := hid (own_key (l := (([(5 : Int)] ++ ix) ++ bigL 4 whN)) (by rw [← HN1.out]; simp <;> omega) (by simp) hu2)
      obtain ⟨pu2, cu2, eu2⟩ := own_slice OX2.out
      obtain ⟨z0, z1, z2, z3, z4, z5, z6⟩ := KX.out X2 (KY.out X2 BX2.out)
      have z0' : X2.cell? ⟨w.heap.size, 0, none⟩ = some (.int .u8 5) := z0
      clear hu2 hg2 z0
      obtain ⟨N2, HN2⟩ : ∃ x, Hid ((([(5 : Int)] ++ ix) ++ bigL 4 whN).length = x) := ⟨_, hid rfl⟩
      rw [HN2.out] at eu2
      have OZ2 : Hid (X2.ownsRow w2.heap.size 5 1 u2 N2 ((([(5 : Int)] ++ ix) ++ bigL 4 whN).map (Value.int .u8))) := hid (by rw [← HN2.out]; exact OX2.out)
      have hN2 : N2 ≤ 33554500 := by rw [← HN2.out]; have := HR.out.1; simp only at this; simp only [List.length_append, List.length_cons, List.length_nil, bigL_len, this]; omega
      subst eu2
      have FF := hid (FIN.out X2 _ (([(5 : Int)] ++ ix) ++ bigL 4 whN) BX2.out (by rw [← HLQ.out]; simp [layQ]) OX2.out)
      go_wp2_with fail
      go_ret2
      exact FF.out
set_option maxRecDepth 100000 in
set_option maxHeartbeats 32000000 in
theorem rputRep_any (w : World) (k : Int) (hk : 0 ≤ k ∧ k < 256) (vn v : Value) (ns b : List Int) (hvn : I.HB w vn ns) (hv : HB w v b) :
    Calls Try.prog 26 #[.agg (rpA k vn v)] w fun e w' => PutQ w (mayP k ns b.length) (layP k ns b) 201 e w' ∧ Below w.heap.size w w' := by
  obtain ⟨vp, vc, rfl, hvc, hvm⟩ := hv.open
  obtain ⟨np, nc, rfl, hnc, hnm⟩ := hvn.open
  obtain ⟨m, HM⟩ : ∃ m, Hid (rpA k (.slice np ns.length nc) (.slice vp b.length vc) = m) := ⟨_, hid rfl⟩
  obtain ⟨W1, HW1⟩ : ∃ W : World, Hid (w.alloc (.cells m 42) = W) := ⟨_, hid rfl⟩
  have B1 : Hid (Below w.heap.size w W1) := by rw [← HW1.out]; exact hid ((Below.refl _ w).alloc (Nat.le_refl _) _)
  have Z1 : Hid (W1.heap.size = w.heap.size + 1) := hid (by rw [← HW1.out]; simp)
  have hbx : Hid (W1.heap[w.heap.size]? = some (.cells m 42 (0, 0))) := hid (by rw [← HW1.out]; exact heap_alloc_new w _)
  have HBX : Hid (∀ W, Below W1.heap.size W1 W → W.heap[w.heap.size]? = some (.cells m 42 (0, 0))) := hid (fun W hW => (hW.block _ (by have := Z1.out; omega)).trans hbx.out)
  have KX : Hid (∀ W, Below W1.heap.size W1 W → W.cell? ⟨w.heap.size, 0, none⟩ = some (.int .u8 k) ∧ W.cell? ⟨w.heap.size, 1, none⟩ = some (.slice np ns.length nc) ∧ W.cell? ⟨w.heap.size, 2, none⟩ = some (.slice vp b.length vc)) := hid (fun W hW => by
    have q2 := HBX.out W hW
    refine ⟨?_, ?_, ?_⟩ <;> rw [cell_of_row _ _ _ _ _ _ q2, ← HM.out] <;> rfl)
  have VB : Hid (∀ W, Below W1.heap.size W1 W → HB W (.slice vp b.length vc) b) := hid (fun W hW => hv.below (B1.out.trans (hW.mono B1.out.size)))
  have VN : Hid (∀ W, Below W1.heap.size W1 W → I.HB W (.slice np ns.length nc) ns) := hid (fun W hW => hvn.below (B1.out.trans (hW.mono B1.out.size)))
  have CM := hid (rmayP_any W1 k _ ns (VN.out W1 (Below.refl _ _)) vp b.length vc)
  rw [HM.out] at CM
  rw [HM.out]
  have SL : Hid ((Try.prog.info? 42).map (·.size) = some m.toList.length) := hid (by rw [← HM.out]; show _ = some 3; kernel_rfl)
  have RG0 : Hid (W1.rangeAt w.heap.size 0 m.toList) := hid (fun j u hj => by rw [cell_of_row _ _ _ _ _ _ hbx.out, Nat.zero_add, ← Array.getElem?_toList]; exact hj)
  have HMM : Hid (m.toList.toArray = m) := hid (by simp)
  obtain ⟨L, HLQ⟩ : ∃ L, Hid (layP k ns b = L) := ⟨_, hid rfl⟩
  rw [HLQ.out]
  obtain ⟨mb, HMB⟩ : ∃ x, Hid (mayP k ns b.length = x) := ⟨_, hid rfl⟩
  rw [HMB.out] at CM
  rw [HMB.out]
  clear hv hvn hbx
  go_enter Try.func26, Try.ntmps26
  go_wp2_with (first | rw [HW1.out] | (refine wpList_load_mid rfl 42 _ rfl w.heap.size 0 rfl m.toList _ RG0.out Try.underlying42 rfl SL.out ?_; rw [HMM.out]) | fail)
  refine CM.out.mono ?_
  rintro e w2 ⟨rfl, hb2⟩
  have B2 := hid hb2
  clear hb2 CM
  cases mb with
  | false =>
    go_wp2_with fail
    go_ret2
    exact ⟨.inl ⟨rfl, rfl⟩, B1.out.trans (B2.out.mono B1.out.size)⟩
  | true =>
    obtain ⟨kN, rfl⟩ := Int.eq_ofNat_of_zero_le hk.1
    have KY : Hid (∀ W, Below w2.heap.size w2 W → Below W1.heap.size W1 W) := hid (fun W hW => B2.out.trans (hW.mono B2.out.size))
    have BW : Hid (∀ W, Below w2.heap.size w2 W → Below w.heap.size w W) := hid (fun W hW => B1.out.trans ((KY.out W hW).mono B1.out.size))
    have FIN : Hid (∀ w' (u : Value) (M : List Int), Below w2.heap.size w2 w' → L = M → w'.ownsRow w2.heap.size 5 1 u M.length (M.map (Value.int .u8)) → PutQ w true L 201 (.returned (.tuple #[u, .int .i64 0])) w' ∧ Below w.heap.size w w') := hid (fun w' u M h1 h3 h4 => by
      have h5 := BW.out w' h1
      refine ⟨.inr ⟨rfl, u, rfl, ?_⟩, h5⟩
      rw [h3]
      exact ⟨h4.1, h4.2.elim .inl fun ⟨gg, cap, cur, z1, z2, z3⟩ => .inr ⟨gg, cap, cur, z1, Nat.le_trans (BW.out w2 (Below.refl _ _)).size z2, z3⟩⟩)
    have hmb := HMB.out
    obtain ⟨X0, HX0⟩ : ∃ W : World, Hid (w2.alloc (.cells #[.int .u8 (kN : Int)] 5) = W) := ⟨_, hid rfl⟩
    have B0 : Hid (Below w2.heap.size w2 X0) := by rw [← HX0.out]; exact hid ((Below.refl _ w2).alloc (Nat.le_refl _) _)
    have O0 : Hid (X0.ownsRow w2.heap.size 5 1 (.slice (some ⟨w2.heap.size, 0, none⟩) 1 1) 1 ([(kN : Int)].map (Value.int .u8))) := hid ⟨rfl, .inr ⟨_, _, _, rfl, Nat.le_refl _, by rw [← HX0.out]; exact heap_alloc_new w2 _, Nat.le_refl _, by decide, rfl, rfl⟩⟩
    obtain ⟨y0, -, -⟩ := KX.out w2 (KY.out w2 (Below.refl _ _))
    obtain ⟨z0, z1, z2⟩ := KX.out X0 (KY.out X0 B0.out)
    by_cases h1 : kN = 1
    · subst h1
      have hri : risB ns = true ∧ b.length = 0 := by simpa [mayP] using hmb
      obtain ⟨hl255, hbn⟩ := ris_len hri.1
      have y0' : w2.cell? ⟨w.heap.size, 0, none⟩ = some (.int .u8 1) := y0
      have z0' : X0.cell? ⟨w.heap.size, 0, none⟩ = some (.int .u8 1) := z0
      have HX0' : w2.alloc (.cells #[.int .u8 1] 5) = X0 := HX0.out
      have u8l : IntKind.u8.wrap (ns.length : Int) = (ns.length : Int) := by rw [IntKind.wrap_u8]; omega
      obtain ⟨Y1, HY1⟩ : ∃ W : World, Hid (X0.alloc (.cells #[.int .u8 (ns.length : Int)] 5) = W) := ⟨_, hid rfl⟩
      have BY1 : Hid (Below X0.heap.size X0 Y1) := by rw [← HY1.out]; exact hid ((Below.refl _ X0).alloc (Nat.le_refl _) _)
      have LY1 : Hid (HB Y1 (.slice (some ⟨X0.heap.size, 0, none⟩) 1 1) [(ns.length : Int)]) := hid (HB.lit (l := [(ns.length : Int)]) (by rw [← HY1.out]; exact heap_alloc_new X0 _) (by simp) (by simp; omega))
      have BZ1 : Hid (Below w2.heap.size w2 Y1) := hid (B0.out.trans (BY1.out.mono B0.out.size))
      have OY1 := hid (own_ex O0.out (Ex.of_below (S := fun _ => False) BY1.out) (fun _ _ _ e => e))
      clear y0 z0 hmb
      go_wp2_with (first | rw [HX0'] | rw [HY1.out] | (at_builtin; refine wpList_append_HB rfl _ _ rfl w2.heap.size _ _ _ rfl OY1.out _ _ rfl LY1.out ?q1 ?r1 ?_) | fail)
      case q1 => simp
      case r1 => exact BZ1.out.size
      intro u1 X1 hu1 hg1
      have BX1 : Hid (Below w2.heap.size w2 X1) := hid (BZ1.out.grown hg1 BZ1.out.size (fun k e => (OY1.out.lt k e).1))
      have OX1 : Hid (X1.ownsRow w2.heap.size 5 1 u1 ([(1 : Int), (ns.length : Int)] ++ ns.take 0).length (([(1 : Int), (ns.length : Int)] ++ ns.take 0).map (Value.int .u8))) := hid (own_key (l := [(1 : Int), (ns.length : Int)] ++ ns.take 0) (by simp) (by simp) hu1)
      clear hu1 hg1
      obtain ⟨pu1, cu1, eu1⟩ := own_slice OX1.out
      have eu1' : u1 = .slice pu1 2 cu1 := by rw [eu1]; simp
      clear eu1
      subst eu1'
      have VNX : Hid (∀ W, Below w2.heap.size w2 W → ∀ j, j < ns.length → ∃ bb off, np = some ⟨bb, off, none⟩ ∧ W.cell? ⟨bb, off + j, none⟩ = some (.int .i64 (ns.getD j 0))) := hid (fun W hW j hj => by
        obtain ⟨bb, off, c', e', _, _, hh⟩ := (VN.out W (KY.out W hW)).ne (by omega)
        simp only [Value.slice.injEq, true_and] at e'
        exact ⟨bb, off, e'.1, hh j hj⟩)
      go_wp2_with fail
      go_loopw [4, 5] (fun o i wr => ∃ j : Nat, j ≤ ns.length ∧ i = .int .i64 j ∧ wr.ownsRow w2.heap.size 5 1 o ([(1 : Int), (ns.length : Int)] ++ ns.take j).length (([(1 : Int), (ns.length : Int)] ++ ns.take j).map (Value.int .u8)) ∧ Below w2.heap.size w2 wr) (fun _ i _ => ns.length - (intOf i).toNat)
      case atStart => exact ⟨0, Nat.zero_le _, rfl, OX1.out, BX1.out⟩
      case round =>
        obtain ⟨j, hj, rfl, hown, hB⟩ := hrel
        obtain ⟨q0, q1, q2⟩ := KX.out wr (KY.out wr hB)
        have q0' : wr.cell? ⟨w.heap.size, 0, none⟩ = some (.int .u8 1) := q0
        clear q0
        by_cases hlt : j < ns.length
        · obtain ⟨bb, off, hnp, hu⟩ := VNX.out wr hB j hlt
          have hy := hbn (ns.getD j 0) (by rw [getD_of_lt hlt]; exact List.getElem_mem hlt)
          obtain ⟨T, HT⟩ : ∃ T, Hid ([(1 : Int), (ns.length : Int)] ++ ns.take j = T) := ⟨_, hid rfl⟩
          have HS : Hid ([(1 : Int), (ns.length : Int)] ++ ns.take (j + 1) = T ++ [ns.getD j 0]) := hid (by rw [← HT.out, take_snocI ns j hlt, List.append_assoc])
          have hTl : Hid (T.length ≤ 1000) := hid (by rw [← HT.out]; simp; omega)
          rw [HT.out] at hown
          obtain ⟨po, co, ho⟩ := own_slice hown
          subst ho
          generalize ns.getD j 0 = y at hu hy HS
          have hw8 : IntKind.u8.wrap y = y := by rw [IntKind.wrap_u8]; omega
          obtain ⟨V2, HV2⟩ : ∃ W : World, Hid (wr.alloc (.cells #[.int .u8 y] 5) = W) := ⟨_, hid rfl⟩
          have BV2 : Hid (Below wr.heap.size wr V2) := by rw [← HV2.out]; exact hid ((Below.refl _ wr).alloc (Nat.le_refl _) _)
          have OV2 : Hid (V2.ownsRow w2.heap.size 5 1 (.slice po T.length co) T.length (T.map (Value.int .u8))) := hid (own_ex hown (Ex.of_below (S := fun _ => False) BV2.out) (fun _ _ _ e => e))
          have LV2 : Hid (HB V2 (.slice (some ⟨wr.heap.size, 0, none⟩) 1 1) [y]) := hid (HB.lit (l := [y]) (by rw [← HV2.out]; exact heap_alloc_new wr _) (by simp) (by simp; omega))
          have BV : Hid (Below w2.heap.size w2 V2) := hid (hB.trans (BV2.out.mono hB.size))
          have hlen : Hid (T.length + 1 ≤ 140737488355328) := hid (by have := hTl.out; omega)
          subst hnp
          clear hown hB
          go_wp2_with (first | rw [hw8] | rw [HV2.out] | (at_builtin; refine wpList_append_HB rfl _ _ rfl w2.heap.size _ _ _ rfl OV2.out _ _ rfl LV2.out ?q3 ?r3 ?_) | fail)
          case q3 => exact hlen.out
          case r3 => exact BV.out.size
          intro v' w3 hown2 hgr2
          have HO2 : Hid (w3.ownsRow w2.heap.size 5 1 v' ([(1 : Int), (ns.length : Int)] ++ ns.take (j + 1)).length (([(1 : Int), (ns.length : Int)] ++ ns.take (j + 1)).map (Value.int .u8))) := by
            show World.ownsRow _ _ _ _ _ _ _
            rw [HS.out, List.length_append, List.map_append]
            exact hown2
          have HB2 : Hid (Below w2.heap.size w2 w3) := BV.out.grown hgr2 BV.out.size (fun k e => (OV2.out.lt k e).1)
          clear hown2 hgr2
          go_wp2_with fail
          exact ⟨⟨j + 1, by omega, by go_num, HO2.out, HB2.out⟩, by simp [intOf]; omega⟩
        · have HK : Hid (ns.take j = ns) := hid (List.take_of_length_le (by omega))
          rw [HK.out] at hown
          obtain ⟨po, co, ho⟩ := own_slice hown
          have FF := hid (FIN.out wr _ _ hB (by rw [← HLQ.out]; simp [layP, bigL_one ns.length (by omega)]) hown)
          go_wp2_with fail
          go_ret2
          exact FF.out
    · by_cases h5 : kN = 5
      · subst h5
        have hbl : 1 ≤ b.length ∧ b.length ≤ 131072 := by
          simp [mayP, flB] at hmb
          omega
        have y0' : w2.cell? ⟨w.heap.size, 0, none⟩ = some (.int .u8 5) := y0
        have z0' : X0.cell? ⟨w.heap.size, 0, none⟩ = some (.int .u8 5) := z0
        have HX0' : w2.alloc (.cells #[.int .u8 5] 5) = X0 := HX0.out
        have CL := hid (rbig4_any X0 b.length (by omega))
        clear y0 z0 hmb
        go_wp2_with (first | rw [HX0'] | fail)
        refine CL.out.mono ?_
        rintro e Y1 ⟨v1, rfl, ho1, hb1⟩
        have BY1 := hid hb1
        have LY1 : HB Y1 v1 (bigL 4 b.length) := HB.of_own (by rw [bigL_len]; exact ho1) (bigL_byt 4 b.length)
        obtain ⟨pb1, cb1, eb1, -, -⟩ := LY1.open
        rw [bigL_len] at eb1
        have HLY1 := hid LY1
        have BZ1 : Hid (Below w2.heap.size w2 Y1) := hid (B0.out.trans (BY1.out.mono B0.out.size))
        have OY1 := hid (own_ex O0.out (Ex.of_below (S := fun _ => False) BY1.out) (fun _ _ _ e => e))
        obtain ⟨q0, q1, q2⟩ := KX.out Y1 (KY.out Y1 BZ1.out)
        clear ho1 hb1 LY1
        subst eb1
        go_wp2_with (first | (at_builtin; refine wpList_append_HB rfl _ _ rfl w2.heap.size _ _ _ rfl OY1.out _ _ rfl HLY1.out ?q1 ?r1 ?_) | fail)
        case q1 => simp [bigL_len]
        case r1 => exact BZ1.out.size
        intro u1 X1 hu1 hg1
        have BX1 : Hid (Below w2.heap.size w2 X1) := hid (BZ1.out.grown hg1 BZ1.out.size (fun k e => (OY1.out.lt k e).1))
        have OX1 : Hid (X1.ownsRow w2.heap.size 5 1 u1 ([(5 : Int)] ++ bigL 4 b.length).length (([(5 : Int)] ++ bigL 4 b.length).map (Value.int .u8))) := hid (own_key (l := [(5 : Int)] ++ bigL 4 b.length) (by simp <;> omega) (by simp) hu1)
        obtain ⟨pu1, cu1, eu1⟩ := own_slice OX1.out
        obtain ⟨t0, t1, t2⟩ := KX.out X1 (KY.out X1 BX1.out)
        have VX1 := hid (VB.out X1 (KY.out X1 BX1.out))
        obtain ⟨N1, HN1⟩ : ∃ x, Hid (([(5 : Int)] ++ bigL 4 b.length).length = x) := ⟨_, hid rfl⟩
        rw [HN1.out] at eu1
        have OZ1 : Hid (X1.ownsRow w2.heap.size 5 1 u1 N1 (([(5 : Int)] ++ bigL 4 b.length).map (Value.int .u8))) := hid (by rw [← HN1.out]; exact OX1.out)
        have hN1 : Hid (N1 = 5) := hid (by rw [← HN1.out]; simp [bigL_len])
        clear hu1 hg1
        subst eu1
        go_wp2_with (first | (at_builtin; refine wpList_append_HB rfl _ _ rfl w2.heap.size _ _ _ rfl OZ1.out _ _ rfl VX1.out ?q2 ?r2 ?_) | fail)
        case q2 => have := hN1.out; omega
        case r2 => exact BX1.out.size
        intro u2 X2 hu2 hg2
        have BX2 : Hid (Below w2.heap.size w2 X2) := hid (BX1.out.grown hg2 BX1.out.size (fun k e => (OZ1.out.lt k e).1))
        have FF := hid (FIN.out X2 u2 ([(5 : Int)] ++ bigL 4 b.length ++ b) BX2.out (by rw [← HLQ.out]; simp [layP]) (own_key (l := [(5 : Int)] ++ bigL 4 b.length ++ b) (by rw [← HN1.out]; simp <;> omega) (by simp) hu2))
        clear hu2 hg2
        go_wp2_with fail
        go_ret2
        exact FF.out
      · have b1 : ((kN : Int) == 1) = false := beq_eq_false_iff_ne.2 (by omega)
        have b5 : ((kN : Int) == 5) = false := beq_eq_false_iff_ne.2 (by omega)
        have FF := hid (FIN.out X0 _ [(kN : Int)] B0.out (by rw [← HLQ.out, layP, if_neg (by omega), if_neg (by omega)]) O0.out)
        clear hmb
        go_wp2_with (first | rw [HX0.out] | fail)
        go_ret2
        exact FF.out
theorem lent_part {w : World} {B : Nat} {v : Value} {l : List Int} (h : w.ownsRow B 5 1 v (lent l).length ((lent l).map (Value.int .u8))) (hby : ∀ x ∈ l, 0 ≤ x ∧ x < 256) :
    ∃ g c, v = .slice (some ⟨g, 0, none⟩) (l.length + 70) c ∧ B ≤ g ∧ g < w.heap.size ∧ l.length + 70 ≤ c ∧ c ≤ 9223372036854775807 ∧ HB w (.slice (some ⟨g, 0, none⟩) l.length c) l ∧ HB w (.slice (some ⟨g, 0, none⟩) (l.length + 70) c) (lent l) := by
  have hf := HB.of_own h (lent_byt hby)
  have hll := lent_length l
  rcases h.2 with ⟨_, e0⟩ | ⟨g, cap, cur, rfl, hb, hh, hn, hm, _⟩
  · omega
  · unfold maxLen at hm
    refine ⟨g, cap, by rw [hll], hb, (Array.getElem?_eq_some_iff.1 hh).1, by omega, hm, ?_, by rw [hll] at hf; exact hf⟩
    have h3 := hf.sliced 0 l.length cap (Nat.zero_le _) (by omega) (by omega) (Nat.le_refl _)
    rw [lent_take] at h3
    have e : (if cap = 0 then (some (⟨g, 0, none⟩ : Addr)) else (some (⟨g, 0, none⟩ : Addr)).map (·.add 0)) = some ⟨g, 0, none⟩ := by
      split
      · rfl
      · simp [Addr.add]
    rw [e] at h3
    simpa using h3
abbrev TO : TypeId := 44
def opL (cl : Int) (r : Rq) (qv : Value) (k : Int) (nv rv dv : Value) : List Value := .int .i64 cl :: (rqL r qv ++ [.int .u8 k, nv, rv, dv])
theorem rqL_len {r : Rq} (h : r.ok) (v : Value) : (rqL r v).length = 23 := by simp [rqL, h.1]
theorem opL_len {cl : Int} {r : Rq} (h : r.ok) (qv : Value) (k : Int) (nv rv dv : Value) : (opL cl r qv k nv rv dv).length = 28 := by simp [opL, rqL_len h]
theorem opL_rq {cl : Int} {r : Rq} (h : r.ok) (qv : Value) (k : Int) (nv rv dv : Value) {j : Nat} {u : Value} (hj : (rqL r qv)[j]? = some u) : (opL cl r qv k nv rv dv)[1 + j]? = some u := by
  have hl := (List.getElem?_eq_some_iff.1 hj).1
  unfold opL
  rw [Nat.add_comm, List.getElem?_cons_succ, List.getElem?_append_left hl]
  exact hj
theorem opL_rp {cl : Int} {r : Rq} (h : r.ok) (qv : Value) (k : Int) (nv rv dv : Value) {j : Nat} {u : Value} (hj : [Value.int .u8 k, nv, rv, dv][j]? = some u) : (opL cl r qv k nv rv dv)[24 + j]? = some u := by
  unfold opL
  rw [show 24 + j = (23 + j) + 1 by omega, List.getElem?_cons_succ, List.getElem?_append_right (by rw [rqL_len h]; omega), rqL_len h, Nat.add_sub_cancel_left]
  exact hj
structure OpH (w : World) (r : Rq) (qv : Value) (qb : List Int) (k : Int) (nv : Value) (ns : List Int) (rv : Value) (rb : List Int) (dv : Value) (db : List Int) : Prop where
  ok : r.ok
  rk : 0 ≤ r.k ∧ r.k < 256
  who : 0 ≤ r.who ∧ r.who < 4294967296
  k' : 0 ≤ k ∧ k < 256
  q : HB w qv qb
  n : I.HB w nv ns
  r' : HB w rv rb
  d : HB w dv db
  lq : qb.length ≤ 1048576
  ln : ns.length ≤ 1048576
  lr : rb.length ≤ 1048576
  ld : db.length ≤ 1048576
theorem OpH.below {w w' : World} {r : Rq} {qv : Value} {qb : List Int} {k : Int} {nv : Value} {ns : List Int} {rv : Value} {rb : List Int} {dv : Value} {db : List Int} (h : OpH w r qv qb k nv ns rv rb dv db) (hb : Below w.heap.size w w') : OpH w' r qv qb k nv ns rv rb dv db :=
  ⟨h.ok, h.rk, h.who, h.k', h.q.below hb, h.n.below hb, h.r'.below hb, h.d.below hb, h.lq, h.ln, h.lr, h.ld⟩
def BKE (B : Nat) (w : World) (g n : Nat) : Prop :=
  ∃ vb vw vi vm xb xw xi xm bs is, BK B w.heap.size w.heap.size w g vb vw vi vm xb xw xi xm bs bs is is ∧ bs.length ≤ n ∧ is.length ≤ n ∧ (∀ l ∈ bs, l.length ≤ 4000000) ∧ ∀ l ∈ is, l.length ≤ 4000000
theorem PutQ.any {w w' : World} {m : Bool} {L : List Int} {err : Int} {e : Ending} (h : PutQ w m L err e w') : ∃ v, e = .returned (.tuple #[v, .int .i64 (if m = true then 0 else err)]) ∧ w'.ownsRow w.heap.size 5 1 v (if m = true then L else []).length ((if m = true then L else []).map (Value.int .u8)) := by
  rcases h with ⟨rfl, rfl⟩ | ⟨rfl, v, rfl, ho⟩
  · exact ⟨_, rfl, World.ownsRow_nil _ _ _ _⟩
  · exact ⟨v, rfl, ho⟩
def aR (l : List Int) : Rq := if dqP l = none then dqR l (l.getD 0 0) else rq0
def aP (l : List Int) : Int := (dqP l).getD 0
def aE (l : List Int) : Int := if dqP l = none then 0 else 200
def aB (l : List Int) : List Int := if dqP l = none then l.drop (hdN (l.getD 0 0)) else []
theorem DocQ.any {w w' : World} {l : List Int} {e : Ending} (h : DocQ w l e w') : ∃ v, e = .returned (.tuple #[.agg (rqA (aR l) v), .int .i64 (aP l), .int .i64 (aE l)]) ∧ w'.ownsRow w.heap.size 5 1 v (aB l).length ((aB l).map (Value.int .u8)) := by
  rcases h with ⟨p, h1, rfl⟩ | ⟨h1, v, rfl, ho⟩
  · refine ⟨nlS, ?_, ?_⟩
    · simp [aR, aP, aE, h1, zrq_is]
    · simp only [aB, h1, reduceCtorEq, if_false]
      exact World.ownsRow_nil _ _ _ _
  · refine ⟨v, ?_, ?_⟩
    · simp [aR, aP, aE, h1]
    · simp only [aB, h1, if_true]
      exact ho
theorem ReqQ.any {w w' : World} {l : List Int} {e : Ending} (hl : ∀ x ∈ l, 0 ≤ x ∧ x < 256) (h : ReqQ w l e w') : ∃ v, e = .returned (.tuple #[.agg (rqA (aR l) v), .int .i64 (aP l), .int .i64 (aE l)]) ∧ w'.ownsRow w.heap.size 5 1 v (aB l).length ((aB l).map (Value.int .u8)) := by
  obtain ⟨d1, d2⟩ := dq_all l hl
  rcases h with ⟨p, h1, rfl⟩ | ⟨r, b, v, B, h1, _, rfl, ho, hB, _⟩
  · have q := d1 p h1
    refine ⟨nlS, ?_, ?_⟩
    · simp [aR, aP, aE, q]
    · simp only [aB, q, reduceCtorEq, if_false]
      exact World.ownsRow_nil _ _ _ _
  · obtain ⟨q1, q2, q3⟩ := d2 r b h1
    refine ⟨v, ?_, ?_⟩
    · simp [aR, aP, aE, q1, q2]
    · simp only [aB, q1, if_true]
      rw [← q3]
      exact ⟨ho.1, ho.2.elim .inl fun ⟨gg, cap, cur, z1, z2, z3⟩ => .inr ⟨gg, cap, cur, z1, Nat.le_trans hB z2, z3⟩⟩
theorem aR_ok {l : List Int} (hl : ∀ x ∈ l, 0 ≤ x ∧ x < 256) : (aR l).ok := by
  unfold aR
  split
  · rename_i h
    refine ⟨?_, fun x hx => hl x (List.mem_of_mem_drop (List.mem_of_mem_take hx))⟩
    show ((l.drop 1).take 16).length = 16
    have : 17 ≤ l.length := by
      unfold dqP at h
      split at h
      · cases h
      · rename_i h1
        split at h
        · cases h
        · rename_i h2
          have : 17 ≤ hdN (l.getD 0 0) := by
            generalize l.getD 0 0 = z at h1
            unfold hdN at h1 ⊢
            by_cases q1 : z = 1
            · rw [if_pos q1]; omega
            by_cases q2 : z = 2
            · rw [if_neg q1, if_pos q2]; omega
            by_cases q3 : z = 3
            · rw [if_neg q1, if_neg q2, if_pos q3]; omega
            by_cases q4 : z = 4
            · rw [if_neg q1, if_neg q2, if_neg q3, if_pos q4]; omega
            by_cases q5 : z = 5
            · rw [if_neg q1, if_neg q2, if_neg q3, if_neg q4, if_pos q5]; omega
            rw [if_neg q1, if_neg q2, if_neg q3, if_neg q4, if_neg q5] at h1
            exact absurd rfl h1
          omega
    simp
    omega
  · exact rq0_ok
theorem aB_byt {l : List Int} (hl : ∀ x ∈ l, 0 ≤ x ∧ x < 256) : ∀ x ∈ aB l, 0 ≤ x ∧ x < 256 := by
  unfold aB
  split
  · exact fun x hx => hl x (List.mem_of_mem_drop hx)
  · exact fun x hx => by cases hx
theorem aB_len (l : List Int) : (aB l).length ≤ l.length := by
  unfold aB
  split
  · simp
  · simp
def pK (l : List Int) : Int := if dpP l = none then l.getD 0 0 else 0
def pP (l : List Int) : Int := (dpP l).getD 0
def pE (l : List Int) : Int := if dpP l = none then 0 else 201
def pS (l : List Int) : List Int := if dpP l = none then dpS l (l.getD 0 0) else []
def pB (l : List Int) : List Int := if dpP l = none then dpB l (l.getD 0 0) else []
def AnsP (w : World) (l : List Int) (e : Ending) (w' : World) : Prop :=
  ∃ vn v, e = .returned (.tuple #[.agg (rpA (pK l) vn v), .int .i64 (pP l), .int .i64 (pE l)]) ∧ w'.ownsRow w.heap.size 3 1 vn (pS l).length ((pS l).map (Value.int .i64)) ∧ w'.ownsRow w.heap.size 5 1 v (pB l).length ((pB l).map (Value.int .u8))
theorem DocP.any {w w' : World} {l : List Int} {e : Ending} (h : DocP w l e w') : AnsP w l e w' := by
  rcases h with ⟨p, h1, rfl⟩ | ⟨h1, vn, v, rfl, ho, hp⟩
  · refine ⟨nlS, nlS, ?_, ?_, ?_⟩
    · simp [pK, pP, pE, h1, zrp_is]
    · simp only [pS, h1, reduceCtorEq, if_false]
      exact World.ownsRow_nil _ _ _ _
    · simp only [pB, h1, reduceCtorEq, if_false]
      exact World.ownsRow_nil _ _ _ _
  · refine ⟨vn, v, ?_, ?_, ?_⟩
    · simp [pK, pP, pE, h1]
    · simp only [pS, h1, if_true]
      exact ho
    · simp only [pB, h1, if_true]
      exact hp
theorem RepQ.any {w w' : World} {l : List Int} {e : Ending} (hl : ∀ x ∈ l, 0 ≤ x ∧ x < 256) (h : RepQ w l e w') : AnsP w l e w' := by
  obtain ⟨d1, d2⟩ := dp_all l hl
  have low : ∀ {W : World} {B : Nat} {t : TypeId} {v : Value} {n : Nat} {xs : List Value}, w.heap.size ≤ B → W.ownsRow B t 1 v n xs → W.ownsRow w.heap.size t 1 v n xs := fun hB ho => ⟨ho.1, ho.2.elim .inl fun ⟨gg, cap, cur, z1, z2, z3⟩ => .inr ⟨gg, cap, cur, z1, Nat.le_trans hB z2, z3⟩⟩
  rcases h with ⟨p, h1, rfl⟩ | ⟨k, ns, b, vn, v, B, B', h1, rfl, ho, hB, _, hp, hB2, _⟩
  · have q := d1 p h1
    refine ⟨nlS, nlS, ?_, ?_, ?_⟩
    · simp [pK, pP, pE, q, rpA]
    · simp only [pS, q, reduceCtorEq, if_false]
      exact World.ownsRow_nil _ _ _ _
    · simp only [pB, q, reduceCtorEq, if_false]
      exact World.ownsRow_nil _ _ _ _
  · obtain ⟨q1, q2, q3, q4⟩ := d2 k ns b h1
    refine ⟨vn, v, ?_, ?_, ?_⟩
    · simp [pK, pP, pE, q1, q2]
    · simp only [pS, q1, if_true]
      rw [← q3]
      exact low hB ho
    · simp only [pB, q1, if_true]
      rw [← q4]
      exact low hB2 hp
theorem pS_byt {l : List Int} (hl : ∀ x ∈ l, 0 ≤ x ∧ x < 256) : ∀ x ∈ pS l, 0 ≤ x ∧ x < 256 := by
  unfold pS dpS
  split
  · split
    · exact fun x hx => hl x (List.mem_of_mem_drop hx)
    · exact fun x hx => by cases hx
  · exact fun x hx => by cases hx
theorem pB_byt {l : List Int} (hl : ∀ x ∈ l, 0 ≤ x ∧ x < 256) : ∀ x ∈ pB l, 0 ≤ x ∧ x < 256 := by
  unfold pB dpB
  split
  · split
    · exact fun x hx => hl x (List.mem_of_mem_drop hx)
    · exact fun x hx => by cases hx
  · exact fun x hx => by cases hx
theorem pS_len (l : List Int) : (pS l).length ≤ l.length := by
  unfold pS dpS
  split
  · split <;> simp
  · simp
theorem pB_len (l : List Int) : (pB l).length ≤ l.length := by
  unfold pB dpB
  split
  · split <;> simp
  · simp
theorem layQ_lenA {r : Rq} (h : r.ok) (b : List Int) : (layQ r b).length ≤ 34 + b.length := by
  unfold layQ
  (repeat' split) <;> simp [h.1, bigL_len] <;> omega
theorem layP_lenA (k : Int) (ns b : List Int) : (layP k ns b).length ≤ 10 + ns.length + b.length := by
  unfold layP
  (repeat' split) <;> simp [bigL_len] <;> omega
theorem own_low {W : World} {B B' : Nat} {t : TypeId} {v : Value} {n : Nat} {xs : List Value} (ho : W.ownsRow B t 1 v n xs) (hB : B' ≤ B) : W.ownsRow B' t 1 v n xs := ⟨ho.1, ho.2.elim .inl fun ⟨gg, cap, cur, z1, z2, z3⟩ => .inr ⟨gg, cap, cur, z1, Nat.le_trans hB z2, z3⟩⟩
theorem own_ge {W : World} {B : Nat} {t : TypeId} {v : Value} {n : Nat} {xs : List Value} (ho : W.ownsRow B t 1 v n xs) {b : Nat} (hb : v.ownBlock = some b) : B ≤ b := (own_at ho hb).2.1
structure AF (w0 W : World) (S P Q R : Nat) (m mq mr : Array Value) (lq lr ln ld : Value) (qb rb ns db : List Int) : Prop where
  bel : Below w0.heap.size w0 W
  fP : W.heap[P]? = some (.cells m TO (0, 0))
  fQ : W.heap[Q]? = some (.cells mq 38 (0, 0))
  fR : W.heap[R]? = some (.cells mr 42 (0, 0))
  oq : W.ownsRow S 5 1 lq (lent qb).length ((lent qb).map (Value.int .u8))
  or' : W.ownsRow S 5 1 lr (lent rb).length ((lent rb).map (Value.int .u8))
  on : W.ownsRow S 3 1 ln (I.lent ns).length ((I.lent ns).map (Value.int .i64))
  od : W.ownsRow S 5 1 ld (lent db).length ((lent db).map (Value.int .u8))
theorem AF.of {w0 W W' : World} {S P Q R : Nat} {m mq mr : Array Value} {lq lr ln ld : Value} {qb rb ns db : List Int} (h : AF w0 W S P Q R m mq mr lq lr ln ld qb rb ns db) (hb : Below w0.heap.size w0 W')
    (hk : ∀ (b : Nat) (cs : Array Value) (T : TypeId), W.heap[b]? = some (.cells cs T (0, 0)) → T ≠ TB → T ≠ 36 → T ≠ 40 → W'.heap[b]? = W.heap[b]?) : AF w0 W' S P Q R m mq mr lq lr ln ld qb rb ns db := by
  have row : ∀ {e : TypeId} {v : Value} {n : Nat} {xs : List Value}, e ≠ TB → e ≠ 36 → e ≠ 40 → W.ownsRow S e 1 v n xs → W'.ownsRow S e 1 v n xs := fun {e v n xs} n1 n2 n3 q => own_of q fun b hb => by
    obtain ⟨_, _, cs, q2⟩ := own_at q hb
    exact hk b cs e q2 n1 n2 n3
  exact ⟨hb, (hk _ _ _ h.fP (by decide) (by decide) (by decide)).trans h.fP, (hk _ _ _ h.fQ (by decide) (by decide) (by decide)).trans h.fQ, (hk _ _ _ h.fR (by decide) (by decide) (by decide)).trans h.fR, row (by decide) (by decide) (by decide) h.oq, row (by decide) (by decide) (by decide) h.or', row (by decide) (by decide) (by decide) h.on, row (by decide) (by decide) (by decide) h.od⟩
theorem AF.below {w0 W W' : World} {S P Q R : Nat} {m mq mr : Array Value} {lq lr ln ld : Value} {qb rb ns db : List Int} (h : AF w0 W S P Q R m mq mr lq lr ln ld qb rb ns db) (hb : Below W.heap.size W W') : AF w0 W' S P Q R m mq mr lq lr ln ld qb rb ns db :=
  h.of (h.bel.trans (hb.mono h.bel.size)) fun b cs T q _ _ _ => hb.block b (Array.getElem?_eq_some_iff.1 q).1
theorem rngM {W : World} {P : Nat} {cs : Array Value} {T : TypeId} (h : W.heap[P]? = some (.cells cs T (0, 0))) : W.rangeAt P 0 cs.toList := fun j v hj => by rw [cell_of_row _ _ _ _ _ _ h, Nat.zero_add, ← Array.getElem?_toList]; exact hj
theorem push_frame {w w1 : World} {B g i : Nat} {v v' : Value} {e : TypeId} {n : Nat} {xs : List Value} {o : Obj} {cs0 : Array Value} (hr : w.ownsRow B e 1 v n xs) (hblk : w.heap[g]? = some (.cells cs0 TB (0, 0))) (hgB : B ≤ g) (hlow : B ≤ w.heap.size) (hg : (w.alloc o).grownBy w1 v.ownBlock) :
    (∀ (b : Nat) (cs : Array Value) (T : TypeId), w.heap[b]? = some (.cells cs T (0, 0)) → T ≠ TB → T ≠ e → (w1.setCell ⟨g, i, none⟩ v').heap[b]? = w.heap[b]?) ∧ Below B w (w1.setCell ⟨g, i, none⟩ v') := by
  refine ⟨fun b cs T q n1 n2 => ?_, ?_⟩
  · have hb := (Array.getElem?_eq_some_iff.1 q).1
    rw [← grow_keeps hg hb (fun q2 => by
      obtain ⟨_, _, cs2, q3⟩ := own_at hr q2
      rw [q] at q3
      simp only [Option.some.injEq, Obj.cells.injEq] at q3
      exact n2 q3.2.1)]
    have : g ≠ b := fun e => by
      rw [← e, hblk] at q
      simp only [Option.some.injEq, Obj.cells.injEq] at q
      exact n1 q.2.1.symm
    simp [World.setCell, Array.getElem?_modify, this]
  · have h1 : Below B w (w.alloc o) := (Below.refl _ w).alloc hlow _
    have h2 : Below B w w1 := h1.grown hg (by have : (w.alloc o).heap.size = w.heap.size + 1 := (by simp); omega) (fun k e => own_ge hr e)
    exact h2.setCell hgB v'
theorem mq_set {r : Rq} (h : r.ok) (u v : Value) : (rqA r u).setIfInBounds 22 v = rqA r v := by
  obtain ⟨k, ix, nb, pl, ln, who, til⟩ := r
  exact rqA_tail k ix nb pl ln who til u 5 v h.1
theorem lent_cut {W : World} {S g c : Nat} {l : List Int} (h : W.ownsRow S 5 1 (.slice (some ⟨g, 0, none⟩) (l.length + 70) c) (lent l).length ((lent l).map (Value.int .u8))) (hb : ∀ x ∈ l, 0 ≤ x ∧ x < 256) : HB W (.slice (some ⟨g, 0, none⟩) l.length c) l ∧ HB W (.slice (some ⟨g, 0, none⟩) (l.length + 70) c) (lent l) := by
  obtain ⟨g', c', e, _, _, _, _, h1, h2⟩ := lent_part h hb
  simp only [Value.slice.injEq, Option.some.injEq, Addr.mk.injEq, and_true, true_and] at e
  obtain ⟨rfl, rfl⟩ := e
  exact ⟨h1, h2⟩
theorem lent_cutI {W : World} {S g c : Nat} {l : List Int} (h : W.ownsRow S 3 1 (.slice (some ⟨g, 0, none⟩) (l.length + 70) c) (I.lent l).length ((I.lent l).map (Value.int .i64))) (hb : ∀ x ∈ l, -9223372036854775808 ≤ x ∧ x < 9223372036854775808) : I.HB W (.slice (some ⟨g, 0, none⟩) l.length c) l ∧ I.HB W (.slice (some ⟨g, 0, none⟩) (l.length + 70) c) (I.lent l) := by
  obtain ⟨g', c', e, _, _, _, _, h1, h2⟩ := I.lent_part h hb
  simp only [Value.slice.injEq, Option.some.injEq, Addr.mk.injEq, and_true, true_and] at e
  obtain ⟨rfl, rfl⟩ := e
  exact ⟨h1, h2⟩
theorem size_q : (Try.prog.info? 38).map (·.size) = some 23 := by kernel_rfl
theorem size_r : (Try.prog.info? 42).map (·.size) = some 3 := by kernel_rfl
theorem run_litBs (w : World) (p : Option Addr) (n c : Nat) : (Instr.buildSlice 24 1 #[(0, .slice p n c)]).run Try.prog w = .ok (.slice (some ⟨w.heap.size, 0, none⟩) 1 1) (w.alloc (.cells #[.slice p n c] 36)) := by kernel_rfl
theorem run_litIs (w : World) (p : Option Addr) (n c : Nat) : (Instr.buildSlice 25 1 #[(0, .slice p n c)]).run Try.prog w = .ok (.slice (some ⟨w.heap.size, 0, none⟩) 1 1) (w.alloc (.cells #[.slice p n c] 40)) := by kernel_rfl
end Go.Proofs.Ytgjadpidoaianaa
