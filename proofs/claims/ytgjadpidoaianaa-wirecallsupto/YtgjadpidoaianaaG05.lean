/- Of the road to wireCallsUpto_holds: WrPut. -/
import Derived.Test.YtgjadpidoaianaaG00
import Derived.Test.YtgjadpidoaianaaG04
import Derived.Great.BuildSlice
set_option linter.unusedVariables false
set_option linter.unusedSimpArgs false
namespace Go.Proofs.Ytgjadpidoaianaa
open Go Go.RowKit
theorem wanted_litQ {P : Program} {ops : Array Oper} {o : Oper} {a : Act} {w w' : World} {K : Act → World → Prop} {Q : Exit → Act → World → Prop} {X : Prop} (hw : Region.wanted o (yielded ops a.tmps) = true) (t : TypeId) (len : Nat) (parts : Array (Nat × Operand)) (ho : o.op = .buildSlice t len parts) (ps : Array (Nat × Value)) (hps : (parts.map fun (i, x) => (i, a.eval x)) = ps) (v : Value)
    (hr : (Instr.buildSlice t len ps).run P w = .ok v w') (h : K (a.put o.dst v) w') : if Region.wanted o (yielded ops a.tmps) = true then Oper.wp P o a w K Q else X := by
  rw [if_pos hw]
  unfold Oper.wp execOp
  simp only [ho, Sem.run_bind, hps, hr, Result.andThen_ok]
  exact h
def layQ (r : Rq) (b : List Int) : List Int := r.k :: (r.ix ++
  (if r.k = 2 then bigL 1 r.nb.toNat ++ (bigL 4 r.who.toNat ++ (bigL 8 r.til.toNat ++ (bigL 4 b.length ++ b)))
  else if r.k = 3 then bigL 1 r.nb.toNat ++ (bigL 4 r.pl.toNat ++ bigL 4 r.ln.toNat)
  else if r.k = 4 then bigL 4 r.who.toNat ++ bigL 8 r.til.toNat
  else if r.k = 5 then bigL 4 r.who.toNat
  else []))
theorem HL.lit {w : World} {b : Nat} {us : List Value} {ls : List (List Int)} (hb : w.heap[b]? = some (.cells us.toArray 36 (0, 0))) (hl : us.length = ls.length) (hm : ls.length ≤ 1000) (hu : ∀ j u, us[j]? = some u → HB w u (ls.getD j [])) : HL w (.slice (some ⟨b, 0, none⟩) ls.length ls.length) ls := by
  refine ⟨_, _, rfl, Nat.le_refl _, by unfold maxLen; omega, (fun e => by cases e), fun _ => ⟨b, 0, rfl, fun j hj => ?_⟩⟩
  have hj2 : j < us.length := by omega
  refine ⟨us[j], ?_, hu j _ (List.getElem?_eq_getElem hj2)⟩
  rw [cell_of_row _ _ _ _ _ _ hb, Nat.zero_add, List.getElem?_toArray, List.getElem?_eq_getElem hj2]
set_option maxRecDepth 100000 in
theorem run_lit1 (w : World) (p0 : Option Addr) (n0 c0 : Nat) : (Instr.buildSlice 24 1 #[(0, .slice p0 n0 c0)]).run Try.prog w = .ok (.slice (some ⟨w.heap.size, 0, none⟩) 1 1) (w.alloc (.cells #[.slice p0 n0 c0] 36)) := by kernel_rfl
set_option maxRecDepth 100000 in
theorem run_lit2 (w : World) (p0 : Option Addr) (n0 c0 : Nat) (p1 : Option Addr) (n1 c1 : Nat) : (Instr.buildSlice 24 2 #[(0, .slice p0 n0 c0), (1, .slice p1 n1 c1)]).run Try.prog w = .ok (.slice (some ⟨w.heap.size, 0, none⟩) 2 2) (w.alloc (.cells #[.slice p0 n0 c0, .slice p1 n1 c1] 36)) := by kernel_rfl
set_option maxRecDepth 100000 in
theorem run_lit3 (w : World) (p0 : Option Addr) (n0 c0 : Nat) (p1 : Option Addr) (n1 c1 : Nat) (p2 : Option Addr) (n2 c2 : Nat) : (Instr.buildSlice 24 3 #[(0, .slice p0 n0 c0), (1, .slice p1 n1 c1), (2, .slice p2 n2 c2)]).run Try.prog w = .ok (.slice (some ⟨w.heap.size, 0, none⟩) 3 3) (w.alloc (.cells #[.slice p0 n0 c0, .slice p1 n1 c1, .slice p2 n2 c2] 36)) := by kernel_rfl
set_option maxRecDepth 100000 in
theorem run_lit4 (w : World) (p0 : Option Addr) (n0 c0 : Nat) (p1 : Option Addr) (n1 c1 : Nat) (p2 : Option Addr) (n2 c2 : Nat) (p3 : Option Addr) (n3 c3 : Nat) : (Instr.buildSlice 24 4 #[(0, .slice p0 n0 c0), (1, .slice p1 n1 c1), (2, .slice p2 n2 c2), (3, .slice p3 n3 c3)]).run Try.prog w = .ok (.slice (some ⟨w.heap.size, 0, none⟩) 4 4) (w.alloc (.cells #[.slice p0 n0 c0, .slice p1 n1 c1, .slice p2 n2 c2, .slice p3 n3 c3] 36)) := by kernel_rfl
set_option maxRecDepth 100000 in
theorem run_lit6 (w : World) (p0 : Option Addr) (n0 c0 : Nat) (p1 : Option Addr) (n1 c1 : Nat) (p2 : Option Addr) (n2 c2 : Nat) (p3 : Option Addr) (n3 c3 : Nat) (p4 : Option Addr) (n4 c4 : Nat) (p5 : Option Addr) (n5 c5 : Nat) : (Instr.buildSlice 24 6 #[(0, .slice p0 n0 c0), (1, .slice p1 n1 c1), (2, .slice p2 n2 c2), (3, .slice p3 n3 c3), (4, .slice p4 n4 c4), (5, .slice p5 n5 c5)]).run Try.prog w = .ok (.slice (some ⟨w.heap.size, 0, none⟩) 6 6) (w.alloc (.cells #[.slice p0 n0 c0, .slice p1 n1 c1, .slice p2 n2 c2, .slice p3 n3 c3, .slice p4 n4 c4, .slice p5 n5 c5] 36)) := by kernel_rfl
def PutQ (w : World) (m : Bool) (L : List Int) (err : Int) (e : Ending) (w' : World) : Prop :=
  (m = false ∧ e = .returned (.tuple #[.slice none 0 0, .int .i64 err])) ∨
  (m = true ∧ ∃ v, e = .returned (.tuple #[v, .int .i64 0]) ∧ w'.ownsRow w.heap.size 5 1 v L.length (L.map (Value.int .u8)))
theorem bigL_len (n x : Nat) : (bigL n x).length = n := bigL_length n x
set_option maxRecDepth 100000 in
set_option maxHeartbeats 32000000 in
theorem putReq_any (w : World) (r : Rq) (hr : r.ok) (hk : 0 ≤ r.k ∧ r.k < 256) (hwho : 0 ≤ r.who ∧ r.who < 4294967296) (v : Value) (b : List Int) (hv : HB w v b) :
    Calls Try.prog 14 #[.agg (rqA r v)] w fun e w' => PutQ w (mayB r b.length) (layQ r b) 200 e w' ∧ Below w.heap.size w w' := by
  obtain ⟨vp, vc, rfl, hvc, hvm⟩ := hv.open
  have hbb := hv.2
  obtain ⟨m, HM⟩ : ∃ m, Hid (rqA r (.slice vp b.length vc) = m) := ⟨_, hid rfl⟩
  obtain ⟨W1, HW1⟩ : ∃ W : World, Hid (w.alloc (.cells m 38) = W) := ⟨_, hid rfl⟩
  have B1 : Hid (Below w.heap.size w W1) := by rw [← HW1.out]; exact hid ((Below.refl _ w).alloc (Nat.le_refl _) _)
  have Z1 : Hid (W1.heap.size = w.heap.size + 1) := hid (by rw [← HW1.out]; simp)
  have hbx : Hid (W1.heap[w.heap.size]? = some (.cells m 38 (0, 0))) := hid (by rw [← HW1.out]; exact heap_alloc_new w _)
  have HBX : Hid (∀ W, Below W1.heap.size W1 W → W.heap[w.heap.size]? = some (.cells m 38 (0, 0))) := hid (fun W hW => (hW.block _ (by have := Z1.out; omega)).trans hbx.out)
  have KX : Hid (∀ W, Below W1.heap.size W1 W → W.cell? ⟨w.heap.size, 0, none⟩ = some (.int .u8 r.k) ∧ W.cell? ⟨w.heap.size, 17, none⟩ = some (.int .i64 r.nb) ∧ W.cell? ⟨w.heap.size, 18, none⟩ = some (.int .i64 r.pl) ∧ W.cell? ⟨w.heap.size, 19, none⟩ = some (.int .i64 r.ln) ∧ W.cell? ⟨w.heap.size, 20, none⟩ = some (.int .u32 r.who) ∧ W.cell? ⟨w.heap.size, 21, none⟩ = some (.int .i64 r.til) ∧ W.cell? ⟨w.heap.size, 22, none⟩ = some (.slice vp b.length vc)) := hid (fun W hW => by
    have q2 := HBX.out W hW
    refine ⟨?_, ?_, ?_, ?_, ?_, ?_, ?_⟩ <;> rw [cell_of_row _ _ _ _ _ _ q2, ← HM.out]
    · rfl
    · exact rqA_17 hr _
    · exact rqA_18 hr _
    · exact rqA_19 hr _
    · exact rqA_20 hr _
    · exact rqA_21 hr _
    · exact rqA_22 hr _)
  have IX : Hid (∀ W, Below W1.heap.size W1 W → HB W (.slice (some ⟨w.heap.size, 1, none⟩) 16 16) r.ix) := hid (fun W hW => by
    refine ⟨⟨_, 16, by rw [hr.1], by rw [hr.1]; omega, by unfold maxLen; omega, (fun e => by cases e), fun _ => ⟨w.heap.size, 1, rfl, fun j hj => ?_⟩⟩, hr.2⟩
    rw [cell_of_row _ _ _ _ _ _ (HBX.out W hW), ← HM.out]
    unfold rqA rqL
    rw [List.getElem?_toArray, show 1 + j = j + 1 by omega, List.getElem?_cons_succ, List.getElem?_append_left (by simpa using hj), List.getElem?_map, List.getElem?_eq_getElem hj, getD_of_lt hj]
    rfl)
  have VB : Hid (∀ W, Below W1.heap.size W1 W → HB W (.slice vp b.length vc) b) := hid (fun W hW => hv.below (B1.out.trans (hW.mono B1.out.size)))
  have CM := hid (mayReq_any W1 r hr vp b.length vc)
  rw [HM.out] at CM
  rw [HM.out]
  have SL : Hid ((Try.prog.info? 38).map (·.size) = some m.toList.length) := hid (by rw [← HM.out]; show _ = some (rqL r _).length; rw [show (rqL r (.slice vp b.length vc)).length = 23 by simp [rqL, hr.1]]; kernel_rfl)
  have RG0 : Hid (W1.rangeAt w.heap.size 0 m.toList) := hid (fun j u hj => by rw [cell_of_row _ _ _ _ _ _ hbx.out, Nat.zero_add, ← Array.getElem?_toList]; exact hj)
  have HMM : Hid (m.toList.toArray = m) := hid (by simp)
  have LQ : Hid (layQ r b = layQ r b) := hid rfl
  obtain ⟨L, HLQ⟩ : ∃ L, Hid (layQ r b = L) := ⟨_, hid rfl⟩
  rw [HLQ.out]
  obtain ⟨mb, HMB⟩ : ∃ x, Hid (mayB r b.length = x) := ⟨_, hid rfl⟩
  rw [HMB.out] at CM
  rw [HMB.out]
  have HV := hid hv
  have HR := hid hr
  clear hv hr hbx LQ
  go_enter Try.func14, Try.ntmps14
  go_wp2_with (first | rw [HW1.out] | (refine wpList_load_mid rfl 38 _ rfl w.heap.size 0 rfl m.toList _ RG0.out Try.underlying38 rfl SL.out ?_; rw [HMM.out]) | fail)
  refine CM.out.mono ?_
  rintro e w2 ⟨rfl, hb2⟩
  have B2 := hid hb2
  clear hb2 CM
  cases mb with
  | false =>
    go_wp2_with fail
    go_ret2
    exact ⟨.inl ⟨rfl, rfl⟩, B1.out.trans (B2.out.mono B1.out.size)⟩
  | true =>
    have hmb := HMB.out
    obtain ⟨k, ix, nb, pl, ln, who, til⟩ := r
    simp only at hk hwho KX IX
    have hrest : (0 ≤ nb ∧ nb < 255) ∧ (0 ≤ til ∧ til ≤ 1099511627776) ∧ (k = 1 ∨ k = 2 ∨ k = 3 ∨ k = 4 ∨ k = 5) ∧ (k = 2 → b.length ≤ 33554432) ∧ (k = 3 → (0 ≤ pl ∧ pl ≤ 33554432) ∧ 1 ≤ ln ∧ ln ≤ 131072) := by
      unfold mayB nbB tkB stB at hmb
      simp only at hmb
      (repeat' split at hmb) <;> simp at hmb <;> refine ⟨?_, ?_, ?_, ?_, ?_⟩ <;> omega
    obtain ⟨hnb, htil, hk5, hk2, hk3⟩ := hrest
    obtain ⟨nbN, rfl⟩ := Int.eq_ofNat_of_zero_le hnb.1
    obtain ⟨tiN, rfl⟩ := Int.eq_ofNat_of_zero_le htil.1
    obtain ⟨whN, rfl⟩ := Int.eq_ofNat_of_zero_le hwho.1
    have u8w : IntKind.u8.wrap (nbN : Int) = (nbN : Int) := by rw [IntKind.wrap_u8]; omega
    have u64w : IntKind.u64.wrap (tiN : Int) = (tiN : Int) := by rw [IntKind.wrap_u64]; omega
    have CB8 := hid (big_uint8 nbN (by omega))
    have CB4 := hid (fun W => big_uint32 whN (by omega) W)
    have CB64 := hid (fun W => big_uint64 tiN (by omega) W)
    clear hmb
    go_wp2_with fail
    refine wp_region_held_drew (S := (Below w2.heap.size w2)) (by kernel_rfl) (by repeat' first | exact Below.refl _ _ | apply bel_drewN) (fun hHeld => ?_)
    have HS := hid hHeld
    clear hHeld
    change wpAnyH _ _ _ _ _ _ _ _ (World.drew _)
    refine wpAnyH_take (i := 0) (v := ?_) rfl (by kernel_rfl) (by kernel_rfl) (by kernel_rfl) (fun _ _ _ h => h) (Or.inl ⟨by rfl, ?q0⟩) HS.out ?_
    case q0 => intro w hSw; obtain ⟨y0, y1, y2, y3, y4, y5, y6⟩ := KX.out _ (B2.out.trans (Below.mono hSw B2.out.size)); go_simp; rfl
    simp only [Act.put, List.getElem_toArray, List.getElem_cons_zero, List.getElem_cons_succ, List.setIfInBounds_toArray, List.set_cons_zero, List.set_cons_succ]
    refine wpAnyH_take (i := 1) (v := ?_) rfl (by kernel_rfl) (by kernel_rfl) (by kernel_rfl) (fun _ _ _ h => h) (Or.inl ⟨by rfl, ?q1⟩) HS.out ?_
    case q1 => intro w hSw; obtain ⟨y0, y1, y2, y3, y4, y5, y6⟩ := KX.out _ (B2.out.trans (Below.mono hSw B2.out.size)); go_simp; rfl
    simp only [Act.put, List.getElem_toArray, List.getElem_cons_zero, List.getElem_cons_succ, List.setIfInBounds_toArray, List.set_cons_zero, List.set_cons_succ]
    refine wpAnyH_take (i := 2) (v := ?_) rfl (by kernel_rfl) (by kernel_rfl) (by kernel_rfl) (fun _ _ _ h => h) (Or.inl ⟨by rfl, ?q2⟩) HS.out ?_
    case q2 => intro w hSw; obtain ⟨y0, y1, y2, y3, y4, y5, y6⟩ := KX.out _ (B2.out.trans (Below.mono hSw B2.out.size)); go_simp; rfl
    simp only [Act.put, List.getElem_toArray, List.getElem_cons_zero, List.getElem_cons_succ, List.setIfInBounds_toArray, List.set_cons_zero, List.set_cons_succ]
    refine wpAnyH_take (i := 4) (v := ?_) rfl (by kernel_rfl) (by kernel_rfl) (by kernel_rfl) (fun _ _ _ h => h) (Or.inl ⟨by rfl, ?q4⟩) HS.out ?_
    case q4 => intro w hSw; obtain ⟨y0, y1, y2, y3, y4, y5, y6⟩ := KX.out _ (B2.out.trans (Below.mono hSw B2.out.size)); go_simp; rfl
    simp only [Act.put, List.getElem_toArray, List.getElem_cons_zero, List.getElem_cons_succ, List.setIfInBounds_toArray, List.set_cons_zero, List.set_cons_succ]
    refine wpAnyH_take (i := 5) (v := ?_) rfl (by kernel_rfl) (by kernel_rfl) (by kernel_rfl) (fun _ _ _ h => h) (Or.inl ⟨by rfl, ?q5⟩) HS.out ?_
    case q5 => intro w hSw; obtain ⟨y0, y1, y2, y3, y4, y5, y6⟩ := KX.out _ (B2.out.trans (Below.mono hSw B2.out.size)); go_simp; rfl
    simp only [Act.put, List.getElem_toArray, List.getElem_cons_zero, List.getElem_cons_succ, List.setIfInBounds_toArray, List.set_cons_zero, List.set_cons_succ]
    refine wpAnyH_take (i := 6) (v := ?_) rfl (by kernel_rfl) (by kernel_rfl) (by kernel_rfl) (fun _ _ _ h => h) (Or.inl ⟨by rfl, ?q6⟩) HS.out ?_
    case q6 => intro w hSw; obtain ⟨y0, y1, y2, y3, y4, y5, y6⟩ := KX.out _ (B2.out.trans (Below.mono hSw B2.out.size)); go_simp; rfl
    simp only [Act.put, List.getElem_toArray, List.getElem_cons_zero, List.getElem_cons_succ, List.setIfInBounds_toArray, List.set_cons_zero, List.set_cons_succ]
    refine wpAnyH_take (i := 8) (v := ?_) rfl (by kernel_rfl) (by kernel_rfl) (by kernel_rfl) (fun _ _ _ h => h) (Or.inl ⟨by rfl, ?q8⟩) HS.out ?_
    case q8 => intro w hSw; obtain ⟨y0, y1, y2, y3, y4, y5, y6⟩ := KX.out _ (B2.out.trans (Below.mono hSw B2.out.size)); go_simp; rfl
    simp only [Act.put, List.getElem_toArray, List.getElem_cons_zero, List.getElem_cons_succ, List.setIfInBounds_toArray, List.set_cons_zero, List.set_cons_succ]
    refine wpAnyH_take (i := 9) (v := ?_) rfl (by kernel_rfl) (by kernel_rfl) (by kernel_rfl) (fun _ _ _ h => h) (Or.inl ⟨by rfl, ?q9⟩) HS.out ?_
    case q9 => intro w hSw; obtain ⟨y0, y1, y2, y3, y4, y5, y6⟩ := KX.out _ (B2.out.trans (Below.mono hSw B2.out.size)); go_simp; rfl
    simp only [Act.put, List.getElem_toArray, List.getElem_cons_zero, List.getElem_cons_succ, List.setIfInBounds_toArray, List.set_cons_zero, List.set_cons_succ]
    refine wpAnyH_take (i := 10) (v := ?_) rfl (by kernel_rfl) (by kernel_rfl) (by kernel_rfl) (fun _ _ _ h => h) (Or.inl ⟨by rfl, ?q10⟩) HS.out ?_
    case q10 => intro w hSw; obtain ⟨y0, y1, y2, y3, y4, y5, y6⟩ := KX.out _ (B2.out.trans (Below.mono hSw B2.out.size)); go_simp; rfl
    simp only [Act.put, List.getElem_toArray, List.getElem_cons_zero, List.getElem_cons_succ, List.setIfInBounds_toArray, List.set_cons_zero, List.set_cons_succ]
    refine wpAnyH_take (i := 11) (v := ?_) rfl (by kernel_rfl) (by kernel_rfl) (by kernel_rfl) (fun _ _ _ h => h) (Or.inl ⟨by rfl, ?q11⟩) HS.out ?_
    case q11 => intro w hSw; obtain ⟨y0, y1, y2, y3, y4, y5, y6⟩ := KX.out _ (B2.out.trans (Below.mono hSw B2.out.size)); go_simp; rfl
    simp only [Act.put, List.getElem_toArray, List.getElem_cons_zero, List.getElem_cons_succ, List.setIfInBounds_toArray, List.set_cons_zero, List.set_cons_succ]
    refine wpAnyH_ready (rs := [3]) (by kernel_rfl) (by simp) ?_
    refine AllReadyH.cons rfl (fun K hK => ?_) AllReadyH.nil
    replace hK := hid hK
    go_simp
    refine (CB8.out _).mono ?_
    rintro e w3 ⟨v3, rfl, ho3, hb3⟩
    have B3 : Hid (Below w2.heap.size w2 w3) := hid ((bel_drewN (Below.refl _ w2) _).trans hb3)
    have h3 : HB w3 v3 (bigL 1 nbN) := HB.of_own (by rw [bigL_len]; exact ho3) (bigL_byt 1 nbN)
    have H3 := hid h3
    obtain ⟨p3, c3, e3, -, -⟩ := h3.open
    rw [bigL_len] at e3
    clear h3 ho3 hb3 HS
    subst e3
    have HS := B3
    refine hK.out _ _ HS.out (fun _ => ?_)
    clear hK K
    refine wpAnyH_ready (rs := [7]) (by kernel_rfl) (by simp) ?_
    refine AllReadyH.cons rfl (fun K hK => ?_) AllReadyH.nil
    replace hK := hid hK
    go_simp
    refine (CB4.out _).mono ?_
    rintro e w4 ⟨v4, rfl, ho4, hb4⟩
    have B34 := hid hb4
    have B4 : Hid (Below w2.heap.size w2 w4) := hid (B3.out.trans (hb4.mono B3.out.size))
    have h4 : HB w4 v4 (bigL 4 whN) := HB.of_own (by rw [bigL_len]; exact ho4) (bigL_byt 4 whN)
    have H4 := hid h4
    obtain ⟨p4, c4, e4, -, -⟩ := h4.open
    rw [bigL_len] at e4
    clear h4 ho4 hb4 HS
    subst e4
    have HS := B4
    refine hK.out _ _ HS.out (fun _ => ?_)
    clear hK K
    refine wpAnyH_ready (rs := [12]) (by kernel_rfl) (by simp) ?_
    refine AllReadyH.cons rfl (fun K hK => ?_) AllReadyH.nil
    replace hK := hid hK
    go_simp
    refine (CB64.out _).mono ?_
    rintro e w5 ⟨v5, rfl, ho5, hb5⟩
    have B45 := hid hb5
    have B5 : Hid (Below w2.heap.size w2 w5) := hid (B4.out.trans (hb5.mono B4.out.size))
    have h5 : HB w5 v5 (bigL 8 tiN) := HB.of_own (by rw [bigL_len]; exact ho5) (bigL_byt 8 tiN)
    have H5 := hid h5
    obtain ⟨p5, c5, e5, -, -⟩ := h5.open
    rw [bigL_len] at e5
    clear h5 ho5 hb5 HS
    subst e5
    have HS := B5
    refine hK.out _ _ HS.out (fun _ => ?_)
    clear hK K
    refine wpAnyH_take (i := 13) (v := ?_) rfl (by kernel_rfl) (by kernel_rfl) (by kernel_rfl) (fun _ _ _ h => h) (Or.inl ⟨by rfl, ?q13⟩) HS.out ?_
    case q13 => intro w hSw; obtain ⟨y0, y1, y2, y3, y4, y5, y6⟩ := KX.out _ (B2.out.trans (Below.mono hSw B2.out.size)); go_simp; rfl
    simp only [Act.put, List.getElem_toArray, List.getElem_cons_zero, List.getElem_cons_succ, List.setIfInBounds_toArray, List.set_cons_zero, List.set_cons_succ]
    refine wpAnyH_take (i := 14) (v := ?_) rfl (by kernel_rfl) (by kernel_rfl) (by kernel_rfl) (fun _ _ _ h => h) (Or.inl ⟨by rfl, ?q14⟩) HS.out ?_
    case q14 => intro w hSw; obtain ⟨y0, y1, y2, y3, y4, y5, y6⟩ := KX.out _ (B2.out.trans (Below.mono hSw B2.out.size)); go_simp; rfl
    simp only [Act.put, List.getElem_toArray, List.getElem_cons_zero, List.getElem_cons_succ, List.setIfInBounds_toArray, List.set_cons_zero, List.set_cons_succ]
    refine wpAnyH_take (i := 15) (v := ?_) rfl (by kernel_rfl) (by kernel_rfl) (by kernel_rfl) (fun _ _ _ h => h) (Or.inl ⟨by rfl, ?q15⟩) HS.out ?_
    case q15 => intro w hSw; obtain ⟨y0, y1, y2, y3, y4, y5, y6⟩ := KX.out _ (B2.out.trans (Below.mono hSw B2.out.size)); go_simp; rfl
    simp only [Act.put, List.getElem_toArray, List.getElem_cons_zero, List.getElem_cons_succ, List.setIfInBounds_toArray, List.set_cons_zero, List.set_cons_succ]
    refine wpAnyH_done (by kernel_rfl) ?_ _
    have N3 : Hid (∀ W, Below w5.heap.size w5 W → HB W (.slice p3 1 c3) (bigL 1 nbN)) := hid (fun W hW => ((H3.out.below B34.out).below B45.out).below hW)
    have N4 : Hid (∀ W, Below w5.heap.size w5 W → HB W (.slice p4 4 c4) (bigL 4 whN)) := hid (fun W hW => (H4.out.below B45.out).below hW)
    have N5 : Hid (∀ W, Below w5.heap.size w5 W → HB W (.slice p5 8 c5) (bigL 8 tiN)) := hid (fun W hW => H5.out.below hW)
    have B15 : Hid (Below W1.heap.size W1 w5) := hid (B2.out.trans (B5.out.mono B2.out.size))
    have KY : Hid (∀ W, Below w5.heap.size w5 W → Below W1.heap.size W1 W) := hid (fun W hW => B15.out.trans (hW.mono B15.out.size))
    have BW : Hid (∀ W, Below w5.heap.size w5 W → Below w.heap.size w W) := hid (fun W hW => B1.out.trans ((KY.out W hW).mono B1.out.size))
    clear HS H3 H4 H5 B34 B45 B3 B4 B5 B2 CB8 CB64 u8w u64w
    obtain ⟨kN, rfl⟩ := Int.eq_ofNat_of_zero_le hk.1
    have CL : Hid (∀ W us (ls : List (List Int)), W.heap[W.heap.size - 1]? = some (.cells (List.toArray us) 36 (0, 0)) → 0 < W.heap.size → Below w5.heap.size w5 W → us.length = ls.length → 0 < ls.length → ls.length ≤ 10 → ls.flatten.length + 1 ≤ 140737488355328 → (∀ j u, us[j]? = some u → HB W u (ls.getD j [])) → Calls Try.prog 40 #[.int .u8 (kN : Int), .slice (some ⟨W.heap.size - 1, 0, none⟩) ls.length ls.length] W fun e w' => ∃ v', e = .returned v' ∧ w'.ownsRow W.heap.size 5 1 v' (ls.flatten.length + 1) (((kN : Int) :: ls.flatten).map (Value.int .u8)) ∧ Below W.heap.size W w') := hid (fun W us ls h1 h2 h3 h4 h5 h6 h7 h8 => laid_any W kN (by omega) _ ls (HL.lit h1 h4 (by omega) h8) h5 (by omega) h7)
    have FIN : Hid (∀ W w' (u : Value) (M : List Int), Below w5.heap.size w5 W → Below W.heap.size W w' → L = M → w'.ownsRow W.heap.size 5 1 u M.length (M.map (Value.int .u8)) → PutQ w true L 200 (.returned (.tuple #[u, .int .i64 0])) w' ∧ Below w.heap.size w w') := hid (fun W w' u M h1 h2 h3 h4 => by
      have h5 := BW.out W h1
      refine ⟨.inr ⟨rfl, u, rfl, ?_⟩, h5.trans (h2.mono h5.size)⟩
      rw [h3]
      exact ⟨h4.1, h4.2.elim .inl fun ⟨gg, cap, cur, z1, z2, z3⟩ => .inr ⟨gg, cap, cur, z1, Nat.le_trans h5.size z2, z3⟩⟩)
    rcases hk5 with hk1 | hk1 | hk1 | hk1 | hk1
    · have hkk : kN = 1 := by omega
      subst hkk
      have yk : w5.cell? ⟨w.heap.size, 0, none⟩ = some (.int .u8 1) := (KX.out w5 (KY.out w5 (Below.refl _ _))).1
      go_wp2_with fail
      refine wp_region_held_drew (S := (Below w5.heap.size w5)) (by kernel_rfl) (by repeat' first | exact Below.refl _ _ | apply bel_drewN) (fun hHeld => ?_)
      have HS := hid hHeld
      clear hHeld
      change wpAnyH _ _ _ _ _ _ _ _ (World.drew _)
      refine wpAnyH_take (i := 0) (v := ?_) rfl (by kernel_rfl) (by kernel_rfl) (by kernel_rfl) (fun _ _ _ h => h) (Or.inl ⟨by rfl, ?q0⟩) HS.out ?_
      case q0 => intro w hSw; obtain ⟨y0, y1, y2, y3, y4, y5, y6⟩ := KX.out _ (KY.out _ hSw); go_simp; rfl
      simp only [Act.put, List.getElem_toArray, List.getElem_cons_zero, List.getElem_cons_succ, List.setIfInBounds_toArray, List.set_cons_zero, List.set_cons_succ]
      refine wpAnyH_take (i := 1) (v := ?_) rfl (by kernel_rfl) (by kernel_rfl) (by kernel_rfl) (fun _ _ _ h => h) (Or.inl ⟨by rfl, ?q1⟩) HS.out ?_
      case q1 => intro w hSw; obtain ⟨y0, y1, y2, y3, y4, y5, y6⟩ := KX.out _ (KY.out _ hSw); go_simp; rfl
      simp only [Act.put, List.getElem_toArray, List.getElem_cons_zero, List.getElem_cons_succ, List.setIfInBounds_toArray, List.set_cons_zero, List.set_cons_succ]
      refine wpAnyH_take (i := 2) (v := ?_) rfl (by kernel_rfl) (by kernel_rfl) (by kernel_rfl) (fun _ _ _ h => h) (Or.inl ⟨by rfl, ?q2⟩) HS.out ?_
      case q2 => intro w hSw; obtain ⟨y0, y1, y2, y3, y4, y5, y6⟩ := KX.out _ (KY.out _ hSw); go_simp; rfl
      simp only [Act.put, List.getElem_toArray, List.getElem_cons_zero, List.getElem_cons_succ, List.setIfInBounds_toArray, List.set_cons_zero, List.set_cons_succ]
      refine wpAnyH_take (i := 3) (v := ?_) rfl (by kernel_rfl) (by kernel_rfl) (by kernel_rfl) (fun _ _ _ h => h) (Or.inl ⟨by rfl, ?q3⟩) HS.out ?_
      case q3 => intro w hSw; obtain ⟨y0, y1, y2, y3, y4, y5, y6⟩ := KX.out _ (KY.out _ hSw); go_simp; rfl
      simp only [Act.put, List.getElem_toArray, List.getElem_cons_zero, List.getElem_cons_succ, List.setIfInBounds_toArray, List.set_cons_zero, List.set_cons_succ]
      have BC : Hid (Below w5.heap.size w5 w5.drew) := hid (bel_drewN (Below.refl _ w5) 1)
      obtain ⟨WL, HWL⟩ : ∃ W : World, Hid (w5.drew.alloc (.cells #[.slice (some ⟨w.heap.size, 1, none⟩) 16 16] 36) = W) := ⟨_, hid rfl⟩
      have hlit := run_lit1 w5.drew (some ⟨w.heap.size, 1, none⟩) 16 16
      rw [HWL.out] at hlit
      have BL : Hid (Below w5.heap.size w5 WL) := hid (BC.out.trans (by rw [← HWL.out]; exact (Below.refl _ _).alloc BC.out.size _))
      have ZL : Hid (WL.heap.size = w5.drew.heap.size + 1) := hid (by rw [← HWL.out]; simp)
      have LL : Hid (WL.heap[w5.drew.heap.size]? = some (.cells #[.slice (some ⟨w.heap.size, 1, none⟩) 16 16] 36 (0, 0))) := hid (by rw [← HWL.out]; exact heap_alloc_new _ _)
      have CL2 := hid (CL.out WL [.slice (some ⟨w.heap.size, 1, none⟩) 16 16] [ix] (by rw [ZL.out]; exact LL.out) (by have := ZL.out; omega) BL.out rfl (by simp) (by simp) (by have := HR.out.1; simp only at this; simp [this]) (fun j u hj => by
        match j, hj with
        | 0, hj => cases hj; exact IX.out _ (KY.out _ BL.out)
        | n + 1, hj => cases hj))
      rw [ZL.out, Nat.add_sub_cancel] at CL2
      refine wpAnyH_ready (rs := [4]) (by kernel_rfl) (by simp) ?_
      refine AllReadyH.cons rfl (fun K hK => ?_) AllReadyH.nil
      replace hK := hid hK
      refine wanted_litQ (by rfl) 24 1 _ rfl #[(0, .slice (some ⟨w.heap.size, 1, none⟩) 16 16)] (by go_simp) _ hlit ?_
      simp only [Act.put, List.getElem_toArray, List.getElem_cons_zero, List.getElem_cons_succ, List.setIfInBounds_toArray, List.set_cons_zero, List.set_cons_succ]
      refine hK.out _ _ BL.out (fun _ => ?_)
      clear hK K hlit
      refine wpAnyH_ready (rs := [5]) (by kernel_rfl) (by simp) ?_
      refine AllReadyH.cons rfl (fun K hK => ?_) AllReadyH.nil
      replace hK := hid hK
      go_simp
      refine CL2.out.mono ?_
      rintro e w9 ⟨v9, rfl, ho9, hb9⟩
      rw [← ZL.out] at ho9 hb9
      have BF : Hid (Below w5.heap.size w5 w9) := hid (BL.out.trans (hb9.mono BL.out.size))
      have FF := hid (FIN.out WL w9 v9 _ BL.out hb9 (by rw [← HLQ.out]; simp [layQ]) ho9)
      clear ho9 hb9 CL2
      refine hK.out _ _ BF.out (fun _ => ?_)
      clear hK K
      try clear HS
      have HS := BF
      refine wpAnyH_take (i := 6) (v := ?_) rfl (by kernel_rfl) (by kernel_rfl) (by kernel_rfl) (fun _ _ _ h => h) (Or.inl ⟨by rfl, ?q6⟩) HS.out ?_
      case q6 => intro w hSw; obtain ⟨y0, y1, y2, y3, y4, y5, y6⟩ := KX.out _ (KY.out _ hSw); go_simp; rfl
      simp only [Act.put, List.getElem_toArray, List.getElem_cons_zero, List.getElem_cons_succ, List.setIfInBounds_toArray, List.set_cons_zero, List.set_cons_succ]
      refine wpAnyH_take (i := 7) (v := ?_) rfl (by kernel_rfl) (by kernel_rfl) (by kernel_rfl) (fun _ _ _ h => h) (Or.inl ⟨by rfl, ?q7⟩) HS.out ?_
      case q7 => intro w hSw; obtain ⟨y0, y1, y2, y3, y4, y5, y6⟩ := KX.out _ (KY.out _ hSw); go_simp; rfl
      simp only [Act.put, List.getElem_toArray, List.getElem_cons_zero, List.getElem_cons_succ, List.setIfInBounds_toArray, List.set_cons_zero, List.set_cons_succ]
      refine wpAnyH_done (by kernel_rfl) ?_ _
      go_wp2_with fail
      go_ret2
      exact FF.out
    · have hkk : kN = 2 := by omega
      subst hkk
      have yk : w5.cell? ⟨w.heap.size, 0, none⟩ = some (.int .u8 2) := (KX.out w5 (KY.out w5 (Below.refl _ _))).1
      have hbl := hk2 rfl
      have u32l : IntKind.u32.wrap (b.length : Int) = (b.length : Int) := by rw [IntKind.wrap_u32]; omega
      have CB5 := hid (fun W => big_uint32 b.length (by omega) W)
      go_wp2_with fail
      refine wp_region_held_drew (S := (Below w5.heap.size w5)) (by kernel_rfl) (by repeat' first | exact Below.refl _ _ | apply bel_drewN) (fun hHeld => ?_)
      have HS := hid hHeld
      clear hHeld
      change wpAnyH _ _ _ _ _ _ _ _ (World.drew _)
      refine wpAnyH_take (i := 0) (v := ?_) rfl (by kernel_rfl) (by kernel_rfl) (by kernel_rfl) (fun _ _ _ h => h) (Or.inl ⟨by rfl, ?q0⟩) HS.out ?_
      case q0 => intro w hSw; obtain ⟨y0, y1, y2, y3, y4, y5, y6⟩ := KX.out _ (KY.out _ hSw); go_simp; rfl
      simp only [Act.put, List.getElem_toArray, List.getElem_cons_zero, List.getElem_cons_succ, List.setIfInBounds_toArray, List.set_cons_zero, List.set_cons_succ]
      refine wpAnyH_take (i := 1) (v := ?_) rfl (by kernel_rfl) (by kernel_rfl) (by kernel_rfl) (fun _ _ _ h => h) (Or.inl ⟨by rfl, ?q1⟩) HS.out ?_
      case q1 => intro w hSw; obtain ⟨y0, y1, y2, y3, y4, y5, y6⟩ := KX.out _ (KY.out _ hSw); go_simp; rfl
      simp only [Act.put, List.getElem_toArray, List.getElem_cons_zero, List.getElem_cons_succ, List.setIfInBounds_toArray, List.set_cons_zero, List.set_cons_succ]
      refine wpAnyH_take (i := 2) (v := ?_) rfl (by kernel_rfl) (by kernel_rfl) (by kernel_rfl) (fun _ _ _ h => h) (Or.inl ⟨by rfl, ?q2⟩) HS.out ?_
      case q2 => intro w hSw; obtain ⟨y0, y1, y2, y3, y4, y5, y6⟩ := KX.out _ (KY.out _ hSw); go_simp; rfl
      simp only [Act.put, List.getElem_toArray, List.getElem_cons_zero, List.getElem_cons_succ, List.setIfInBounds_toArray, List.set_cons_zero, List.set_cons_succ]
      refine wpAnyH_take (i := 3) (v := ?_) rfl (by kernel_rfl) (by kernel_rfl) (by kernel_rfl) (fun _ _ _ h => h) (Or.inl ⟨by rfl, ?q3⟩) HS.out ?_
      case q3 => intro w hSw; obtain ⟨y0, y1, y2, y3, y4, y5, y6⟩ := KX.out _ (KY.out _ hSw); go_simp; rfl
      simp only [Act.put, List.getElem_toArray, List.getElem_cons_zero, List.getElem_cons_succ, List.setIfInBounds_toArray, List.set_cons_zero, List.set_cons_succ]
      refine wpAnyH_take (i := 4) (v := ?_) rfl (by kernel_rfl) (by kernel_rfl) (by kernel_rfl) (fun _ _ _ h => h) (Or.inl ⟨by rfl, ?q4⟩) HS.out ?_
      case q4 => intro w hSw; obtain ⟨y0, y1, y2, y3, y4, y5, y6⟩ := KX.out _ (KY.out _ hSw); go_simp; rfl
      simp only [Act.put, List.getElem_toArray, List.getElem_cons_zero, List.getElem_cons_succ, List.setIfInBounds_toArray, List.set_cons_zero, List.set_cons_succ]
      refine wpAnyH_take (i := 5) (v := ?_) rfl (by kernel_rfl) (by kernel_rfl) (by kernel_rfl) (fun _ _ _ h => h) (Or.inl ⟨by rfl, ?q5⟩) HS.out ?_
      case q5 => intro w hSw; obtain ⟨y0, y1, y2, y3, y4, y5, y6⟩ := KX.out _ (KY.out _ hSw); go_simp; rfl
      simp only [Act.put, List.getElem_toArray, List.getElem_cons_zero, List.getElem_cons_succ, List.setIfInBounds_toArray, List.set_cons_zero, List.set_cons_succ]
      refine wpAnyH_take (i := 6) (v := ?_) rfl (by kernel_rfl) (by kernel_rfl) (by kernel_rfl) (fun _ _ _ h => h) (Or.inl ⟨by rfl, ?q6⟩) HS.out ?_
      case q6 => intro w hSw; obtain ⟨y0, y1, y2, y3, y4, y5, y6⟩ := KX.out _ (KY.out _ hSw); go_simp; rfl
      simp only [Act.put, List.getElem_toArray, List.getElem_cons_zero, List.getElem_cons_succ, List.setIfInBounds_toArray, List.set_cons_zero, List.set_cons_succ]
      refine wpAnyH_take (i := 7) (v := ?_) rfl (by kernel_rfl) (by kernel_rfl) (by kernel_rfl) (fun _ _ _ h => h) (Or.inl ⟨by rfl, ?q7⟩) HS.out ?_
      case q7 => intro w hSw; obtain ⟨y0, y1, y2, y3, y4, y5, y6⟩ := KX.out _ (KY.out _ hSw); go_simp; rfl
      simp only [Act.put, List.getElem_toArray, List.getElem_cons_zero, List.getElem_cons_succ, List.setIfInBounds_toArray, List.set_cons_zero, List.set_cons_succ]
      refine wpAnyH_take (i := 8) (v := ?_) rfl (by kernel_rfl) (by kernel_rfl) (by kernel_rfl) (fun _ _ _ h => h) (Or.inl ⟨by rfl, ?q8⟩) HS.out ?_
      case q8 => intro w hSw; obtain ⟨y0, y1, y2, y3, y4, y5, y6⟩ := KX.out _ (KY.out _ hSw); go_simp; rfl
      simp only [Act.put, List.getElem_toArray, List.getElem_cons_zero, List.getElem_cons_succ, List.setIfInBounds_toArray, List.set_cons_zero, List.set_cons_succ]
      refine wpAnyH_take (i := 9) (v := ?_) rfl (by kernel_rfl) (by kernel_rfl) (by kernel_rfl) (fun _ _ _ h => h) (Or.inl ⟨by rfl, ?q9⟩) HS.out ?_
      case q9 => intro w hSw; obtain ⟨y0, y1, y2, y3, y4, y5, y6⟩ := KX.out _ (KY.out _ hSw); go_simp; rfl
      simp only [Act.put, List.getElem_toArray, List.getElem_cons_zero, List.getElem_cons_succ, List.setIfInBounds_toArray, List.set_cons_zero, List.set_cons_succ]
      refine wpAnyH_take (i := 10) (v := ?_) rfl (by kernel_rfl) (by kernel_rfl) (by kernel_rfl) (fun _ _ _ h => h) (Or.inl ⟨by rfl, ?q10⟩) HS.out ?_
      case q10 => intro w hSw; obtain ⟨y0, y1, y2, y3, y4, y5, y6⟩ := KX.out _ (KY.out _ hSw); go_simp; rfl
      simp only [Act.put, List.getElem_toArray, List.getElem_cons_zero, List.getElem_cons_succ, List.setIfInBounds_toArray, List.set_cons_zero, List.set_cons_succ]
      refine wpAnyH_take (i := 12) (v := ?_) rfl (by kernel_rfl) (by kernel_rfl) (by kernel_rfl) (fun _ _ _ h => h) (Or.inl ⟨by rfl, ?q12⟩) HS.out ?_
      case q12 => intro w hSw; obtain ⟨y0, y1, y2, y3, y4, y5, y6⟩ := KX.out _ (KY.out _ hSw); go_simp; rfl
      simp only [Act.put, List.getElem_toArray, List.getElem_cons_zero, List.getElem_cons_succ, List.setIfInBounds_toArray, List.set_cons_zero, List.set_cons_succ]
      refine wpAnyH_take (i := 13) (v := ?_) rfl (by kernel_rfl) (by kernel_rfl) (by kernel_rfl) (fun _ _ _ h => h) (Or.inl ⟨by rfl, ?q13⟩) HS.out ?_
      case q13 => intro w hSw; obtain ⟨y0, y1, y2, y3, y4, y5, y6⟩ := KX.out _ (KY.out _ hSw); go_simp; rfl
      simp only [Act.put, List.getElem_toArray, List.getElem_cons_zero, List.getElem_cons_succ, List.setIfInBounds_toArray, List.set_cons_zero, List.set_cons_succ]
      have BC : Hid (Below w5.heap.size w5 w5.drew) := hid (bel_drewN (Below.refl _ w5) 1)
      refine wpAnyH_ready (rs := [11]) (by kernel_rfl) (by simp) ?_
      refine AllReadyH.cons rfl (fun K hK => ?_) AllReadyH.nil
      replace hK := hid hK
      go_simp
      refine (CB5.out _).mono ?_
      rintro e w6 ⟨v6, rfl, ho6, hb6⟩
      have B6 : Hid (Below w5.heap.size w5 w6) := hid ((bel_drewN (Below.refl _ w5) _).trans hb6)
      have h6 : HB w6 v6 (bigL 4 b.length) := HB.of_own (by rw [bigL_len]; exact ho6) (bigL_byt 4 b.length)
      have H6 := hid h6
      obtain ⟨p6, c6, e6, -, -⟩ := h6.open
      rw [bigL_len] at e6
      clear h6 ho6 hb6 HS BC
      subst e6
      refine hK.out _ _ B6.out (fun _ => ?_)
      clear hK K
      obtain ⟨WL, HWL⟩ : ∃ W : World, Hid (w6.alloc (.cells #[.slice (some ⟨w.heap.size, 1, none⟩) 16 16, .slice p3 1 c3, .slice p4 4 c4, .slice p5 8 c5, .slice p6 4 c6, .slice vp b.length vc] 36) = W) := ⟨_, hid rfl⟩
      have hlit := run_lit6 w6 (some ⟨w.heap.size, 1, none⟩) 16 16 p3 1 c3 p4 4 c4 p5 8 c5 p6 4 c6 vp b.length vc
      rw [HWL.out] at hlit
      have BL : Hid (Below w5.heap.size w5 WL) := hid (B6.out.trans (by rw [← HWL.out]; exact (Below.refl _ _).alloc B6.out.size _))
      have ZL : Hid (WL.heap.size = w6.heap.size + 1) := hid (by rw [← HWL.out]; simp)
      have LL : Hid (WL.heap[w6.heap.size]? = some (.cells #[.slice (some ⟨w.heap.size, 1, none⟩) 16 16, .slice p3 1 c3, .slice p4 4 c4, .slice p5 8 c5, .slice p6 4 c6, .slice vp b.length vc] 36 (0, 0))) := hid (by rw [← HWL.out]; exact heap_alloc_new _ _)
      have CL2 := hid (CL.out WL [.slice (some ⟨w.heap.size, 1, none⟩) 16 16, .slice p3 1 c3, .slice p4 4 c4, .slice p5 8 c5, .slice p6 4 c6, .slice vp b.length vc] [ix, bigL 1 nbN, bigL 4 whN, bigL 8 tiN, bigL 4 b.length, b] (by rw [ZL.out]; exact LL.out) (by have := ZL.out; omega) BL.out rfl (by simp) (by simp) (by have := HR.out.1; simp only at this; have := hk2 (by omega); simp [this, bigL_len]; omega) (fun j u hj => by
        match j, hj with
        | 0, hj => cases hj; exact IX.out _ (KY.out _ BL.out)
        | 1, hj => cases hj; exact N3.out _ BL.out
        | 2, hj => cases hj; exact N4.out _ BL.out
        | 3, hj => cases hj; exact N5.out _ BL.out
        | 4, hj => cases hj; exact H6.out.below (by rw [← HWL.out]; exact (Below.refl _ _).alloc (Nat.le_refl _) _)
        | 5, hj => cases hj; exact VB.out _ (KY.out _ BL.out)
        | n + 6, hj => cases hj))
      rw [ZL.out, Nat.add_sub_cancel] at CL2
      refine wpAnyH_ready (rs := [14]) (by kernel_rfl) (by simp) ?_
      refine AllReadyH.cons rfl (fun K hK => ?_) AllReadyH.nil
      replace hK := hid hK
      refine wanted_litQ (by rfl) 24 6 _ rfl #[(0, .slice (some ⟨w.heap.size, 1, none⟩) 16 16), (1, .slice p3 1 c3), (2, .slice p4 4 c4), (3, .slice p5 8 c5), (4, .slice p6 4 c6), (5, .slice vp b.length vc)] (by go_simp) _ hlit ?_
      simp only [Act.put, List.getElem_toArray, List.getElem_cons_zero, List.getElem_cons_succ, List.setIfInBounds_toArray, List.set_cons_zero, List.set_cons_succ]
      refine hK.out _ _ BL.out (fun _ => ?_)
      clear hK K hlit
      refine wpAnyH_ready (rs := [15]) (by kernel_rfl) (by simp) ?_
      refine AllReadyH.cons rfl (fun K hK => ?_) AllReadyH.nil
      replace hK := hid hK
      go_simp
      refine CL2.out.mono ?_
      rintro e w9 ⟨v9, rfl, ho9, hb9⟩
      rw [← ZL.out] at ho9 hb9
      have BF : Hid (Below w5.heap.size w5 w9) := hid (BL.out.trans (hb9.mono BL.out.size))
      have FF := hid (FIN.out WL w9 v9 _ BL.out hb9 (by rw [← HLQ.out]; simp [layQ]) ho9)
      clear ho9 hb9 CL2
      refine hK.out _ _ BF.out (fun _ => ?_)
      clear hK K
      try clear HS
      have HS := BF
      refine wpAnyH_take (i := 16) (v := ?_) rfl (by kernel_rfl) (by kernel_rfl) (by kernel_rfl) (fun _ _ _ h => h) (Or.inl ⟨by rfl, ?q16⟩) HS.out ?_
      case q16 => intro w hSw; obtain ⟨y0, y1, y2, y3, y4, y5, y6⟩ := KX.out _ (KY.out _ hSw); go_simp; rfl
      simp only [Act.put, List.getElem_toArray, List.getElem_cons_zero, List.getElem_cons_succ, List.setIfInBounds_toArray, List.set_cons_zero, List.set_cons_succ]
      refine wpAnyH_take (i := 17) (v := ?_) rfl (by kernel_rfl) (by kernel_rfl) (by kernel_rfl) (fun _ _ _ h => h) (Or.inl ⟨by rfl, ?q17⟩) HS.out ?_
      case q17 => intro w hSw; obtain ⟨y0, y1, y2, y3, y4, y5, y6⟩ := KX.out _ (KY.out _ hSw); go_simp; rfl
      simp only [Act.put, List.getElem_toArray, List.getElem_cons_zero, List.getElem_cons_succ, List.setIfInBounds_toArray, List.set_cons_zero, List.set_cons_succ]
      refine wpAnyH_done (by kernel_rfl) ?_ _
      go_wp2_with fail
      go_ret2
      exact FF.out
    · have hkk : kN = 3 := by omega
      subst hkk
      have yk : w5.cell? ⟨w.heap.size, 0, none⟩ = some (.int .u8 3) := (KX.out w5 (KY.out w5 (Below.refl _ _))).1
      obtain ⟨⟨hp1, hp2⟩, hn1, hn2⟩ := hk3 rfl
      obtain ⟨plN, rfl⟩ := Int.eq_ofNat_of_zero_le hp1
      obtain ⟨lnN, rfl⟩ := Int.eq_ofNat_of_zero_le (show 0 ≤ ln by omega)
      have u32p : IntKind.u32.wrap (plN : Int) = (plN : Int) := by rw [IntKind.wrap_u32]; omega
      have u32n : IntKind.u32.wrap (lnN : Int) = (lnN : Int) := by rw [IntKind.wrap_u32]; omega
      have CP := hid (fun W => big_uint32 plN (by omega) W)
      have CN := hid (fun W => big_uint32 lnN (by omega) W)
      go_wp2_with fail
      refine wp_region_held_drew (S := (Below w5.heap.size w5)) (by kernel_rfl) (by repeat' first | exact Below.refl _ _ | apply bel_drewN) (fun hHeld => ?_)
      have HS := hid hHeld
      clear hHeld
      change wpAnyH _ _ _ _ _ _ _ _ (World.drew _)
      refine wpAnyH_take (i := 0) (v := ?_) rfl (by kernel_rfl) (by kernel_rfl) (by kernel_rfl) (fun _ _ _ h => h) (Or.inl ⟨by rfl, ?q0⟩) HS.out ?_
      case q0 => intro w hSw; obtain ⟨y0, y1, y2, y3, y4, y5, y6⟩ := KX.out _ (KY.out _ hSw); go_simp; rfl
      simp only [Act.put, List.getElem_toArray, List.getElem_cons_zero, List.getElem_cons_succ, List.setIfInBounds_toArray, List.set_cons_zero, List.set_cons_succ]
      refine wpAnyH_take (i := 1) (v := ?_) rfl (by kernel_rfl) (by kernel_rfl) (by kernel_rfl) (fun _ _ _ h => h) (Or.inl ⟨by rfl, ?q1⟩) HS.out ?_
      case q1 => intro w hSw; obtain ⟨y0, y1, y2, y3, y4, y5, y6⟩ := KX.out _ (KY.out _ hSw); go_simp; rfl
      simp only [Act.put, List.getElem_toArray, List.getElem_cons_zero, List.getElem_cons_succ, List.setIfInBounds_toArray, List.set_cons_zero, List.set_cons_succ]
      refine wpAnyH_take (i := 2) (v := ?_) rfl (by kernel_rfl) (by kernel_rfl) (by kernel_rfl) (fun _ _ _ h => h) (Or.inl ⟨by rfl, ?q2⟩) HS.out ?_
      case q2 => intro w hSw; obtain ⟨y0, y1, y2, y3, y4, y5, y6⟩ := KX.out _ (KY.out _ hSw); go_simp; rfl
      simp only [Act.put, List.getElem_toArray, List.getElem_cons_zero, List.getElem_cons_succ, List.setIfInBounds_toArray, List.set_cons_zero, List.set_cons_succ]
      refine wpAnyH_take (i := 3) (v := ?_) rfl (by kernel_rfl) (by kernel_rfl) (by kernel_rfl) (fun _ _ _ h => h) (Or.inl ⟨by rfl, ?q3⟩) HS.out ?_
      case q3 => intro w hSw; obtain ⟨y0, y1, y2, y3, y4, y5, y6⟩ := KX.out _ (KY.out _ hSw); go_simp; rfl
      simp only [Act.put, List.getElem_toArray, List.getElem_cons_zero, List.getElem_cons_succ, List.setIfInBounds_toArray, List.set_cons_zero, List.set_cons_succ]
      refine wpAnyH_take (i := 4) (v := ?_) rfl (by kernel_rfl) (by kernel_rfl) (by kernel_rfl) (fun _ _ _ h => h) (Or.inl ⟨by rfl, ?q4⟩) HS.out ?_
      case q4 => intro w hSw; obtain ⟨y0, y1, y2, y3, y4, y5, y6⟩ := KX.out _ (KY.out _ hSw); go_simp; rfl
      simp only [Act.put, List.getElem_toArray, List.getElem_cons_zero, List.getElem_cons_succ, List.setIfInBounds_toArray, List.set_cons_zero, List.set_cons_succ]
      refine wpAnyH_take (i := 5) (v := ?_) rfl (by kernel_rfl) (by kernel_rfl) (by kernel_rfl) (fun _ _ _ h => h) (Or.inl ⟨by rfl, ?q5⟩) HS.out ?_
      case q5 => intro w hSw; obtain ⟨y0, y1, y2, y3, y4, y5, y6⟩ := KX.out _ (KY.out _ hSw); go_simp; rfl
      simp only [Act.put, List.getElem_toArray, List.getElem_cons_zero, List.getElem_cons_succ, List.setIfInBounds_toArray, List.set_cons_zero, List.set_cons_succ]
      refine wpAnyH_take (i := 6) (v := ?_) rfl (by kernel_rfl) (by kernel_rfl) (by kernel_rfl) (fun _ _ _ h => h) (Or.inl ⟨by rfl, ?q6⟩) HS.out ?_
      case q6 => intro w hSw; obtain ⟨y0, y1, y2, y3, y4, y5, y6⟩ := KX.out _ (KY.out _ hSw); go_simp; rfl
      simp only [Act.put, List.getElem_toArray, List.getElem_cons_zero, List.getElem_cons_succ, List.setIfInBounds_toArray, List.set_cons_zero, List.set_cons_succ]
      refine wpAnyH_take (i := 7) (v := ?_) rfl (by kernel_rfl) (by kernel_rfl) (by kernel_rfl) (fun _ _ _ h => h) (Or.inl ⟨by rfl, ?q7⟩) HS.out ?_
      case q7 => intro w hSw; obtain ⟨y0, y1, y2, y3, y4, y5, y6⟩ := KX.out _ (KY.out _ hSw); go_simp; rfl
      simp only [Act.put, List.getElem_toArray, List.getElem_cons_zero, List.getElem_cons_succ, List.setIfInBounds_toArray, List.set_cons_zero, List.set_cons_succ]
      refine wpAnyH_take (i := 9) (v := ?_) rfl (by kernel_rfl) (by kernel_rfl) (by kernel_rfl) (fun _ _ _ h => h) (Or.inl ⟨by rfl, ?q9⟩) HS.out ?_
      case q9 => intro w hSw; obtain ⟨y0, y1, y2, y3, y4, y5, y6⟩ := KX.out _ (KY.out _ hSw); go_simp; rfl
      simp only [Act.put, List.getElem_toArray, List.getElem_cons_zero, List.getElem_cons_succ, List.setIfInBounds_toArray, List.set_cons_zero, List.set_cons_succ]
      refine wpAnyH_take (i := 10) (v := ?_) rfl (by kernel_rfl) (by kernel_rfl) (by kernel_rfl) (fun _ _ _ h => h) (Or.inl ⟨by rfl, ?q10⟩) HS.out ?_
      case q10 => intro w hSw; obtain ⟨y0, y1, y2, y3, y4, y5, y6⟩ := KX.out _ (KY.out _ hSw); go_simp; rfl
      simp only [Act.put, List.getElem_toArray, List.getElem_cons_zero, List.getElem_cons_succ, List.setIfInBounds_toArray, List.set_cons_zero, List.set_cons_succ]
      refine wpAnyH_take (i := 11) (v := ?_) rfl (by kernel_rfl) (by kernel_rfl) (by kernel_rfl) (fun _ _ _ h => h) (Or.inl ⟨by rfl, ?q11⟩) HS.out ?_
      case q11 => intro w hSw; obtain ⟨y0, y1, y2, y3, y4, y5, y6⟩ := KX.out _ (KY.out _ hSw); go_simp; rfl
      simp only [Act.put, List.getElem_toArray, List.getElem_cons_zero, List.getElem_cons_succ, List.setIfInBounds_toArray, List.set_cons_zero, List.set_cons_succ]
      have BC : Hid (Below w5.heap.size w5 w5.drew) := hid (bel_drewN (Below.refl _ w5) 1)
      refine wpAnyH_ready (rs := [8]) (by kernel_rfl) (by simp) ?_
      refine AllReadyH.cons rfl (fun K hK => ?_) AllReadyH.nil
      replace hK := hid hK
      go_simp
      refine (CP.out _).mono ?_
      rintro e w6 ⟨v6, rfl, ho6, hb6⟩
      have B6 : Hid (Below w5.heap.size w5 w6) := hid ((bel_drewN (Below.refl _ w5) _).trans hb6)
      have h6 : HB w6 v6 (bigL 4 plN) := HB.of_own (by rw [bigL_len]; exact ho6) (bigL_byt 4 plN)
      have H6 := hid h6
      obtain ⟨p6, c6, e6, -, -⟩ := h6.open
      rw [bigL_len] at e6
      clear h6 ho6 hb6 HS BC
      subst e6
      refine hK.out _ _ B6.out (fun _ => ?_)
      clear hK K
      refine wpAnyH_ready (rs := [12]) (by kernel_rfl) (by simp) ?_
      refine AllReadyH.cons rfl (fun K hK => ?_) AllReadyH.nil
      replace hK := hid hK
      go_simp
      refine (CN.out _).mono ?_
      rintro e w7 ⟨v7, rfl, ho7, hb7⟩
      have B67 := hid hb7
      have B7 : Hid (Below w5.heap.size w5 w7) := hid (B6.out.trans (hb7.mono B6.out.size))
      have h7 : HB w7 v7 (bigL 4 lnN) := HB.of_own (by rw [bigL_len]; exact ho7) (bigL_byt 4 lnN)
      have H7 := hid h7
      obtain ⟨p7, c7, e7, -, -⟩ := h7.open
      rw [bigL_len] at e7
      clear h7 ho7 hb7
      subst e7
      refine hK.out _ _ B7.out (fun _ => ?_)
      clear hK K
      obtain ⟨WL, HWL⟩ : ∃ W : World, Hid (w7.alloc (.cells #[.slice (some ⟨w.heap.size, 1, none⟩) 16 16, .slice p3 1 c3, .slice p6 4 c6, .slice p7 4 c7] 36) = W) := ⟨_, hid rfl⟩
      have hlit := run_lit4 w7 (some ⟨w.heap.size, 1, none⟩) 16 16 p3 1 c3 p6 4 c6 p7 4 c7
      rw [HWL.out] at hlit
      have BL : Hid (Below w5.heap.size w5 WL) := hid (B7.out.trans (by rw [← HWL.out]; exact (Below.refl _ _).alloc B7.out.size _))
      have ZL : Hid (WL.heap.size = w7.heap.size + 1) := hid (by rw [← HWL.out]; simp)
      have LL : Hid (WL.heap[w7.heap.size]? = some (.cells #[.slice (some ⟨w.heap.size, 1, none⟩) 16 16, .slice p3 1 c3, .slice p6 4 c6, .slice p7 4 c7] 36 (0, 0))) := hid (by rw [← HWL.out]; exact heap_alloc_new _ _)
      have CL2 := hid (CL.out WL [.slice (some ⟨w.heap.size, 1, none⟩) 16 16, .slice p3 1 c3, .slice p6 4 c6, .slice p7 4 c7] [ix, bigL 1 nbN, bigL 4 plN, bigL 4 lnN] (by rw [ZL.out]; exact LL.out) (by have := ZL.out; omega) BL.out rfl (by simp) (by simp) (by have := HR.out.1; simp only at this; simp [this, bigL_len]) (fun j u hj => by
        match j, hj with
        | 0, hj => cases hj; exact IX.out _ (KY.out _ BL.out)
        | 1, hj => cases hj; exact N3.out _ BL.out
        | 2, hj => cases hj; exact (H6.out.below B67.out).below (by rw [← HWL.out]; exact (Below.refl _ _).alloc (Nat.le_refl _) _)
        | 3, hj => cases hj; exact H7.out.below (by rw [← HWL.out]; exact (Below.refl _ _).alloc (Nat.le_refl _) _)
        | n + 4, hj => cases hj))
      rw [ZL.out, Nat.add_sub_cancel] at CL2
      refine wpAnyH_ready (rs := [13]) (by kernel_rfl) (by simp) ?_
      refine AllReadyH.cons rfl (fun K hK => ?_) AllReadyH.nil
      replace hK := hid hK
      refine wanted_litQ (by rfl) 24 4 _ rfl #[(0, .slice (some ⟨w.heap.size, 1, none⟩) 16 16), (1, .slice p3 1 c3), (2, .slice p6 4 c6), (3, .slice p7 4 c7)] (by go_simp) _ hlit ?_
      simp only [Act.put, List.getElem_toArray, List.getElem_cons_zero, List.getElem_cons_succ, List.setIfInBounds_toArray, List.set_cons_zero, List.set_cons_succ]
      refine hK.out _ _ BL.out (fun _ => ?_)
      clear hK K hlit
      refine wpAnyH_ready (rs := [14]) (by kernel_rfl) (by simp) ?_
      refine AllReadyH.cons rfl (fun K hK => ?_) AllReadyH.nil
      replace hK := hid hK
      go_simp
      refine CL2.out.mono ?_
      rintro e w9 ⟨v9, rfl, ho9, hb9⟩
      rw [← ZL.out] at ho9 hb9
      have BF : Hid (Below w5.heap.size w5 w9) := hid (BL.out.trans (hb9.mono BL.out.size))
      have FF := hid (FIN.out WL w9 v9 _ BL.out hb9 (by rw [← HLQ.out]; simp [layQ]) ho9)
      clear ho9 hb9 CL2
      refine hK.out _ _ BF.out (fun _ => ?_)
      clear hK K
      try clear HS
      have HS := BF
      refine wpAnyH_take (i := 15) (v := ?_) rfl (by kernel_rfl) (by kernel_rfl) (by kernel_rfl) (fun _ _ _ h => h) (Or.inl ⟨by rfl, ?q15⟩) HS.out ?_
      case q15 => intro w hSw; obtain ⟨y0, y1, y2, y3, y4, y5, y6⟩ := KX.out _ (KY.out _ hSw); go_simp; rfl
      simp only [Act.put, List.getElem_toArray, List.getElem_cons_zero, List.getElem_cons_succ, List.setIfInBounds_toArray, List.set_cons_zero, List.set_cons_succ]
      refine wpAnyH_take (i := 16) (v := ?_) rfl (by kernel_rfl) (by kernel_rfl) (by kernel_rfl) (fun _ _ _ h => h) (Or.inl ⟨by rfl, ?q16⟩) HS.out ?_
      case q16 => intro w hSw; obtain ⟨y0, y1, y2, y3, y4, y5, y6⟩ := KX.out _ (KY.out _ hSw); go_simp; rfl
      simp only [Act.put, List.getElem_toArray, List.getElem_cons_zero, List.getElem_cons_succ, List.setIfInBounds_toArray, List.set_cons_zero, List.set_cons_succ]
      refine wpAnyH_done (by kernel_rfl) ?_ _
      go_wp2_with fail
      go_ret2
      exact FF.out
    · have hkk : kN = 4 := by omega
      subst hkk
      have yk : w5.cell? ⟨w.heap.size, 0, none⟩ = some (.int .u8 4) := (KX.out w5 (KY.out w5 (Below.refl _ _))).1
      go_wp2_with fail
      refine wp_region_held_drew (S := (Below w5.heap.size w5)) (by kernel_rfl) (by repeat' first | exact Below.refl _ _ | apply bel_drewN) (fun hHeld => ?_)
      have HS := hid hHeld
      clear hHeld
      change wpAnyH _ _ _ _ _ _ _ _ (World.drew _)
      refine wpAnyH_take (i := 0) (v := ?_) rfl (by kernel_rfl) (by kernel_rfl) (by kernel_rfl) (fun _ _ _ h => h) (Or.inl ⟨by rfl, ?q0⟩) HS.out ?_
      case q0 => intro w hSw; obtain ⟨y0, y1, y2, y3, y4, y5, y6⟩ := KX.out _ (KY.out _ hSw); go_simp; rfl
      simp only [Act.put, List.getElem_toArray, List.getElem_cons_zero, List.getElem_cons_succ, List.setIfInBounds_toArray, List.set_cons_zero, List.set_cons_succ]
      refine wpAnyH_take (i := 1) (v := ?_) rfl (by kernel_rfl) (by kernel_rfl) (by kernel_rfl) (fun _ _ _ h => h) (Or.inl ⟨by rfl, ?q1⟩) HS.out ?_
      case q1 => intro w hSw; obtain ⟨y0, y1, y2, y3, y4, y5, y6⟩ := KX.out _ (KY.out _ hSw); go_simp; rfl
      simp only [Act.put, List.getElem_toArray, List.getElem_cons_zero, List.getElem_cons_succ, List.setIfInBounds_toArray, List.set_cons_zero, List.set_cons_succ]
      refine wpAnyH_take (i := 2) (v := ?_) rfl (by kernel_rfl) (by kernel_rfl) (by kernel_rfl) (fun _ _ _ h => h) (Or.inl ⟨by rfl, ?q2⟩) HS.out ?_
      case q2 => intro w hSw; obtain ⟨y0, y1, y2, y3, y4, y5, y6⟩ := KX.out _ (KY.out _ hSw); go_simp; rfl
      simp only [Act.put, List.getElem_toArray, List.getElem_cons_zero, List.getElem_cons_succ, List.setIfInBounds_toArray, List.set_cons_zero, List.set_cons_succ]
      refine wpAnyH_take (i := 3) (v := ?_) rfl (by kernel_rfl) (by kernel_rfl) (by kernel_rfl) (fun _ _ _ h => h) (Or.inl ⟨by rfl, ?q3⟩) HS.out ?_
      case q3 => intro w hSw; obtain ⟨y0, y1, y2, y3, y4, y5, y6⟩ := KX.out _ (KY.out _ hSw); go_simp; rfl
      simp only [Act.put, List.getElem_toArray, List.getElem_cons_zero, List.getElem_cons_succ, List.setIfInBounds_toArray, List.set_cons_zero, List.set_cons_succ]
      refine wpAnyH_take (i := 4) (v := ?_) rfl (by kernel_rfl) (by kernel_rfl) (by kernel_rfl) (fun _ _ _ h => h) (Or.inl ⟨by rfl, ?q4⟩) HS.out ?_
      case q4 => intro w hSw; obtain ⟨y0, y1, y2, y3, y4, y5, y6⟩ := KX.out _ (KY.out _ hSw); go_simp; rfl
      simp only [Act.put, List.getElem_toArray, List.getElem_cons_zero, List.getElem_cons_succ, List.setIfInBounds_toArray, List.set_cons_zero, List.set_cons_succ]
      refine wpAnyH_take (i := 5) (v := ?_) rfl (by kernel_rfl) (by kernel_rfl) (by kernel_rfl) (fun _ _ _ h => h) (Or.inl ⟨by rfl, ?q5⟩) HS.out ?_
      case q5 => intro w hSw; obtain ⟨y0, y1, y2, y3, y4, y5, y6⟩ := KX.out _ (KY.out _ hSw); go_simp; rfl
      simp only [Act.put, List.getElem_toArray, List.getElem_cons_zero, List.getElem_cons_succ, List.setIfInBounds_toArray, List.set_cons_zero, List.set_cons_succ]
      have BC : Hid (Below w5.heap.size w5 w5.drew) := hid (bel_drewN (Below.refl _ w5) 1)
      obtain ⟨WL, HWL⟩ : ∃ W : World, Hid (w5.drew.alloc (.cells #[.slice (some ⟨w.heap.size, 1, none⟩) 16 16, .slice p4 4 c4, .slice p5 8 c5] 36) = W) := ⟨_, hid rfl⟩
      have hlit := run_lit3 w5.drew (some ⟨w.heap.size, 1, none⟩) 16 16 p4 4 c4 p5 8 c5
      rw [HWL.out] at hlit
      have BL : Hid (Below w5.heap.size w5 WL) := hid (BC.out.trans (by rw [← HWL.out]; exact (Below.refl _ _).alloc BC.out.size _))
      have ZL : Hid (WL.heap.size = w5.drew.heap.size + 1) := hid (by rw [← HWL.out]; simp)
      have LL : Hid (WL.heap[w5.drew.heap.size]? = some (.cells #[.slice (some ⟨w.heap.size, 1, none⟩) 16 16, .slice p4 4 c4, .slice p5 8 c5] 36 (0, 0))) := hid (by rw [← HWL.out]; exact heap_alloc_new _ _)
      have CL2 := hid (CL.out WL [.slice (some ⟨w.heap.size, 1, none⟩) 16 16, .slice p4 4 c4, .slice p5 8 c5] [ix, bigL 4 whN, bigL 8 tiN] (by rw [ZL.out]; exact LL.out) (by have := ZL.out; omega) BL.out rfl (by simp) (by simp) (by have := HR.out.1; simp only at this; simp [this, bigL_len]) (fun j u hj => by
        match j, hj with
        | 0, hj => cases hj; exact IX.out _ (KY.out _ BL.out)
        | 1, hj => cases hj; exact N4.out _ BL.out
        | 2, hj => cases hj; exact N5.out _ BL.out
        | n + 3, hj => cases hj))
      rw [ZL.out, Nat.add_sub_cancel] at CL2
      refine wpAnyH_ready (rs := [6]) (by kernel_rfl) (by simp) ?_
      refine AllReadyH.cons rfl (fun K hK => ?_) AllReadyH.nil
      replace hK := hid hK
      refine wanted_litQ (by rfl) 24 3 _ rfl #[(0, .slice (some ⟨w.heap.size, 1, none⟩) 16 16), (1, .slice p4 4 c4), (2, .slice p5 8 c5)] (by go_simp) _ hlit ?_
      simp only [Act.put, List.getElem_toArray, List.getElem_cons_zero, List.getElem_cons_succ, List.setIfInBounds_toArray, List.set_cons_zero, List.set_cons_succ]
      refine hK.out _ _ BL.out (fun _ => ?_)
      clear hK K hlit
      refine wpAnyH_ready (rs := [7]) (by kernel_rfl) (by simp) ?_
      refine AllReadyH.cons rfl (fun K hK => ?_) AllReadyH.nil
      replace hK := hid hK
      go_simp
      refine CL2.out.mono ?_
      rintro e w9 ⟨v9, rfl, ho9, hb9⟩
      rw [← ZL.out] at ho9 hb9
      have BF : Hid (Below w5.heap.size w5 w9) := hid (BL.out.trans (hb9.mono BL.out.size))
      have FF := hid (FIN.out WL w9 v9 _ BL.out hb9 (by rw [← HLQ.out]; simp [layQ]) ho9)
      clear ho9 hb9 CL2
      refine hK.out _ _ BF.out (fun _ => ?_)
      clear hK K
      try clear HS
      have HS := BF
      refine wpAnyH_take (i := 8) (v := ?_) rfl (by kernel_rfl) (by kernel_rfl) (by kernel_rfl) (fun _ _ _ h => h) (Or.inl ⟨by rfl, ?q8⟩) HS.out ?_
      case q8 => intro w hSw; obtain ⟨y0, y1, y2, y3, y4, y5, y6⟩ := KX.out _ (KY.out _ hSw); go_simp; rfl
      simp only [Act.put, List.getElem_toArray, List.getElem_cons_zero, List.getElem_cons_succ, List.setIfInBounds_toArray, List.set_cons_zero, List.set_cons_succ]
      refine wpAnyH_take (i := 9) (v := ?_) rfl (by kernel_rfl) (by kernel_rfl) (by kernel_rfl) (fun _ _ _ h => h) (Or.inl ⟨by rfl, ?q9⟩) HS.out ?_
      case q9 => intro w hSw; obtain ⟨y0, y1, y2, y3, y4, y5, y6⟩ := KX.out _ (KY.out _ hSw); go_simp; rfl
      simp only [Act.put, List.getElem_toArray, List.getElem_cons_zero, List.getElem_cons_succ, List.setIfInBounds_toArray, List.set_cons_zero, List.set_cons_succ]
      refine wpAnyH_done (by kernel_rfl) ?_ _
      go_wp2_with fail
      go_ret2
      exact FF.out
    · have hkk : kN = 5 := by omega
      subst hkk
      have yk : w5.cell? ⟨w.heap.size, 0, none⟩ = some (.int .u8 5) := (KX.out w5 (KY.out w5 (Below.refl _ _))).1
      go_wp2_with fail
      refine wp_region_held_drew (S := (Below w5.heap.size w5)) (by kernel_rfl) (by repeat' first | exact Below.refl _ _ | apply bel_drewN) (fun hHeld => ?_)
      have HS := hid hHeld
      clear hHeld
      change wpAnyH _ _ _ _ _ _ _ _ (World.drew _)
      refine wpAnyH_take (i := 0) (v := ?_) rfl (by kernel_rfl) (by kernel_rfl) (by kernel_rfl) (fun _ _ _ h => h) (Or.inl ⟨by rfl, ?q0⟩) HS.out ?_
      case q0 => intro w hSw; obtain ⟨y0, y1, y2, y3, y4, y5, y6⟩ := KX.out _ (KY.out _ hSw); go_simp; rfl
      simp only [Act.put, List.getElem_toArray, List.getElem_cons_zero, List.getElem_cons_succ, List.setIfInBounds_toArray, List.set_cons_zero, List.set_cons_succ]
      refine wpAnyH_take (i := 1) (v := ?_) rfl (by kernel_rfl) (by kernel_rfl) (by kernel_rfl) (fun _ _ _ h => h) (Or.inl ⟨by rfl, ?q1⟩) HS.out ?_
      case q1 => intro w hSw; obtain ⟨y0, y1, y2, y3, y4, y5, y6⟩ := KX.out _ (KY.out _ hSw); go_simp; rfl
      simp only [Act.put, List.getElem_toArray, List.getElem_cons_zero, List.getElem_cons_succ, List.setIfInBounds_toArray, List.set_cons_zero, List.set_cons_succ]
      refine wpAnyH_take (i := 2) (v := ?_) rfl (by kernel_rfl) (by kernel_rfl) (by kernel_rfl) (fun _ _ _ h => h) (Or.inl ⟨by rfl, ?q2⟩) HS.out ?_
      case q2 => intro w hSw; obtain ⟨y0, y1, y2, y3, y4, y5, y6⟩ := KX.out _ (KY.out _ hSw); go_simp; rfl
      simp only [Act.put, List.getElem_toArray, List.getElem_cons_zero, List.getElem_cons_succ, List.setIfInBounds_toArray, List.set_cons_zero, List.set_cons_succ]
      refine wpAnyH_take (i := 3) (v := ?_) rfl (by kernel_rfl) (by kernel_rfl) (by kernel_rfl) (fun _ _ _ h => h) (Or.inl ⟨by rfl, ?q3⟩) HS.out ?_
      case q3 => intro w hSw; obtain ⟨y0, y1, y2, y3, y4, y5, y6⟩ := KX.out _ (KY.out _ hSw); go_simp; rfl
      simp only [Act.put, List.getElem_toArray, List.getElem_cons_zero, List.getElem_cons_succ, List.setIfInBounds_toArray, List.set_cons_zero, List.set_cons_succ]
      refine wpAnyH_take (i := 4) (v := ?_) rfl (by kernel_rfl) (by kernel_rfl) (by kernel_rfl) (fun _ _ _ h => h) (Or.inl ⟨by rfl, ?q4⟩) HS.out ?_
      case q4 => intro w hSw; obtain ⟨y0, y1, y2, y3, y4, y5, y6⟩ := KX.out _ (KY.out _ hSw); go_simp; rfl
      simp only [Act.put, List.getElem_toArray, List.getElem_cons_zero, List.getElem_cons_succ, List.setIfInBounds_toArray, List.set_cons_zero, List.set_cons_succ]
      have BC : Hid (Below w5.heap.size w5 w5.drew) := hid (bel_drewN (Below.refl _ w5) 1)
      obtain ⟨WL, HWL⟩ : ∃ W : World, Hid (w5.drew.alloc (.cells #[.slice (some ⟨w.heap.size, 1, none⟩) 16 16, .slice p4 4 c4] 36) = W) := ⟨_, hid rfl⟩
      have hlit := run_lit2 w5.drew (some ⟨w.heap.size, 1, none⟩) 16 16 p4 4 c4
      rw [HWL.out] at hlit
      have BL : Hid (Below w5.heap.size w5 WL) := hid (BC.out.trans (by rw [← HWL.out]; exact (Below.refl _ _).alloc BC.out.size _))
      have ZL : Hid (WL.heap.size = w5.drew.heap.size + 1) := hid (by rw [← HWL.out]; simp)
      have LL : Hid (WL.heap[w5.drew.heap.size]? = some (.cells #[.slice (some ⟨w.heap.size, 1, none⟩) 16 16, .slice p4 4 c4] 36 (0, 0))) := hid (by rw [← HWL.out]; exact heap_alloc_new _ _)
      have CL2 := hid (CL.out WL [.slice (some ⟨w.heap.size, 1, none⟩) 16 16, .slice p4 4 c4] [ix, bigL 4 whN] (by rw [ZL.out]; exact LL.out) (by have := ZL.out; omega) BL.out rfl (by simp) (by simp) (by have := HR.out.1; simp only at this; simp [this, bigL_len]) (fun j u hj => by
        match j, hj with
        | 0, hj => cases hj; exact IX.out _ (KY.out _ BL.out)
        | 1, hj => cases hj; exact N4.out _ BL.out
        | n + 2, hj => cases hj))
      rw [ZL.out, Nat.add_sub_cancel] at CL2
      refine wpAnyH_ready (rs := [5]) (by kernel_rfl) (by simp) ?_
      refine AllReadyH.cons rfl (fun K hK => ?_) AllReadyH.nil
      replace hK := hid hK
      refine wanted_litQ (by rfl) 24 2 _ rfl #[(0, .slice (some ⟨w.heap.size, 1, none⟩) 16 16), (1, .slice p4 4 c4)] (by go_simp) _ hlit ?_
      simp only [Act.put, List.getElem_toArray, List.getElem_cons_zero, List.getElem_cons_succ, List.setIfInBounds_toArray, List.set_cons_zero, List.set_cons_succ]
      refine hK.out _ _ BL.out (fun _ => ?_)
      clear hK K hlit
      refine wpAnyH_ready (rs := [6]) (by kernel_rfl) (by simp) ?_
      refine AllReadyH.cons rfl (fun K hK => ?_) AllReadyH.nil
      replace hK := hid hK
      go_simp
      refine CL2.out.mono ?_
      rintro e w9 ⟨v9, rfl, ho9, hb9⟩
      rw [← ZL.out] at ho9 hb9
      have BF : Hid (Below w5.heap.size w5 w9) := hid (BL.out.trans (hb9.mono BL.out.size))
      have FF := hid (FIN.out WL w9 v9 _ BL.out hb9 (by rw [← HLQ.out]; simp [layQ]) ho9)
      clear ho9 hb9 CL2
      refine hK.out _ _ BF.out (fun _ => ?_)
      clear hK K
      try clear HS
      have HS := BF
      refine wpAnyH_take (i := 7) (v := ?_) rfl (by kernel_rfl) (by kernel_rfl) (by kernel_rfl) (fun _ _ _ h => h) (Or.inl ⟨by rfl, ?q7⟩) HS.out ?_
      case q7 => intro w hSw; obtain ⟨y0, y1, y2, y3, y4, y5, y6⟩ := KX.out _ (KY.out _ hSw); go_simp; rfl
      simp only [Act.put, List.getElem_toArray, List.getElem_cons_zero, List.getElem_cons_succ, List.setIfInBounds_toArray, List.set_cons_zero, List.set_cons_succ]
      refine wpAnyH_take (i := 8) (v := ?_) rfl (by kernel_rfl) (by kernel_rfl) (by kernel_rfl) (fun _ _ _ h => h) (Or.inl ⟨by rfl, ?q8⟩) HS.out ?_
      case q8 => intro w hSw; obtain ⟨y0, y1, y2, y3, y4, y5, y6⟩ := KX.out _ (KY.out _ hSw); go_simp; rfl
      simp only [Act.put, List.getElem_toArray, List.getElem_cons_zero, List.getElem_cons_succ, List.setIfInBounds_toArray, List.set_cons_zero, List.set_cons_succ]
      refine wpAnyH_done (by kernel_rfl) ?_ _
      go_wp2_with fail
      go_ret2
      exact FF.out
end Go.Proofs.Ytgjadpidoaianaa
