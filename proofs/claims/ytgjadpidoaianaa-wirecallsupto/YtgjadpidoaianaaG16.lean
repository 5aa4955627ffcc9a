/- Of the road to wireCallsUpto_holds: WrRMay. -/
import Derived.Test.YtgjadpidoaianaaG15
set_option linter.unusedVariables false
set_option linter.unusedSimpArgs false
namespace Go.Proofs.Ytgjadpidoaianaa
open Go Go.RowKit
abbrev z16A : Array Value := #[.int .u8 0, .int .u8 0, .int .u8 0, .int .u8 0, .int .u8 0, .int .u8 0, .int .u8 0, .int .u8 0, .int .u8 0, .int .u8 0, .int .u8 0, .int .u8 0, .int .u8 0, .int .u8 0, .int .u8 0, .int .u8 0]
set_option maxRecDepth 100000 in
theorem run_build_ix0 (w : World) : (Instr.build 32 #[]).run Try.prog w = .ok (.agg z16A) w := by kernel_rfl
theorem bel_setCells (B b : Nat) : ∀ (vs : List Value) (o : Nat) (a w : World), Below B a w → B ≤ b → Below B a (w.setCells b o vs)
  | [], _, _, _, h, _ => h
  | v :: vs, o, a, w, h, hb => bel_setCells B b vs (o + 1) a _ (h.setCell hb v) hb
set_option maxRecDepth 100000 in
set_option maxHeartbeats 16000000 in
theorem rmay20_any (w : World) (r : Rq) (hr : r.ok) (p : Option Addr) (n c : Nat) : Calls Try.prog 46 #[.agg (rqA r (.slice p n c))] w fun e w' => e = .returned (.bool (mayB r n)) ∧ Below w.heap.size w w' := by
  obtain ⟨m, HM⟩ : ∃ m, Hid (rqA r (.slice p n c) = m) := ⟨_, hid rfl⟩
  have hms : Hid (m.size = 23) := hid (by rw [← HM.out]; exact rqA_size hr _)
  have hm1 : Hid (m.all (·.oneCell') = true) := hid (by rw [← HM.out]; exact rqA_one _ _ rfl)
  obtain ⟨ml, HML, HMM⟩ : ∃ ml : List Value, Hid (m.toList = ml) ∧ Hid (ml.toArray = m) := ⟨m.toList, hid rfl, hid (by simp)⟩
  obtain ⟨W1, HW1⟩ : ∃ W : World, Hid (w.alloc (.cells m 38) = W) := ⟨_, hid rfl⟩
  obtain ⟨W2, HW2⟩ : ∃ W : World, Hid (W1.alloc (.cells m 38) = W) := ⟨_, hid rfl⟩
  have Z1 : W1.heap.size = w.heap.size + 1 := by rw [← HW1.out]; simp
  have B1 : Hid (Below w.heap.size w W1) := by rw [← HW1.out]; exact hid ((Below.refl _ w).alloc (Nat.le_refl _) _)
  have B2 : Hid (Below W1.heap.size W1 W2) := by rw [← HW2.out]; exact hid ((Below.refl _ W1).alloc (Nat.le_refl _) _)
  have BB : Hid (Below w.heap.size w W2) := hid (B1.out.trans (B2.out.mono B1.out.size))
  have x0 : W1.heap[w.heap.size]? = some (.cells m 38 (0, 0)) := by rw [← HW1.out]; exact heap_alloc_new w _
  have x1 : W2.heap[w.heap.size]? = some (.cells m 38 (0, 0)) := (B2.out.block _ (by omega)).trans x0
  have x2 : W2.heap[w.heap.size + 1]? = some (.cells m 38 (0, 0)) := by rw [← Z1, ← HW2.out]; exact heap_alloc_new W1 _
  have RA : Hid (W1.rangeAt w.heap.size 0 ml) := hid (fun j u hj => by rw [cell_of_row _ _ _ _ _ _ x0, Nat.zero_add, ← Array.getElem?_toList, HML.out]; exact hj)
  have SR : Hid ((Try.prog.info? 38).map (·.size) = some 23) := hid (by kernel_rfl)
  have SL : Hid ((Try.prog.info? 38).map (·.size) = some ml.length) := hid (by rw [← HML.out, show m.toList.length = 23 from hms.out]; exact SR.out)
  obtain ⟨za, HZA⟩ : ∃ z, Hid (z16A = z) := ⟨_, hid rfl⟩
  have hza : za.size = 16 := by rw [← HZA.out]; rfl
  have SI : Hid ((Try.prog.info? 32).map (·.size) = some za.size) := hid (by rw [hza]; kernel_rfl)
  obtain ⟨V2, HV2⟩ : ∃ W : World, Hid (W2.setCell ⟨w.heap.size + 1, 0, none⟩ (.int .u8 0) = W) := ⟨_, hid rfl⟩
  have y2 : V2.heap[w.heap.size + 1]? = some (.cells (m.setIfInBounds 0 (.int .u8 0)) 38 (0, 0)) := by rw [← HV2.out]; exact heap_setA x2 0 _
  have TH : Hid (V2.there (w.heap.size + 1) 1 za.size) := hid (fun j hj => by
    have hj2 : j < 16 := by rw [← hza]; exact hj
    have hs : (m.setIfInBounds 0 (.int .u8 0)).size = 23 := by simp [hms.out]
    refine ⟨?_, free_of y2 _⟩
    rw [cell_of_row _ _ _ _ _ _ y2, Array.getElem?_eq_getElem (by omega)]
    rfl)
  obtain ⟨W3, HW3⟩ : ∃ W : World, Hid (V2.setCells (w.heap.size + 1) 1 za.toList = W) := ⟨_, hid rfl⟩
  have e0 : ∀ i, W3.cell? ⟨w.heap.size, i, none⟩ = W2.cell? ⟨w.heap.size, i, none⟩ := fun i => by
    rw [← HW3.out, World.cell?_setCells_out _ _ _ _ _ (fun hb _ => absurd hb (by simp)), ← HV2.out]
    simp [World.cell?, World.setCell, Array.getElem?_modify]
  have e1 : ∀ i, 17 ≤ i → W3.cell? ⟨w.heap.size + 1, i, none⟩ = W2.cell? ⟨w.heap.size + 1, i, none⟩ := fun i hi => by
    rw [← HW3.out, World.cell?_setCells_out _ _ _ _ _ (fun _ _ => .inr (by rw [Array.length_toList, hza]; show 1 + 16 ≤ i; omega)), cell_of_row _ _ _ _ _ _ y2, cell_of_row _ _ _ _ _ _ x2]
    rw [Array.getElem?_setIfInBounds_ne (by omega)]
  have fr : ∀ i, W3.frozen? ⟨w.heap.size + 1, i, none⟩ = false := fun i => by rw [← HW3.out, World.frozen?_setCells]; exact free_of y2 i
  have hc : ∀ i u, m[i]? = some u → W3.cell? ⟨w.heap.size, i, none⟩ = some u := fun i u hi => by rw [e0 i, cell_of_row _ _ _ _ _ _ x1]; exact hi
  have hd : ∀ i u, 17 ≤ i → m[i]? = some u → W3.cell? ⟨w.heap.size + 1, i, none⟩ = some u := fun i u h17 hi => by rw [e1 i h17, cell_of_row _ _ _ _ _ _ x2]; exact hi
  have c0 := hc 0 (.int .u8 r.k) (by rw [← HM.out]; rfl)
  have c17 := hc 17 _ (by rw [← HM.out]; exact rqA_17 hr _)
  have c18 := hc 18 _ (by rw [← HM.out]; exact rqA_18 hr _)
  have c19 := hc 19 _ (by rw [← HM.out]; exact rqA_19 hr _)
  have c20 := hc 20 _ (by rw [← HM.out]; exact rqA_20 hr _)
  have c21 := hc 21 _ (by rw [← HM.out]; exact rqA_21 hr _)
  have c22 := hc 22 _ (by rw [← HM.out]; exact rqA_22 hr _)
  have d17 := hd 17 _ (by omega) (by rw [← HM.out]; exact rqA_17 hr _)
  have d18 := hd 18 _ (by omega) (by rw [← HM.out]; exact rqA_18 hr _)
  have d19 := hd 19 _ (by omega) (by rw [← HM.out]; exact rqA_19 hr _)
  have d20 := hd 20 _ (by omega) (by rw [← HM.out]; exact rqA_20 hr _)
  have d21 := hd 21 _ (by omega) (by rw [← HM.out]; exact rqA_21 hr _)
  have d22 := hd 22 _ (by omega) (by rw [← HM.out]; exact rqA_22 hr _)
  have f17 := fr 17
  have f18 := fr 18
  have f19 := fr 19
  have f20 := fr 20
  have f21 := fr 21
  have f22 := fr 22
  have BF : Hid (Below w.heap.size w W3) := hid (by rw [← HW3.out]; exact bel_setCells _ _ _ _ _ _ (by rw [← HV2.out]; exact BB.out.setCell (Nat.le_succ _) _) (Nat.le_succ _))
  have i0 : W2.cell? ⟨w.heap.size + 1, 0, none⟩ = some (.int .u8 r.k) := by rw [cell_of_row _ _ _ _ _ _ x2, ← HM.out]; rfl
  have j0 := free_of x2 0
  have hzz : Hid ((W1.alloc (.cells zreq 38)).heap[w.heap.size + 1]? = some (.cells zreq 38 (0, 0))) := hid (by rw [← Z1]; exact heap_alloc_new W1 _)
  have HSR : Hid ((W1.alloc (.cells zreq 38)).setRow (w.heap.size + 1) m = W2) := hid (by rw [← Z1, setRow_new, HW2.out])
  have C1 := hid rnumber_any
  have hb0 := hid run_build_ix0
  rw [HZA.out] at hb0
  have hz1 : Hid (za.all (·.oneCell') = true) := hid (by rw [← HZA.out]; exact all_oneCell_toArray (cs := z16A.toList) (by simp [Value.oneCell']))
  clear hza
  obtain ⟨k, ix, nb, pl, ln, who, til⟩ := r
  simp only at c0 c17 c18 c19 c20 c21 c22 d17 d18 d19 d20 d21 d22 i0
  generalize hM : mayB ⟨k, ix, nb, pl, ln, who, til⟩ n = M
  have HMM2 := hid hM
  have heq := run_eql_lease
  rw [HM.out]
  clear hM e0 e1 fr hc hd x0 x1 x2 y2 hr
  go_enter Try.func46, Try.ntmps46
  refine wp_seq_k fun K0 h0 => ?_
  have H0 := hid h0
  clear h0
  go_wp2
  rw [HW1.out]
  refine H0.out _ _ ?_
  clear H0 K0
  refine wp_seq_k fun K1 h1 => ?_
  have H1 := hid h1
  clear h1
  go_wp2_with (first | (refine wpList_load_mid rfl 38 _ rfl w.heap.size 0 rfl ml _ RA.out Try.underlying38 rfl SL.out ?_; rw [HMM.out]) | (refine wpList_store_row rfl 38 _ _ rfl (w.heap.size + 1) m rfl rfl 38 zreq hzz.out (by rw [hms.out]; exact SR.out) (by rw [hms.out]; rfl) hm1.out ?_; rw [HSR.out]) | fail)
  refine H1.out _ _ ?_
  clear H1 K1
  refine wp_seq_k fun K2 h2 => ?_
  have H2 := hid h2
  clear h2
  go_wp2_with fail
  rw [HV2.out]
  refine H2.out _ _ ?_
  clear H2 K2
  refine wp_seq_k fun K3 h3 => ?_
  have H3 := hid h3
  clear h3
  go_wp2_with (first | (refine wpList_buildQ rfl 32 _ rfl #[] (by go_simp) _ (hb0.out _) ?_) | (refine wpList_store_mid rfl 32 _ _ rfl (w.heap.size + 1) 1 za rfl rfl TH.out SI.out hz1.out ?_; rw [HW3.out]) | fail)
  refine H3.out _ _ ?_
  clear H3 K3
  go_wp2_with (first | (go_at_call 73; refine (C1.out _ _).mono ?_; rintro e w' ⟨rfl, hw'⟩; subst hw') | fail)
  all_goals go_ret
  all_goals (refine ⟨?_, by (repeat' first | exact BF.out | (apply Below.setCell)) <;> simp⟩; rw [← HMM2.out]; clear HMM2; simp_all [mayB, nat0, stB, plB, flB, nbB, tkB]; try omega)
end Go.Proofs.Ytgjadpidoaianaa
