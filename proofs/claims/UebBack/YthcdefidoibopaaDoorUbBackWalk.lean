/- UebBack, walked. -/
import Derived.Test.YthcdefidoibopaaDoorUbEq
import Derived.Test.YthcdefidoibopaaDoorUbSame
set_option linter.unusedSimpArgs false
set_option linter.unusedVariables false
namespace Go.Proofs.YthcdefidoibopaaDoor
open Go Go.RowKit

theorem packL_byt {rs : List Rw} (h : ∀ r ∈ rs, Byt8 r.2) : Byt8 (packL rs) := by
  induction rs with
  | nil => intro x hx; cases hx
  | cons r t ih =>
    intro x hx
    rw [packL] at hx
    have hfld : ∀ l : List Int, Byt8 l → ∀ y ∈ fld l, 0 ≤ y ∧ y < 256 := by
      intro l hl y hy
      unfold fld at hy
      rcases List.mem_append.1 hy with hy | hy
      · exact dgL_byt _ y hy
      · rcases List.mem_cons.1 hy with rfl | hy
        · omega
        · rcases List.mem_append.1 hy with hy | hy
          · exact hl y hy
          · simp at hy; omega
    rcases List.mem_append.1 hx with hx | hx
    · unfold rowL at hx
      rcases List.mem_append.1 hx with hx | hx
      · exact hfld _ (sB_byt _) x hx
      · exact hfld _ (h r (List.mem_cons_self ..)) x hx
    · exact ih (fun q hq => h q (List.mem_cons_of_mem _ hq)) x hx
theorem wpList_load_rowG {P : Program} {ops : Array Oper} {rest : List Oper} {o : Oper} {a : Act} {w : World} {Q : Exit → Act → World → Prop} (hw : Region.wanted o (yielded ops a.tmps) = true) (ty : TypeId) (x : Operand) (ho : o.op = .load ty x)
    (g : Nat) (hx : a.eval x = .pointer (some ⟨g, 0, none⟩)) (t : TypeId) (cs : Array Value) (fr : Nat × Nat) (d : TypeDesc) (hg : w.heap[g]? = some (.cells cs t fr))
    (hu : P.underlying ty = some d) (hd : (match d with | .struct _ | .array _ _ => true | _ => false) = true) (hi : (P.info? ty).map (·.size) = some cs.size)
    (h : wpList P ops Q rest (a.put o.dst (.agg cs)) w) : wpList P ops Q (o :: rest) a w := by
  refine wpList_step fun K hK => ?_
  simp only [hw, if_true]
  exact wp_load_row ty x ho g hx t cs fr d hg hu hd hi (hK _ _ h)
theorem read_back {u v : Ub} {k : Nat} {e : Int} (hu : u.ok) (hc : chE u = 0) (h : ReadQ (packL (ubRows u)) v k e) : e = 0 ∧ k = 0 ∧ v = u := by
  have hrb : RB u := (ch_ok hc).le
  have hmay := ubRows_may hu (ch_ok hc)
  rcases h with ⟨h1, h2, _, h4, h5⟩ | ⟨h1, _, h3⟩
  · exact ⟨h1, h2, rows_inj h4 hrb (pack_inj h5)⟩
  · exfalso
    rcases h3 with ⟨_, h4⟩ | ⟨_, rs, _, h5, h6⟩
    · have := (h4.of_pack hmay).1
      omega
    · have e1 := pack_inj h5
      rcases h6 with ⟨_, h7⟩ | ⟨_, u', q1, q2, q3, q4⟩
      · exact h7 u hu hrb e1
      · have := rows_inj q2 hrb (by rw [← q3, e1])
        rw [this] at q4
        omega
set_option maxRecDepth 100000 in
set_option maxHeartbeats 16000000 in
theorem uebBack_walk (w : World) (v : Value) (rs : List Rw) (u : Ub) (h : HRw w v rs) (hu : u.ok) (hk : KD w) :
    Calls Tryd.prog 7 #[v, .agg (ubA u)] w fun e w' => e = .returned (.bool true) ∧ Below w.heap.size w w' := by
  have HK := hid hk
  have HH := hid h
  have HU := hid hu
  have HBYT : Hid (∀ r ∈ rs, Byt8 r.2) := h.byt
  have SU := hid (size_ub hu)
  have OU := hid (ubA_one u)
  have hz := zc_ueb
  have HZS : Hid (Tryd.zeroCells44.size = (ubA u).size) := by refine hid ?_; rw [hz, ubA_size ub0_ok, ubA_size hu]
  have C8 := hid fun w => write_any w u hu
  have C9 := hid fun w => ucheck_any w u hu
  have HEQ := hid fun w => run_eql_ueb w u u hu hu
  obtain ⟨m, HM⟩ : ∃ x, Hid (ubA u = x) := ⟨_, rfl⟩
  rw [HM.out] at SU OU HZS C8 C9 HEQ
  rw [(ubE_iff u u).2 rfl] at HEQ
  rw [HM.out]
  obtain ⟨w0, HW0⟩ : ∃ x, Hid (w.alloc (.cells m 44) = x) := ⟨_, rfl⟩
  have hb0 : Below w.heap.size w w0 := by rw [← HW0.out]; exact (Below.refl _ w).alloc (Nat.le_refl _) _
  have hk0 : w0.heap[w.heap.size]? = some (.cells m 44 (0, 0)) := by rw [← HW0.out]; exact heap_alloc_new w _
  have B0 := hid hb0
  have K0 := hid hk0
  have hs0 : w.heap.size < w0.heap.size := (Array.getElem?_eq_some_iff.1 hk0).1
  have C0 := hid (uawake_any w0 (hk.below hb0).kp)
  obtain ⟨p, c, rfl, hlc, hcm, _⟩ := h.open
  obtain ⟨n, HN⟩ : ∃ n, Hid (rs.length = n) := ⟨_, rfl⟩
  rw [HN.out]
  rw [HN.out] at HH
  clear h hk hz hu hb0 hk0
  go_enter Tryd.func7, Tryd.ntmps7
  go_wp2_with fail
  rw [HW0.out]
  refine C0.out.mono ?_
  rintro e w1 ⟨rfl, hb1⟩
  have B1 := hid (B0.out.trans (hb1.mono B0.out.size))
  have K1 : Hid (w1.heap[w.heap.size]? = some (.cells m 44 (0, 0))) := (hb1.block _ hs0).trans K0.out
  have hs1 := hb1.size
  have C1 := pack_any w1 _ rs (HH.out.below B1.out) (HK.out.below B1.out).kp
  clear hb1 C0
  by_cases hm : mayT rs
  · rw [show pkE rs = 0 from by unfold pkE; rw [if_pos hm], show pkL rs = packL rs from by unfold pkL; rw [if_pos hm]] at C1
    have C1 := hid C1
    have HMY := hid hm
    clear hm
    go_wp2_with fail
    refine C1.out.mono ?_
    rintro e w2 ⟨v2, rfl, hown2, hb2⟩
    have B2 := hid (B1.out.trans (hb2.mono B1.out.size))
    have K2 : Hid (w2.heap[w.heap.size]? = some (.cells m 44 (0, 0))) := (hb2.block _ (by omega)).trans K1.out
    have hs2 := hb2.size
    have C2 := hid (unpack_any w2 v2 (packL rs) (HB.of_own hown2 (packL_byt HBYT.out)) (HK.out.below B2.out))
    obtain ⟨p2, c2, rfl⟩ := own_slc hown2
    clear hown2 hb2 C1
    go_wp2_with fail
    refine C2.out.mono ?_
    rintro e w3 ⟨rv, ts, vs, k3, e3, rfl, hq, hown3, hb3⟩
    obtain ⟨rfl, rfl, rfl⟩ := hq.of_pack HMY.out
    have B3 := hid (B2.out.trans (hb3.mono B2.out.size))
    have K3 : Hid (w3.heap[w.heap.size]? = some (.cells m 44 (0, 0))) := (hb3.block _ (by omega)).trans K2.out
    have hs3 := hb3.size
    have C3 := sameRows_any w3 rv _ ts ts hown3.held (HH.out.below B3.out)
    rw [decide_eq_true rfl] at C3
    have C3 := hid C3
    clear hown3 hb3 C2 hq
    go_wp2_with fail
    refine C3.out.mono ?_
    rintro e w4 ⟨rfl, hd4⟩
    have BX := hid (B3.out.trans (hd4.below _))
    have KX : Hid (w4.heap[w.heap.size]? = some (.cells m 44 (0, 0))) := by refine hid ?_; rw [hd4.heap]; exact K3.out
    have hsx : w.heap.size < w4.heap.size := (Array.getElem?_eq_some_iff.1 KX.out).1
    clear hd4 C3
    have C5 := hid (C8.out w4 (HK.out.below BX.out).kp)
    go_wp2_with (first | (refine wpList_load_row rfl 44 _ rfl w.heap.size rfl 44 m (0, 0) _ KX.out Tryd.underlying44 rfl SU.out ?_) | fail)
    refine C5.out.mono ?_
    rintro e w5 ⟨v5, rfl, hown5, hb5⟩
    have B5 := hid (BX.out.trans (hb5.mono BX.out.size))
    have K5 : Hid (w5.heap[w.heap.size]? = some (.cells m 44 (0, 0))) := (hb5.block _ hsx).trans KX.out
    have hs5 := hb5.size
    obtain ⟨p5, c5, rfl⟩ := own_slc hown5
    rcases ch_or u with hc | hc
    · have e1 : wrL u = packL (ubRows u) := by unfold wrL; rw [if_pos hc]
      rw [e1] at hown5
      rw [hc, e1]
      have hby : Byt8 (packL (ubRows u)) := packL_byt (by
        intro r hr
        simp only [ubRows, List.mem_cons, List.not_mem_nil, or_false] at hr
        rcases hr with rfl | rfl | rfl | rfl | rfl | rfl
        · exact dgL_byt _
        · exact dgL_byt _
        · exact dgL_byt _
        · exact HU.out.2.2
        · exact HU.out.1.2
        · exact dgL_byt _)
      have C6 := uread_any w5 _ (packL (ubRows u)) (HB.of_own hown5 hby) (HK.out.below B5.out)
      have C6 := hid C6
      have C7 := C9.out
      rw [hc] at C7
      have C7 := hid C7
      have HC := hid hc
      obtain ⟨nl, HNL⟩ : ∃ x, Hid ((packL (ubRows u)).length = x) := ⟨_, rfl⟩
      rw [HNL.out] at C6
      rw [HNL.out]
      clear hown5 hb5 hby C5 e1 hc
      go_wp2_with fail
      refine C6.out.mono ?_
      rintro e w6 ⟨u6, k6, e6, rfl, hu6, hR6, hb6⟩
      obtain ⟨rfl, rfl, rfl⟩ := read_back HU.out HC.out hR6
      have B6 := hid (B5.out.trans (hb6.mono B5.out.size))
      have K6 : Hid (w6.heap[w.heap.size]? = some (.cells m 44 (0, 0))) := (hb6.block _ (by omega)).trans K5.out
      have hs6 := hb6.size
      rw [HM.out]
      obtain ⟨w7, HW7⟩ : ∃ x, Hid ((w6.alloc (.cells Tryd.zeroCells44 44)).setRow w6.heap.size m = x) := ⟨_, rfl⟩
      have hb7 : Below w6.heap.size w6 w7 := by rw [← HW7.out]; exact bel_setRow ((Below.refl _ w6).alloc (Nat.le_refl _) _) (Nat.le_refl _) _
      have K7 : Hid (w7.heap[w.heap.size]? = some (.cells m 44 (0, 0))) := (hb7.block _ (by omega)).trans K6.out
      have J7 : Hid (w7.heap[w6.heap.size]? = some (.cells m 44 (0, 0))) := by rw [← HW7.out]; exact setRow_heap _ _ _ _ _ _ (heap_alloc_new w6 _)
      have B7 := hid (B6.out.trans (hb7.mono B6.out.size))
      have heq := HEQ.out
      clear hb6 hb7 hu6 hR6 C6
      go_wp2_with (first | (refine wpList_store_row rfl 44 _ _ rfl w6.heap.size m rfl rfl 44 _ (heap_alloc_new w6 _) SU.out HZS.out OU.out ?_; rw [HW7.out]) | (refine wpList_load_rowG rfl 44 _ rfl w6.heap.size rfl 44 m (0, 0) _ J7.out Tryd.underlying44 rfl SU.out ?_) | (refine wpList_load_rowG rfl 44 _ rfl w.heap.size rfl 44 m (0, 0) _ K7.out Tryd.underlying44 rfl SU.out ?_) | fail)
      refine (C7.out w7).mono ?_
      rintro e w8 ⟨rfl, hb8⟩
      have B8 := hid (B7.out.trans (hb8.mono B7.out.size))
      clear hb8
      go_wp2
      go_ret
      exact ⟨rfl, B8.out⟩
    · have e1 : wrL u = [] := by unfold wrL; rw [if_neg (by omega)]
      rw [hc, e1]
      have C7 := C9.out
      rw [hc] at C7
      have C7 := hid C7
      clear hown5 hb5 C5 e1 hc
      go_wp2_with (first | (refine wpList_load_rowG rfl 44 _ rfl w.heap.size rfl 44 m (0, 0) _ K5.out Tryd.underlying44 rfl SU.out ?_) | fail)
      refine (C7.out w5).mono ?_
      rintro e w8 ⟨rfl, hb8⟩
      have B8 := hid (B5.out.trans (hb8.mono B5.out.size))
      clear hb8
      go_wp2
      go_ret
      exact ⟨rfl, B8.out⟩
  · rw [show pkE rs = 130 from by unfold pkE; rw [if_neg hm], show pkL rs = [] from by unfold pkL; rw [if_neg hm]] at C1
    have C1 := hid C1
    clear hm
    go_wp2_with fail
    refine C1.out.mono ?_
    rintro e w4 ⟨v2, rfl, hown2, hb2⟩
    have BX := hid (B1.out.trans (hb2.mono B1.out.size))
    have KX : Hid (w4.heap[w.heap.size]? = some (.cells m 44 (0, 0))) := (hb2.block _ (by omega)).trans K1.out
    have hsx : w.heap.size < w4.heap.size := (Array.getElem?_eq_some_iff.1 KX.out).1
    obtain ⟨p2, c2, rfl⟩ := own_slc hown2
    clear hown2 hb2 C1
    have C5 := hid (C8.out w4 (HK.out.below BX.out).kp)
    go_wp2_with (first | (refine wpList_load_row rfl 44 _ rfl w.heap.size rfl 44 m (0, 0) _ KX.out Tryd.underlying44 rfl SU.out ?_) | fail)
    refine C5.out.mono ?_
    rintro e w5 ⟨v5, rfl, hown5, hb5⟩
    have B5 := hid (BX.out.trans (hb5.mono BX.out.size))
    have K5 : Hid (w5.heap[w.heap.size]? = some (.cells m 44 (0, 0))) := (hb5.block _ hsx).trans KX.out
    have hs5 := hb5.size
    obtain ⟨p5, c5, rfl⟩ := own_slc hown5
    rcases ch_or u with hc | hc
    · have e1 : wrL u = packL (ubRows u) := by unfold wrL; rw [if_pos hc]
      rw [e1] at hown5
      rw [hc, e1]
      have hby : Byt8 (packL (ubRows u)) := packL_byt (by
        intro r hr
        simp only [ubRows, List.mem_cons, List.not_mem_nil, or_false] at hr
        rcases hr with rfl | rfl | rfl | rfl | rfl | rfl
        · exact dgL_byt _
        · exact dgL_byt _
        · exact dgL_byt _
        · exact HU.out.2.2
        · exact HU.out.1.2
        · exact dgL_byt _)
      have C6 := uread_any w5 _ (packL (ubRows u)) (HB.of_own hown5 hby) (HK.out.below B5.out)
      have C6 := hid C6
      have C7 := C9.out
      rw [hc] at C7
      have C7 := hid C7
      have HC := hid hc
      obtain ⟨nl, HNL⟩ : ∃ x, Hid ((packL (ubRows u)).length = x) := ⟨_, rfl⟩
      rw [HNL.out] at C6
      rw [HNL.out]
      clear hown5 hb5 hby C5 e1 hc
      go_wp2_with fail
      refine C6.out.mono ?_
      rintro e w6 ⟨u6, k6, e6, rfl, hu6, hR6, hb6⟩
      obtain ⟨rfl, rfl, rfl⟩ := read_back HU.out HC.out hR6
      have B6 := hid (B5.out.trans (hb6.mono B5.out.size))
      have K6 : Hid (w6.heap[w.heap.size]? = some (.cells m 44 (0, 0))) := (hb6.block _ (by omega)).trans K5.out
      have hs6 := hb6.size
      rw [HM.out]
      obtain ⟨w7, HW7⟩ : ∃ x, Hid ((w6.alloc (.cells Tryd.zeroCells44 44)).setRow w6.heap.size m = x) := ⟨_, rfl⟩
      have hb7 : Below w6.heap.size w6 w7 := by rw [← HW7.out]; exact bel_setRow ((Below.refl _ w6).alloc (Nat.le_refl _) _) (Nat.le_refl _) _
      have K7 : Hid (w7.heap[w.heap.size]? = some (.cells m 44 (0, 0))) := (hb7.block _ (by omega)).trans K6.out
      have J7 : Hid (w7.heap[w6.heap.size]? = some (.cells m 44 (0, 0))) := by rw [← HW7.out]; exact setRow_heap _ _ _ _ _ _ (heap_alloc_new w6 _)
      have B7 := hid (B6.out.trans (hb7.mono B6.out.size))
      have heq := HEQ.out
      clear hb6 hb7 hu6 hR6 C6
      go_wp2_with (first | (refine wpList_store_row rfl 44 _ _ rfl w6.heap.size m rfl rfl 44 _ (heap_alloc_new w6 _) SU.out HZS.out OU.out ?_; rw [HW7.out]) | (refine wpList_load_rowG rfl 44 _ rfl w6.heap.size rfl 44 m (0, 0) _ J7.out Tryd.underlying44 rfl SU.out ?_) | (refine wpList_load_rowG rfl 44 _ rfl w.heap.size rfl 44 m (0, 0) _ K7.out Tryd.underlying44 rfl SU.out ?_) | fail)
      refine (C7.out w7).mono ?_
      rintro e w8 ⟨rfl, hb8⟩
      have B8 := hid (B7.out.trans (hb8.mono B7.out.size))
      clear hb8
      go_wp2
      go_ret
      exact ⟨rfl, B8.out⟩
    · have e1 : wrL u = [] := by unfold wrL; rw [if_neg (by omega)]
      rw [hc, e1]
      have C7 := C9.out
      rw [hc] at C7
      have C7 := hid C7
      clear hown5 hb5 C5 e1 hc
      go_wp2_with (first | (refine wpList_load_rowG rfl 44 _ rfl w.heap.size rfl 44 m (0, 0) _ K5.out Tryd.underlying44 rfl SU.out ?_) | fail)
      refine (C7.out w5).mono ?_
      rintro e w8 ⟨rfl, hb8⟩
      have B8 := hid (B5.out.trans (hb8.mono B5.out.size))
      clear hb8
      go_wp2
      go_ret
      exact ⟨rfl, B8.out⟩
end Go.Proofs.YthcdefidoibopaaDoor
