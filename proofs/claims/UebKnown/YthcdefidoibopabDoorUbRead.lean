/- Read of ueb, walked. -/
import Derived.Test.YthcdefidoibopabDoorUbFrom
set_option linter.unusedSimpArgs false
set_option linter.unusedVariables false
namespace Go.Proofs.YthcdefidoibopabDoor
open Go Go.RowKit

/-- What Read answers. -/
def ReadQ (l : List Int) (u : Ub) (k : Nat) (ec : Int) : Prop :=
  (ec = 0 ∧ k = 0 ∧ chE u = 0 ∧ RB u ∧ packL (ubRows u) = l) ∨
  (ec ≠ 0 ∧ u = ub0 ∧ ((ec = 131 ∧ UnpQ l [] k 131) ∨ (k = 0 ∧ ∃ rs, mayT rs ∧ packL rs = l ∧ ((ec = 132 ∧ ∀ u' : Ub, u'.ok → RB u' → rs ≠ ubRows u') ∨ (ec = 133 ∧ ∃ u' : Ub, u'.ok ∧ RB u' ∧ rs = ubRows u' ∧ chE u' = 133)))))
def RaQ (w : World) (l : List Int) (e : Ending) (w' : World) : Prop := ∃ (u : Ub) (k : Nat) (ec : Int), e = .returned (.tuple #[.agg (ubA u), .int .i64 (k : Int), .int .i64 ec]) ∧ u.ok ∧ ReadQ l u k ec ∧ Below w.heap.size w w'
theorem results_cellTT {P : Program} {fn : Func} {p u v : Tmp} {ty : TypeId} (h : fn.results = #[.cell p ty, .tmp u, .tmp v]) (tmps : Array Value) (w : World) (g : Nat) (t : TypeId) (cs : Array Value) (fr : Nat × Nat) (d : TypeDesc)
    (hp : tmps.getD p undef = .pointer (some ⟨g, 0, none⟩)) (hg : w.heap[g]? = some (.cells cs t fr))
    (hu : P.underlying ty = some d) (hd : (match d with | .struct _ | .array _ _ => true | _ => false) = true) (hi : (P.info? ty).map (·.size) = some cs.size) (x y : Value) (hx : tmps.getD u undef = x) (hy : tmps.getD v undef = y) :
    (results fn tmps).run P w = .ok (.tuple #[.agg cs, x, y]) w := by
  have hp' : tmps[p]?.getD undef = .pointer (some ⟨g, 0, none⟩) := by simpa using hp
  have hx' : tmps[u]?.getD undef = x := by simpa using hx
  have hy' : tmps[v]?.getD undef = y := by simpa using hy
  simp [results, h, hp', hx', hy', asAddr, run_loadVar_row w g t ty cs fr d hg hu hd hi]
theorem okRows_len : ∀ (rs : List Rw) (last : ByteArray), okRows last rs → ∀ r ∈ rs, r.2.length ≤ 65536
  | [], _, _, r, hr => by cases hr
  | q :: t, last, h, r, hr => by
    rcases List.mem_cons.1 hr with rfl | hr
    · exact h.1.2.2
    · exact okRows_len t q.1 h.2 r hr
set_option maxRecDepth 100000 in
set_option maxHeartbeats 8000000 in
theorem uread_any (w : World) (v : Value) (l : List Int) (h : HB w v l) (hk : KD w) : Calls Tryd.prog 12 #[v] w fun e w' => RaQ w l e w' := by
  have HK := hid hk
  have HH := hid h
  have hz := zc_ueb
  have HZS : Hid (Tryd.zeroCells41.size = 68) := by refine hid ?_; rw [hz]; exact ubA_size ub0_ok
  obtain ⟨zc, HZC⟩ : ∃ x, Hid (Tryd.zeroCells41 = x) := ⟨_, rfl⟩
  rw [HZC.out] at hz HZS
  have HZ := hid hz
  have HIZ : Hid ((Tryd.prog.info? 41).map (·.size) = some zc.size) := by refine hid ?_; rw [HZS.out]; exact size_ueb
  have HZ1 : Hid (zc.all (·.oneCell') = true) := by refine hid ?_; rw [HZ.out]; exact ubA_one _
  obtain ⟨wA, HWA⟩ : ∃ x, Hid (w.alloc (.cells zc 41) = x) := ⟨_, rfl⟩
  have hbA : Below w.heap.size w wA := by rw [← HWA.out]; exact (Below.refl _ w).alloc (Nat.le_refl _) _
  have hkA : wA.heap[w.heap.size]? = some (.cells zc 41 (0, 0)) := by rw [← HWA.out]; exact heap_alloc_new w _
  have C1 := hid (unpack_any wA v l (h.below hbA) (hk.below hbA))
  obtain ⟨p, c, rfl, _, _⟩ := h.open
  have hsA : wA.heap.size = w.heap.size + 1 := by rw [← HWA.out]; simp
  have HBA := hid hbA
  have HKA := hid hkA
  have HSA := hid hsA
  clear hz h hk hbA hkA hsA
  go_enter Tryd.func12, Tryd.ntmps12
  go_wp2_with fail
  rw [HZC.out, HWA.out]
  refine C1.out.mono ?_
  rintro e w1 ⟨rv, rs, vs, k, ec, rfl, hq, hown, hb1⟩
  have B1 := hid (HBA.out.trans (hb1.mono HBA.out.size))
  have BK : Hid (w1.heap[w.heap.size]? = some (.cells zc 41 (0, 0))) := (hb1.block _ (by have := HSA.out; omega)).trans HKA.out
  have hs1 : w.heap.size + 1 ≤ w1.heap.size := by have := hb1.size; have := HSA.out; omega
  rcases hq with ⟨rfl, rfl, hmay, hpk⟩ | ⟨rfl, rfl, hkl, hex⟩
  · have HR := hid hown.held
    have C2 := hid (fromTable_any w1 rv rs hown.held hmay.2 (okRows_len rs noS hmay.2) (HK.out.below B1.out))
    have HMAY := hid hmay
    have HPK := hid hpk
    clear hown hb1 hmay hpk C1
    go_wp2_with fail
    refine C2.out.mono ?_
    rintro e w2 ⟨u, is, rfl, hT, hb2⟩
    have BK2 : Hid (w2.heap[w.heap.size]? = some (.cells zc 41 (0, 0))) := (hb2.block _ (by omega)).trans BK.out
    have B2 := hid (B1.out.trans (hb2.mono B1.out.size))
    have hs2 := hb2.size
    clear hb2 C2
    rcases hT with ⟨rfl, huok, hurb, hru⟩ | ⟨rfl, rfl, hno⟩
    · have HU := hid huok
      have HS := hid (size_ub huok)
      have HS68 : Hid (zc.size = (ubA u).size) := by refine hid ?_; rw [HZS.out, ubA_size huok]
      have H1 := hid (ubA_one u)
      have C3 := fun w => ucheck_any w u huok
      have RQ0 : Hid (chE u = 0 → ReadQ l u 0 0) := hid fun q => Or.inl ⟨rfl, rfl, q, hurb, by rw [← hru]; exact HPK.out⟩
      have RQ1 : Hid (chE u = 133 → ReadQ l ub0 0 133) := hid fun q => Or.inr ⟨by omega, rfl, Or.inr ⟨rfl, rs, HMAY.out, HPK.out, Or.inr ⟨rfl, u, huok, hurb, hru, q⟩⟩⟩
      have HCH := hid (ch_or u)
      obtain ⟨m, HM⟩ : ∃ x, Hid (ubA u = x) := ⟨_, rfl⟩
      rw [HM.out] at HS HS68 H1 C3
      rw [HM.out]
      have C3 := hid C3
      have HB8 : Hid (((w2.alloc (.cells Tryd.zeroCells41 41)).setRow w2.heap.size m).heap[w2.heap.size]? = some (.cells m 41 (0, 0))) := setRow_heap _ _ _ _ _ _ (heap_alloc_new w2 _)
      have BZ : Hid (Tryd.zeroCells41.size = m.size) := by refine hid ?_; rw [HZC.out]; exact HS68.out
      obtain ⟨w3, HW3⟩ : ∃ x, Hid ((w2.alloc (.cells Tryd.zeroCells41 41)).setRow w2.heap.size m = x) := ⟨_, rfl⟩
      have hb3 : Below w2.heap.size w2 w3 := by rw [← HW3.out]; exact bel_setRow ((Below.refl _ w2).alloc (Nat.le_refl _) _) (Nat.le_refl _) _
      have hs3 : w2.heap.size + 1 ≤ w3.heap.size := by rw [← HW3.out]; simp [World.setRow]
      have B3 := hid (B2.out.trans (hb3.mono B2.out.size))
      have BK3 : Hid (w3.heap[w.heap.size]? = some (.cells zc 41 (0, 0))) := (hb3.block _ (by omega)).trans BK2.out
      have HB9 : Hid (w3.heap[w2.heap.size]? = some (.cells m 41 (0, 0))) := by rw [← HW3.out]; exact HB8.out
      clear huok hurb hru hb3
      rcases HCH.out with hc | hc
      · rw [hc] at C3
        have RQ := hid (RQ0.out hc)
        clear hc RQ0 RQ1
        go_wp2_with (first | (refine wpList_store_row rfl 41 _ _ rfl w2.heap.size m rfl rfl 41 _ (heap_alloc_new w2 _) HS.out BZ.out H1.out ?_) | (refine wpList_load_row rfl 41 _ rfl w2.heap.size rfl 41 m (0, 0) _ HB8.out Tryd.underlying41 rfl HS.out ?_) | fail)
        rw [HW3.out]
        refine (C3.out w3).mono ?_
        rintro e w4 ⟨rfl, hb4⟩
        have B4 := hid (B3.out.trans (hb4.mono B3.out.size))
        have BKX : Hid (w4.heap[w.heap.size]? = some (.cells zc 41 (0, 0))) := (hb4.block _ (by omega)).trans BK3.out
        have HBX : Hid (w4.heap[w2.heap.size]? = some (.cells m 41 (0, 0))) := (hb4.block _ (by omega)).trans HB9.out
        clear hb4 C3
        go_wp2_with (first | (refine wpList_load_row rfl 41 _ rfl w2.heap.size rfl 41 m (0, 0) _ HBX.out Tryd.underlying41 rfl HS.out ?_) | (refine wpList_store_row rfl 41 _ _ rfl w.heap.size m rfl rfl 41 zc BKX.out HS.out HS68.out H1.out ?_))
        refine bodyPost_ret (v := .tuple #[.agg m, .int .i64 0, .int .i64 0]) (results_cellTT (p := 2) (u := 3) (v := 4) (ty := 41) rfl _ _ w.heap.size 41 m (0, 0) _ rfl (setRow_heap _ _ _ _ _ _ BKX.out) Tryd.underlying41 rfl HS.out _ _ rfl rfl) rfl ?_
        exact ⟨u, 0, 0, by rw [HM.out]; rfl, HU.out, RQ.out, bel_setRow B4.out (Nat.le_refl _) _⟩
      · rw [hc] at C3
        have RQ := hid (RQ1.out hc)
        clear hc RQ0 RQ1
        go_wp2_with (first | (refine wpList_store_row rfl 41 _ _ rfl w2.heap.size m rfl rfl 41 _ (heap_alloc_new w2 _) HS.out BZ.out H1.out ?_) | (refine wpList_load_row rfl 41 _ rfl w2.heap.size rfl 41 m (0, 0) _ HB8.out Tryd.underlying41 rfl HS.out ?_) | fail)
        rw [HW3.out]
        refine (C3.out w3).mono ?_
        rintro e w4 ⟨rfl, hb4⟩
        have B4 := hid (B3.out.trans (hb4.mono B3.out.size))
        have BKX : Hid (w4.heap[w.heap.size]? = some (.cells zc 41 (0, 0))) := (hb4.block _ (by omega)).trans BK3.out
        clear hb4 C3
        go_wp2_with (refine wpList_store_row rfl 41 _ _ rfl w.heap.size zc rfl (congrArg Value.agg HZC.out) 41 zc BKX.out HIZ.out rfl HZ1.out ?_)
        refine bodyPost_ret (v := .tuple #[.agg zc, .int .i64 0, .int .i64 133]) (results_cellTT (p := 2) (u := 3) (v := 4) (ty := 41) rfl _ _ w.heap.size 41 zc (0, 0) _ rfl (setRow_heap _ _ _ _ _ _ BKX.out) Tryd.underlying41 rfl HIZ.out _ _ rfl rfl) rfl ?_
        exact ⟨ub0, _, 133, by rw [HZ.out]; rfl, ub0_ok, RQ.out, bel_setRow B4.out (Nat.le_refl _) _⟩
    · have RQ : Hid (ReadQ l ub0 0 132) := hid (Or.inr ⟨by omega, rfl, Or.inr ⟨rfl, rs, HMAY.out, HPK.out, Or.inl ⟨rfl, hno⟩⟩⟩)
      clear hno
      have HS68 : Hid (zc.size = zc.size) := hid rfl
      have HM := HZ
      have BZ : Hid (Tryd.zeroCells41.size = zc.size) := by refine hid ?_; rw [HZC.out]
      rw [← HZ.out]
      have BKX : Hid (((w2.alloc (.cells Tryd.zeroCells41 41)).setRow w2.heap.size zc).heap[w.heap.size]? = some (.cells zc 41 (0, 0))) := by
        refine hid ?_
        have hb := bel_setRow ((Below.refl w2.heap.size w2).alloc (Nat.le_refl _) (.cells Tryd.zeroCells41 41)) (Nat.le_refl _) zc
        exact (hb.block _ (by omega)).trans BK2.out
      have B4 := hid (B2.out.trans ((bel_setRow ((Below.refl w2.heap.size w2).alloc (Nat.le_refl _) (.cells Tryd.zeroCells41 41)) (Nat.le_refl _) zc).mono B2.out.size))
      go_wp2_with (first | (refine wpList_store_row rfl 41 _ _ rfl w2.heap.size zc rfl rfl 41 _ (heap_alloc_new w2 _) HIZ.out BZ.out HZ1.out ?_) | (refine wpList_store_row rfl 41 _ _ rfl w.heap.size zc rfl (congrArg Value.agg HZC.out) 41 zc BKX.out HIZ.out rfl HZ1.out ?_))
      refine bodyPost_ret (v := .tuple #[.agg zc, .int .i64 0, .int .i64 132]) (results_cellTT (p := 2) (u := 3) (v := 4) (ty := 41) rfl _ _ w.heap.size 41 zc (0, 0) _ rfl (setRow_heap _ _ _ _ _ _ BKX.out) Tryd.underlying41 rfl HIZ.out _ _ rfl rfl) rfl ?_
      exact ⟨ub0, _, 132, by rw [HZ.out]; rfl, ub0_ok, RQ.out, bel_setRow B4.out (Nat.le_refl _) _⟩
  · have RQ : Hid (ReadQ l ub0 k 131) := hid (Or.inr ⟨by omega, rfl, Or.inl ⟨rfl, Or.inr ⟨rfl, rfl, hkl, hex⟩⟩⟩)
    have BKX := BK
    clear hkl hex hown hb1 C1
    go_wp2_with (refine wpList_store_row rfl 41 _ _ rfl w.heap.size zc rfl (congrArg Value.agg HZC.out) 41 zc BKX.out HIZ.out rfl HZ1.out ?_)
    refine bodyPost_ret (v := .tuple #[.agg zc, .int .i64 (k : Int), .int .i64 131]) (results_cellTT (p := 2) (u := 3) (v := 4) (ty := 41) rfl _ _ w.heap.size 41 zc (0, 0) _ rfl (setRow_heap _ _ _ _ _ _ BKX.out) Tryd.underlying41 rfl HIZ.out _ _ rfl rfl) rfl ?_
    exact ⟨ub0, _, 131, by rw [HZ.out], ub0_ok, RQ.out, bel_setRow B1.out (Nat.le_refl _) _⟩
end Go.Proofs.YthcdefidoibopabDoor
