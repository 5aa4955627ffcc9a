/- Of the road to uebReadCard_holds: UbRead, UbDet, UbEq, UbRdM, UbRRdM, BsRNum. -/
import Derived.Test.YtklklldmhoofnaaDoorG07
import Derived.Test.YtklklldmhoofnaaDoorG04
import Derived.Test.YtklklldmhoofnaaDoorG02
import Derived.Laws.StructEq
import Derived.Test.YtklklldmhoofnaaDoorG05
set_option linter.unusedVariables false
set_option linter.unusedSimpArgs false
namespace Go.Proofs.YtklklldmhoofnaaDoor
open Go Go.RowKit
def ReadQ (l : List Int) (u : Ub) (k : Nat) (ec : Int) : Prop :=
  (ec = 0 ∧ k = 0 ∧ chE u = 0 ∧ RB u ∧ packL (ubRows u) = l) ∨
  (ec ≠ 0 ∧ u = ub0 ∧ ((ec = 131 ∧ UnpQ l [] k 131) ∨ (k = 0 ∧ ∃ rs, mayT rs ∧ packL rs = l ∧ ((ec = 132 ∧ ∀ u' : Ub, u'.ok → RB u' → rs ≠ ubRows u') ∨ (ec = 133 ∧ ∃ u' : Ub, u'.ok ∧ RB u' ∧ rs = ubRows u' ∧ chE u' = 133)))))
def RaQ (w : World) (l : List Int) (e : Ending) (w' : World) : Prop := ∃ (u : Ub) (k : Nat) (ec : Int), e = .returned (.tuple #[.agg (ubA u), .int .i64 (k : Int), .int .i64 ec]) ∧ u.ok ∧ ReadQ l u k ec ∧ Below w.heap.size w w'
theorem results_cellTT {P : Program} {fn : Func} {p u v : Tmp} {ty : TypeId} (h : fn.results = #[.cell p ty, .tmp u, .tmp v]) (tmps : Array Value) (w : World) (g : Nat) (t : TypeId) (cs : Array Value) (fr : Nat × Nat) (d : TypeDesc)
    (hp : tmps.getD p undef = .pointer (some ⟨g, 0, none⟩)) (hg : w.heap[g]? = some (.cells cs t fr))
    (hu : P.underlying ty = some d) (hd : (match d with | .struct _ | .array _ _ => true | _ => false) = true) (hi : (P.info? ty).map (·.size) = some cs.size) (x y : Value) (hx : tmps.getD u undef = x) (hy : tmps.getD v undef = y) :
    (results fn tmps).run P w = .ok (.tuple #[.agg cs, x, y]) w := by
  have hp' : tmps[p]?.getD undef = .pointer (some ⟨g, 0, none⟩) := by simpa using hp
  have hx' : tmps[u]?.getD undef = x := by simpa using hx
  have hy' : tmps[v]?.getD undef = y := by simpa using hy
  simp [results, h, hp', hx', hy', asAddr, run_loadVar_row w g t ty cs fr d hg hu hd hi]
theorem okRows_len : ∀ (rs : List Rw) (last : ByteArray), okRows last rs → ∀ r ∈ rs, r.2.length ≤ 65536
  | [], _, _, r, hr => by cases hr
  | q :: t, last, h, r, hr => by
    rcases List.mem_cons.1 hr with rfl | hr
    · exact h.1.2.2
    · exact okRows_len t q.1 h.2 r hr
set_option maxRecDepth 100000 in
set_option maxHeartbeats 8000000 in
theorem uread_any (w : World) (v : Value) (l : List Int) (h : HB w v l) (hk : KD w) : Calls Tryd.prog 14 #[v] w fun e w' => RaQ w l e w' := by
  have HK := hid hk
  have HH := hid h
  have hz := zc_ueb
  have HZS : Hid (Tryd.zeroCells25.size = 68) := by refine hid ?_; rw [hz]; exact ubA_size ub0_ok
  obtain ⟨zc, HZC⟩ : ∃ x, Hid (Tryd.zeroCells25 = x) := ⟨_, rfl⟩
  rw [HZC.out] at hz HZS
  have HZ := hid hz
  have HIZ : Hid ((Tryd.prog.info? 25).map (·.size) = some zc.size) := by refine hid ?_; rw [HZS.out]; exact size_ueb
  have HZ1 : Hid (zc.all (·.oneCell') = true) := by refine hid ?_; rw [HZ.out]; exact ubA_one _
  obtain ⟨wA, HWA⟩ : ∃ x, Hid (w.alloc (.cells zc 25) = x) := ⟨_, rfl⟩
  have hbA : Below w.heap.size w wA := by rw [← HWA.out]; exact (Below.refl _ w).alloc (Nat.le_refl _) _
  have hkA : wA.heap[w.heap.size]? = some (.cells zc 25 (0, 0)) := by rw [← HWA.out]; exact heap_alloc_new w _
  have C1 := hid (unpack_any wA v l (h.below hbA) (hk.below hbA))
  obtain ⟨p, c, rfl, _, _⟩ := h.open
  have hsA : wA.heap.size = w.heap.size + 1 := by rw [← HWA.out]; simp
  have HBA := hid hbA
  have HKA := hid hkA
  have HSA := hid hsA
  clear hz h hk hbA hkA hsA
  go_enter Tryd.func14, Tryd.ntmps14
  go_wp2_with fail
  rw [HZC.out, HWA.out]
  refine C1.out.mono ?_
  rintro e w1 ⟨rv, rs, vs, k, ec, rfl, hq, hown, hb1⟩
  have B1 := hid (HBA.out.trans (hb1.mono HBA.out.size))
  have BK : Hid (w1.heap[w.heap.size]? = some (.cells zc 25 (0, 0))) := (hb1.block _ (by have := HSA.out; omega)).trans HKA.out
  have hs1 : w.heap.size + 1 ≤ w1.heap.size := by have := hb1.size; have := HSA.out; omega
  rcases hq with ⟨rfl, rfl, hmay, hpk⟩ | ⟨rfl, rfl, hkl, hex⟩
  · have HR := hid hown.held
    have C2 := hid (fromTable_any w1 rv rs hown.held hmay.2 (okRows_len rs noS hmay.2) (HK.out.below B1.out))
    have HMAY := hid hmay
    have HPK := hid hpk
    clear hown hb1 hmay hpk C1
    go_wp2_with fail
    refine C2.out.mono ?_
    rintro e w2 ⟨u, is, rfl, hT, hb2⟩
    have BK2 : Hid (w2.heap[w.heap.size]? = some (.cells zc 25 (0, 0))) := (hb2.block _ (by omega)).trans BK.out
    have B2 := hid (B1.out.trans (hb2.mono B1.out.size))
    have hs2 := hb2.size
    clear hb2 C2
    rcases hT with ⟨rfl, huok, hurb, hru⟩ | ⟨rfl, rfl, hno⟩
    · have HU := hid huok
      have HS := hid (size_ub huok)
      have HS68 : Hid (zc.size = (ubA u).size) := by refine hid ?_; rw [HZS.out, ubA_size huok]
      have H1 := hid (ubA_one u)
      have C3 := fun w => ucheck_any w u huok
      have RQ0 : Hid (chE u = 0 → ReadQ l u 0 0) := hid fun q => Or.inl ⟨rfl, rfl, q, hurb, by rw [← hru]; exact HPK.out⟩
      have RQ1 : Hid (chE u = 133 → ReadQ l ub0 0 133) := hid fun q => Or.inr ⟨by omega, rfl, Or.inr ⟨rfl, rs, HMAY.out, HPK.out, Or.inr ⟨rfl, u, huok, hurb, hru, q⟩⟩⟩
      have HCH := hid (ch_or u)
      obtain ⟨m, HM⟩ : ∃ x, Hid (ubA u = x) := ⟨_, rfl⟩
      rw [HM.out] at HS HS68 H1 C3
      rw [HM.out]
      have C3 := hid C3
      have HB8 : Hid (((w2.alloc (.cells Tryd.zeroCells25 25)).setRow w2.heap.size m).heap[w2.heap.size]? = some (.cells m 25 (0, 0))) := setRow_heap _ _ _ _ _ _ (heap_alloc_new w2 _)
      have BZ : Hid (Tryd.zeroCells25.size = m.size) := by refine hid ?_; rw [HZC.out]; exact HS68.out
      obtain ⟨w3, HW3⟩ : ∃ x, Hid ((w2.alloc (.cells Tryd.zeroCells25 25)).setRow w2.heap.size m = x) := ⟨_, rfl⟩
      have hb3 : Below w2.heap.size w2 w3 := by rw [← HW3.out]; exact bel_setRow ((Below.refl _ w2).alloc (Nat.le_refl _) _) (Nat.le_refl _) _
      have hs3 : w2.heap.size + 1 ≤ w3.heap.size := by rw [← HW3.out]; simp [World.setRow]
      have B3 := hid (B2.out.trans (hb3.mono B2.out.size))
      have BK3 : Hid (w3.heap[w.heap.size]? = some (.cells zc 25 (0, 0))) := (hb3.block _ (by omega)).trans BK2.out
      have HB9 : Hid (w3.heap[w2.heap.size]? = some (.cells m 25 (0, 0))) := by rw [← HW3.out]; exact HB8.out
      clear huok hurb hru hb3
      rcases HCH.out with hc | hc
      · rw [hc] at C3
        have RQ := hid (RQ0.out hc)
        clear hc RQ0 RQ1
        go_wp2_with (first | (refine wpList_store_row rfl 25 _ _ rfl w2.heap.size m rfl rfl 25 _ (heap_alloc_new w2 _) HS.out BZ.out H1.out ?_) | (refine wpList_load_row rfl 25 _ rfl w2.heap.size rfl 25 m (0, 0) _ HB8.out Tryd.underlying25 rfl HS.out ?_) | fail)
        rw [HW3.out]
        refine (C3.out w3).mono ?_
        rintro e w4 ⟨rfl, hb4⟩
        have B4 := hid (B3.out.trans (hb4.mono B3.out.size))
        have BKX : Hid (w4.heap[w.heap.size]? = some (.cells zc 25 (0, 0))) := (hb4.block _ (by omega)).trans BK3.out
        have HBX : Hid (w4.heap[w2.heap.size]? = some (.cells m 25 (0, 0))) := (hb4.block _ (by omega)).trans HB9.out
        clear hb4 C3
        go_wp2_with (first | (refine wpList_load_row rfl 25 _ rfl w2.heap.size rfl 25 m (0, 0) _ HBX.out Tryd.underlying25 rfl HS.out ?_) | (refine wpList_store_row rfl 25 _ _ rfl w.heap.size m rfl rfl 25 zc BKX.out HS.out HS68.out H1.out ?_))
        refine bodyPost_ret (v := .tuple #[.agg m, .int .i64 0, .int .i64 0]) (results_cellTT (p := 2) (u := 3) (v := 4) (ty := 25) rfl _ _ w.heap.size 25 m (0, 0) _ rfl (setRow_heap _ _ _ _ _ _ BKX.out) Tryd.underlying25 rfl HS.out _ _ rfl rfl) rfl ?_
        exact ⟨u, 0, 0, by rw [HM.out]; rfl, HU.out, RQ.out, bel_setRow B4.out (Nat.le_refl _) _⟩
      · rw [hc] at C3
        have RQ := hid (RQ1.out hc)
        clear hc RQ0 RQ1
        go_wp2_with (first | (refine wpList_store_row rfl 25 _ _ rfl w2.heap.size m rfl rfl 25 _ (heap_alloc_new w2 _) HS.out BZ.out H1.out ?_) | (refine wpList_load_row rfl 25 _ rfl w2.heap.size rfl 25 m (0, 0) _ HB8.out Tryd.underlying25 rfl HS.out ?_) | fail)
        rw [HW3.out]
        refine (C3.out w3).mono ?_
        rintro e w4 ⟨rfl, hb4⟩
        have B4 := hid (B3.out.trans (hb4.mono B3.out.size))
        have BKX : Hid (w4.heap[w.heap.size]? = some (.cells zc 25 (0, 0))) := (hb4.block _ (by omega)).trans BK3.out
        clear hb4 C3
        go_wp2_with (refine wpList_store_row rfl 25 _ _ rfl w.heap.size zc rfl (congrArg Value.agg HZC.out) 25 zc BKX.out HIZ.out rfl HZ1.out ?_)
        refine bodyPost_ret (v := .tuple #[.agg zc, .int .i64 0, .int .i64 133]) (results_cellTT (p := 2) (u := 3) (v := 4) (ty := 25) rfl _ _ w.heap.size 25 zc (0, 0) _ rfl (setRow_heap _ _ _ _ _ _ BKX.out) Tryd.underlying25 rfl HIZ.out _ _ rfl rfl) rfl ?_
        exact ⟨ub0, _, 133, by rw [HZ.out]; rfl, ub0_ok, RQ.out, bel_setRow B4.out (Nat.le_refl _) _⟩
    · have RQ : Hid (ReadQ l ub0 0 132) := hid (Or.inr ⟨by omega, rfl, Or.inr ⟨rfl, rs, HMAY.out, HPK.out, Or.inl ⟨rfl, hno⟩⟩⟩)
      clear hno
      have HS68 : Hid (zc.size = zc.size) := hid rfl
      have HM := HZ
      have BZ : Hid (Tryd.zeroCells25.size = zc.size) := by refine hid ?_; rw [HZC.out]
      rw [← HZ.out]
      have BKX : Hid (((w2.alloc (.cells Tryd.zeroCells25 25)).setRow w2.heap.size zc).heap[w.heap.size]? = some (.cells zc 25 (0, 0))) := by
        refine hid ?_
        have hb := bel_setRow ((Below.refl w2.heap.size w2).alloc (Nat.le_refl _) (.cells Tryd.zeroCells25 25)) (Nat.le_refl _) zc
        exact (hb.block _ (by omega)).trans BK2.out
      have B4 := hid (B2.out.trans ((bel_setRow ((Below.refl w2.heap.size w2).alloc (Nat.le_refl _) (.cells Tryd.zeroCells25 25)) (Nat.le_refl _) zc).mono B2.out.size))
      go_wp2_with (first | (refine wpList_store_row rfl 25 _ _ rfl w2.heap.size zc rfl rfl 25 _ (heap_alloc_new w2 _) HIZ.out BZ.out HZ1.out ?_) | (refine wpList_store_row rfl 25 _ _ rfl w.heap.size zc rfl (congrArg Value.agg HZC.out) 25 zc BKX.out HIZ.out rfl HZ1.out ?_))
      refine bodyPost_ret (v := .tuple #[.agg zc, .int .i64 0, .int .i64 132]) (results_cellTT (p := 2) (u := 3) (v := 4) (ty := 25) rfl _ _ w.heap.size 25 zc (0, 0) _ rfl (setRow_heap _ _ _ _ _ _ BKX.out) Tryd.underlying25 rfl HIZ.out _ _ rfl rfl) rfl ?_
      exact ⟨ub0, _, 132, by rw [HZ.out]; rfl, ub0_ok, RQ.out, bel_setRow B4.out (Nat.le_refl _) _⟩
  · have RQ : Hid (ReadQ l ub0 k 131) := hid (Or.inr ⟨by omega, rfl, Or.inl ⟨rfl, Or.inr ⟨rfl, rfl, hkl, hex⟩⟩⟩)
    have BKX := BK
    clear hkl hex hown hb1 C1
    go_wp2_with (refine wpList_store_row rfl 25 _ _ rfl w.heap.size zc rfl (congrArg Value.agg HZC.out) 25 zc BKX.out HIZ.out rfl HZ1.out ?_)
    refine bodyPost_ret (v := .tuple #[.agg zc, .int .i64 (k : Int), .int .i64 131]) (results_cellTT (p := 2) (u := 3) (v := 4) (ty := 25) rfl _ _ w.heap.size 25 zc (0, 0) _ rfl (setRow_heap _ _ _ _ _ _ BKX.out) Tryd.underlying25 rfl HIZ.out _ _ rfl rfl) rfl ?_
    exact ⟨ub0, _, 131, by rw [HZ.out], ub0_ok, RQ.out, bel_setRow B1.out (Nat.le_refl _) _⟩
theorem two_ways {l : List Int} {rs ts : List Rw} {a k : Nat} (hp : packL rs = l.take a) (hq : packL ts = l.take k) (hak : a ≤ k) (hk : k ≤ l.length) : ∃ t, ts = rs ++ t := by
  have e1 : packL ts = packL rs ++ (packL ts).drop (packL rs).length := by
    conv => lhs; rw [← List.take_append_drop (packL rs).length (packL ts)]
    congr 1
    rw [hq, hp, List.length_take, List.take_take]
    congr 1
    omega
  obtain ⟨t, ht, _⟩ := pack_split rs ts _ e1.symm
  exact ⟨t, ht⟩
theorem err_le {l : List Int} {rs ts : List Rw} {a k : Nat} (hp : packL rs = l.take a) (hno : ∀ r x, rs.length < 64 → okRow (lastN noS rs) r → l.drop a ≠ rowL r ++ x) (hm : mayT ts) (hq : packL ts = l.take k) (hk : k ≤ l.length) : k ≤ a := by
  apply Classical.byContradiction
  intro h
  obtain ⟨t, ht⟩ := two_ways hp hq (by omega) hk
  cases t with
  | nil =>
    rw [List.append_nil] at ht
    subst ht
    have := congrArg List.length (hp.symm.trans hq)
    rw [List.length_take, List.length_take] at this
    omega
  | cons r t =>
    have h7 := hm.2
    rw [ht, okRows_app, okRows] at h7
    have h8 := hm.1
    rw [ht, List.length_append, List.length_cons] at h8
    refine hno r (packL t ++ l.drop k) (by omega) h7.2.1 ?_
    have e2 : l = packL ts ++ l.drop k := by rw [hq, List.take_append_drop]
    have e3 : l = packL rs ++ l.drop a := by rw [hp, List.take_append_drop]
    have e4 : packL rs ++ l.drop a = packL rs ++ (rowL r ++ (packL t ++ l.drop k)) := by
      rw [← e3]
      conv => lhs; rw [e2, ht, packL_app, packL]
      simp [List.append_assoc]
    exact List.append_cancel_left e4
theorem UnpQ.det {l : List Int} {r s : List Rw} {k j : Nat} {e f : Int} (h : UnpQ l r k e) (g : UnpQ l s j f) : r = s ∧ k = j ∧ e = f := by
  rcases h with ⟨h1, h2, h3, h4⟩ | ⟨h1, h2, h3, rs, h4, h5, h6⟩
  · have := UnpQ.one (Or.inl ⟨h1, h2, h3, h4⟩ : UnpQ l r k e) g h1
    exact ⟨this.2.2.symm, by omega, by omega⟩
  · rcases g with ⟨g1, g2, g3, g4⟩ | ⟨g1, g2, g3, ts, g4, g5, g6⟩
    · exfalso
      have := err_le h5 h6 g3 (by rw [g4, List.take_of_length_le (Nat.le_refl _)]) (Nat.le_refl _)
      omega
    · have q1 := err_le h5 h6 g4 g5 (by omega)
      have q2 := err_le g5 g6 h4 h5 (by omega)
      exact ⟨by rw [h2, g2], by omega, by omega⟩
def ubE (u v : Ub) : Bool := u.k == v.k && (u.n == v.n && (u.g == v.g && (u.z == v.z && (decide (u.a = v.a) && decide (u.b = v.b)))))
theorem ubE_iff (u v : Ub) : ubE u v = true ↔ u = v := by
  unfold ubE
  cases u; cases v
  simp
theorem rows_inj {u v : Ub} (hu : RB u) (hv : RB v) (h : ubRows u = ubRows v) : u = v := by
  have q : ∀ x y : Int, 0 ≤ x → 0 ≤ y → dgL x.toNat = dgL y.toNat → x = y := fun x y hx hy e => by have := dgL_inj e; omega
  unfold ubRows at h
  simp only [List.cons.injEq, Prod.mk.injEq, true_and, and_true] at h
  obtain ⟨e1, e2, e3, e4, e5, e6⟩ := h
  cases u; cases v
  obtain ⟨r1, r2, r3, r4⟩ := hu
  obtain ⟨s1, s2, s3, s4⟩ := hv
  simp only at e1 e2 e3 e4 e5 e6 r1 r2 r3 r4 s1 s2 s3 s4
  rw [q _ _ r1.1 s1.1 e1, q _ _ r2.1 s2.1 e2, q _ _ r3.1 s3.1 e3, e4, e5, q _ _ r4.1 s4.1 e6]
theorem part_ub0 (w : World) (u : Ub) : (part 3 (ubA u) 0).run Tryd.prog w = .ok (.int .i64 u.k) w := by
  have e : (ubA u)[0]? = some (.int .i64 u.k) := rfl
  simp [part, e]
theorem part_ub1 (w : World) (u : Ub) : (part 3 (ubA u) 1).run Tryd.prog w = .ok (.int .i64 u.n) w := by
  have e : (ubA u)[1]? = some (.int .i64 u.n) := rfl
  simp [part, e]
theorem part_ub2 (w : World) (u : Ub) : (part 3 (ubA u) 2).run Tryd.prog w = .ok (.int .i64 u.g) w := by
  have e : (ubA u)[2]? = some (.int .i64 u.g) := rfl
  simp [part, e]
theorem part_ub3 (w : World) (u : Ub) : (part 3 (ubA u) 3).run Tryd.prog w = .ok (.int .i64 u.z) w := by
  have e : (ubA u)[3]? = some (.int .i64 u.z) := rfl
  simp [part, e]
theorem cellsB_is (l : List Int) : cellsB l = (l.map (Value.int .u8)).toArray := rfl
theorem info_dig32 : (Tryd.prog.info? 23).map (fun i => i.size) = some 32 := by kernel_rfl
set_option maxRecDepth 100000 in
theorem part_uba (w : World) (u : Ub) (h : u.ok) : (part 23 (ubA u) 4).run Tryd.prog w = .ok (.agg (cellsB u.a)) w := by
  cases hi : Tryd.prog.info? 23 with
  | none => have := info_dig32; rw [hi] at this; cases this
  | some i0 =>
    have hz : i0.size = 32 := by have := info_dig32; rw [hi] at this; simpa using this
    have e3 : ((ubA u).extract 4 36) = cellsB u.a := by
      rw [cellsB_is]
      apply Array.ext'
      simp [ubA, ubL, h.1.1, List.take_append]
    simp [part, isAgg, run_underlying Tryd.underlying23, sizeOf, typeInfo, hi, hz, e3]
set_option maxRecDepth 100000 in
theorem part_ubb (w : World) (u : Ub) (h : u.ok) : (part 23 (ubA u) 36).run Tryd.prog w = .ok (.agg (cellsB u.b)) w := by
  cases hi : Tryd.prog.info? 23 with
  | none => have := info_dig32; rw [hi] at this; cases this
  | some i0 =>
    have hz : i0.size = 32 := by have := info_dig32; rw [hi] at this; simpa using this
    have e3 : ((ubA u).extract 36 68) = cellsB u.b := by
      rw [cellsB_is]
      apply Array.ext'
      simp [ubA, ubL, h.1.1, h.2.1, List.drop_append, List.take_of_length_le]
    simp [part, isAgg, run_underlying Tryd.underlying23, sizeOf, typeInfo, hi, hz, e3]
set_option maxRecDepth 100000 in
theorem run_eql_ueb (w : World) (u v : Ub) (hu : u.ok) (hv : v.ok) : (binOp .eql 25 (.agg (ubA u)) (.agg (ubA v))).run Tryd.prog w = .ok (.bool (ubE u v)) w := by
  rw [run_eql_struct, run_equalIn_struct w 9999 _ _ _ (by kernel_rfl) (by kernel_rfl)]
  have hf : ∃ f0 f1 f2 f3 f4 f5, (Tryd.prog.fieldsOf 25).toList = [f0, f1, f2, f3, f4, f5] ∧ (f0.name ≠ "_" ∧ f0.type = 3 ∧ f0.offset = 0) ∧ (f1.name ≠ "_" ∧ f1.type = 3 ∧ f1.offset = 1) ∧ (f2.name ≠ "_" ∧ f2.type = 3 ∧ f2.offset = 2) ∧ (f3.name ≠ "_" ∧ f3.type = 3 ∧ f3.offset = 3) ∧ (f4.name ≠ "_" ∧ f4.type = 23 ∧ f4.offset = 4) ∧ f5.name ≠ "_" ∧ f5.type = 23 ∧ f5.offset = 36 := ⟨_, _, _, _, _, _, rfl, ⟨by decide, rfl, rfl⟩, ⟨by decide, rfl, rfl⟩, ⟨by decide, rfl, rfl⟩, ⟨by decide, rfl, rfl⟩, ⟨by decide, rfl, rfl⟩, by decide, rfl, rfl⟩
  obtain ⟨f0, f1, f2, f3, f4, f5, e0, ⟨n0, t0, o0⟩, ⟨n1, t1, o1⟩, ⟨n2, t2, o2⟩, ⟨n3, t3, o3⟩, ⟨n4, t4, o4⟩, n5, t5, o5⟩ := hf
  rw [e0]
  have hqa := run_equalIn_bytes w 9997 32 23 Tryd.underlying23 u.a v.a hu.1.1 hv.1.1
  have hqb := run_equalIn_bytes w 9997 32 23 Tryd.underlying23 u.b v.b hu.2.1 hv.2.1
  have hi := fun x y => run_equalIn_int (P := Tryd.prog) w 9998 3 .i64 .i64 x y Tryd.underlying3
  simp only [Op.eqFields, n0, n1, n2, n3, n4, n5, t0, t1, t2, t3, t4, t5, o0, o1, o2, o3, o4, o5, if_true, ne_eq, not_false_eq_true, Sem.run_bind, part_ub0, part_ub1, part_ub2, part_ub3, part_uba _ u hu, part_uba _ v hv, part_ubb _ u hu, part_ubb _ v hv, Result.andThen_ok, hi]
  unfold ubE
  cases h1 : (u.k == v.k) with
  | false => simp
  | true =>
    cases h2 : (u.n == v.n) with
    | false => simp [part_ub1, hi, h2]
    | true =>
      cases h3 : (u.g == v.g) with
      | false => simp [part_ub1, part_ub2, hi, h2, h3]
      | true =>
        cases h4 : (u.z == v.z) with
        | false => simp [part_ub1, part_ub2, part_ub3, hi, h2, h3, h4]
        | true =>
          cases h5 : decide (u.a = v.a) with
          | false =>
            rw [h5] at hqa
            simp [part_ub1, part_ub2, part_ub3, part_uba _ u hu, part_uba _ v hv, hi, h2, h3, h4, hqa]
          | true =>
            rw [h5] at hqa
            cases h6 : decide (u.b = v.b) with
            | false =>
              rw [h6] at hqb
              simp [part_ub1, part_ub2, part_ub3, part_uba _ u hu, part_uba _ v hv, part_ubb _ u hu, part_ubb _ v hv, hi, h2, h3, h4, hqa, hqb]
            | true =>
              rw [h6] at hqb
              simp [part_ub1, part_ub2, part_ub3, part_uba _ u hu, part_uba _ v hv, part_ubb _ u hu, part_ubb _ v hv, hi, h2, h3, h4, hqa, hqb]
theorem ReadQ.yes {l : List Int} {u v : Ub} {k : Nat} {f : Int} (hu : u.ok) (hc : chE u = 0) (hr : RB u) (hp : packL (ubRows u) = l) (g : ReadQ l v k f) : v = u ∧ k = 0 ∧ f = 0 := by
  have hm := ubRows_may hu (ch_ok hc)
  rcases g with ⟨g1, g2, g3, g4, g5⟩ | ⟨g1, g2, ⟨g3, g4⟩ | ⟨g3, rs, g4, g5, g6⟩⟩
  · exact ⟨rows_inj g4 hr (pack_inj (g5.trans hp.symm)), g2, g1⟩
  · have := (UnpQ.det (Or.inl ⟨rfl, rfl, hm, hp⟩ : UnpQ l (ubRows u) 0 0) g4).2.2
    omega
  · have e : rs = ubRows u := pack_inj (g5.trans hp.symm)
    rcases g6 with ⟨_, g7⟩ | ⟨_, u', h1, h2, h3, h4⟩
    · exact absurd e (g7 u hu hr)
    · have : u' = u := rows_inj h2 hr (h3.symm.trans e)
      subst this
      omega
theorem ReadQ.det {l : List Int} {u v : Ub} {k j : Nat} {e f : Int} (hu : u.ok) (hv : v.ok) (h : ReadQ l u k e) (g : ReadQ l v j f) : u = v ∧ k = j ∧ e = f := by
  rcases h with ⟨h1, h2, h3, h4, h5⟩ | ⟨h1, h2, h3⟩
  · obtain ⟨a, b, c⟩ := ReadQ.yes hu h3 h4 h5 g
    exact ⟨a.symm, by omega, by omega⟩
  · rcases g with ⟨g1, g2, g3, g4, g5⟩ | ⟨g1, g2, g3⟩
    · obtain ⟨a, b, c⟩ := ReadQ.yes hv g3 g4 g5 (Or.inr ⟨h1, h2, h3⟩ : ReadQ l u k e)
      exact ⟨a, by omega, by omega⟩
    · refine ⟨h2.trans g2.symm, ?_⟩
      rcases h3 with ⟨h3, h4⟩ | ⟨h3, rs, h4, h5, h6⟩
      · rcases g3 with ⟨g3, g4⟩ | ⟨g3, ts, g4, g5, g6⟩
        · exact ⟨(UnpQ.det h4 g4).2.1, by omega⟩
        · have := (UnpQ.det h4 (Or.inl ⟨rfl, rfl, g4, g5⟩ : UnpQ l ts 0 0)).2.2
          omega
      · rcases g3 with ⟨g3, g4⟩ | ⟨g3, ts, g4, g5, g6⟩
        · have := (UnpQ.det g4 (Or.inl ⟨rfl, rfl, h4, h5⟩ : UnpQ l rs 0 0)).2.2
          omega
        · refine ⟨by omega, ?_⟩
          have e : rs = ts := pack_inj (h5.trans g5.symm)
          subst e
          rcases h6 with ⟨h6, h7⟩ | ⟨h6, x, x1, x2, x3, x4⟩
          · rcases g6 with ⟨g6, g7⟩ | ⟨g6, y, y1, y2, y3, y4⟩
            · omega
            · exact absurd y3 (h7 y y1 y2)
          · rcases g6 with ⟨g6, g7⟩ | ⟨g6, y, y1, y2, y3, y4⟩
            · exact absurd x3 (g7 x x1 x2)
            · omega
def vJ (rs : List Rw) (j : Nat) : List Int := (rs.getD j rw0).2
def nrV (l : List Int) : Int := rdV (Lib.bytesOf l) 2147483647
def nrE (l : List Int) : Int := rdE (Lib.bytesOf l) 2147483647
theorem bytes_back {s : List Int} (h : Byt8 s) : (Lib.bytesOf s).map (fun b : UInt8 => (b.toNat : Int)) = s := by
  have := sB_bS h
  unfold sB bS at this
  simpa [Lib.bytesOf] using this
theorem nr_yes {s : List Int} (hs : Byt8 s) (h : nrE s = 0) : dgL (nrV s).toNat = s ∧ 0 ≤ nrV s ∧ nrV s ≤ 2147483647 := by
  unfold nrE at h
  unfold nrV
  by_cases hk : rdOk (Lib.bytesOf s) 2147483647
  · obtain ⟨e1, e2⟩ := rd_ok hk
    rw [e1]
    refine ⟨?_, by omega, hk.2⟩
    rw [Int.toNat_natCast]
    unfold dgL
    rw [canon_dec _ _ rfl hk.1, bytes_back hs]
  · obtain ⟨e1, e2⟩ := rd_no hk
    omega
theorem nr_dg {x : Int} (h0 : 0 ≤ x) (h1 : x ≤ 2147483647) : nrE (dgL x.toNat) = 0 := by
  obtain ⟨c1, c2, _⟩ := dec_canon x.toNat
  have hk : rdOk (Lib.bytesOf (dgL x.toNat)) 2147483647 := by rw [bytesOf_dgL]; exact ⟨c1, by omega⟩
  exact (rd_ok hk).2
def docU (rs : List Rw) : Ub := ⟨nrV (vJ rs 0), nrV (vJ rs 1), nrV (vJ rs 2), nrV (vJ rs 5), vJ rs 4, vJ rs 3⟩
theorem six_rows {rs : List Rw} (hl : rs.length = 6) : rs = [rs.getD 0 rw0, rs.getD 1 rw0, rs.getD 2 rw0, rs.getD 3 rw0, rs.getD 4 rw0, rs.getD 5 rw0] := by
  match rs, hl with
  | [a, b, c, d, e, f], _ => rfl
theorem vJ_byt {rs : List Rw} (hb : ∀ r ∈ rs, Byt8 r.2) (j : Nat) : Byt8 (vJ rs j) := by
  unfold vJ
  by_cases h : j < rs.length
  · have e : rs.getD j rw0 = rs[j] := by simp [List.getD, List.getElem?_eq_getElem h]
    rw [e]
    exact hb _ (List.getElem_mem h)
  · have e : rs.getD j rw0 = rw0 := by simp [List.getD, List.getElem?_eq_none (by omega : rs.length ≤ j)]
    rw [e]
    intro x hx
    cases hx
theorem doc_tab {rs : List Rw} (hl : rs.length = 6) (hn : ∀ j, j < 6 → (rs.getD j rw0).1 = nmJ j) (hb : ∀ r ∈ rs, Byt8 r.2) (e0 : nrE (vJ rs 0) = 0) (e1 : nrE (vJ rs 1) = 0) (e2 : nrE (vJ rs 2) = 0) (e5 : nrE (vJ rs 5) = 0) (l3 : (vJ rs 3).length = 32) (l4 : (vJ rs 4).length = 32) :
    (docU rs).ok ∧ RB (docU rs) ∧ rs = ubRows (docU rs) := by
  obtain ⟨a0, b0, c0⟩ := nr_yes (vJ_byt hb 0) e0
  obtain ⟨a1, b1, c1⟩ := nr_yes (vJ_byt hb 1) e1
  obtain ⟨a2, b2, c2⟩ := nr_yes (vJ_byt hb 2) e2
  obtain ⟨a5, b5, c5⟩ := nr_yes (vJ_byt hb 5) e5
  refine ⟨⟨⟨l4, vJ_byt hb 4⟩, l3, vJ_byt hb 3⟩, ⟨⟨b0, c0⟩, ⟨b1, c1⟩, ⟨b2, c2⟩, b5, c5⟩, ?_⟩
  have key : ∀ j, j < 6 → rs.getD j rw0 = (nmJ j, vJ rs j) := fun j hj => Prod.ext (hn j hj) rfl
  have h := six_rows hl
  rw [key 0 (by omega), key 1 (by omega), key 2 (by omega), key 3 (by omega), key 4 (by omega), key 5 (by omega)] at h
  rw [h]
  simp only [ubRows, docU]
  have q : ∀ j, j < 6 → vJ [(nmJ 0, vJ rs 0), (nmJ 1, vJ rs 1), (nmJ 2, vJ rs 2), (nmJ 3, vJ rs 3), (nmJ 4, vJ rs 4), (nmJ 5, vJ rs 5)] j = vJ rs j := six rfl rfl rfl rfl rfl rfl
  rw [q 0 (by omega), q 1 (by omega), q 2 (by omega), q 3 (by omega), q 4 (by omega), q 5 (by omega), a0, a1, a2, a5]
  rfl
theorem doc_names {u : Ub} : ∀ j, j < 6 → ((ubRows u).getD j rw0).1 = nmJ j := fun j hj => by rw [rows_at u j hj]
theorem doc_vals {u : Ub} (hu : u.ok) (hr : RB u) : nrE (vJ (ubRows u) 0) = 0 ∧ nrE (vJ (ubRows u) 1) = 0 ∧ nrE (vJ (ubRows u) 2) = 0 ∧ nrE (vJ (ubRows u) 5) = 0 ∧ (vJ (ubRows u) 3).length = 32 ∧ (vJ (ubRows u) 4).length = 32 :=
  ⟨nr_dg hr.1.1 hr.1.2, nr_dg hr.2.1.1 hr.2.1.2, nr_dg hr.2.2.1.1 hr.2.2.1.2, nr_dg hr.2.2.2.1 hr.2.2.2.2, hu.2.1, hu.1.1⟩
def ubI (u : Ub) (i : Nat) : Ub := ⟨u.k, u.n, u.g, u.z, u.a.take i ++ List.replicate (32 - i) 0, u.b.take i ++ List.replicate (32 - i) 0⟩
theorem ubI_zero (u : Ub) : ubI u 0 = ⟨u.k, u.n, u.g, u.z, zeros32', zeros32'⟩ := by simp [ubI, zeros32']
theorem ubI_all {u : Ub} (hu : u.ok) : ubI u 32 = u := by
  have h1 : u.a.take 32 = u.a := List.take_of_length_le (by rw [hu.1.1]; exact Nat.le_refl _)
  have h2 : u.b.take 32 = u.b := List.take_of_length_le (by rw [hu.2.1]; exact Nat.le_refl _)
  simp [ubI, h1, h2]
theorem lay_step {l : List Int} (hl : l.length = 32) {i : Nat} (hi : i < 32) : (l.take i ++ List.replicate (32 - i) 0).set i (l.getD i 0) = l.take (i + 1) ++ List.replicate (32 - (i + 1)) 0 := by
  have h1 : (l.take i).length = i := by rw [List.length_take]; omega
  rw [List.set_append_right _ _ (by omega), h1, Nat.sub_self, show 32 - i = (32 - (i + 1)) + 1 by omega, List.replicate_succ, List.set_cons_zero, List.take_succ_eq_append_getElem (by omega : i < l.length)]
  have e : l.getD i 0 = l[i] := by simp [List.getD, List.getElem?_eq_getElem (by omega : i < l.length)]
  rw [e, List.append_assoc]
  rfl
theorem lay_len {l : List Int} (hl : l.length = 32) {i : Nat} (hi : i ≤ 32) : (l.take i ++ List.replicate (32 - i) 0).length = 32 := by simp; omega
theorem lay_byt {l : List Int} (hl : Byt8 l) (i : Nat) : Byt8 (l.take i ++ List.replicate (32 - i) 0) := by
  intro x hx
  rcases List.mem_append.1 hx with h | h
  · exact hl x (List.mem_of_mem_take h)
  · have := (List.mem_replicate.1 h).2
    omega
theorem ubI_ok {u : Ub} (hu : u.ok) {i : Nat} (hi : i ≤ 32) : (ubI u i).ok := ⟨⟨lay_len hu.1.1 hi, lay_byt hu.1.2 i⟩, lay_len hu.2.1 hi, lay_byt hu.2.2 i⟩
theorem ubI_step {u : Ub} (hu : u.ok) {i : Nat} (hi : i < 32) : ((ubA (ubI u i)).setIfInBounds (36 + i) (.int .u8 (u.b.getD i 0))).setIfInBounds (4 + i) (.int .u8 (u.a.getD i 0)) = ubA (ubI u (i + 1)) := by
  have ha := lay_step hu.1.1 hi
  have hb := lay_step hu.2.1 hi
  have h1 : (u.a.take i ++ List.replicate (32 - i) 0).length = 32 := lay_len hu.1.1 (by omega)
  unfold ubA ubL ubI
  simp only
  rw [← ha, ← hb]
  generalize u.a.take i ++ List.replicate (32 - i) 0 = A at h1
  generalize u.b.take i ++ List.replicate (32 - i) 0 = B
  generalize u.a.getD i 0 = x
  generalize u.b.getD i 0 = y
  rw [List.setIfInBounds_toArray, List.setIfInBounds_toArray]
  congr 1
  rw [show 36 + i = (32 + i) + 4 by omega, show 4 + i = i + 4 by omega]
  simp only [List.set_cons_succ]
  congr 4
  rw [List.set_append_right _ _ (by rw [List.length_map]; omega), List.length_map, h1, show 32 + i - 32 = i by omega, List.set_append_left _ _ (by rw [List.length_map]; omega), List.map_set, List.map_set]
theorem canon_len {l : List UInt8} (h : Canon l) (hn : valD l < 10000000000000000000) : l.length ≤ 19 := by
  by_cases hl : 1 < l.length
  · have h3 := valD_pos h (Or.inl hl)
    apply Classical.byContradiction
    intro hc
    have h4 : (10 : Nat) ^ 19 ≤ 10 ^ (l.length - 1) := Nat.pow_le_pow_right (by decide) (by omega)
    have h5 : (10 : Nat) ^ 19 = 10000000000000000000 := by decide
    omega
  · omega
theorem dec_len (n : Nat) (hn : n < 10000000000000000000) : (Lib.decDigits n).length ≤ 19 := by
  obtain ⟨h1, h2, _⟩ := dec_canon n
  exact canon_len h1 (by omega)
theorem conv_one (w : World) (c : Int) (hc : 0 ≤ c ∧ c < 256) : (convert 26 9 (.slice (some ⟨w.heap.size, 0, none⟩) 1 1)).run Tryd.prog (w.alloc (.cells #[.int .u8 c] 5)) = .ok (.string (bS [c])) (w.alloc (.cells #[.int .u8 c] 5)) := by
  apply conv_str (l := [c])
  refine ⟨⟨_, 1, rfl, by simp, by decide, (fun e => by cases e), fun _ => ⟨w.heap.size, 0, rfl, fun j hj => ?_⟩⟩, by intro x hx; simp at hx; subst hx; exact hc⟩
  simp at hj
  subst hj
  simp
set_option maxRecDepth 100000 in
set_option maxHeartbeats 2000000 in
theorem rnumber_any (w : World) (x : Int) (h0 : -9223372036854775808 ≤ x) (h1 : x ≤ 9223372036854775807) :
    Calls Tryd.prog 48 #[.int .i64 x] w fun e w' => e = .returned (.tuple #[.string (nS x), .int .i64 (nE x)]) ∧ Below w.heap.size w w' := by
  by_cases h : x < 0
  · have e1 := hid (show nS x = ⟨#[]⟩ by unfold nS; rw [if_pos h])
    have e2 := hid (show nE x = 102 by unfold nE; rw [if_pos h])
    go_enter Tryd.func48, Tryd.ntmps48
    go_wp2
    go_ret2
    exact ⟨by rw [e1.out, e2.out]; rfl, Below.refl _ _⟩
  · have e1 := hid (show nS x = ⟨(Lib.decDigits x.toNat).toArray⟩ by unfold nS; rw [if_neg h])
    have e2 := hid (show nE x = 0 by unfold nE; rw [if_neg h])
    obtain ⟨n, rfl⟩ := Int.eq_ofNat_of_zero_le (show 0 ≤ x by omega)
    rw [Int.toNat_natCast] at e1
    have hdl := dec_len n (by omega)
    obtain ⟨D, HD⟩ : ∃ D, Hid (Lib.decDigits n = D) := ⟨_, rfl⟩
    rw [HD.out] at e1 hdl
    go_enter Tryd.func48, Tryd.ntmps48
    go_wp2
    go_loopw [0, 4] (fun x t wr => ∃ X : Nat, ∃ T : ByteArray, x = .int .i64 (X : Int) ∧ t = .string T ∧ X ≤ n ∧ Hid (Lib.decDigits X ++ T.data.toList = D) ∧ Hid (Below w.heap.size w wr)) (fun x _ _ => (intOf x).toNat)
    case atStart => exact ⟨n, ⟨#[]⟩, rfl, rfl, Nat.le_refl _, hid (by rw [HD.out]; simp), Below.refl _ _⟩
    case round =>
      obtain ⟨X, T, rfl, rfl, hX, HE, B⟩ := hrel
      have hTs : T.size ≤ 19 := by
        have e := congrArg List.length HE.out
        rw [List.length_append, ← Lib.size_eq] at e
        have h2 : 0 < (Lib.decDigits X).length := by
          rcases Nat.eq_zero_or_pos (Lib.decDigits X).length with q | q
          · exact absurd (List.length_eq_zero_iff.1 q) (dec_canon X).1.1
          · exact q
        omega
      by_cases h10 : X < 10
      · have hcv := conv_one wr (48 + (X : Int)) (by omega)
        have h2 : (bS [48 + (X : Int)]).size = 1 := by rw [bS_size]; rfl
        have n1 : ¬ (9223372036854775807 < (bS [48 + (X : Int)]).size + T.size) := by rw [h2]; omega
        have hfin : Hid (bS [48 + (X : Int)] ++ T = ⟨D.toArray⟩) := by
          refine hid (ByteArray.ext ?_)
          rw [← HE.out, Lib.decDigits, dif_pos h10]
          have : (bS [48 + (X : Int)]) = ⟨#[UInt8.ofNat (48 + X)]⟩ := by
            unfold bS
            simp only [List.map_cons, List.map_nil]
            congr 3
          rw [this]
          simp
        obtain ⟨O, HO⟩ : ∃ O, Hid (bS [48 + (X : Int)] = O) := ⟨_, rfl⟩
        rw [HO.out] at hcv h2 n1 hfin
        go_wp2
        go_ret2
        exact ⟨by rw [e1.out, e2.out, ← hfin.out]; rfl, B.out.trans ((Below.refl _ wr).alloc (Nat.le_refl _) _ |>.mono B.out.size)⟩
      · have hcv := conv_one wr (48 + (X : Int) % 10) (by omega)
        have h2 : (bS [48 + (X : Int) % 10]).size = 1 := by rw [bS_size]; rfl
        have n1 : ¬ (9223372036854775807 < (bS [48 + (X : Int) % 10]).size + T.size) := by rw [h2]; omega
        have hfin : Hid (Lib.decDigits (X / 10) ++ (bS [48 + (X : Int) % 10] ++ T).data.toList = D) := by
          refine hid ?_
          have : (bS [48 + (X : Int) % 10]) = ⟨#[UInt8.ofNat (48 + X % 10)]⟩ := by
            unfold bS
            simp only [List.map_cons, List.map_nil]
            rw [show (48 + (X : Int) % 10).toNat = 48 + X % 10 by omega]
          rw [← HE.out, this, Lib.decDigits.eq_def X, dif_neg h10]
          simp
        obtain ⟨O, HO⟩ : ∃ O, Hid (bS [48 + (X : Int) % 10] = O) := ⟨_, rfl⟩
        rw [HO.out] at hcv h2 n1 hfin
        have hdv := hid (show (X : Int) / 10 = ((X / 10 : Nat) : Int) by omega)
        go_wp2
        exact ⟨⟨X / 10, O ++ T, by rw [hdv.out], rfl, by omega, hfin, B.out.trans ((Below.refl _ wr).alloc (Nat.le_refl _) _ |>.mono B.out.size)⟩, by simp [intOf]; omega⟩
theorem idx_u8 (w : World) (s : ByteArray) (i : Nat) (h : i < s.size) : (Instr.index 9 (.string s) (.int .i64 (i : Int))).run Tryd.prog w = .ok (.int .u8 ((s.data.toList.getD i 0).toNat : Int)) w := by
  rw [idx_str w s i h]
  congr 2
  have h2 : i < s.data.toList.length := by rw [← Lib.size_eq]; exact h
  unfold sB
  simp [List.getD, List.getElem?_eq_getElem h2]
theorem rd_len {l : List UInt8} {most : Int} (h : rdOk l most) (hm : most ≤ 9223372036854775807) : l.length ≤ 19 := canon_len h.1 (by have := h.2; omega)
theorem getD_u8 {l : List UInt8} {k : Nat} (h : k < l.length) : l.getD k 0 = l[k] := by simp [List.getD, List.getElem?_eq_getElem h]
set_option maxRecDepth 100000 in
set_option maxHeartbeats 4000000 in
theorem rread_any (w : World) (s : ByteArray) (most : Int) (hs : s.size ≤ 281474976710656) (hm0 : -9223372036854775808 ≤ most) (hm1 : most ≤ 9223372036854775807) :
    Calls Tryd.prog 46 #[.string s, .int .i64 most] w fun e w' => e = .returned (.tuple #[.int .i64 (rdV s.data.toList most), .int .i64 (rdE s.data.toList most)]) ∧ Below w.heap.size w w' := by
  have HI : Hid (∀ W i, i < s.size → (Instr.index 9 (.string s) (.int .i64 (i : Int))).run Tryd.prog W = .ok (.int .u8 ((s.data.toList.getD i 0).toNat : Int)) W) := hid fun W i h => idx_u8 W s i h
  have hll : s.data.toList.length = s.size := (Lib.size_eq s).symm
  obtain ⟨l, Hl⟩ : ∃ l, Hid (s.data.toList = l) := ⟨_, rfl⟩
  rw [Hl.out] at HI hll
  rw [Hl.out]
  have HLL := hid hll
  clear hll
  have NO : Hid (¬ rdOk l most → rdV l most = 0 ∧ rdE l most = 102) := hid rd_no
  by_cases h0 : s.size = 0
  · have E := hid (NO.out fun h => h.1.1 (List.length_eq_zero_iff.1 (by rw [HLL.out]; exact h0)))
    go_enter Tryd.func46, Tryd.ntmps46
    go_wp2
    go_ret2
    exact ⟨by rw [E.out.1, E.out.2]; rfl, Below.refl _ _⟩
  by_cases h19 : 19 < s.size
  · have E := hid (NO.out fun h => by have := rd_len h hm1; rw [HLL.out] at this; omega)
    go_enter Tryd.func46, Tryd.ntmps46
    go_wp2
    go_ret2
    exact ⟨by rw [E.out.1, E.out.2]; rfl, Below.refl _ _⟩
  have hx0 := HI.out w 0 (by omega)
  obtain ⟨c0, Hc0⟩ : ∃ c : Int, Hid (((l.getD 0 0).toNat : Int) = c) := ⟨_, rfl⟩
  rw [Hc0.out] at hx0
  have hx0' : (Instr.index 9 (.string s) (.int .i64 0)).run Tryd.prog w = .ok (.int .u8 c0) w := hx0
  clear hx0
  have Hhead : Hid (c0 = 48 ↔ l.head? = some 48) := by
    refine hid ?_
    have h1 : 0 < l.length := by rw [HLL.out]; omega
    have hg := getD_u8 h1
    have hh : l.head? = some (l.getD 0 0) := by rw [hg, List.head?_eq_getElem?, List.getElem?_eq_getElem h1]
    rw [hh, ← Hc0.out, Option.some.injEq]
    constructor
    · intro e
      apply UInt8.toNat_inj.1
      have : (48 : UInt8).toNat = 48 := rfl
      omega
    · intro e
      rw [e]
      rfl
  by_cases hz : 1 < s.size ∧ c0 = 48
  · have E := hid (NO.out fun h => h.1.2.2 (by rw [HLL.out]; exact hz.1) (Hhead.out.1 hz.2))
    obtain ⟨hz1, rfl⟩ := hz
    go_enter Tryd.func46, Tryd.ntmps46
    go_wp2
    go_ret2
    exact ⟨by rw [E.out.1, E.out.2]; rfl, Below.refl _ _⟩
  have HCN : Hid ((∀ c ∈ l, dig c) → Canon l) := by
    refine hid fun hd => ⟨fun e => h0 (by rw [← HLL.out, e]; rfl), hd, fun h1 e => hz ⟨by rw [← HLL.out]; exact h1, Hhead.out.2 e⟩⟩
  have b0 : ((s.size : Int) == 0) = false := by
    rw [beq_eq_false_iff_ne]
    omega
  have i19 : ¬ (19 < (s.size : Int)) := by omega
  have HZ : Hid (¬ (1 < s.size ∧ c0 = 48)) := hz
  clear hz
  by_cases h1s : 1 < s.size
  · have hc48 : (c0 == 48) = false := by
      rw [beq_eq_false_iff_ne]
      exact fun e => HZ.out ⟨h1s, e⟩
    have i1 : 1 < (s.size : Int) := by omega
    go_enter Tryd.func46, Tryd.ntmps46
    go_wp2
    go_loopw [6, 7] (fun x i wr => ∃ I : Nat, I ≤ s.size ∧ x = .int .u64 ((fD 0 (l.take I) : Nat) : Int) ∧ i = .int .i64 (I : Int) ∧ Hid (∀ c ∈ l.take I, dig c) ∧ wr = w) (fun _ i _ => s.size - (intOf i).toNat)
    case atStart => exact ⟨0, Nat.zero_le _, rfl, rfl, hid (by simp), rfl⟩
    case round =>
      obtain ⟨I, hI, rfl, rfl, HG, rfl⟩ := hrel
      by_cases hlt : I < s.size
      · have q1 := HI.out wr I hlt
        have hIl : I < l.length := by rw [HLL.out]; exact hlt
        have htk : l.take (I + 1) = l.take I ++ [l.getD I 0] := by rw [List.take_succ_eq_append_getElem hIl, getD_u8 hIl]
        have hF := fD_lt (l.take I) HG.out 0
        rw [List.length_take, Nat.min_eq_left (Nat.le_of_lt hIl), Nat.zero_add, Nat.one_mul] at hF
        have hP : (10 : Nat) ^ I ≤ 10 ^ 18 := Nat.pow_le_pow_right (by decide) (by omega)
        have hP2 : (10 : Nat) ^ 18 = 1000000000000000000 := by decide
        have hFb : fD 0 (l.take I) < 1000000000000000000 := by omega
        have hmem : l.getD I 0 ∈ l := by rw [getD_u8 hIl]; exact List.getElem_mem hIl
        have HNX : Hid (fD 0 (l.take (I + 1)) = fD 0 (l.take I) * 10 + ((l.getD I 0).toNat - 48)) := by rw [htk, fD_snoc]; exact rfl
        have hcl := (l.getD I 0).toNat_lt
        have HDG : Hid (dig (l.getD I 0) → ∀ c ∈ l.take (I + 1), dig c) := by
          refine hid fun hd c hc => ?_
          rw [htk] at hc
          rcases List.mem_append.1 hc with hc | hc
          · exact HG.out c hc
          · rw [List.mem_singleton.1 hc]; exact hd
        have HBD : Hid (¬ dig (l.getD I 0) → rdV l most = 0 ∧ rdE l most = 102) := hid fun hd => NO.out fun h => hd (h.1.2.1 _ hmem)
        obtain ⟨F, HF⟩ : ∃ F, Hid (fD 0 (l.take I) = F) := ⟨_, rfl⟩
        obtain ⟨G, HGG⟩ : ∃ G, Hid (fD 0 (l.take (I + 1)) = G) := ⟨_, rfl⟩
        rw [HF.out] at hFb HNX
        rw [HGG.out] at HNX
        rw [HF.out]
        unfold dig at HBD
        have HDG2 : Hid ((48 ≤ (l.getD I 0).toNat ∧ (l.getD I 0).toNat ≤ 57) → ∀ c ∈ l.take (I + 1), dig c) := hid fun h => HDG.out h
        obtain ⟨C, HC⟩ : ∃ C, Hid ((l.getD I 0).toNat = C) := ⟨_, rfl⟩
        rw [HC.out] at q1 HNX hcl HBD HDG2
        clear htk hF hP hP2 hmem hIl HDG
        by_cases hlo : C < 48
        · have E := hid (HBD.out (by omega))
          have hlo' : (C : Int) < 48 := by omega
          go_wp2
          go_ret2
          exact ⟨by rw [E.out.1, E.out.2]; rfl, Below.refl _ _⟩
        · by_cases hhi : 57 < C
          · have E := hid (HBD.out (by omega))
            have hlo' : ¬ (C : Int) < 48 := by omega
            have hhi' : (57 : Int) < C := by omega
            go_wp2
            go_ret2
            exact ⟨by rw [E.out.1, E.out.2]; rfl, Below.refl _ _⟩
          · have hlo' : ¬ (C : Int) < 48 := by omega
            have hhi' : ¬ (57 : Int) < C := by omega
            have HX : Hid (10 * (F : Int) + ((C : Int) - 48) = (G : Int)) := by
              refine hid ?_
              have := HNX.out
              omega
            have HG2 := hid (HDG2.out (by omega))
            go_wp2
            exact ⟨⟨I + 1, by omega, by rw [HGG.out, ← HX.out], by go_num, HG2, trivial⟩, by simp [intOf]; omega⟩
      · have htl : l.take I = l := List.take_of_length_le (by rw [HLL.out]; omega)
        have HCC : Hid (Canon l) := by
          refine hid (HCN.out ?_)
          have := HG.out
          rwa [htl] at this
        have hF := fD_lt l HCC.out.2.1 0
        have hP : (10 : Nat) ^ l.length ≤ 10 ^ 19 := Nat.pow_le_pow_right (by decide) (by rw [HLL.out]; omega)
        have hP2 : (10 : Nat) ^ 19 = 10000000000000000000 := by decide
        rw [Nat.zero_add, Nat.one_mul] at hF
        have hFb : fD 0 l < 10000000000000000000 := by omega
        rw [htl]
        have HOK : Hid (∀ v : Nat, fD 0 l = v → (v : Int) ≤ most → rdV l most = v ∧ rdE l most = 0) := by
          refine hid fun v hv h => ?_
          have hok : rdOk l most := ⟨HCC.out, by unfold valD; omega⟩
          obtain ⟨e1, e2⟩ := rd_ok hok
          exact ⟨by rw [e1]; unfold valD; rw [hv], e2⟩
        have HBD : Hid (∀ v : Nat, fD 0 l = v → ¬ (v : Int) ≤ most → rdV l most = 0 ∧ rdE l most = 102) := by
          refine hid fun v hv h => NO.out fun hr => h ?_
          have := hr.2
          unfold valD at this
          omega
        obtain ⟨F, HF⟩ : ∃ F, Hid (fD 0 l = F) := ⟨_, rfl⟩
        rw [HF.out] at hFb
        rw [HF.out]
        clear htl hF hP hP2
        by_cases hmn : most < 0
        · have E := hid (HBD.out F HF.out (by omega))
          go_wp2
          go_ret2
          exact ⟨by rw [E.out.1, E.out.2]; rfl, Below.refl _ _⟩
        · by_cases hle : (F : Int) ≤ most
          · have E := hid (HOK.out F HF.out hle)
            have hgt : ¬ most < (F : Int) := by omega
            go_wp2
            go_ret2
            exact ⟨by rw [E.out.1, E.out.2]; rfl, Below.refl _ _⟩
          · have E := hid (HBD.out F HF.out hle)
            have hgt : most < (F : Int) := by omega
            go_wp2
            go_ret2
            exact ⟨by rw [E.out.1, E.out.2]; rfl, Below.refl _ _⟩
  · have i1 : ¬ 1 < (s.size : Int) := by omega
    go_enter Tryd.func46, Tryd.ntmps46
    go_wp2
    go_loopw [6, 7] (fun x i wr => ∃ I : Nat, I ≤ s.size ∧ x = .int .u64 ((fD 0 (l.take I) : Nat) : Int) ∧ i = .int .i64 (I : Int) ∧ Hid (∀ c ∈ l.take I, dig c) ∧ wr = w) (fun _ i _ => s.size - (intOf i).toNat)
    case atStart => exact ⟨0, Nat.zero_le _, rfl, rfl, hid (by simp), rfl⟩
    case round =>
      obtain ⟨I, hI, rfl, rfl, HG, rfl⟩ := hrel
      by_cases hlt : I < s.size
      · have q1 := HI.out wr I hlt
        have hIl : I < l.length := by rw [HLL.out]; exact hlt
        have htk : l.take (I + 1) = l.take I ++ [l.getD I 0] := by rw [List.take_succ_eq_append_getElem hIl, getD_u8 hIl]
        have hF := fD_lt (l.take I) HG.out 0
        rw [List.length_take, Nat.min_eq_left (Nat.le_of_lt hIl), Nat.zero_add, Nat.one_mul] at hF
        have hP : (10 : Nat) ^ I ≤ 10 ^ 18 := Nat.pow_le_pow_right (by decide) (by omega)
        have hP2 : (10 : Nat) ^ 18 = 1000000000000000000 := by decide
        have hFb : fD 0 (l.take I) < 1000000000000000000 := by omega
        have hmem : l.getD I 0 ∈ l := by rw [getD_u8 hIl]; exact List.getElem_mem hIl
        have HNX : Hid (fD 0 (l.take (I + 1)) = fD 0 (l.take I) * 10 + ((l.getD I 0).toNat - 48)) := by rw [htk, fD_snoc]; exact rfl
        have hcl := (l.getD I 0).toNat_lt
        have HDG : Hid (dig (l.getD I 0) → ∀ c ∈ l.take (I + 1), dig c) := by
          refine hid fun hd c hc => ?_
          rw [htk] at hc
          rcases List.mem_append.1 hc with hc | hc
          · exact HG.out c hc
          · rw [List.mem_singleton.1 hc]; exact hd
        have HBD : Hid (¬ dig (l.getD I 0) → rdV l most = 0 ∧ rdE l most = 102) := hid fun hd => NO.out fun h => hd (h.1.2.1 _ hmem)
        obtain ⟨F, HF⟩ : ∃ F, Hid (fD 0 (l.take I) = F) := ⟨_, rfl⟩
        obtain ⟨G, HGG⟩ : ∃ G, Hid (fD 0 (l.take (I + 1)) = G) := ⟨_, rfl⟩
        rw [HF.out] at hFb HNX
        rw [HGG.out] at HNX
        rw [HF.out]
        unfold dig at HBD
        have HDG2 : Hid ((48 ≤ (l.getD I 0).toNat ∧ (l.getD I 0).toNat ≤ 57) → ∀ c ∈ l.take (I + 1), dig c) := hid fun h => HDG.out h
        obtain ⟨C, HC⟩ : ∃ C, Hid ((l.getD I 0).toNat = C) := ⟨_, rfl⟩
        rw [HC.out] at q1 HNX hcl HBD HDG2
        clear htk hF hP hP2 hmem hIl HDG
        by_cases hlo : C < 48
        · have E := hid (HBD.out (by omega))
          have hlo' : (C : Int) < 48 := by omega
          go_wp2
          go_ret2
          exact ⟨by rw [E.out.1, E.out.2]; rfl, Below.refl _ _⟩
        · by_cases hhi : 57 < C
          · have E := hid (HBD.out (by omega))
            have hlo' : ¬ (C : Int) < 48 := by omega
            have hhi' : (57 : Int) < C := by omega
            go_wp2
            go_ret2
            exact ⟨by rw [E.out.1, E.out.2]; rfl, Below.refl _ _⟩
          · have hlo' : ¬ (C : Int) < 48 := by omega
            have hhi' : ¬ (57 : Int) < C := by omega
            have HX : Hid (10 * (F : Int) + ((C : Int) - 48) = (G : Int)) := by
              refine hid ?_
              have := HNX.out
              omega
            have HG2 := hid (HDG2.out (by omega))
            go_wp2
            exact ⟨⟨I + 1, by omega, by rw [HGG.out, ← HX.out], by go_num, HG2, trivial⟩, by simp [intOf]; omega⟩
      · have htl : l.take I = l := List.take_of_length_le (by rw [HLL.out]; omega)
        have HCC : Hid (Canon l) := by
          refine hid (HCN.out ?_)
          have := HG.out
          rwa [htl] at this
        have hF := fD_lt l HCC.out.2.1 0
        have hP : (10 : Nat) ^ l.length ≤ 10 ^ 19 := Nat.pow_le_pow_right (by decide) (by rw [HLL.out]; omega)
        have hP2 : (10 : Nat) ^ 19 = 10000000000000000000 := by decide
        rw [Nat.zero_add, Nat.one_mul] at hF
        have hFb : fD 0 l < 10000000000000000000 := by omega
        rw [htl]
        have HOK : Hid (∀ v : Nat, fD 0 l = v → (v : Int) ≤ most → rdV l most = v ∧ rdE l most = 0) := by
          refine hid fun v hv h => ?_
          have hok : rdOk l most := ⟨HCC.out, by unfold valD; omega⟩
          obtain ⟨e1, e2⟩ := rd_ok hok
          exact ⟨by rw [e1]; unfold valD; rw [hv], e2⟩
        have HBD : Hid (∀ v : Nat, fD 0 l = v → ¬ (v : Int) ≤ most → rdV l most = 0 ∧ rdE l most = 102) := by
          refine hid fun v hv h => NO.out fun hr => h ?_
          have := hr.2
          unfold valD at this
          omega
        obtain ⟨F, HF⟩ : ∃ F, Hid (fD 0 l = F) := ⟨_, rfl⟩
        rw [HF.out] at hFb
        rw [HF.out]
        clear htl hF hP hP2
        by_cases hmn : most < 0
        · have E := hid (HBD.out F HF.out (by omega))
          go_wp2
          go_ret2
          exact ⟨by rw [E.out.1, E.out.2]; rfl, Below.refl _ _⟩
        · by_cases hle : (F : Int) ≤ most
          · have E := hid (HOK.out F HF.out hle)
            have hgt : ¬ most < (F : Int) := by omega
            go_wp2
            go_ret2
            exact ⟨by rw [E.out.1, E.out.2]; rfl, Below.refl _ _⟩
          · have E := hid (HBD.out F HF.out hle)
            have hgt : most < (F : Int) := by omega
            go_wp2
            go_ret2
            exact ⟨by rw [E.out.1, E.out.2]; rfl, Below.refl _ _⟩
end Go.Proofs.YtklklldmhoofnaaDoor
