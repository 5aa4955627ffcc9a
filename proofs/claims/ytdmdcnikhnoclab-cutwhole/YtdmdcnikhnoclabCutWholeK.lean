/- The law CutWhole, walked, where there is a shape. -/
import Derived.Test.YtdmdcnikhnoclabCutWholeW
set_option linter.unusedVariables false
set_option linter.unusedSimpArgs false
namespace Go.Proofs.Ytdmdcnikhnoclab
open Go Go.RowKit Go.Shelf
attribute [local go_sem] Oper.semAt_some

theorem callR {P : Program} {lp n : Nat} {f : FuncId} {args : Array Value} {w : World} {R : Ending → World → Prop} (h : Calls P f args w R) : CallsIn (Fence.wide.inRound lp) n P f args w R := CallsIn.inRound lp (callsIn_wide.2 h)
theorem wpListIn_append_HB {F : Fence} {d : Nat} {w : World} {ops : Array Oper} {rest : List Oper} {o : Oper} {a : Act} {Q : Exit → Act → World → Prop} (hgd : o.guard = none) (s x : Operand)
    (ho : o.op = .call { callee := .builtin .append, args := #[s, x], argTypes := #[26, 26] })
    (base : Nat) (v : Value) (n : Nat) (xs : List Value) (hs : a.eval s = v) (hown : w.ownsRow base 5 1 v n xs)
    (u : Value) (l : List Int) (hx : a.eval x = u) (hu : HB w u l) (hl1 : 1 ≤ l.length) (hbytes : n + l.length ≤ 140737488355328) (hbase : base ≤ w.heap.size)
    (h : ∀ v' w', w'.ownsRow base 5 1 v' (n + l.length) (xs ++ l.map (Value.int .u8)) → w.grownBy w' v.ownBlock → wpListIn F d Try.prog ops Q rest (a.put o.dst v') w') : wpListIn F d Try.prog ops Q (o :: rest) a w := by
  obtain ⟨i0, hi, hz0, hz1, hz2⟩ := info_parts info_u8
  obtain ⟨b, off, c, rfl, hlc, hm, hcell⟩ := hu.ne (by omega)
  refine wpListIn_append_own w hgd s x 26 ho base 5 i0 (.int .u8 0) 1 1 Try.underlying26 hi hz0 hz1 hz2 rfl (by decide) v n xs hs hown ⟨b, off, none⟩ l.length c (l.map (Value.int .u8)) hx (by simp) ?_ ?_ (by unfold maxLen; omega) (by omega) hbase (fun v' w' h1 h2 _ => h v' w' h1 h2)
  · intro j y hj
    have hjn : j < l.length := by
      have := (List.getElem?_eq_some_iff.1 hj).1
      simpa using this
    rw [Go.WideShapes.add_plain, hcell j hjn]
    have e : (l.map (Value.int .u8))[j]? = some (Value.int .u8 (l.getD j 0)) := by simp [List.getD, List.getElem?_eq_getElem hjn]
    rw [e] at hj
    exact hj
  · intro u hu; obtain ⟨x, _, rfl⟩ := List.mem_map.1 hu; rfl
/-- The bytes of the first j segments. -/
def outL (l : List Int) (s j : Nat) : List Int := l.take (j * s)
set_option maxRecDepth 100000 in
set_option maxHeartbeats 16000000 in
theorem whole_ok (w : World) (kk : Nat) (n g h : Int) (p : Option Addr) (ls cs s : Nat) (v : Value) (l : List Int) (hv : HB w v l) (he : shpE kk n g ls l.length = 0) (hs : (kk : Int) * upI g kk = (s : Int)) :
    Calls Try.prog 5 #[prV kk n g h (.slice p ls cs), v] w fun e w' => e = .returned (.bool true) ∧ Below w.heap.size w w' := by
  have HV := hid hv
  obtain ⟨pb, cb, rfl, _, _⟩ := hv.open
  clear hv
  have eT : shpT kk n g ls l.length = shR kk n s l.length := by rw [shpT, if_pos he, hs]
  have hok := shp_okS he
  rw [hs] at hok
  obtain ⟨hs1, hs2, hk1, hk2, hl1, hl2, hN, hN5, hseg⟩ := seg_facts (l := l) (s := s) (kk := kk) hok rfl rfl rfl
  have hft : Ft kk n s l.length (upI l.length s) (tlI l.length s) ((s : Int) / kk) (upI (tlI l.length s) kk) := ⟨hok, rfl⟩
  obtain ⟨z, HZ⟩ : ∃ z : Int, Hid ((l.length : Int) = z) := ⟨_, rfl⟩
  obtain ⟨e, HE⟩ : ∃ e : Int, Hid (upI l.length s = e) := ⟨_, rfl⟩
  obtain ⟨f, HF⟩ : ∃ f : Int, Hid (tlI l.length s = f) := ⟨_, rfl⟩
  obtain ⟨b, HBq⟩ : ∃ b : Int, Hid ((s : Int) / kk = b) := ⟨_, rfl⟩
  obtain ⟨q, HQ⟩ : ∃ q : Int, Hid (upI f kk = q) := ⟨_, rfl⟩
  rw [HE.out, HF.out, HBq.out, HQ.out] at hft hseg
  rw [HE.out] at hN
  have HNN := hid hN
  have HN5 := hid hN5
  clear hN hN5
  have HFT := hid hft
  have HSEG := hid hseg
  have HFB : Hid (ftB kk n s l.length e f b q = true) := decide_eq_true hft
  have CS : Hid (∀ w, Calls Try.prog 16 #[.agg #[.int .i64 (kk : Int), .int .i64 n, .int .i64 g, .int .i64 h, .slice p ls cs], .int .i64 (l.length : Int)] w fun r w' => r = .returned (.tuple #[.agg #[.int .i64 (kk : Int), .int .i64 n, .int .i64 (s : Int), .int .i64 (l.length : Int), .int .i64 e, .int .i64 f, .int .i64 b, .int .i64 q], .int .i64 0]) ∧ Below w.heap.size w w') := fun w => by
    have := shape_any w kk n g h l.length p ls cs
    rw [he, eT] at this
    simp only [shR] at this
    rw [HE.out, HF.out, HBq.out, HQ.out] at this
    exact this
  have CZ : Hid (∀ w (j : Nat), Calls Try.prog 19 #[.agg #[.int .i64 (kk : Int), .int .i64 n, .int .i64 (s : Int), .int .i64 (l.length : Int), .int .i64 e, .int .i64 f, .int .i64 b, .int .i64 q], .int .i64 (j : Int)] w fun r w' => r = .returned (.tuple #[.int .i64 (szV true e j s f), .int .i64 (szE true e j)]) ∧ Below w.heap.size w w') := fun w j => by
    have := segsize_any w kk n s l.length e f b q j
    rwa [HFB.out] at this
  have CB : Hid (∀ w (j : Nat), Calls Try.prog 20 #[.agg #[.int .i64 (kk : Int), .int .i64 n, .int .i64 (s : Int), .int .i64 (l.length : Int), .int .i64 e, .int .i64 f, .int .i64 b, .int .i64 q], .int .i64 (j : Int)] w fun r w' => r = .returned (.tuple #[.int .i64 (szV true e j b q), .int .i64 (szE true e j)]) ∧ Below w.heap.size w w') := fun w j => by
    have := blocksize_any w kk n s l.length e f b q j
    rwa [HFB.out] at this
  have CG : Hid (∀ w, Below w.heap.size w w → HB w (.slice pb l.length cb) l → Calls Try.prog 23 #[.agg #[.int .i64 (kk : Int), .int .i64 n, .int .i64 (s : Int), .int .i64 (l.length : Int), .int .i64 e, .int .i64 f, .int .i64 b, .int .i64 q], .slice pb l.length cb] w fun r w' => ∃ hv b5 b3, r = .returned (.func (.func 42) #[] #[.pointer (some ⟨b5, 0, none⟩), .pointer (some ⟨b3, 0, none⟩)]) ∧ PcBox w' hv b5 b3 l s ∧ (∀ i, pcD hv b5 b3 i → w.heap.size ≤ i ∧ i < w'.heap.size) ∧ Below w.heap.size w w') := fun w _ hb => segments_ok w kk n l.length e f b q _ l s hb HFT.out rfl
  clear hft hseg eT he hs hok
  unfold prV
  refine (callsIn_wide (n := 3)).1 ?_
  refine callsIn_of_wp_marks Try.func5 rfl trivial (wpIn_wide.2 ?_) rfl
  simp only [Try.ntmps5, List.size_toArray, List.length_cons, List.length_nil, Nat.reduceAdd, Nat.reduceSub, Array.replicate_succ, Array.replicate_zero, List.push_toArray, List.append_toArray, List.nil_append, List.cons_append]
  go_wp2_with fail
  obtain ⟨W0, HW0⟩ : ∃ W0, Hid ((w.alloc (.cells #[.int .i64 (kk : Int), .int .i64 n, .int .i64 g, .int .i64 h, .slice p ls cs] 41)).alloc (.cells #[.bool false] 4) = W0) := ⟨_, rfl⟩
  rw [HW0.out]
  have B0 : Hid (Below w.heap.size w W0) := by rw [← HW0.out]; exact (below_alloc _ _).alloc (by simp) _
  have HS0 : Hid (W0.heap.size = w.heap.size + 2) := by rw [← HW0.out]; simp [Hid]
  have X0 : Hid (Boxed W0 (w.heap.size + 1) 4 (.bool false)) := by
    rw [← HW0.out]
    have := Boxed.new (w.alloc (.cells #[.int .i64 (kk : Int), .int .i64 n, .int .i64 g, .int .i64 h, .slice p ls cs] 41)) 4 (.bool false)
    show Boxed _ _ _ _
    simpa using this
  refine (CS.out W0).mono ?_
  rintro e1 w1 ⟨rfl, hB1⟩
  have X1 := hid (X0.out.kept (grown_below (r := none) hB1) (by simp))
  have B1 := hid (B0.out.trans (hB1.mono B0.out.size))
  have HS1 := hid hB1.size
  clear hB1 X0 B0
  go_wp2_with fail
  obtain ⟨W2, HW2⟩ : ∃ W2, Hid (w1.alloc (.cells #[.int .i64 (kk : Int), .int .i64 n, .int .i64 (s : Int), .int .i64 (l.length : Int), .int .i64 e, .int .i64 f, .int .i64 b, .int .i64 q] 37) = W2) := ⟨_, rfl⟩
  rw [HW2.out]
  have B2 : Hid (Below w.heap.size w W2) := by rw [← HW2.out]; exact B1.out.alloc B1.out.size _
  have X2 : Hid (Boxed W2 (w.heap.size + 1) 4 (.bool false)) := by rw [← HW2.out]; exact X1.out.alloc _
  have S2 : Hid (ShC W2 w1.heap.size kk n s l.length e f b q) := fun i v hi => by rw [← HW2.out, cell_of_row _ _ _ _ _ _ (heap_alloc_new w1 _)]; exact hi
  have HS2 : Hid (W2.heap.size = w1.heap.size + 1) := by rw [← HW2.out]; simp [Hid]
  clear X1 B1
  refine (awake_any W2).mono ?_
  rintro e1 w3 ⟨rfl, hB3⟩
  have X3 := hid (X2.out.kept (grown_below (r := none) hB3) (by simp))
  have S3 := hid (S2.out.below hB3)
  have B3 := hid (B2.out.trans (hB3.mono B2.out.size))
  have HS3 := hid hB3.size
  clear hB3 X2 B2 S2
  obtain ⟨W4, HW4⟩ : ∃ W4, Hid ((w3.alloc (.cells #[.slice none 0 0] 26)).alloc (.cells #[.int .i64 0] 3) = W4) := ⟨_, rfl⟩
  have B34 : Below w3.heap.size w3 W4 := by rw [← HW4.out]; exact (below_alloc _ _).alloc (by simp) _
  have S4 := hid (S3.out.below B34)
  have hc4 : ∀ i v, #[Value.int .i64 (kk : Int), .int .i64 n, .int .i64 (s : Int), .int .i64 (l.length : Int), .int .i64 e, .int .i64 f, .int .i64 b, .int .i64 q][i]? = some v → ((w3.alloc (.cells #[.slice none 0 0] 26)).alloc (.cells #[.int .i64 0] 3)).cell? ⟨w1.heap.size, i, none⟩ = some v := fun i v hi => by rw [HW4.out]; exact S4.out i v hi
  have c0 := hc4 0 _ rfl
  have c1 := hc4 1 _ rfl
  have c2 := hc4 2 _ rfl
  have c3 := hc4 3 _ rfl
  have c4 := hc4 4 _ rfl
  have c5 := hc4 5 _ rfl
  have c6 := hc4 6 _ rfl
  have c7 := hc4 7 _ rfl
  go_wp2_with fail
  clear c0 c1 c2 c3 c4 c5 c6 c7 hc4
  rw [HW4.out]
  have HS4 : Hid (W4.heap.size = w3.heap.size + 2) := by rw [← HW4.out]; simp [Hid]
  have X4 := hid (X3.out.kept (grown_below (r := none) B34) (by simp))
  have B4 := hid (B3.out.trans (B34.mono B3.out.size))
  have Y4 : Hid (Boxed W4 w3.heap.size 26 (.slice none 0 0)) := by rw [← HW4.out]; exact (Boxed.new _ _ _).alloc _
  have Z4 : Hid (Boxed W4 (w3.heap.size + 1) 3 (.int .i64 0)) := by
    rw [← HW4.out]
    have := Boxed.new (w3.alloc (.cells #[.slice none 0 0] 26)) 3 (.int .i64 0)
    show Boxed _ _ _ _
    simpa using this
  clear B34 X3 S3 B3
  refine (CG.out W4 (Below.refl _ _) (HV.out.below B4.out)).mono ?_
  rintro e1 w5 ⟨hv5, b5, b3, rfl, hbox, hD, hB5⟩
  have HBx := hid hbox
  have HD := hid hD
  have X5 := hid (X4.out.kept (grown_below (r := none) hB5) (by simp))
  have Y5 := hid (Y4.out.kept (grown_below (r := none) hB5) (by simp))
  have Z5 := hid (Z4.out.kept (grown_below (r := none) hB5) (by simp))
  have S5 := hid (S4.out.below hB5)
  have B5 := hid (B4.out.trans (hB5.mono B4.out.size))
  have HS5 := hid hB5.size
  clear hbox hD hB5 X4 Y4 Z4 S4
  go_wp2_with fail
  refine (wpIn_wide (n := 3)).1 ?_
  apply range_fit rfl (by decide) (gf := 42) (lb := #[.pointer (some ⟨b5, 0, none⟩), .pointer (some ⟨b3, 0, none⟩)]) rfl trivial (enters_of Try.func42 (by kernel_rfl) rfl)
    (pieces_iter (3 - 1) w5 hv5 b5 b3 l s hs1 (by omega) (by omega) (by omega) HBx.out (fun i hi => (HD.out i hi).2)) (KD.refl _ _) (fun i hi => (HD.out i hi).2) (fun _ _ => rfl)
    (fun j W => ∃ vo, Boxed W w3.heap.size 26 vo ∧ Boxed W (w3.heap.size + 1) 3 (.int .i64 (j : Int)) ∧ Boxed W (w.heap.size + 1) 4 (.bool false) ∧ ShC W w1.heap.size kk n s l.length e f b q ∧ W.ownsRow w5.heap.size 5 1 vo (outL l s j).length ((outL l s j).map (Value.int .u8)) ∧ Below w.heap.size w W ∧ w5.heap.size ≤ W.heap.size)
    (fun _ _ => False)
    (fun st A C row hs hg hr => by
      obtain ⟨vo, h1, h2, h3, h4, h5, h6, h7⟩ := hs
      refine ⟨vo, box_from h1 hg hr, box_from h2 hg hr, box_from h3 hg hr, fun i v hi => hg.cell (h4 i v hi) fun q => ?_, row_from h5 hg hr, below_from h6 (Nat.le_refl _) hg hr (by have := B5.out.size; omega), Nat.le_trans h7 hg.size⟩
      obtain ⟨q1, _⟩ := hr _ q.symm
      have := HS2.out
      have := HS3.out
      have := HS4.out
      have := HS5.out
      simp at q1
      omega)
    (fun _ _ _ _ hs _ _ => hs)
    (fun k v _ A C row hs hg hr => row_from hs hg hr)
    ⟨_, Y5.out, Z5.out, X5.out, S5.out, by simpa [outL] using World.ownsRow_nil _ _ _ _, B5.out, Nat.le_refl _⟩
  case hassign =>
    intro lp j v W K hK
    gi_wp2
    exact hK
  case hstop =>
    intro d c W _ h _
    exact h.elim
  case hdone =>
    rintro d W hd ⟨vo, y1, z1, x1, s1, o1, b1, w51⟩ hK
    have HO : Hid (outL l s (pcN l.length s) = l) := by
      show _ = _
      unfold outL
      refine List.take_of_length_le ?_
      have h1 : ¬ pcN l.length s < pcN l.length s := Nat.lt_irrefl _
      rw [pcN_iff hs1 (by omega)] at h1
      unfold pcAt at h1
      omega
    rw [HO.out] at o1
    obtain ⟨po, co, eo⟩ := own_slc o1
    have HBo := hid (HB.of_own o1 HV.out.2)
    obtain ⟨Nn, HNn⟩ : ∃ Nn, Hid (pcN l.length s = Nn) := ⟨_, rfl⟩
    rw [HNn.out] at z1
    have hN512 : Nn ≤ 512 := by rw [← HNn.out]; exact HN5.out
    have c4 := s1 4 _ rfl
    rw [HNN.out, HNn.out] at c4
    have cy := y1.cell
    have cz := z1.cell
    subst eo
    have CSm := sameBytes_any W _ _ l l HBo.out (HV.out.below b1)
    rw [decide_eq_true rfl] at CSm
    have HCS := hid CSm
    have XX := hid x1
    have BB := hid b1
    have HKD := hid hK
    have HS := hid (And.intro HS0.out (And.intro HS1.out (And.intro HS2.out (And.intro HS3.out (And.intro HS4.out HS5.out)))))
    clear y1 z1 x1 s1 o1 b1 hK CSm
    go_wp2_with fail
    refine HCS.out.mono ?_
    rintro e1 w6 ⟨rfl, hD6⟩
    have B6 := hid (hD6.below W.heap.size)
    clear hD6 HCS c4 cy cz
    go_wp2_with fail
    refine (awake_any w6).mono ?_
    rintro e1 w7 ⟨rfl, hB7⟩
    have B7 : Hid (Below W.heap.size W w7) := B6.out.trans (hB7.mono B6.out.size)
    have x7 := XX.out.kept (grown_below (r := none) B7.out) (by simp)
    have cx := x7.cell
    have fx := x7.frozen
    have hdW : d < W.heap.size := (Array.getElem?_eq_some_iff.1 HKD.out).1
    have K7 : w7.heap[d]? = some (.deferred (some [])) := (B7.out.block d hdW).trans HKD.out
    have hdd : w.heap.size + 1 < d := by
      obtain ⟨q0, q1, q2, q3, q4, q5⟩ := HS.out
      omega
    have K8 : Hid ((w7.setCell ⟨w.heap.size + 1, 0, none⟩ (.bool true)).heap[d]? = some (.deferred (some []))) := by
      show _ = _
      rw [heap_setCell_other _ _ _ _ (by simp; omega)]
      exact K7
    have CX : Hid ((w7.setCell ⟨w.heap.size + 1, 0, none⟩ (.bool true)).cell? ⟨w.heap.size + 1, 0, none⟩ = some (.bool true)) := World.cell?_setCell_same _ _ _ cx
    have B8 : Hid (Below w.heap.size w (w7.setCell ⟨w.heap.size + 1, 0, none⟩ (.bool true))) := (BB.out.trans (B7.out.mono BB.out.size)).setCell (p := ⟨w.heap.size + 1, 0, none⟩) (Nat.le_succ _) _
    have HDD := hid hdd
    clear hB7 x7 K7 B6 B7 hdW hdd
    go_wp2
    refine ⟨by simp, .inl ⟨_, _, rfl, run_takeDeferred K8.out, ?_⟩⟩
    refine ⟨_, results_bool rfl _ _ (w.heap.size + 1) true rfl ((cell_of_blk (World.putObj_heap_other (by have := HDD.out; intro q; simp at q; omega))).trans CX.out), rfl, B8.out.trans (belowK_b (w := w) (Nat.le_refl _) _ d _ _ (by have := HDD.out; omega) K8.out rfl rfl)⟩
  case hbody =>
    rintro lp j v W hlp - ⟨vo, y1, z1, x1, s1, o1, b1, w51⟩ hf hj
    obtain ⟨g1, g2, g3, g4, g5⟩ := HSEG.out j hj
    obtain ⟨sg, HSG⟩ : ∃ sg, Hid (pcP l s j = sg) := ⟨_, rfl⟩
    rw [HSG.out] at g1 g2 g3 g5 hf
    obtain ⟨pv, cv, ev⟩ := own_slc hf
    subst ev
    have c0 := s1 0 _ rfl
    have c1 := s1 1 _ rfl
    have c2 := s1 2 _ rfl
    have c3 := s1 3 _ rfl
    have c4 := s1 4 _ rfl
    have c5 := s1 5 _ rfl
    have c6 := s1 6 _ rfl
    have c7 := s1 7 _ rfl
    have HFS := hid hf
    have Y1 := hid y1
    have Z1 := hid z1
    have XX1 := hid x1
    have S1 := hid s1
    have O1 := hid o1
    have BB1 := hid b1
    have HSB : Hid (∀ x ∈ sg, 0 ≤ x ∧ x < 256) := by rw [← HSG.out]; exact pcP_byt HV.out.2 s j
    have G5 := hid g5
    clear hf y1 z1 x1 s1 o1 b1 g5
    gi_wp2
    refine ⟨trivial, callR ((CZ.out W j).mono ?_)⟩
    rintro e1 w6 ⟨rfl, hB6⟩
    rw [g3, g4]
    have B6 := hid hB6
    have HS6 := hid hB6.size
    clear hB6 c0 c1 c2 c3 c4 c5 c6 c7
    have s6 := S1.out.below B6.out
    have c0 := s6 0 _ rfl
    have c1 := s6 1 _ rfl
    have c2 := s6 2 _ rfl
    have c3 := s6 3 _ rfl
    have c4 := s6 4 _ rfl
    have c5 := s6 5 _ rfl
    have c6 := s6 6 _ rfl
    have c7 := s6 7 _ rfl
    have S6 := hid s6
    clear s6
    gi_wp2
    refine ⟨trivial, callR ((CB.out w6 j).mono ?_)⟩
    rintro e1 w7 ⟨rfl, hB7⟩
    rw [G5.out, g4]
    have B7 : Hid (Below W.heap.size W w7) := B6.out.trans (hB7.mono B6.out.size)
    have S7 := hid (S6.out.below hB7)
    clear hB7 c0 c1 c2 c3 c4 c5 c6 c7 S6 B6
    have CK := hid (blocks_ok w7 (.slice pv sg.length cv) sg kk ((HB.of_own HFS.out HSB.out).below B7.out) hk1 hk2 g1 g2)
    have c0 := S7.out 0 _ rfl
    gi_wp2
    refine ⟨trivial, callR (CK.out.mono ?_)⟩
    rintro e1 w8 ⟨v8, rfl, hpw, hB8⟩
    have B8 : Hid (Below W.heap.size W w8) := B7.out.trans (hB8.mono B7.out.size)
    have S8 := hid (S7.out.below hB8)
    have HL8 := hid hpw.hl
    have PL := hid (blL_length sg kk kk)
    obtain ⟨b8, o8, c8, e8, hlc8, hcm8, hcell8⟩ := HL8.out.ne (by rw [PL.out]; omega)
    rw [PL.out] at e8 hlc8 hcell8
    subst e8
    have HC8 := hid hcell8
    have Z8 := Z1.out.kept (grown_below (r := none) B8.out) (by simp)
    have cz := Z8.cell
    clear hpw hB8 c0 CK S7 B7 hcell8 Z8
    have c0 := S8.out 0 _ rfl
    gi_wp2
    clear c0 cz
    have HBL : Hid (∀ m, m < kk → ((blL sg kk kk).getD m []).length = blU sg kk) := fun m hm => blL_len hk1 g1 hm
    gi_loopw [17] (fun i wr => ∃ m : Nat, m ≤ kk ∧ i = .int .i64 (m : Int) ∧ Hid (wr = w8)) (fun i _ => kk - (intOf i).toNat)
    case atStart => exact ⟨0, Nat.zero_le _, rfl, rfl⟩
    case round =>
      obtain ⟨m, hm, rfl, hwr⟩ := hrel
      rw [hwr.out]
      by_cases hlt : m < kk
      · obtain ⟨uu, hu1, hu2⟩ := HC8.out m hlt
        obtain ⟨pu, cu, eu, _, _⟩ := hu2.open
        rw [HBL.out m hlt] at eu
        subst eu
        clear hu2
        gi_wp2
        exact ⟨⟨m + 1, by omega, by go_num, trivial⟩, by simp [intOf]; omega⟩
      · have CJ := cjoin_ok w8 _ (blL sg kk kk) sg.length (blU sg kk) HL8.out (by rw [PL.out]; omega) (by rw [PL.out]; omega) g1 (by rw [PL.out]; exact g2) (by rw [PL.out]; rfl) (fun j hj => HBL.out j (by rw [PL.out] at hj; exact hj)) (fun j hj => blL_byt HSB.out (by rw [PL.out] at hj; exact hj))
        rw [blL_join hk1 g1] at CJ
        have HCJ := hid CJ
        clear CJ
        gi_wp2
        refine ⟨trivial, callR (HCJ.out.mono ?_)⟩
        rintro e1 w9 ⟨v9, rfl, hb9, hB9⟩
        obtain ⟨p9, c9, e9⟩ := hb9.slice_form
        subst e9
        have H9 := hid hb9
        have B9 : Hid (Below W.heap.size W w9) := B8.out.trans (hB9.mono B8.out.size)
        have CSm := sameBytes_any w9 _ _ sg sg hb9 ((HB.of_own HFS.out HSB.out).below B9.out)
        rw [decide_eq_true rfl] at CSm
        have HCS := hid CSm
        clear hb9 hB9 CSm HCJ
        gi_wp2
        refine ⟨trivial, callR (HCS.out.mono ?_)⟩
        rintro e1 w10 ⟨rfl, hD10⟩
        have H10 := hid (H9.out.dr hD10)
        have B10 : Hid (Below W.heap.size W w10) := B9.out.trans ((hD10.below _).mono B9.out.size)
        clear hD10 HCS H9 B9
        have gW := grown_below (r := none) B10.out
        have y10 := Y1.out.kept gW (by simp)
        have z10 := Z1.out.kept gW (by simp)
        have x10 := XX1.out.kept gW (by simp)
        have O10 := hid (own_below O1.out B10.out)
        have S10 := hid (S1.out.below B10.out)
        obtain ⟨po, co, eo⟩ := own_slc O1.out
        subst eo
        have cy := y10.cell
        have Y10 := hid y10
        have Z10 := hid z10
        have X10 := hid x10
        have HLO : Hid ((outL l s j).length + sg.length ≤ 140737488355328) := by
          have h1 : (outL l s j).length ≤ l.length := by unfold outL; simp; omega
          have h2 : sg.length ≤ l.length := by rw [← HSG.out, pcP_length]; omega
          show _ ≤ _
          omega
        have HB10 : Hid (w5.heap.size ≤ w10.heap.size) := Nat.le_trans w51 B10.out.size
        clear gW y10 z10 x10
        gi_wp2_with (gi_at_builtin; refine wpListIn_append_HB rfl _ _ rfl w5.heap.size _ _ _ rfl O10.out _ _ rfl H10.out g1 ?q1 ?q2 ?_)
        case q1 => exact HLO.out
        case q2 => exact HB10.out
        intro v11 w11 hown11 hgr11
        obtain ⟨p11, c11, e11⟩ := own_slc hown11
        have HSUC : Hid (outL l s (j + 1) = outL l s j ++ sg) := by show _ = _; unfold outL; rw [← pcP_take, HSG.out]
        have O11 : Hid (w11.ownsRow w5.heap.size 5 1 v11 (outL l s (j + 1)).length ((outL l s (j + 1)).map (Value.int .u8))) := by
          show World.ownsRow _ _ _ _ _ _ _
          rw [HSUC.out, List.length_append, List.map_append]
          exact hown11
        have hq2 := HS2.out
        have hq3 := HS3.out
        have hq4 := HS4.out
        have hq5 := HS5.out
        have hq1 := HS1.out
        have hq0 := HS0.out
        have lt10 := O10.out.lt
        have y11 := Y10.out.kept hgr11 (Y10.out.not_row (by decide) O10.out)
        have z11 := Z10.out.kept hgr11 (Z10.out.not_row (by decide) O10.out)
        have x11 := X10.out.kept hgr11 (X10.out.not_row (by decide) O10.out)
        have S11 : Hid (ShC w11 w1.heap.size kk n s l.length e f b q) := fun i v hi => hgr11.cell (S10.out i v hi) fun q => by
          have := (lt10 w1.heap.size q.symm).1
          omega
        have gs1 := grownBy_setCell' w11 w3.heap.size v11
        have gs2 := grownBy_setCell' (w11.setCell ⟨w3.heap.size, 0, none⟩ v11) (w3.heap.size + 1) (.int .i64 ((j : Int) + 1))
        obtain ⟨W', HW'⟩ : ∃ W', Hid ((w11.setCell ⟨w3.heap.size, 0, none⟩ v11).setCell ⟨w3.heap.size + 1, 0, none⟩ (.int .i64 ((j : Int) + 1)) = W') := ⟨_, rfl⟩
        rw [HW'.out] at gs2
        have Y13 : Hid (Boxed W' w3.heap.size 26 v11) := (y11.set v11).kept gs2 (by simp)
        have Z13 : Hid (Boxed W' (w3.heap.size + 1) 3 (.int .i64 ((j + 1 : Nat) : Int))) := by
          have := (z11.kept gs1 (by simp)).set (.int .i64 ((j : Int) + 1))
          rw [HW'.out] at this
          show Boxed _ _ _ _
          simpa using this
        have X13 : Hid (Boxed W' (w.heap.size + 1) 4 (.bool false)) := (x11.kept gs1 (by simp; omega)).kept gs2 (by simp; omega)
        have S13 : Hid (ShC W' w1.heap.size kk n s l.length e f b q) := (S11.out.other gs1 (by omega)).other gs2 (by omega)
        have O13 : Hid (W'.ownsRow w5.heap.size 5 1 v11 (outL l s (j + 1)).length ((outL l s (j + 1)).map (Value.int .u8))) := by
          have l11 := O11.out.lt
          refine (O11.out.kept gs1 ?_).kept gs2 ?_
          · rcases none_or v11.ownBlock with q | q
            · exact .inl q
            · exact .inr fun q => by have := (l11 _ q).1; omega
          · rcases none_or v11.ownBlock with q | q
            · exact .inl q
            · exact .inr fun q => by have := (l11 _ q).1; omega
        have hsz11 := hgr11.size
        have hsW' : W'.heap.size = w11.heap.size := by rw [← HW'.out]; simp
        have hs10 := B10.out.size
        have FK : Hid (KeepsFrom w5.heap.size W W') := by
          have a0 : KeepsOthers W w10 := KeepsOthers.of_grownBy (grown_below (r := none) B10.out) fun j o ej hj => by cases ej
          have a2 : KeepsOthers w10 w11 := KeepsOthers.of_grownBy hgr11 fun i o ei hi => by
            rcases O10.out.2 with ⟨e0, _⟩ | ⟨g, cap, cur, e0, _, hgb, _⟩
            · rw [e0] at ei; simp [Value.ownBlock] at ei
            · rw [e0] at ei
              obtain rfl : g = i := by simpa [Value.ownBlock] using ei
              rw [hgb] at hi; cases hi; rfl
          rw [← HW'.out]
          exact (((a0.trans a2).trans (KeepsOthers.setCell _ _ _)).trans (KeepsOthers.setCell _ _ _)).from _
        have FD : Hid (KD (pcD hv5 b5 b3) W W') := by
          refine ⟨by omega, fun i hi => ?_⟩
          obtain ⟨d1, d2⟩ := HD.out i hi
          rw [← HW'.out, heap_setCell_other _ _ _ _ (by simp; omega), heap_setCell_other _ _ _ _ (by simp; omega), hgr11.block i (by omega) (fun q => by have := (lt10 i q.symm).1; omega)]
          exact B10.out.block i (by omega)
        have FB : Hid (Below w.heap.size w W') := by
          have hw := BB1.out.size
          have b2 := (BB1.out.trans (B10.out.mono hw)).grown hgr11 (by omega) (fun j e => by have := (lt10 j e).1; omega)
          rw [← HW'.out]
          exact (b2.setCell (p := ⟨w3.heap.size, 0, none⟩) (by show w.heap.size ≤ w3.heap.size; omega) _).setCell (p := ⟨w3.heap.size + 1, 0, none⟩) (by show w.heap.size ≤ w3.heap.size + 1; omega) _
        have FZ : Hid (w5.heap.size ≤ W'.heap.size) := by show _ ≤ _; omega
        have cy11 := y11.cell
        have fy11 := y11.frozen
        have cz11 := z11.cell
        have fz11 := z11.frozen
        have hj512 : (j : Int) ≤ 512 := by have := HN5.out; omega
        clear hown11 hgr11 y11 z11 x11 gs1 gs2 cy lt10 hq0 hq1 hq2 hq3 hq4 hq5 hsz11 hsW' hs10
        subst e11
        gi_wp2
        rw [HW'.out]
        exact ⟨FK.out, FD.out, _, Y13.out, Z13.out, X13.out, S13.out, O13.out, FB.out, FZ.out⟩
theorem whole_walk (w : World) (k n g h : Int) (p : Option Addr) (ls cs : Nat) (v : Value) (l : List Int) (hv : HB w v l) (_ : l.length ≤ 140737488351232) :
    Calls Try.prog 5 #[prV k n g h (.slice p ls cs), v] w fun e w' => e = .returned (.bool true) ∧ Below w.heap.size w w' := by
  by_cases he : shpE k n g ls l.length = 0
  · have hok := shp_okS he
    obtain ⟨kk, rfl⟩ := Int.eq_ofNat_of_zero_le (show 0 ≤ k by have := hok.1; omega)
    obtain ⟨s, hs⟩ := Int.eq_ofNat_of_zero_le (show 0 ≤ (kk : Int) * upI g kk by have := hok.2.2.2.1; omega)
    exact whole_ok w kk n g h p ls cs s v l hv he hs
  · exact whole_bad w k n g h p ls cs v l hv he
end Go.Proofs.Ytdmdcnikhnoclab
