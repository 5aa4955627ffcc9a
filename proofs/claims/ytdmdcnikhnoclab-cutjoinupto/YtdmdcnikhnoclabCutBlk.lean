/- cut.Blocks, walked, where it takes the segment. -/
import Derived.Test.YtdmdcnikhnoclabCutPc
import Derived.Test.YtdmdcnikhnoclabPwKit
import Derived.Laws.IdiomCopy
set_option linter.unusedVariables false
set_option linter.unusedSimpArgs false
namespace Go.Proofs.Ytdmdcnikhnoclab
open Go Go.RowKit Go.Shelf
attribute [local go_sem] Oper.semAt_some

theorem info_u8s : (Try.prog.info? 5).map (·.size) = some 1 := by kernel_rfl
theorem below_setCells {B g : Nat} {w : World} (hg : B ≤ g) : ∀ (vs : List Value) (o : Nat) (W : World), Below B w W → Below B w (W.setCells g o vs)
  | [], _, _, h => h
  | v :: r, o, W, h => below_setCells hg r (o + 1) _ (h.setCell (p := ⟨g, o, none⟩) hg v)
theorem setCells_size (g : Nat) : ∀ (vs : List Value) (o : Nat) (W : World), (W.setCells g o vs).heap.size = W.heap.size
  | [], _, _ => rfl
  | v :: r, o, W => by rw [World.setCells, setCells_size g r (o + 1)]; simp
theorem bt_setCell {W : World} {x : Nat} {T : TypeId} (g o : Nat) (v : Value) (h : ∃ cur fz, W.heap[x]? = some (.cells cur T fz)) : ∃ cur fz, (W.setCell ⟨g, o, none⟩ v).heap[x]? = some (.cells cur T fz) := by
  obtain ⟨cur, fz, h⟩ := h
  by_cases e : g = x
  · subst e
    exact ⟨cur.setIfInBounds o v, fz, by simp [World.setCell, Array.getElem?_modify, h]⟩
  · exact ⟨cur, fz, by simp [World.setCell, Array.getElem?_modify, e, h]⟩
theorem bt_setCells (g : Nat) {x : Nat} {T : TypeId} : ∀ (vs : List Value) (o : Nat) (W : World), (∃ cur fz, W.heap[x]? = some (.cells cur T fz)) → ∃ cur fz, (W.setCells g o vs).heap[x]? = some (.cells cur T fz)
  | [], _, _, h => h
  | v :: r, o, W, h => bt_setCells g r (o + 1) _ (bt_setCell g o v h)
/-- The segment, and noughts behind it. -/
def padL (l : List Int) (N : Nat) : List Int := l ++ List.replicate (N - l.length) 0
theorem padL_length {l : List Int} {N : Nat} (h : l.length ≤ N) : (padL l N).length = N := by simp [padL]; omega
theorem padL_byt {l : List Int} {N : Nat} (h : ∀ x ∈ l, 0 ≤ x ∧ x < 256) : ∀ x ∈ padL l N, 0 ≤ x ∧ x < 256 := by
  intro x hx
  rcases List.mem_append.1 hx with hx | hx
  · exact h x hx
  · have := (List.mem_replicate.1 hx).2; omega
theorem made_cells (n : Nat) : (madeCells (Value.int IntKind.u8 0).cells (n * 1)).toList = (List.replicate n (0 : Int)).map (Value.int .u8) := by
  rw [show (Value.int IntKind.u8 0).cells = #[Value.int .u8 0] from rfl, toList_madeCells_one]
  simp
theorem fill_HB {W : World} {B g N : Nat} {l : List Int} (hown : W.ownsRow B 5 1 (.slice (some ⟨g, 0, none⟩) N N) N ((List.replicate N (0 : Int)).map (Value.int .u8))) (hl : l.length ≤ N) (h1 : 1 ≤ N) (hby : ∀ x ∈ l, 0 ≤ x ∧ x < 256) :
    HB (W.setCells g 0 (l.map (Value.int .u8))) (.slice (some ⟨g, 0, none⟩) N N) (padL l N) := by
  obtain ⟨g', cap, e, _, hn, hm, hc⟩ := ownsRow_cells hown (by omega)
  simp only [Value.slice.injEq, Option.some.injEq, Addr.mk.injEq, and_true, true_and] at e
  obtain ⟨rfl, rfl⟩ := e
  have cell : ∀ j, j < N → W.cell? ⟨g, 0 + j, none⟩ = some (.int .u8 0) := fun j hj => hc j _ (by simp [hj])
  refine ⟨⟨_, N, by rw [padL_length hl], by rw [padL_length hl]; exact Nat.le_refl _, hm, (fun q => by cases q), fun _ => ⟨g, 0, rfl, fun j hj => ?_⟩⟩, padL_byt hby⟩
  rw [padL_length hl] at hj
  by_cases hjl : j < l.length
  · rw [World.cell?_setCells_in g _ 0 W (fun i hi => by rw [cell i (by simp at hi; omega)]; rfl) j (by simpa using hjl)]
    simp only [padL, List.getD, List.getElem_map]
    rw [List.getElem?_append_left hjl, List.getElem?_eq_getElem hjl]
    rfl
  · rw [World.cell?_setCells_out g _ 0 W _ (fun _ _ => .inr (by simp; omega)), cell j hj]
    simp only [padL, List.getD]
    rw [List.getElem?_append_right (by omega), List.getElem?_replicate]
    split <;> rfl
/-- The blocks of a segment. -/
def blU (l : List Int) (k : Nat) : Nat := pcN l.length k
def blL (l : List Int) (k i : Nat) : List (List Int) := (List.range i).map (pcP (padL l (k * blU l k)) (blU l k))
theorem blL_length (l : List Int) (k i : Nat) : (blL l k i).length = i := by simp [blL]
theorem blL_succ (l : List Int) (k i : Nat) : blL l k (i + 1) = blL l k i ++ [pcP (padL l (k * blU l k)) (blU l k) i] := by simp [blL, List.range_succ]
theorem blU_pos (l : List Int) (k : Nat) : 1 ≤ blU l k := Nat.le_add_left 1 _
theorem blU_ge {l : List Int} {k : Nat} (hk : 1 ≤ k) (hl : 1 ≤ l.length) : l.length ≤ k * blU l k := by
  unfold blU pcN
  have := Nat.div_add_mod (l.length - 1) k
  have := Nat.mod_lt (l.length - 1) (show 0 < k by omega)
  rw [Nat.mul_add]
  omega
theorem blU_le {l : List Int} {k : Nat} (hk : 1 ≤ k) : k * blU l k ≤ l.length + k := by
  unfold blU pcN
  have := Nat.div_add_mod (l.length - 1) k
  rw [Nat.mul_add]
  omega
theorem pcN_mul {k u : Nat} (hk : 1 ≤ k) (hu : 1 ≤ u) : pcN (k * u) u = k := by
  unfold pcN
  obtain ⟨m, rfl⟩ : ∃ m, k = m + 1 := ⟨k - 1, by omega⟩
  have e : (m + 1) * u - 1 = u * m + (u - 1) := by rw [Nat.add_mul, Nat.mul_comm m u]; omega
  rw [e, Nat.mul_add_div (by omega), Nat.div_eq_of_lt (by omega)]
theorem pcP_byt {l : List Int} (h : ∀ x ∈ l, 0 ≤ x ∧ x < 256) (size k : Nat) : BytI (pcP l size k) := fun x hx => h x (List.mem_of_mem_take (List.mem_of_mem_drop hx))
theorem wp_cpy {o : Oper} {a : Act} {w w' : World} {K : Act → World → Prop} {Q : Exit → Act → World → Prop} {x y : Operand} {t t' : TypeId} {v u r : Value} (ho : o.op = .call { callee := .builtin .copy, args := #[x, y], argTypes := #[t, t'] })
    (hx : a.eval x = v) (hy : a.eval y = u) (hr : (Builtin.copy_ #[t, t'] o.type #[v, u]).run Try.prog w = .ok r w') (h : K (a.put o.dst r) w') : o.wp Try.prog a w K Q := by
  have e : (execOp a.eval o).run Try.prog w = .ok (.value r) w' := by
    simp only [execOp, ho, resolve, invoke, builtin, Sem.run_bind, Sem.run_pure, Result.andThen_ok, List.map_toArray, List.map_cons, List.map_nil, hx, hy, hr]
  unfold Oper.wp
  rw [e]
  exact h
set_option maxRecDepth 100000 in
set_option maxHeartbeats 8000000 in
theorem blocks_ok (w : World) (v : Value) (l : List Int) (k : Nat) (hv : HB w v l) (hk1 : 1 ≤ k) (hk2 : k ≤ 255) (hl1 : 1 ≤ l.length) (hl2 : (l.length : Int) ≤ (k : Int) * upI 65536 k) :
    Calls Try.prog 21 #[v, .int .i64 k] w fun e w' => ∃ v', e = .returned (.tuple #[v', .int .i64 0]) ∧ PW w.heap.size w' v' (blL l k k) ∧ Below w.heap.size w w' := by
  have HA := hid hv
  obtain ⟨p, c, rfl, hlc, hcm⟩ := hv.open
  unfold maxLen at hcm
  obtain ⟨b0, o0, c0, e0, _, _, hcell0⟩ := hv.ne (by omega)
  simp only [Value.slice.injEq] at e0
  obtain ⟨rfl, _, rfl⟩ := e0
  have HC0 := hid hcell0
  clear hcell0 hv
  have ml := most_lt (k := (k : Int)) (by omega) (by omega)
  have CM := hid fun w => most_any w (k : Int) (by omega) (by omega)
  obtain ⟨M, HM⟩ : ∃ M, Hid ((k : Int) * upI 65536 k = M) := ⟨_, rfl⟩
  rw [HM.out] at CM ml hl2
  have CU := hid fun w => upward_any w (l.length : Int) (k : Int) (by omega) (by omega) (by omega)
  rw [pcN_up hl1] at CU
  obtain ⟨u, HU⟩ : ∃ u, Hid (blU l k = u) := ⟨_, rfl⟩
  have hu1 : 1 ≤ u := by rw [← HU.out]; exact blU_pos l k
  obtain ⟨N, HN⟩ : ∃ N, Hid (k * u = N) := ⟨_, rfl⟩
  have hN1 : l.length ≤ N := by rw [← HN.out, ← HU.out]; exact blU_ge hk1 hl1
  have hN2 : N ≤ l.length + k := by rw [← HN.out, ← HU.out]; exact blU_le hk1
  have huN : u ≤ N := by rw [← HN.out]; exact Nat.le_mul_of_pos_left u hk1
  have HU' : Hid (pcN l.length k = u) := HU
  rw [HU'.out] at CU
  have hmul : (k : Int) * (u : Int) = (N : Int) := by rw [← HN.out]; simp
  have hwN : IntKind.i64.wrap (N : Int) = (N : Int) := wrap64 (by omega) (by omega)
  obtain ⟨i0, hi, hz0, hz1, hz2⟩ := info_parts info_u8
  obtain ⟨w1, hmk, hown, hgr⟩ := run_make_full (P := Try.prog) w w.heap.size 26 5 i0 (.int .u8 0) 1 Try.underlying26 hi hz0 hz1 .i64 .i64 N (by rw [hz2]; omega) (by unfold maxLen; omega) (Nat.le_refl _)
  rw [made_cells] at hown
  have B1 : Hid (Below w.heap.size w w1) := (Below.refl _ w).grown hgr (Nat.le_refl _) (fun k e => by cases e)
  obtain ⟨w2, HW2⟩ : ∃ w2, Hid (w1.setCells w.heap.size 0 (l.map (Value.int .u8)) = w2) := ⟨_, rfl⟩
  have F2 : Hid (HB w2 (.slice (some ⟨w.heap.size, 0, none⟩) N N) (padL l N)) := by rw [← HW2.out]; exact fill_HB hown hN1 (by omega) HA.out.2
  have B2 : Hid (Below w.heap.size w w2) := by rw [← HW2.out]; exact below_setCells (Nat.le_refl _) _ _ _ B1.out
  have hg1 : w.heap.size < w1.heap.size := (hown.lt w.heap.size rfl).2
  have hS2 : w2.heap.size = w1.heap.size := by rw [← HW2.out]; exact setCells_size _ _ _ _
  have HCP : Hid (∀ ty, (Builtin.copy_ #[26, 26] ty #[.slice (some ⟨w.heap.size, 0, none⟩) N N, .slice (some ⟨b0, o0, none⟩) l.length c]).run Try.prog w1 = .ok (goInt (l.map (Value.int .u8)).length) w2) := by
    intro ty
    rw [← HW2.out]
    obtain ⟨g', cap, e, _, hn, hm, hc⟩ := ownsRow_cells hown (by omega)
    simp only [Value.slice.injEq, Option.some.injEq, Addr.mk.injEq, and_true, true_and] at e
    obtain ⟨rfl, rfl⟩ := e
    have cell : ∀ j, j < N → w1.cell? ⟨w.heap.size, 0 + j, none⟩ = some (.int .u8 0) := fun j hj => hc j _ (by simp [hj])
    refine run_copy_cells (P := Try.prog) w1 26 26 ty 5 w.heap.size 0 N N ⟨b0, o0, none⟩ l.length c (l.map (Value.int .u8)) Try.underlying26 info_u8s (by simp [Nat.min_def]; omega) (fun j v hv => ?_) (fun j hj => ?_) (fun j hj => ?_) (fun v hv => ?_)
    · have hj : j < l.length := by have := (List.getElem?_eq_some_iff.1 hv).1; simpa using this
      have e2 : v = .int .u8 (l.getD j 0) := by simp [List.getElem?_map, List.getElem?_eq_getElem hj] at hv; rw [← hv]; simp [List.getD, List.getElem?_eq_getElem hj]
      rw [e2, Go.WideShapes.add_plain]
      have := HC0.out j hj
      exact (B1.out.cell (World.block_lt_of_cell? w _ this)).trans this
    · rw [cell j (by simp at hj; omega)]; rfl
    · rcases hown.2 with ⟨e, _⟩ | ⟨g2, cap2, cur, e, _, hh, _⟩
      · cases e
      · simp only [Value.slice.injEq, Option.some.injEq, Addr.mk.injEq, and_true, true_and] at e
        obtain ⟨rfl, _⟩ := e
        simp [World.frozen?, hh]
    · obtain ⟨t, _, rfl⟩ := List.mem_map.1 hv; rfl
  have BT2 : Hid (∃ cur fz, w2.heap[w.heap.size]? = some (.cells cur 5 fz)) := by
    rw [← HW2.out]
    refine bt_setCells _ _ _ _ ?_
    rcases hown.2 with ⟨e, _⟩ | ⟨g2, cap2, cur, e, _, hh, _⟩
    · cases e
    · simp only [Value.slice.injEq, Option.some.injEq, Addr.mk.injEq, and_true, true_and] at e
      obtain ⟨rfl, _⟩ := e
      exact ⟨cur, _, hh⟩
  clear hown hgr
  obtain ⟨i1, hi1, hy0, hy1, hy2⟩ := info_parts info_bytes
  obtain ⟨w3, hmk3, hown3, hgr3⟩ := run_make_own (P := Try.prog) w2 w2.heap.size 22 26 i1 (.slice none 0 0) 1 Try.underlying22 hi1 hy0 hy1 .i64 .i64 k (by rw [hy2]; omega) (by unfold maxLen; omega) (Nat.le_refl _)
  have O3 := hid hown3
  have G3 := hid hgr3
  clear hown3 hgr3
  refine (callsIn_wide (n := 3)).1 ?_
  refine callsIn_of_wp_marks Try.func21 rfl trivial (wpIn_wide.2 ?_) rfl
  simp only [Try.ntmps21, List.size_toArray, List.length_cons, List.length_nil, Nat.reduceAdd, Nat.reduceSub, Array.replicate_succ, Array.replicate_zero, List.push_toArray, List.append_toArray, List.nil_append, List.cons_append]
  go_wp2_with fail
  refine (CM.out w).mono ?_
  rintro e wq ⟨rfl, hwq⟩
  rw [hwq]
  clear hwq wq
  go_wp2_with fail
  refine (CU.out w).mono ?_
  rintro e wq ⟨rfl, hwq⟩
  rw [hwq]
  clear hwq wq
  have hcp := HCP.out
  simp only [goInt, List.length_map] at hcp
  go_wp2_with fail
  clear hcp hmk hmk3
  obtain ⟨W4, HW4⟩ : ∃ W4, Hid (w3.alloc (.cells #[.slice (some ⟨w1.heap.size, 0, none⟩) 0 k] 22) = W4) := ⟨_, rfl⟩
  rw [HW4.out]
  have B23 : Below w2.heap.size w2 w3 := (Below.refl _ w2).grown G3.out (Nat.le_refl _) (fun k e => by cases e)
  have B34 : Below w3.heap.size w3 W4 := by rw [← HW4.out]; exact below_alloc _ _
  have hs23 := B23.size
  have hS4 : W4.heap.size = w3.heap.size + 1 := by rw [← HW4.out]; simp
  have F4 := hid ((F2.out.below B23).below B34)
  have B04 : Hid (Below w.heap.size w W4) := (B2.out.trans (B23.mono (by omega))).trans (B34.mono (by omega))
  have X4 : Hid (Boxed W4 w3.heap.size 22 (.slice (some ⟨w1.heap.size, 0, none⟩) 0 k)) := by rw [← HW4.out]; exact Boxed.new _ _ _
  have O4 : Hid (W4.ownsRow w.heap.size 26 1 (.slice (some ⟨w1.heap.size, 0, none⟩) 0 k) 0 []) := by
    have := own_below O3.out B34
    rw [hS2] at this
    exact own_mono this (by omega)
  have hw13 : w1.heap.size < w3.heap.size := by
    have := O3.out.lt w2.heap.size rfl
    omega
  have hBT : ∃ cur fz, W4.heap[w.heap.size]? = some (.cells cur 5 fz) := by
    obtain ⟨cur, fz, h⟩ := BT2.out
    exact ⟨cur, fz, (B34.block w.heap.size (by omega)).trans ((B23.block w.heap.size (by omega)).trans h)⟩
  clear B23 B34 F2 O3 G3 B1 B2
  refine (pieces_any W4 _ (padL l N) u F4.out).mono ?_
  rintro e w5 ⟨b5, b3, rfl, hbox, hb5, hb3, hs5, hh5, hh3, hB5⟩
  have HBx := hid hbox
  have HH5 := hid hh5
  have HH3 := hid hh3
  have B05 : Hid (Below w.heap.size w w5) := B04.out.trans (hB5.mono B04.out.size)
  have X5 : Hid (Boxed w5 w3.heap.size 22 (.slice (some ⟨w1.heap.size, 0, none⟩) 0 k)) := X4.out.kept (grown_below (r := none) hB5) (by simp)
  have O5 := hid (own_below O4.out hB5)
  have HBT : Hid (∃ cur fz, w5.heap[w.heap.size]? = some (.cells cur 5 fz)) := by
    obtain ⟨cur, fz, h⟩ := hBT
    exact ⟨cur, fz, (hB5.block w.heap.size (by omega)).trans h⟩
  clear hbox hh5 hh3 hB5 X4 O4 B04 hBT
  have HDl : Hid (∀ i, pcD (.slice (some ⟨w.heap.size, 0, none⟩) N N) b5 b3 i → i < w5.heap.size ∧ i ≠ w3.heap.size) := by
    rintro i (rfl | rfl | hi)
    · omega
    · omega
    · simp only [Value.ownBlock, Option.some.injEq] at hi; omega
  have HD0 : Hid (∀ i, pcD (.slice (some ⟨w.heap.size, 0, none⟩) N N) b5 b3 i → (Value.slice (some ⟨w1.heap.size, 0, none⟩) 0 k).ownBlock ≠ some i) := by
    rintro i (rfl | rfl | hi) q
    · simp only [Value.ownBlock, Option.some.injEq] at q; omega
    · simp only [Value.ownBlock, Option.some.injEq] at q; omega
    · simp only [Value.ownBlock, Option.some.injEq] at q hi; omega
  have hw5 := hid B05.out.size
  have HW3 : Hid (w.heap.size ≤ w3.heap.size) := by show _ ≤ _; omega
  have HW35 : Hid (w.heap.size < w5.heap.size) := by show _ < _; omega
  clear hb5 hb3 hs5 hS4 hs23 hw13 hg1 hS2
  go_wp2_with fail
  refine (wpIn_wide (n := 3)).1 ?_
  have hpl : (padL l N).length = N := padL_length hN1
  apply range_fit rfl (by decide) (gf := 42) (lb := #[.pointer (some ⟨b5, 0, none⟩), .pointer (some ⟨b3, 0, none⟩)]) rfl trivial (enters_of Try.func42 (by kernel_rfl) rfl)
    (pieces_iter (3 - 1) w5 (.slice (some ⟨w.heap.size, 0, none⟩) N N) b5 b3 (padL l N) u hu1 (by omega) (by omega) (by omega) HBx.out (fun i hi => (HDl.out i hi).1)) (KD.refl _ _) (fun i hi => (HDl.out i hi).1) (fun _ _ => rfl)
    (fun i W => ∃ v, Boxed W w3.heap.size 22 v ∧ PW w.heap.size W v (blL l k i) ∧ Below w.heap.size w W ∧ KD (pcD (.slice (some ⟨w.heap.size, 0, none⟩) N N) b5 b3) w5 W ∧ ∀ i, pcD (.slice (some ⟨w.heap.size, 0, none⟩) N N) b5 b3 i → v.ownBlock ≠ some i)
    (fun _ _ => False)
    (fun s A C row hs hg hr => by
      obtain ⟨v, h1, h2, h3, h4, h5⟩ := hs
      refine ⟨v, box_from h1 hg hr, h2.from hg hr, below_from h3 (Nat.le_refl _) hg hr (by have := hw5.out; omega), ⟨Nat.le_trans h4.1 hg.size, fun i hi => ?_⟩, h5⟩
      have hlt := (HDl.out i hi).1
      refine (hg.block i (Nat.lt_of_lt_of_le hlt h4.1) fun e => ?_).trans (h4.2 i hi)
      obtain ⟨q1, _⟩ := hr i e.symm
      omega)
    (fun _ _ _ _ hs _ _ => hs)
    (fun k v _ A C row hs hg hr => row_from hs hg hr)
    ⟨_, X5.out, ⟨[], O5.out, fun j hj => by simp [blL] at hj⟩, B05.out, KD.refl _ _, HD0.out⟩
  case hassign =>
    intro l k v W K hK
    gi_wp2
    exact hK
  case hstop =>
    intro d c W _ h _
    exact h.elim
  case hbody =>
    rintro lp i v W hlp - ⟨vp, x1, ⟨xs, hrow, hel⟩, x3, x4, x5⟩ hf hi'
    rw [hpl, ← HN.out, pcN_mul hk1 hu1] at hi'
    have HBL : Hid (blL l k (i + 1) = blL l k i ++ [pcP (padL l N) u i]) := by
      show _ = _
      rw [blL_succ, HU.out, HN.out]
    obtain ⟨pv, cv, ev⟩ := own_slc1 hf
    obtain ⟨pp, cp, ep⟩ := own_slc1 hrow
    subst ev ep
    have PL := hid (blL_length l k i)
    have HROW := hid hrow
    have HEL := hid hel
    have HF := hid hf
    have X1 := hid x1
    have X3 := hid x3
    have X4 := hid x4
    have X5 := hid x5
    have c1 := x1.cell
    have HPB := hid (pcP_byt (padL_byt (N := N) HA.out.2) u i)
    obtain ⟨m, HMM⟩ : ∃ m, Hid ((pcP (padL l N) u i).length = m) := ⟨_, rfl⟩
    have hm1 : Hid (1 ≤ m) := by
      rw [← HMM.out, pcP_length, hpl]
      have h2 : i < pcN N u := by rw [← HN.out, pcN_mul hk1 hu1]; exact hi'
      have := (pcN_iff hu1 (by omega)).1 h2
      show _ ≤ _
      omega
    rw [HMM.out]
    obtain ⟨kk, HKK⟩ : ∃ kk, Hid ((blL l k i).length = kk) := ⟨_, rfl⟩
    have hkk : kk < 255 := by rw [← HKK.out, PL.out]; omega
    rw [HKK.out] at c1
    have HR2 : Hid (W.ownsRow w.heap.size 26 1 (.slice pp kk cp) kk xs) := by rw [← HKK.out]; exact HROW.out
    have X2 : Hid (Boxed W w3.heap.size 22 (.slice pp kk cp)) := by rw [← HKK.out]; exact X1.out
    have HF2 : Hid (W.ownsRow w5.heap.size 5 1 (.slice pv m cv) (pcP (padL l N) u i).length ((pcP (padL l N) u i).map (Value.int .u8))) := by rw [← HMM.out]; exact HF.out
    have X6 : Hid (∀ j, pcD (.slice (some ⟨w.heap.size, 0, none⟩) N N) b5 b3 j → (Value.slice pp kk cp).ownBlock ≠ some j) := by rw [← HKK.out]; exact X5.out
    clear hrow hel hf x1 x3 x4 x5 hlp
    gi_wp2_with (gi_at_builtin; refine wpListIn_append_own _ rfl _ _ 22 rfl w.heap.size 26 i1 (.slice none 0 0) 1 24 Try.underlying22 hi1 hy0 hy1 hy2 rfl (by decide) _ _ xs rfl (HR2.out.alloc _) ⟨W.heap.size, 0, none⟩ 1 1 [.slice pv m cv] rfl rfl (cell_one_new _ _ _) (by simp [Value.oneCell']) ?b1 ?b2 ?b3 ?_)
    case b1 => unfold maxLen; omega
    case b2 => omega
    case b3 => have := X3.out.size; simp; omega
    intro v' w1' hown' hgrow _
    obtain ⟨g', cap', rfl⟩ := ownsRow_succ hown'
    have P1 : (w1'.setCell ⟨w3.heap.size, 0, none⟩ (.slice (some ⟨g', 0, none⟩) (kk + 1) cap')).heap.size = w1'.heap.size := by simp
    have PP := PW.push (ls := blL l k i) (by rw [HKK.out]; exact HR2.out) HEL.out (own_mono HF2.out hw5.out) HPB.out X2.out (by rw [HKK.out]; exact hown') hgrow
    rw [← HBL.out] at PP
    obtain ⟨hp1, hp2, hp3⟩ := PP
    have hc1 := hp2.cell
    have hf1 := hp2.frozen
    have HP1 := hid hp1
    have HP3 := hid hp3
    have hwsz : W.heap.size + 1 ≤ w1'.heap.size := by have := hgrow.size; simpa using this
    have lt5 := HR2.out.lt
    have FK : Hid (KeepsFrom w5.heap.size W (w1'.setCell ⟨w3.heap.size, 0, none⟩ (.slice (some ⟨g', 0, none⟩) (kk + 1) cap'))) := by
      have a1 := KeepsOthers.alloc W (.cells #[.slice pv m cv] 26)
      have a2 : KeepsOthers (W.alloc (.cells #[.slice pv m cv] 26)) w1' := KeepsOthers.of_grownBy hgrow fun j o ej hj => by
        rcases (HR2.out.alloc (.cells #[.slice pv m cv] 26)).2 with ⟨e0, _⟩ | ⟨g, cap, cur, e0, _, hgb, _⟩
        · rw [e0] at ej; simp [Value.ownBlock] at ej
        · rw [e0] at ej
          obtain rfl : g = j := by simpa [Value.ownBlock] using ej
          rw [hgb] at hj; cases hj; rfl
      exact ((a1.trans a2).trans (KeepsOthers.setCell _ _ _)).from _
    have FD0 : ∀ j, pcD (.slice (some ⟨w.heap.size, 0, none⟩) N N) b5 b3 j → w1'.heap[j]? = W.heap[j]? := fun j hj => by
      have hj5 := (HDl.out j hj).1
      have hW := X4.out.1
      rw [hgrow.block j (by simp; omega) (fun e => X6.out j hj e.symm)]
      exact Below.heap_alloc W _ j (by omega)
    have FD : Hid (KD (pcD (.slice (some ⟨w.heap.size, 0, none⟩) N N) b5 b3) W (w1'.setCell ⟨w3.heap.size, 0, none⟩ (.slice (some ⟨g', 0, none⟩) (kk + 1) cap'))) := by
      refine ⟨by simp; omega, fun j hj => ?_⟩
      rw [heap_setCell_other _ _ _ _ (by have := (HDl.out j hj).2; simp; omega)]
      exact FD0 j hj
    have FB : Hid (Below w.heap.size w (w1'.setCell ⟨w3.heap.size, 0, none⟩ (.slice (some ⟨g', 0, none⟩) (kk + 1) cap'))) := by
      have b1 := X3.out.alloc X3.out.size (.cells #[.slice pv m cv] 26)
      have b2 := b1.grown hgrow b1.size (fun j e => by have := (lt5 j e).1; omega)
      exact b2.setCell (p := ⟨w3.heap.size, 0, none⟩) HW3.out _
    have FN : Hid (∀ j, pcD (.slice (some ⟨w.heap.size, 0, none⟩) N N) b5 b3 j → (Value.slice (some ⟨g', 0, none⟩) (kk + 1) cap').ownBlock ≠ some j) := by
      intro j hj e
      obtain rfl : g' = j := by simpa [Value.ownBlock] using e
      have hblk := (FD0 g' hj).trans (X4.out.2 g' hj)
      rcases hown'.2 with ⟨e0, _⟩ | ⟨g2, cap2, cur, e0, _, hgb, hn2, _, hcs, htk⟩
      · cases e0
      simp only [Value.slice.injEq, Option.some.injEq, Addr.mk.injEq, and_true, true_and] at e0
      obtain ⟨rfl, rfl⟩ := e0
      rw [hgb] at hblk
      rcases hj with rfl | rfl | hj
      · rw [HH5.out] at hblk
        simp only [Option.some.injEq, Obj.cells.injEq] at hblk
        obtain ⟨hcur, _, _⟩ := hblk
        have hl1' : cur.size = 1 := by rw [hcur]; rfl
        have hkk0 : kk = 0 := by omega
        subst hkk0
        have hx0 : xs = [] := List.length_eq_zero_iff.1 (by have := HR2.out.1; omega)
        rw [hcur, hx0] at htk
        simp at htk
        obtain ⟨e1, _, _⟩ := htk
        have := (HF2.out.lt w.heap.size (by rw [← e1]; rfl)).1
        have := hw5.out
        have := HW35.out
        omega
      · rw [HH3.out] at hblk
        simp only [Option.some.injEq, Obj.cells.injEq] at hblk
        exact absurd hblk.2.1 (by decide)
      · simp only [Value.ownBlock, Option.some.injEq] at hj
        obtain ⟨cur2, fz2, hb2⟩ := HBT.out
        rw [← hj, hb2] at hblk
        simp only [Option.some.injEq, Obj.cells.injEq] at hblk
        exact absurd hblk.2.1 (by decide)
    clear hown' hgrow hp1 hp2 hp3 c1 lt5 FD0
    gi_wp2
    exact ⟨FK.out, FD.out, _, HP3.out, HP1.out, FB.out, X4.out.trans FD.out, FN.out⟩
  case hdone =>
    rintro d W hd ⟨vp, x1, x2, x3, x4, x5⟩ hK
    rw [hpl, ← HN.out, pcN_mul hk1 hu1] at x2
    have c1 := x1.cell
    have HKD := hid hK
    have X2 := hid x2
    have X3 := hid x3
    obtain ⟨pp, cp, ep⟩ : ∃ p c, vp = .slice p (blL l k k).length c := by obtain ⟨xs, hrow, _⟩ := x2; exact own_slc1 hrow
    subst ep
    clear x1 x2 x3 x4 x5 hK
    go_wp2
    refine ⟨by simp, .inl ⟨_, _, rfl, run_takeDeferred HKD.out, ?_⟩⟩
    refine ⟨_, results_tmp2 rfl _ _ _, _, rfl, ?_, X3.out.trans (belowK_b (w := w) (Nat.le_refl _) W d _ _ (by have := hw5.out; omega) HKD.out rfl rfl)⟩
    obtain ⟨xs, hrow, hel⟩ := X2.out
    exact ⟨xs, ownsRow_putObj hrow _ HKD.out rfl, fun j hj => ⟨ownsRow_putObj (hel j hj).1 _ HKD.out rfl, (hel j hj).2⟩⟩
end Go.Proofs.Ytdmdcnikhnoclab
