/- Of the road to cutBlocks_holds: CutBlk, RangeG, CutPcG, AppB, Marks, Apart, CutBlkG. -/
import Derived.Test.YtafdklelfcccbaaG05
import Derived.Laws.IdiomCopy
import Derived.Test.YtafdklelfcccbaaG00
import Derived.Laws.AppendOwn
import Derived.Deep.RegionHeld3
set_option linter.unusedVariables false
set_option linter.unusedSimpArgs false
namespace Go.Proofs.Ytafdklelfcccbaa
open Go Go.RowKit Go.Shelf
attribute [local go_sem] Oper.semAt_some
theorem info_u8s : (Try.prog.info? 5).map (·.size) = some 1 := by kernel_rfl
theorem below_setCells {B g : Nat} {w : World} (hg : B ≤ g) : ∀ (vs : List Value) (o : Nat) (W : World), Below B w W → Below B w (W.setCells g o vs)
  | [], _, _, h => h
  | v :: r, o, W, h => below_setCells hg r (o + 1) _ (h.setCell (p := ⟨g, o, none⟩) hg v)
theorem setCells_size (g : Nat) : ∀ (vs : List Value) (o : Nat) (W : World), (W.setCells g o vs).heap.size = W.heap.size
  | [], _, _ => rfl
  | v :: r, o, W => by rw [World.setCells, setCells_size g r (o + 1)]; simp
theorem bt_setCell {W : World} {x : Nat} {T : TypeId} (g o : Nat) (v : Value) (h : ∃ cur fz, W.heap[x]? = some (.cells cur T fz)) : ∃ cur fz, (W.setCell ⟨g, o, none⟩ v).heap[x]? = some (.cells cur T fz) := by
  obtain ⟨cur, fz, h⟩ := h
  by_cases e : g = x
  · subst e
    exact ⟨cur.setIfInBounds o v, fz, by simp [World.setCell, Array.getElem?_modify, h]⟩
  · exact ⟨cur, fz, by simp [World.setCell, Array.getElem?_modify, e, h]⟩
theorem bt_setCells (g : Nat) {x : Nat} {T : TypeId} : ∀ (vs : List Value) (o : Nat) (W : World), (∃ cur fz, W.heap[x]? = some (.cells cur T fz)) → ∃ cur fz, (W.setCells g o vs).heap[x]? = some (.cells cur T fz)
  | [], _, _, h => h
  | v :: r, o, W, h => bt_setCells g r (o + 1) _ (bt_setCell g o v h)
def padL (l : List Int) (N : Nat) : List Int := l ++ List.replicate (N - l.length) 0
theorem padL_length {l : List Int} {N : Nat} (h : l.length ≤ N) : (padL l N).length = N := by simp [padL]; omega
theorem padL_byt {l : List Int} {N : Nat} (h : ∀ x ∈ l, 0 ≤ x ∧ x < 256) : ∀ x ∈ padL l N, 0 ≤ x ∧ x < 256 := by
  intro x hx
  rcases List.mem_append.1 hx with hx | hx
  · exact h x hx
  · have := (List.mem_replicate.1 hx).2; omega
theorem made_cells (n : Nat) : (madeCells (Value.int IntKind.u8 0).cells (n * 1)).toList = (List.replicate n (0 : Int)).map (Value.int .u8) := by
  rw [show (Value.int IntKind.u8 0).cells = #[Value.int .u8 0] from rfl, toList_madeCells_one]
  simp
theorem fill_HB {W : World} {B g N : Nat} {l : List Int} (hown : W.ownsRow B 5 1 (.slice (some ⟨g, 0, none⟩) N N) N ((List.replicate N (0 : Int)).map (Value.int .u8))) (hl : l.length ≤ N) (h1 : 1 ≤ N) (hby : ∀ x ∈ l, 0 ≤ x ∧ x < 256) :
    HB (W.setCells g 0 (l.map (Value.int .u8))) (.slice (some ⟨g, 0, none⟩) N N) (padL l N) := by
  obtain ⟨g', cap, e, _, hn, hm, hc⟩ := ownsRow_cells hown (by omega)
  simp only [Value.slice.injEq, Option.some.injEq, Addr.mk.injEq, and_true, true_and] at e
  obtain ⟨rfl, rfl⟩ := e
  have cell : ∀ j, j < N → W.cell? ⟨g, 0 + j, none⟩ = some (.int .u8 0) := fun j hj => hc j _ (by simp [hj])
  refine ⟨⟨_, N, by rw [padL_length hl], by rw [padL_length hl]; exact Nat.le_refl _, hm, (fun q => by cases q), fun _ => ⟨g, 0, rfl, fun j hj => ?_⟩⟩, padL_byt hby⟩
  rw [padL_length hl] at hj
  by_cases hjl : j < l.length
  · rw [World.cell?_setCells_in g _ 0 W (fun i hi => by rw [cell i (by simp at hi; omega)]; rfl) j (by simpa using hjl)]
    simp only [padL, List.getD, List.getElem_map]
    rw [List.getElem?_append_left hjl, List.getElem?_eq_getElem hjl]
    rfl
  · rw [World.cell?_setCells_out g _ 0 W _ (fun _ _ => .inr (by simp; omega)), cell j hj]
    simp only [padL, List.getD]
    rw [List.getElem?_append_right (by omega), List.getElem?_replicate]
    split <;> rfl
def blU (l : List Int) (k : Nat) : Nat := pcN l.length k
def blL (l : List Int) (k i : Nat) : List (List Int) := (List.range i).map (pcP (padL l (k * blU l k)) (blU l k))
theorem blL_length (l : List Int) (k i : Nat) : (blL l k i).length = i := by simp [blL]
theorem blL_succ (l : List Int) (k i : Nat) : blL l k (i + 1) = blL l k i ++ [pcP (padL l (k * blU l k)) (blU l k) i] := by simp [blL, List.range_succ]
theorem blU_pos (l : List Int) (k : Nat) : 1 ≤ blU l k := Nat.le_add_left 1 _
theorem blU_ge {l : List Int} {k : Nat} (hk : 1 ≤ k) (hl : 1 ≤ l.length) : l.length ≤ k * blU l k := by
  unfold blU pcN
  have := Nat.div_add_mod (l.length - 1) k
  have := Nat.mod_lt (l.length - 1) (show 0 < k by omega)
  rw [Nat.mul_add]
  omega
theorem blU_le {l : List Int} {k : Nat} (hk : 1 ≤ k) : k * blU l k ≤ l.length + k := by
  unfold blU pcN
  have := Nat.div_add_mod (l.length - 1) k
  rw [Nat.mul_add]
  omega
theorem pcN_mul {k u : Nat} (hk : 1 ≤ k) (hu : 1 ≤ u) : pcN (k * u) u = k := by
  unfold pcN
  obtain ⟨m, rfl⟩ : ∃ m, k = m + 1 := ⟨k - 1, by omega⟩
  have e : (m + 1) * u - 1 = u * m + (u - 1) := by rw [Nat.add_mul, Nat.mul_comm m u]; omega
  rw [e, Nat.mul_add_div (by omega), Nat.div_eq_of_lt (by omega)]
theorem pcP_byt {l : List Int} (h : ∀ x ∈ l, 0 ≤ x ∧ x < 256) (size k : Nat) : BytI (pcP l size k) := fun x hx => h x (List.mem_of_mem_take (List.mem_of_mem_drop hx))
theorem wp_cpy {o : Oper} {a : Act} {w w' : World} {K : Act → World → Prop} {Q : Exit → Act → World → Prop} {x y : Operand} {t t' : TypeId} {v u r : Value} (ho : o.op = .call { callee := .builtin .copy, args := #[x, y], argTypes := #[t, t'] })
    (hx : a.eval x = v) (hy : a.eval y = u) (hr : (Builtin.copy_ #[t, t'] o.type #[v, u]).run Try.prog w = .ok r w') (h : K (a.put o.dst r) w') : o.wp Try.prog a w K Q := by
  have e : (execOp a.eval o).run Try.prog w = .ok (.value r) w' := by
    simp only [execOp, ho, resolve, invoke, builtin, Sem.run_bind, Sem.run_pure, Result.andThen_ok, List.map_toArray, List.map_cons, List.map_nil, hx, hy, hr]
  unfold Oper.wp
  rw [e]
  exact h
set_option maxRecDepth 100000 in
set_option maxHeartbeats 8000000 in
theorem blocks_ok (w : World) (v : Value) (l : List Int) (k : Nat) (hv : HB w v l) (hk1 : 1 ≤ k) (hk2 : k ≤ 255) (hl1 : 1 ≤ l.length) (hl2 : (l.length : Int) ≤ (k : Int) * upI 65536 k) :
    Calls Try.prog 34 #[v, .int .i64 k] w fun e w' => ∃ v', e = .returned (.tuple #[v', .int .i64 0]) ∧ PW w.heap.size w' v' (blL l k k) ∧ Below w.heap.size w w' := by
  have HA := hid hv
  obtain ⟨p, c, rfl, hlc, hcm⟩ := hv.open
  unfold maxLen at hcm
  obtain ⟨b0, o0, c0, e0, _, _, hcell0⟩ := hv.ne (by omega)
  simp only [Value.slice.injEq] at e0
  obtain ⟨rfl, _, rfl⟩ := e0
  have HC0 := hid hcell0
  clear hcell0 hv
  have ml := most_lt (k := (k : Int)) (by omega) (by omega)
  have CM := hid fun w => most_any w (k : Int) (by omega) (by omega)
  obtain ⟨M, HM⟩ : ∃ M, Hid ((k : Int) * upI 65536 k = M) := ⟨_, rfl⟩
  rw [HM.out] at CM ml hl2
  have CU := hid fun w => upward_any w (l.length : Int) (k : Int) (by omega) (by omega) (by omega)
  rw [pcN_up hl1] at CU
  obtain ⟨u, HU⟩ : ∃ u, Hid (blU l k = u) := ⟨_, rfl⟩
  have hu1 : 1 ≤ u := by rw [← HU.out]; exact blU_pos l k
  obtain ⟨N, HN⟩ : ∃ N, Hid (k * u = N) := ⟨_, rfl⟩
  have hN1 : l.length ≤ N := by rw [← HN.out, ← HU.out]; exact blU_ge hk1 hl1
  have hN2 : N ≤ l.length + k := by rw [← HN.out, ← HU.out]; exact blU_le hk1
  have huN : u ≤ N := by rw [← HN.out]; exact Nat.le_mul_of_pos_left u hk1
  have HU' : Hid (pcN l.length k = u) := HU
  rw [HU'.out] at CU
  have hmul : (k : Int) * (u : Int) = (N : Int) := by rw [← HN.out]; simp
  have hwN : IntKind.i64.wrap (N : Int) = (N : Int) := wrap64 (by omega) (by omega)
  obtain ⟨i0, hi, hz0, hz1, hz2⟩ := info_parts info_u8
  obtain ⟨w1, hmk, hown, hgr⟩ := run_make_full (P := Try.prog) w w.heap.size 22 5 i0 (.int .u8 0) 1 Try.underlying22 hi hz0 hz1 .i64 .i64 N (by rw [hz2]; omega) (by unfold maxLen; omega) (Nat.le_refl _)
  rw [made_cells] at hown
  have B1 : Hid (Below w.heap.size w w1) := (Below.refl _ w).grown hgr (Nat.le_refl _) (fun k e => by cases e)
  obtain ⟨w2, HW2⟩ : ∃ w2, Hid (w1.setCells w.heap.size 0 (l.map (Value.int .u8)) = w2) := ⟨_, rfl⟩
  have F2 : Hid (HB w2 (.slice (some ⟨w.heap.size, 0, none⟩) N N) (padL l N)) := by rw [← HW2.out]; exact fill_HB hown hN1 (by omega) HA.out.2
  have B2 : Hid (Below w.heap.size w w2) := by rw [← HW2.out]; exact below_setCells (Nat.le_refl _) _ _ _ B1.out
  have hg1 : w.heap.size < w1.heap.size := (hown.lt w.heap.size rfl).2
  have hS2 : w2.heap.size = w1.heap.size := by rw [← HW2.out]; exact setCells_size _ _ _ _
  have HCP : Hid (∀ ty, (Builtin.copy_ #[22, 22] ty #[.slice (some ⟨w.heap.size, 0, none⟩) N N, .slice (some ⟨b0, o0, none⟩) l.length c]).run Try.prog w1 = .ok (goInt (l.map (Value.int .u8)).length) w2) := by
    intro ty
    rw [← HW2.out]
    obtain ⟨g', cap, e, _, hn, hm, hc⟩ := ownsRow_cells hown (by omega)
    simp only [Value.slice.injEq, Option.some.injEq, Addr.mk.injEq, and_true, true_and] at e
    obtain ⟨rfl, rfl⟩ := e
    have cell : ∀ j, j < N → w1.cell? ⟨w.heap.size, 0 + j, none⟩ = some (.int .u8 0) := fun j hj => hc j _ (by simp [hj])
    refine run_copy_cells (P := Try.prog) w1 22 22 ty 5 w.heap.size 0 N N ⟨b0, o0, none⟩ l.length c (l.map (Value.int .u8)) Try.underlying22 info_u8s (by simp [Nat.min_def]; omega) (fun j v hv => ?_) (fun j hj => ?_) (fun j hj => ?_) (fun v hv => ?_)
    · have hj : j < l.length := by have := (List.getElem?_eq_some_iff.1 hv).1; simpa using this
      have e2 : v = .int .u8 (l.getD j 0) := by simp [List.getElem?_map, List.getElem?_eq_getElem hj] at hv; rw [← hv]; simp [List.getD, List.getElem?_eq_getElem hj]
      rw [e2, Go.WideShapes.add_plain]
      have := HC0.out j hj
      exact (B1.out.cell (World.block_lt_of_cell? w _ this)).trans this
    · rw [cell j (by simp at hj; omega)]; rfl
    · rcases hown.2 with ⟨e, _⟩ | ⟨g2, cap2, cur, e, _, hh, _⟩
      · cases e
      · simp only [Value.slice.injEq, Option.some.injEq, Addr.mk.injEq, and_true, true_and] at e
        obtain ⟨rfl, _⟩ := e
        simp [World.frozen?, hh]
    · obtain ⟨t, _, rfl⟩ := List.mem_map.1 hv; rfl
  have BT2 : Hid (∃ cur fz, w2.heap[w.heap.size]? = some (.cells cur 5 fz)) := by
    rw [← HW2.out]
    refine bt_setCells _ _ _ _ ?_
    rcases hown.2 with ⟨e, _⟩ | ⟨g2, cap2, cur, e, _, hh, _⟩
    · cases e
    · simp only [Value.slice.injEq, Option.some.injEq, Addr.mk.injEq, and_true, true_and] at e
      obtain ⟨rfl, _⟩ := e
      exact ⟨cur, _, hh⟩
  clear hown hgr
  obtain ⟨i1, hi1, hy0, hy1, hy2⟩ := info_parts info_bytes
  obtain ⟨w3, hmk3, hown3, hgr3⟩ := run_make_own (P := Try.prog) w2 w2.heap.size 48 22 i1 (.slice none 0 0) 1 Try.underlying48 hi1 hy0 hy1 .i64 .i64 k (by rw [hy2]; omega) (by unfold maxLen; omega) (Nat.le_refl _)
  have O3 := hid hown3
  have G3 := hid hgr3
  clear hown3 hgr3
  refine (callsIn_wide (n := 3)).1 ?_
  refine callsIn_of_wp_marks Try.func34 rfl trivial (wpIn_wide.2 ?_) rfl
  simp only [Try.ntmps34, List.size_toArray, List.length_cons, List.length_nil, Nat.reduceAdd, Nat.reduceSub, Array.replicate_succ, Array.replicate_zero, List.push_toArray, List.append_toArray, List.nil_append, List.cons_append]
  go_wp2_with fail
  refine (CM.out w).mono ?_
  rintro e wq ⟨rfl, hwq⟩
  rw [hwq]
  clear hwq wq
  go_wp2_with fail
  refine (CU.out w).mono ?_
  rintro e wq ⟨rfl, hwq⟩
  rw [hwq]
  clear hwq wq
  have hcp := HCP.out
  simp only [goInt, List.length_map] at hcp
  go_wp2_with fail
  clear hcp hmk hmk3
  obtain ⟨W4, HW4⟩ : ∃ W4, Hid (w3.alloc (.cells #[.slice (some ⟨w1.heap.size, 0, none⟩) 0 k] 48) = W4) := ⟨_, rfl⟩
  rw [HW4.out]
  have B23 : Below w2.heap.size w2 w3 := (Below.refl _ w2).grown G3.out (Nat.le_refl _) (fun k e => by cases e)
  have B34 : Below w3.heap.size w3 W4 := by rw [← HW4.out]; exact below_alloc _ _
  have hs23 := B23.size
  have hS4 : W4.heap.size = w3.heap.size + 1 := by rw [← HW4.out]; simp
  have F4 := hid ((F2.out.below B23).below B34)
  have B04 : Hid (Below w.heap.size w W4) := (B2.out.trans (B23.mono (by omega))).trans (B34.mono (by omega))
  have X4 : Hid (Boxed W4 w3.heap.size 48 (.slice (some ⟨w1.heap.size, 0, none⟩) 0 k)) := by rw [← HW4.out]; exact Boxed.new _ _ _
  have O4 : Hid (W4.ownsRow w.heap.size 22 1 (.slice (some ⟨w1.heap.size, 0, none⟩) 0 k) 0 []) := by
    have := own_below O3.out B34
    rw [hS2] at this
    exact own_mono this (by omega)
  have hw13 : w1.heap.size < w3.heap.size := by
    have := O3.out.lt w2.heap.size rfl
    omega
  have hBT : ∃ cur fz, W4.heap[w.heap.size]? = some (.cells cur 5 fz) := by
    obtain ⟨cur, fz, h⟩ := BT2.out
    exact ⟨cur, fz, (B34.block w.heap.size (by omega)).trans ((B23.block w.heap.size (by omega)).trans h)⟩
  clear B23 B34 F2 O3 G3 B1 B2
  refine (pieces_any W4 _ (padL l N) u F4.out).mono ?_
  rintro e w5 ⟨b5, b3, rfl, hbox, hb5, hb3, hs5, hh5, hh3, hB5⟩
  have HBx := hid hbox
  have HH5 := hid hh5
  have HH3 := hid hh3
  have B05 : Hid (Below w.heap.size w w5) := B04.out.trans (hB5.mono B04.out.size)
  have X5 : Hid (Boxed w5 w3.heap.size 48 (.slice (some ⟨w1.heap.size, 0, none⟩) 0 k)) := X4.out.kept (grown_below (r := none) hB5) (by simp)
  have O5 := hid (own_below O4.out hB5)
  have HBT : Hid (∃ cur fz, w5.heap[w.heap.size]? = some (.cells cur 5 fz)) := by
    obtain ⟨cur, fz, h⟩ := hBT
    exact ⟨cur, fz, (hB5.block w.heap.size (by omega)).trans h⟩
  clear hbox hh5 hh3 hB5 X4 O4 B04 hBT
  have HDl : Hid (∀ i, pcD (.slice (some ⟨w.heap.size, 0, none⟩) N N) b5 b3 i → i < w5.heap.size ∧ i ≠ w3.heap.size) := by
    rintro i (rfl | rfl | hi)
    · omega
    · omega
    · simp only [Value.ownBlock, Option.some.injEq] at hi; omega
  have HD0 : Hid (∀ i, pcD (.slice (some ⟨w.heap.size, 0, none⟩) N N) b5 b3 i → (Value.slice (some ⟨w1.heap.size, 0, none⟩) 0 k).ownBlock ≠ some i) := by
    rintro i (rfl | rfl | hi) q
    · simp only [Value.ownBlock, Option.some.injEq] at q; omega
    · simp only [Value.ownBlock, Option.some.injEq] at q; omega
    · simp only [Value.ownBlock, Option.some.injEq] at q hi; omega
  have hw5 := hid B05.out.size
  have HW3 : Hid (w.heap.size ≤ w3.heap.size) := by show _ ≤ _; omega
  have HW35 : Hid (w.heap.size < w5.heap.size) := by show _ < _; omega
  clear hb5 hb3 hs5 hS4 hs23 hw13 hg1 hS2
  go_wp2_with fail
  refine (wpIn_wide (n := 3)).1 ?_
  have hpl : (padL l N).length = N := padL_length hN1
  apply range_fit rfl (by decide) (gf := 54) (lb := #[.pointer (some ⟨b5, 0, none⟩), .pointer (some ⟨b3, 0, none⟩)]) rfl trivial (enters_of Try.func54 (by kernel_rfl) rfl)
    (pieces_iter (3 - 1) w5 (.slice (some ⟨w.heap.size, 0, none⟩) N N) b5 b3 (padL l N) u hu1 (by omega) (by omega) (by omega) HBx.out (fun i hi => (HDl.out i hi).1)) (KD.refl _ _) (fun i hi => (HDl.out i hi).1) (fun _ _ => rfl)
    (fun i W => ∃ v, Boxed W w3.heap.size 48 v ∧ PW w.heap.size W v (blL l k i) ∧ Below w.heap.size w W ∧ KD (pcD (.slice (some ⟨w.heap.size, 0, none⟩) N N) b5 b3) w5 W ∧ ∀ i, pcD (.slice (some ⟨w.heap.size, 0, none⟩) N N) b5 b3 i → v.ownBlock ≠ some i)
    (fun _ _ => False)
    (fun s A C row hs hg hr => by
      obtain ⟨v, h1, h2, h3, h4, h5⟩ := hs
      refine ⟨v, box_from h1 hg hr, h2.from hg hr, below_from h3 (Nat.le_refl _) hg hr (by have := hw5.out; omega), ⟨Nat.le_trans h4.1 hg.size, fun i hi => ?_⟩, h5⟩
      have hlt := (HDl.out i hi).1
      refine (hg.block i (Nat.lt_of_lt_of_le hlt h4.1) fun e => ?_).trans (h4.2 i hi)
      obtain ⟨q1, _⟩ := hr i e.symm
      omega)
    (fun _ _ _ _ hs _ _ => hs)
    (fun k v _ A C row hs hg hr => row_from hs hg hr)
    ⟨_, X5.out, ⟨[], O5.out, fun j hj => by simp [blL] at hj⟩, B05.out, KD.refl _ _, HD0.out⟩
  case hassign =>
    intro l k v W K hK
    gi_wp2
    exact hK
  case hstop =>
    intro d c W _ h _
    exact h.elim
  case hbody =>
    rintro lp i v W hlp - ⟨vp, x1, ⟨xs, hrow, hel⟩, x3, x4, x5⟩ hf hi'
    rw [hpl, ← HN.out, pcN_mul hk1 hu1] at hi'
    have HBL : Hid (blL l k (i + 1) = blL l k i ++ [pcP (padL l N) u i]) := by
      show _ = _
      rw [blL_succ, HU.out, HN.out]
    obtain ⟨pv, cv, ev⟩ := own_slc1 hf
    obtain ⟨pp, cp, ep⟩ := own_slc1 hrow
    subst ev ep
    have PL := hid (blL_length l k i)
    have HROW := hid hrow
    have HEL := hid hel
    have HF := hid hf
    have X1 := hid x1
    have X3 := hid x3
    have X4 := hid x4
    have X5 := hid x5
    have c1 := x1.cell
    have HPB := hid (pcP_byt (padL_byt (N := N) HA.out.2) u i)
    obtain ⟨m, HMM⟩ : ∃ m, Hid ((pcP (padL l N) u i).length = m) := ⟨_, rfl⟩
    have hm1 : Hid (1 ≤ m) := by
      rw [← HMM.out, pcP_length, hpl]
      have h2 : i < pcN N u := by rw [← HN.out, pcN_mul hk1 hu1]; exact hi'
      have := (pcN_iff hu1 (by omega)).1 h2
      show _ ≤ _
      omega
    rw [HMM.out]
    obtain ⟨kk, HKK⟩ : ∃ kk, Hid ((blL l k i).length = kk) := ⟨_, rfl⟩
    have hkk : kk < 255 := by rw [← HKK.out, PL.out]; omega
    rw [HKK.out] at c1
    have HR2 : Hid (W.ownsRow w.heap.size 22 1 (.slice pp kk cp) kk xs) := by rw [← HKK.out]; exact HROW.out
    have X2 : Hid (Boxed W w3.heap.size 48 (.slice pp kk cp)) := by rw [← HKK.out]; exact X1.out
    have HF2 : Hid (W.ownsRow w5.heap.size 5 1 (.slice pv m cv) (pcP (padL l N) u i).length ((pcP (padL l N) u i).map (Value.int .u8))) := by rw [← HMM.out]; exact HF.out
    have X6 : Hid (∀ j, pcD (.slice (some ⟨w.heap.size, 0, none⟩) N N) b5 b3 j → (Value.slice pp kk cp).ownBlock ≠ some j) := by rw [← HKK.out]; exact X5.out
    clear hrow hel hf x1 x3 x4 x5 hlp
    gi_wp2_with (gi_at_builtin; refine wpListIn_append_own _ rfl _ _ 48 rfl w.heap.size 22 i1 (.slice none 0 0) 1 24 Try.underlying48 hi1 hy0 hy1 hy2 rfl (by decide) _ _ xs rfl (HR2.out.alloc _) ⟨W.heap.size, 0, none⟩ 1 1 [.slice pv m cv] rfl rfl (cell_one_new _ _ _) (by simp [Value.oneCell']) ?b1 ?b2 ?b3 ?_)
    case b1 => unfold maxLen; omega
    case b2 => omega
    case b3 => have := X3.out.size; simp; omega
    intro v' w1' hown' hgrow _
    obtain ⟨g', cap', rfl⟩ := ownsRow_succ hown'
    have P1 : (w1'.setCell ⟨w3.heap.size, 0, none⟩ (.slice (some ⟨g', 0, none⟩) (kk + 1) cap')).heap.size = w1'.heap.size := by simp
    have PP := PW.push (ls := blL l k i) (by rw [HKK.out]; exact HR2.out) HEL.out (own_mono HF2.out hw5.out) HPB.out X2.out (by rw [HKK.out]; exact hown') hgrow
    rw [← HBL.out] at PP
    obtain ⟨hp1, hp2, hp3⟩ := PP
    have hc1 := hp2.cell
    have hf1 := hp2.frozen
    have HP1 := hid hp1
    have HP3 := hid hp3
    have hwsz : W.heap.size + 1 ≤ w1'.heap.size := by have := hgrow.size; simpa using this
    have lt5 := HR2.out.lt
    have FK : Hid (KeepsFrom w5.heap.size W (w1'.setCell ⟨w3.heap.size, 0, none⟩ (.slice (some ⟨g', 0, none⟩) (kk + 1) cap'))) := by
      have a1 := KeepsOthers.alloc W (.cells #[.slice pv m cv] 22)
      have a2 : KeepsOthers (W.alloc (.cells #[.slice pv m cv] 22)) w1' := KeepsOthers.of_grownBy hgrow fun j o ej hj => by
        rcases (HR2.out.alloc (.cells #[.slice pv m cv] 22)).2 with ⟨e0, _⟩ | ⟨g, cap, cur, e0, _, hgb, _⟩
        · rw [e0] at ej; simp [Value.ownBlock] at ej
        · rw [e0] at ej
          obtain rfl : g = j := by simpa [Value.ownBlock] using ej
          rw [hgb] at hj; cases hj; rfl
      exact ((a1.trans a2).trans (KeepsOthers.setCell _ _ _)).from _
    have FD0 : ∀ j, pcD (.slice (some ⟨w.heap.size, 0, none⟩) N N) b5 b3 j → w1'.heap[j]? = W.heap[j]? := fun j hj => by
      have hj5 := (HDl.out j hj).1
      have hW := X4.out.1
      rw [hgrow.block j (by simp; omega) (fun e => X6.out j hj e.symm)]
      exact Below.heap_alloc W _ j (by omega)
    have FD : Hid (KD (pcD (.slice (some ⟨w.heap.size, 0, none⟩) N N) b5 b3) W (w1'.setCell ⟨w3.heap.size, 0, none⟩ (.slice (some ⟨g', 0, none⟩) (kk + 1) cap'))) := by
      refine ⟨by simp; omega, fun j hj => ?_⟩
      rw [heap_setCell_other _ _ _ _ (by have := (HDl.out j hj).2; simp; omega)]
      exact FD0 j hj
    have FB : Hid (Below w.heap.size w (w1'.setCell ⟨w3.heap.size, 0, none⟩ (.slice (some ⟨g', 0, none⟩) (kk + 1) cap'))) := by
      have b1 := X3.out.alloc X3.out.size (.cells #[.slice pv m cv] 22)
      have b2 := b1.grown hgrow b1.size (fun j e => by have := (lt5 j e).1; omega)
      exact b2.setCell (p := ⟨w3.heap.size, 0, none⟩) HW3.out _
    have FN : Hid (∀ j, pcD (.slice (some ⟨w.heap.size, 0, none⟩) N N) b5 b3 j → (Value.slice (some ⟨g', 0, none⟩) (kk + 1) cap').ownBlock ≠ some j) := by
      intro j hj e
      obtain rfl : g' = j := by simpa [Value.ownBlock] using e
      have hblk := (FD0 g' hj).trans (X4.out.2 g' hj)
      rcases hown'.2 with ⟨e0, _⟩ | ⟨g2, cap2, cur, e0, _, hgb, hn2, _, hcs, htk⟩
      · cases e0
      simp only [Value.slice.injEq, Option.some.injEq, Addr.mk.injEq, and_true, true_and] at e0
      obtain ⟨rfl, rfl⟩ := e0
      rw [hgb] at hblk
      rcases hj with rfl | rfl | hj
      · rw [HH5.out] at hblk
        simp only [Option.some.injEq, Obj.cells.injEq] at hblk
        obtain ⟨hcur, _, _⟩ := hblk
        have hl1' : cur.size = 1 := by rw [hcur]; rfl
        have hkk0 : kk = 0 := by omega
        subst hkk0
        have hx0 : xs = [] := List.length_eq_zero_iff.1 (by have := HR2.out.1; omega)
        rw [hcur, hx0] at htk
        simp at htk
        obtain ⟨e1, _, _⟩ := htk
        have := (HF2.out.lt w.heap.size (by rw [← e1]; rfl)).1
        have := hw5.out
        have := HW35.out
        omega
      · rw [HH3.out] at hblk
        simp only [Option.some.injEq, Obj.cells.injEq] at hblk
        exact absurd hblk.2.1 (by decide)
      · simp only [Value.ownBlock, Option.some.injEq] at hj
        obtain ⟨cur2, fz2, hb2⟩ := HBT.out
        rw [← hj, hb2] at hblk
        simp only [Option.some.injEq, Obj.cells.injEq] at hblk
        exact absurd hblk.2.1 (by decide)
    clear hown' hgrow hp1 hp2 hp3 c1 lt5 FD0
    gi_wp2
    exact ⟨FK.out, FD.out, _, HP3.out, HP1.out, FB.out, X4.out.trans FD.out, FN.out⟩
  case hdone =>
    rintro d W hd ⟨vp, x1, x2, x3, x4, x5⟩ hK
    rw [hpl, ← HN.out, pcN_mul hk1 hu1] at x2
    have c1 := x1.cell
    have HKD := hid hK
    have X2 := hid x2
    have X3 := hid x3
    obtain ⟨pp, cp, ep⟩ : ∃ p c, vp = .slice p (blL l k k).length c := by obtain ⟨xs, hrow, _⟩ := x2; exact own_slc1 hrow
    subst ep
    clear x1 x2 x3 x4 x5 hK
    go_wp2
    refine ⟨by simp, .inl ⟨_, _, rfl, run_takeDeferred HKD.out, ?_⟩⟩
    refine ⟨_, results_tmp2 rfl _ _ _, _, rfl, ?_, X3.out.trans (belowK_b (w := w) (Nat.le_refl _) W d _ _ (by have := hw5.out; omega) HKD.out rfl rfl)⟩
    obtain ⟨xs, hrow, hel⟩ := X2.out
    exact ⟨xs, ownsRow_putObj hrow _ HKD.out rfl, fun j hj => ⟨ownsRow_putObj (hel j hj).1 _ HKD.out rfl, (hel j hj).2⟩⟩
end Go.Proofs.Ytafdklelfcccbaa
namespace Go.Proofs.Ytafdklelfcccbaa
open Go.RowKit Go.Shelf
def IterG (F : Fence) (n : Nat) (P : Program) (g : Nat) (lb : Array Value) (enc : Nat → Value → Array Value) (Fit : Nat → Value → Nat → World → Prop) (D : Nat → Prop) (N : Nat) (w0 : World) : Prop :=
  ∀ (l : Nat) (J : Nat → World → Prop) (Jx : World → Prop) (W : World), KD D w0 W → (∀ k A C, J k A → A.grownBy C none → J k C) →
    (∀ k v A W1, J k A → A.grownBy W1 none → Fit k v A.heap.size W1 → k < N → YieldAt F (n - 1) P l (enc k v) W1 fun e W' => (e = .returned (.bool true) ∧ J (k + 1) W' ∧ KD D W1 W') ∨ (e = .returned (.bool false) ∧ Jx W')) →
    J 0 W → CallsIn F n P g (#[.func (.yield l) #[] #[]] ++ lb) W fun e W' => (∃ v, e = .returned v) ∧ (J N W' ∨ Jx W')
theorem range_fitG {F : Fence} {n : Nat} {P : Program} {g : Operand} {ps : Array Tmp} {assign body : Code} {Q : Exit → Act → World → Prop} {a : Act} {w : World}
    (hro : F.round = none) (h1 : 1 ≤ n) {gf : Nat} {lb : Array Value} (hg : a.eval g = .func (.func gf) #[] lb) (hFg : F.fn gf) (eg : ∀ args w, (callFunc gf args).run P w = .ok (.enter gf args) w)
    {enc : Nat → Value → Array Value} {Fit : Nat → Value → Nat → World → Prop} {D : Nat → Prop} {N : Nat} {w0 : World} (hit : IterG F (n - 1) P gf lb enc Fit D N w0) (hw0 : KD D w0 w) (hD : ∀ i, D i → i < w.heap.size) (hps : ∀ k v, (enc k v).size = ps.size)
    (I : Nat → World → Prop) (Ix : Code → World → Prop) (hI : OwnFrom w.heap.size I) (hIx : OwnFrom w.heap.size Ix) (hFit : ∀ k v S, OwnFrom w.heap.size (fun (_ : Unit) W => Fit k v S W)) (h0 : I 0 w) (a₁ : Nat → Value → Act)
    (hassign : ∀ (l k : Nat) (v : Value) (W : World) (K : Act → World → Prop), K (a₁ k v) W →
      assign.wpIn (F.inRound l) (n - 1 - 1) P (Exit.then K (fun _ _ _ => False)) { tmps := (ps.zip (enc k v)).foldl (fun t (p, v) => t.setIfInBounds p v) a.tmps, defers := [] } W)
    (hbody : ∀ (l k : Nat) (v : Value) (A W : World), w.heap.size ≤ l → (∃ r, W.heap[l]? = some (.loop r)) → I k A → (∀ Φ : World → Prop, OwnFrom w.heap.size (fun (_ : Unit) W => Φ W) → Φ A → Φ W) → Fit k v A.heap.size W → k < N → body.wpIn (F.inRound l) (n - 1 - 1) P (OutF w.heap.size D I Ix k W) (a₁ k v) W)
    (hdone : ∀ (d : Nat) (W : World), w.heap.size ≤ d → I N W → W.heap[d]? = some (.deferred (some [])) → Q .normal { a with defers := { target := .collected d, args := #[] } :: a.defers } W)
    (hstop : ∀ (d : Nat) (c : Code) (W : World), w.heap.size ≤ d → Ix c W → W.heap[d]? = some (.deferred (some [])) → c.wpIn F n P Q { a with defers := { target := .collected d, args := #[] } :: a.defers } W) :
    (Code.rangeFunc g ps assign body).wpIn F n P Q a w := by
  refine wpIn_rangeFunc fun fn hfn => ?_
  rw [hro]
  let R : LoopState → Option Code → Loop := fun st pe => { state := st, pending := pe, fn, tmps := a.tmps, params := ps, assign, body, defers := w.heap.size }
  have hds : ∀ i, D i → i ≠ w.heap.size ∧ i ≠ w.heap.size + 1 := fun i hi => by have := hD i hi; omega
  have hnd : ¬ D (w.heap.size + 1) := fun h => (hds _ h).2 rfl
  -- what of the two blocks of book-keeping: the record at st, pe, and the block for deferred calls
  let BK : LoopState → Option Code → World → Prop := fun st pe W => W.heap[w.heap.size + 1]? = some (.loop (R st pe)) ∧ W.heap[w.heap.size]? = some (.deferred (some []))
  have bk_put : ∀ {st pe W} (st' pe'), BK st pe W → BK st' pe' (W.putObj (w.heap.size + 1) (.loop (R st' pe'))) := fun st' pe' h =>
    ⟨World.putObj_heap_same (Array.getElem?_eq_some_iff.1 h.1).1, (World.putObj_heap_other (by omega)).trans h.2⟩
  have bk_kept : ∀ {st pe A C}, BK st pe A → KeepsFrom w.heap.size A C → BK st pe C := fun h k => ⟨k.same _ _ (by omega) h.1 rfl, k.same _ _ (Nat.le_refl _) h.2 rfl⟩
  have bk_grown : ∀ {st pe A C}, BK st pe A → A.grownBy C none → BK st pe C := fun h k =>
    ⟨(k.block _ (Array.getElem?_eq_some_iff.1 h.1).1 (by simp)).trans h.1, (k.block _ (Array.getElem?_eq_some_iff.1 h.2).1 (by simp)).trans h.2⟩
  obtain ⟨W1, hW1⟩ : ∃ W1, (w.alloc (.deferred (some []))).alloc (.loop (R .ready none)) = W1 := ⟨_, rfl⟩
  have hg1 : w.grownBy W1 none := by
    rw [← hW1]
    exact ⟨rfl, rfl, rfl, by simp; omega, fun i hi _ => (Below.heap_alloc _ _ _ (by simp; omega)).trans (Below.heap_alloc _ _ _ hi)⟩
  have hBK1 : BK .ready none W1 := by
    rw [← hW1]
    refine ⟨?_, (Below.heap_alloc _ _ _ (by simp)).trans (World.alloc_heap_new w _)⟩
    have := World.alloc_heap_new (w.alloc (.deferred (some []))) (.loop (R .ready none))
    rwa [World.size_alloc] at this
  refine ⟨w.heap.size + 1, [{ target := .collected w.heap.size, args := #[] }], W1, { target := .fn (.func gf) lb, args := #[.func (.yield (w.heap.size + 1)) #[] #[]] }, W1, gf, #[.func (.yield (w.heap.size + 1)) #[] #[]] ++ lb, W1, ?_, ?_, ?_, ?_, fun _ => h1, ?_⟩
  · rw [← hW1]; exact run_enterLoop_outer _ _ _ _ _
  · simp only [resolve, hg]; simp [go_sem]
  · intro f' hf'; simp [Target.leads] at hf'; subst hf'; exact hFg
  · simp [invoke, go_sem, eg]
  · refine (hit (w.heap.size + 1) (fun k W => I k W ∧ BK .ready none W) (fun W => ∃ c, Ix c W ∧ BK .done (some c) W) W1 (hw0.trans ⟨hg1.size, fun i hi => hg1.block i (hD i hi) (by simp)⟩)
      (fun k A C h hg' => ⟨hI k A C none h.1 hg' (fun r e => by cases e), bk_grown h.2 hg'⟩) ?_ ⟨hI 0 w W1 none h0 hg1 (fun r e => by cases e), hBK1⟩).mono ?_
    · rintro k v A W ⟨hiA, hbA⟩ hgA hf hk
      have hb := bk_grown hbA hgA
      refine ⟨fn, _, assign, body, run_yield (P := P) (r := R .ready none) (args := enc k v) hb.1 (hps k v), roundIn_of_wpIn hfn (hassign _ k v W _ ⟨_, run_beginRound hb.1 rfl, ?_⟩)⟩
      have hb2 : BK .busy none (W.putObj (w.heap.size + 1) (.loop (R .busy none))) := bk_put _ _ hb
      refine wpIn_mono (hbody _ k v A _ (by omega) ⟨_, hb2.1⟩ hiA (fun Φ hΦ hA => hΦ.putObj (s := ()) _ (hΦ () A W none hA hgA (fun r e => by cases e)) (by omega) hb.1 rfl) ((hFit k v A.heap.size).putObj (s := ()) _ hf (by omega) hb.1 rfl) hk) ?_
      rintro e a3 W3 hp
      cases e with
      | normal =>
        obtain ⟨k1, k2, k3⟩ := hp
        have hb3 := bk_kept hb2 k1
        exact ⟨_, _, run_endRound (P := P) none hb3.1, .inl ⟨rfl, ⟨hI.putObj _ k3 (by omega) hb3.1 rfl, bk_put .ready none hb3⟩, ((KD.put hnd _).trans k2).trans (KD.put hnd _)⟩⟩
      | ret =>
        have hb3 := bk_kept hb2 hp.1
        exact ⟨_, _, run_endRound (P := P) (some .ret) hb3.1, .inr ⟨rfl, .ret, hIx.putObj _ hp.2 (by omega) hb3.1 rfl, bk_put .done (some .ret) hb3⟩⟩
      | exit id =>
        have hb3 := bk_kept hb2 hp.1
        exact ⟨_, _, run_endRound (P := P) (some (.exit id)) hb3.1, .inr ⟨rfl, .exit id, hIx.putObj _ hp.2 (by omega) hb3.1 rfl, bk_put .done (some (.exit id)) hb3⟩⟩
      | goto t => exact hp.elim
      | panic ch => exact hp.elim
      | outgrown => exact hp.elim
    · rintro e W2 ⟨⟨v, rfl⟩, ⟨hi, hb⟩ | ⟨c, hc, hb⟩⟩
      · exact ⟨none, _, run_endLoop (P := P) hb.1 (by simp [R]), hdone _ _ (Nat.le_refl _) (hI.putObj _ hi (by omega) hb.1 rfl) ((World.putObj_heap_other (by omega)).trans hb.2)⟩
      · exact ⟨some c, _, run_endLoop (P := P) hb.1 (by simp [R]), hstop _ c _ (Nat.le_refl _) (hIx.putObj _ hc (by omega) hb.1 rfl) ((World.putObj_heap_other (by omega)).trans hb.2)⟩
end Go.Proofs.Ytafdklelfcccbaa
namespace Go.Proofs.Ytafdklelfcccbaa
open Go Go.RowKit Go.Shelf
attribute [local go_sem] Oper.semAt_some
set_option maxRecDepth 100000 in
set_option maxHeartbeats 4000000 in
theorem pieces_iterG (n : Nat) (w0 : World) (hv : Value) (b5 b3 : Nat) (l : List Int) (size : Nat) (hs : 1 ≤ size) (hs2 : size ≤ 1073741824) (hl1 : 1 ≤ l.length) (hbig : l.length ≤ 1073741824) (hbox : PcBox w0 hv b5 b3 l size) (hD : ∀ i, pcD hv b5 b3 i → i < w0.heap.size) :
    IterG Fence.wide n Try.prog 54 #[.pointer (some ⟨b5, 0, none⟩), .pointer (some ⟨b3, 0, none⟩)] (fun k v => #[.int .i64 (k : Nat), v])
      (fun k v S W => W.ownsRow S 5 1 v (pcP l size k).length ((pcP l size k).map (Value.int .u8))) (pcD hv b5 b3) (pcN l.length size) w0 := fun l' J Jx W hK hJ hY h0 => by
  have HBx := hid (hbox.kept hK)
  have HK := hid hK
  have HJ := hid hJ
  have HY := hid hY
  have H0 := hid h0
  have HD := hid hD
  clear hbox hK hJ hY h0 hD
  refine callsIn_of_wp Try.func54 rfl trivial ?_ rfl
  simp only [Try.ntmps54, List.size_toArray, List.length_cons, List.length_nil, Nat.reduceAdd, Nat.reduceSub, Array.replicate_succ, Array.replicate_zero, List.push_toArray, List.append_toArray, List.nil_append, List.cons_append]
  obtain ⟨p, c, rfl, hlc, hcm⟩ := HBx.out.row.open
  unfold maxLen at hcm
  have c5 := HBx.out.held
  have c3 := HBx.out.sz
  have CU := hid (upward_any W (l.length : Int) (size : Int) (by omega) (by omega) (by omega))
  rw [pcN_up hl1] at CU
  have hNle : pcN l.length size ≤ l.length := by
    unfold pcN
    have := Nat.div_le_self (l.length - 1) size
    omega
  obtain ⟨N, HN⟩ : ∃ N, Hid (pcN l.length size = N) := ⟨_, rfl⟩
  rw [HN.out] at CU hNle
  have HI := hid (fun k => (HN.out ▸ pcN_iff hs hl1 : k < N ↔ pcAt size k < l.length))
  gi_wp2
  refine ⟨trivial, fun h => absurd h (by simp [Fence.wide]), callsIn_wide.2 (CU.out.mono ?_)⟩
  rintro e wz ⟨rfl, hwz⟩
  rw [hwz]
  clear hwz wz CU c5 c3
  gi_wp2
  gi_loopw [10] (fun i wr => ∃ k : Nat, Hid (k ≤ N) ∧ i = .int .i64 (k : Int) ∧ Hid (J k wr) ∧ Hid (KD (pcD (.slice p l.length c) b5 b3) W wr)) (fun i _ => N - (intOf i).toNat)
  case atStart => exact ⟨0, Nat.zero_le _, rfl, H0, KD.refl _ _⟩
  case round =>
    obtain ⟨k, hk, rfl, HJk, HKk⟩ := hrel
    have hbx := HBx.out.kept HKk.out
    have c5 := hbx.held
    have c3 := hbx.sz
    have HR := hid hbx.row
    clear hbx
    by_cases hlt : k < N
    · obtain ⟨A, HA⟩ : ∃ A, Hid (pcAt size k = A) := ⟨_, rfl⟩
      have hAl : A < l.length := by rw [← HA.out]; exact (HI.out k).1 hlt
      have hmul : (k : Int) * (size : Int) = (A : Int) := by rw [← HA.out]; unfold pcAt; simp
      have hwA : IntKind.i64.wrap (A : Int) = (A : Int) := wrap64 (by omega) (by omega)
      obtain ⟨m, HM⟩ : ∃ m, Hid (min size (l.length - A) = m) := ⟨_, rfl⟩
      have hm1 : 1 ≤ m := by rw [← HM.out]; omega
      have hm2 : A + m ≤ l.length := by rw [← HM.out]; omega
      have HP : Hid (pcP l size k = (l.take (A + m)).drop A) := by
        show _ = _
        unfold pcP
        rw [HA.out, HM.out]
      have HPl : Hid ((pcP l size k).length = m) := by
        show _ = _
        rw [pcP_length, HA.out, HM.out]
      have hsub : (l.length : Int) - (A : Int) = ((l.length - A : Nat) : Int) := by omega
      have CP := hid (piece_any wr (.slice p l.length c) l A m HR.out hm1 hm2 (by omega))
      have HKW : Hid (w0.heap.size ≤ wr.heap.size) := Nat.le_trans HK.out.1 HKk.out.1
      by_cases hms : size ≤ l.length - A
      · have hme : m = size := by rw [← HM.out]; omega
        have hmi : (size : Int) ≤ ((l.length - A : Nat) : Int) := by omega
        rw [hme] at CP
        clear hms
        gi_wp2
        refine ⟨trivial, fun h => absurd h (by simp [Fence.wide]), callsIn_wide.2 (CP.out.mono ?_)⟩
        rintro e w1 ⟨v1, rfl, hown, hB⟩
        have hown' : w1.ownsRow wr.heap.size 5 1 v1 (pcP l size k).length ((pcP l size k).map (Value.int .u8)) := by
          rw [HPl.out, HP.out, hme]
          exact hown
        obtain ⟨fn, tmps, assign, body, hy, hR⟩ := HY.out k v1 wr w1 HJk.out (grown_below hB) hown' (by rw [HN.out]; exact hlt)
        have HRR := hid hR
        have HKD : Hid (KD (pcD (.slice p l.length c) b5 b3) wr w1) := ⟨hB.size, fun i hi => hB.block i (Nat.lt_of_lt_of_le (HD.out i hi) (Nat.le_trans HK.out.1 HKk.out.1))⟩
        have hkN := hlt
        clear hown hown' hB hR CP c5 c3
        gi_wp2
        refine ⟨fun h => absurd h (by simp [Fence.wide]), HRR.out.mono ?_⟩
        rintro e W3 (⟨rfl, hJ3, hk3⟩ | ⟨rfl, hJx3⟩)
        · clear HRR hy
          have HF3 := hid (And.intro hk3 hJ3)
          clear hk3 hJ3
          gi_wp2
          go_roundw
          case rel => exact ⟨k + 1, hkN, by go_num, HF3.out.2, HKk.out.trans (HKD.out.trans HF3.out.1)⟩
          case measure => simp [intOf]; omega
        · clear HRR hy
          have HF3 := hid hJx3
          clear hJx3
          gi_wp2
          refine bodyPost_ret (results_none rfl _ _ _) rfl ?_
          exact ⟨⟨_, rfl⟩, .inr HF3.out⟩
      · have hme : m = l.length - A := by rw [← HM.out]; omega
        have hmi : ((l.length - A : Nat) : Int) < (size : Int) := by omega
        rw [hme] at CP
        clear hms
        gi_wp2
        refine ⟨trivial, fun h => absurd h (by simp [Fence.wide]), callsIn_wide.2 (CP.out.mono ?_)⟩
        rintro e w1 ⟨v1, rfl, hown, hB⟩
        have hown' : w1.ownsRow wr.heap.size 5 1 v1 (pcP l size k).length ((pcP l size k).map (Value.int .u8)) := by
          rw [HPl.out, HP.out, hme]
          exact hown
        obtain ⟨fn, tmps, assign, body, hy, hR⟩ := HY.out k v1 wr w1 HJk.out (grown_below hB) hown' (by rw [HN.out]; exact hlt)
        have HRR := hid hR
        have HKD : Hid (KD (pcD (.slice p l.length c) b5 b3) wr w1) := ⟨hB.size, fun i hi => hB.block i (Nat.lt_of_lt_of_le (HD.out i hi) (Nat.le_trans HK.out.1 HKk.out.1))⟩
        have hkN := hlt
        clear hown hown' hB hR CP c5 c3
        gi_wp2
        refine ⟨fun h => absurd h (by simp [Fence.wide]), HRR.out.mono ?_⟩
        rintro e W3 (⟨rfl, hJ3, hk3⟩ | ⟨rfl, hJx3⟩)
        · clear HRR hy
          have HF3 := hid (And.intro hk3 hJ3)
          clear hk3 hJ3
          gi_wp2
          go_roundw
          case rel => exact ⟨k + 1, hkN, by go_num, HF3.out.2, HKk.out.trans (HKD.out.trans HF3.out.1)⟩
          case measure => simp [intOf]; omega
        · clear HRR hy
          have HF3 := hid hJx3
          clear hJx3
          gi_wp2
          refine bodyPost_ret (results_none rfl _ _ _) rfl ?_
          exact ⟨⟨_, rfl⟩, .inr HF3.out⟩
    · have HKE : Hid (k = N) := by have := hk.out; show _ = _; omega
      gi_wp2
      go_end0
      rw [HN.out, ← HKE.out]
      exact ⟨⟨_, rfl⟩, .inl HJk.out⟩
end Go.Proofs.Ytafdklelfcccbaa
namespace Go.Proofs.Ytafdklelfcccbaa
open Go.RowKit
theorem run_append_byte (w : World) (base : Nat) (ty : TypeId) (v : Value) (n : Nat) (xs : List Value) (hown : w.ownsRow base 5 1 v n xs) (a : Addr) (c : Nat) (x : Int) (hx : w.cell? a = some (.int .u8 x)) (hn : n + 1 ≤ 140737488355328) (hbase : base ≤ w.heap.size) :
    ∃ v' w', (Builtin.append_ #[22, 22] ty #[v, .slice (some a) 1 c]).run Try.prog w = .ok v' w' ∧ w'.ownsRow base 5 1 v' (n + 1) (xs ++ [.int .u8 x]) ∧ w.grownBy w' v.ownBlock ∧
      (v'.ownBlock = v.ownBlock ∨ (v'.ownBlock = some w.heap.size ∧ w.grownBy w' none)) := by
  obtain ⟨i0, hi, hz0, hz1, hz2⟩ := info_parts info_u8
  have hnews : ∀ j u, [Value.int .u8 x][j]? = some u → w.cell? (a.add j) = some u := by
    intro j u hj
    match j, hj with
    | 0, hj => simp at hj; subst hj; simpa [Addr.add] using hx
  have h1 : ∀ u ∈ [Value.int .u8 x], u.oneCell' = true := by intro u hu; simp at hu; subst hu; rfl
  obtain ⟨v', w', hr, h2, h3, _⟩ := run_append_own (P := Try.prog) w base 22 ty 5 i0 (.int .u8 0) 1 1 Try.underlying22 hi hz0 hz1 hz2 rfl (by decide) v n xs hown a 1 c [.int .u8 x] rfl hnews h1 (by unfold maxLen; omega) (by omega) hbase
  refine ⟨v', w', hr, h2, h3, ?_⟩
  rcases hown.2 with ⟨rfl, rfl⟩ | ⟨g, cap, cur, rfl, hbg, hg, hnc, hcm, hcs, htake⟩
  · have hr2 := run_append_nil (P := Try.prog) w 22 ty 5 i0 (.int .u8 0) Try.underlying22 hi hz0 a 1 c [.int .u8 x] (by rw [hz1]; rfl) hnews (by omega) (by omega) (by rw [hz2]; omega)
    rw [hr] at hr2
    simp only [Result.ok.injEq] at hr2
    obtain ⟨rfl, rfl⟩ := hr2
    exact .inr ⟨rfl, ⟨rfl, rfl, rfl, by simp, fun k hk _ => heap_alloc_old w.drew _ hk⟩⟩
  · by_cases hroom : n + 1 ≤ cap
    · obtain ⟨w2, hr2, _⟩ := run_append_fits (P := Try.prog) w base 22 ty 5 i0 1 Try.underlying22 hi hz1 g n cap xs hown a 1 c [.int .u8 x] rfl hnews h1 hroom
      rw [hr] at hr2
      simp only [Result.ok.injEq] at hr2
      obtain ⟨rfl, rfl⟩ := hr2
      exact .inl rfl
    · have hr2 := run_append_grow (P := Try.prog) w 22 ty 5 i0 (.int .u8 0) Try.underlying22 hi hz0 ⟨g, 0, none⟩ n cap xs (by rw [hz1]; exact hown.1) (hown.cells (g := g) rfl) a 1 c [.int .u8 x] (by rw [hz1]; rfl) hnews (by omega) (by omega) (growslice_fits (by omega) (by rw [hz2]; omega))
      rw [hr] at hr2
      simp only [Result.ok.injEq] at hr2
      obtain ⟨rfl, rfl⟩ := hr2
      exact .inr ⟨rfl, ⟨rfl, rfl, rfl, by simp, fun k hk _ => heap_alloc_old w.drew _ hk⟩⟩
theorem wpList_append_byte {w : World} {ops : Array Oper} {rest : List Oper} {o : Oper} {a : Act} {Q : Exit → Act → World → Prop} (hgd : o.guard = none) (s x : Operand)
    (ho : o.op = .call { callee := .builtin .append, args := #[s, x], argTypes := #[22, 22] })
    (base : Nat) (v : Value) (n : Nat) (xs : List Value) (hs : a.eval s = v) (hown : w.ownsRow base 5 1 v n xs)
    (ad : Addr) (c : Nat) (y : Int) (hx : a.eval x = .slice (some ad) 1 c) (hy : w.cell? ad = some (.int .u8 y)) (hn : n + 1 ≤ 140737488355328) (hbase : base ≤ w.heap.size)
    (h : ∀ v' w', w'.ownsRow base 5 1 v' (n + 1) (xs ++ [.int .u8 y]) → w.grownBy w' v.ownBlock → (v'.ownBlock = v.ownBlock ∨ (v'.ownBlock = some w.heap.size ∧ w.grownBy w' none)) → wpList Try.prog ops Q rest (a.put o.dst v') w') : wpList Try.prog ops Q (o :: rest) a w := by
  refine wpList_plain hgd fun K hK => ?_
  obtain ⟨v', w', hr, h2, h3, h4⟩ := run_append_byte w base o.type v n xs hown ad c y hy hn hbase
  unfold Oper.wp execOp
  simp only [ho, resolve, invoke, builtin, Sem.run_bind, Sem.run_pure, Result.andThen_ok, List.map_toArray, List.map_cons, List.map_nil, hs, hx, hr]
  exact hK _ _ (h v' w' h2 h3 h4)
def mkB (k i : Nat) : Int := ((151 * k + 7 * i + 1) % 256 : Nat)
theorem mkB_byt (k i : Nat) : 0 ≤ mkB k i ∧ mkB k i < 256 := by unfold mkB; omega
set_option maxHeartbeats 400000 in
theorem mark_any (w : World) (k i : Nat) (hk : k ≤ 1125899906842624) (hi : i ≤ 1125899906842624) : Calls Try.prog 38 #[.int .i64 k, .int .i64 i] w fun e w' => e = .returned (.int .u8 (mkB k i)) ∧ w' = w := by
  go_enter Try.func38, Try.ntmps38
  go_wp2
  go_ret
  exact ⟨by unfold mkB; first | rfl | (congr 2; done) | (congr 2; omega), rfl⟩
theorem mark_eq (w : World) (k i : Nat) (a b : Int) (ha : a = (k : Int)) (hb : b = (i : Int)) (hk : k ≤ 1125899906842624) (hi : i ≤ 1125899906842624) : Calls Try.prog 38 #[.int .i64 a, .int .i64 b] w fun e w' => e = .returned (.int .u8 (mkB k i)) ∧ w' = w := by
  subst ha hb
  exact mark_any w k i hk hi
theorem wrap_succ (k : Nat) (h : k ≤ 1125899906842624) : IntKind.i64.wrap ((k : Int) + 1) = ((k + 1 : Nat) : Int) := by rw [IntKind.wrap_i64]; omega
def lent (l : List Int) : List Int := l ++ (List.range 70).map fun i => mkB 0 (l.length + i)
def lentTo (l : List Int) (m : Nat) : List Int := l ++ (List.range m).map fun i => mkB 0 (l.length + i)
theorem lent_length (l : List Int) : (lent l).length = l.length + 70 := by simp [lent]
theorem lentTo_length (l : List Int) (m : Nat) : (lentTo l m).length = l.length + m := by simp [lentTo]
theorem lentTo_succ (l : List Int) (m : Nat) : lentTo l (m + 1) = lentTo l m ++ [mkB 0 (l.length + m)] := by simp [lentTo, List.range_succ]
theorem lent_byt {l : List Int} (h : ∀ x ∈ l, 0 ≤ x ∧ x < 256) : ∀ x ∈ lent l, 0 ≤ x ∧ x < 256 := by
  intro x hx
  unfold lent at hx
  rcases List.mem_append.1 hx with hx | hx
  · exact h x hx
  · obtain ⟨i, _, rfl⟩ := List.mem_map.1 hx
    exact mkB_byt _ _
theorem lent_take (l : List Int) : (lent l).take l.length = l := by simp [lent]
set_option maxHeartbeats 1000000 in
theorem lent_any (w : World) (v : Value) (l : List Int) (h : HB w v l) (hbig : l.length ≤ 140737488351232) :
    Calls Try.prog 9 #[v] w fun e w' => ∃ v', e = .returned v' ∧ w'.ownsRow w.heap.size 5 1 v' (lent l).length ((lent l).map (Value.int .u8)) ∧ Below w.heap.size w w' := by
  obtain ⟨p, c, e, hlc, hm⟩ := h.open
  unfold maxLen at hm
  have A : Hid (0 < l.length → ∃ b off, p = some ⟨b, off, none⟩ ∧ ∀ j, j < l.length → w.cell? ⟨b, off + j, none⟩ = some (.int .u8 (l.getD j 0))) := by
    intro h0
    obtain ⟨b, off, c', e', _, _, hh⟩ := h.ne h0
    rw [e] at e'
    simp only [Value.slice.injEq, true_and] at e'
    exact ⟨b, off, e'.1, hh⟩
  clear h
  subst e
  go_enter Try.func9, Try.ntmps9
  go_wp2
  go_loopw [3, 4] (fun o i wr => ∃ k : Nat, k ≤ l.length ∧ i = .int .i64 k ∧ Hid (wr.ownsRow w.heap.size 5 1 o k ((l.take k).map (Value.int .u8))) ∧ Hid (Below w.heap.size w wr)) (fun _ i _ => l.length - (intOf i).toNat)
  case atStart => exact ⟨0, Nat.zero_le _, rfl, World.ownsRow_nil _ _ _ _, Below.refl _ _⟩
  case round =>
    obtain ⟨k, hk, rfl, HO, HBw⟩ := hrel
    by_cases hlt : k < l.length
    · obtain ⟨b, off, rfl, hh⟩ := A.out (by omega)
      have hu0 := hh k hlt
      have hu := (HBw.out.cell (World.block_lt_of_cell? w _ hu0)).trans hu0
      have HS : Hid (l.take (k + 1) = l.take k ++ [l.getD k 0]) := by
        show _ = _
        rw [List.take_succ_eq_append_getElem hlt, getD_of_lt hlt]
      obtain ⟨x, HX⟩ : ∃ x, Hid (l.getD k 0 = x) := ⟨_, rfl⟩
      rw [HX.out] at hu HS
      clear hh hu0
      go_wp2_with (at_builtin; refine wpList_append_byte rfl _ _ rfl w.heap.size _ k _ rfl (HO.out.alloc _) ⟨wr.heap.size, 0, none⟩ 1 x rfl (by simp) ?q1 ?q2 ?_)
      case q1 => omega
      case q2 => have := HBw.out.size; simp; omega
      intro v' w2 hown2 hgr2 _
      have HO2 : Hid (w2.ownsRow w.heap.size 5 1 v' (k + 1) ((l.take (k + 1)).map (Value.int .u8))) := by
        rw [HS.out, List.map_append, List.map_take]
        exact hown2
      have HB2 := hid ((HBw.out.alloc HBw.out.size _).grown hgr2 (by have := HBw.out.size; simp; omega) (fun k e => (HO.out.lt k e).1))
      clear hown2 hgr2
      go_wp2
      exact ⟨⟨k + 1, by omega, by go_num, HO2, HB2⟩, by simp [intOf]; omega⟩
    · have hkl : k = l.length := by omega
      have HO' : Hid (wr.ownsRow w.heap.size 5 1 u3 (l.length + 0) ((lentTo l 0).map (Value.int .u8))) := by
        show World.ownsRow _ _ _ _ _ _ _
        have := HO.out
        rw [hkl, List.take_of_length_le (Nat.le_refl _)] at this
        simpa [lentTo] using this
      clear hkl
      go_wp2
      go_loopw [3, 5] (fun o i wz => ∃ m : Nat, m ≤ 70 ∧ i = .int .i64 m ∧ Hid (wz.ownsRow w.heap.size 5 1 o (l.length + m) ((lentTo l m).map (Value.int .u8))) ∧ Hid (Below w.heap.size w wz)) (fun _ i _ => 70 - (intOf i).toNat)
      case atStart => exact ⟨0, Nat.zero_le _, rfl, HO', HBw⟩
      case round =>
        clear HO' HBw HO
        obtain ⟨m, hm70, rfl, HO, HBw⟩ := hrel
        by_cases hlt2 : m < 70
        · have hlt3 : (m : Int) < 70 := by omega
          have HS := hid (lentTo_succ l m)
          go_wp2_with fail
          have e1 : ((l.length : Int) + (m : Int)) = ((l.length + m : Nat) : Int) := by omega
          rw [e1]
          refine (mark_any wr 0 (l.length + m) (by omega) (by omega)).mono ?_
          rintro e wz ⟨rfl, hw⟩
          have hw' := hw.symm
          subst hw'
          clear hw e1
          go_wp2_with (at_builtin; refine wpList_append_byte rfl _ _ rfl w.heap.size _ (l.length + m) _ rfl (HO.out.alloc _) ⟨wr.heap.size, 0, none⟩ 1 (mkB 0 (l.length + m)) rfl (by simp) ?q1 ?q2 ?_)
          case q1 => omega
          case q2 => have := HBw.out.size; simp; omega
          intro v' w2 hown2 hgr2 _
          have HO2 : Hid (w2.ownsRow w.heap.size 5 1 v' (l.length + (m + 1)) ((lentTo l (m + 1)).map (Value.int .u8))) := by
            rw [HS.out, List.map_append]
            exact hown2
          have HB2 := hid ((HBw.out.alloc HBw.out.size _).grown hgr2 (by have := HBw.out.size; simp; omega) (fun k e => (HO.out.lt k e).1))
          clear hown2 hgr2
          go_wp2
          exact ⟨⟨m + 1, by omega, by go_num, HO2, HB2⟩, by simp [intOf]; omega⟩
        · have e70 : m = 70 := by omega
          subst e70
          go_wp2
          go_ret
          refine ⟨_, rfl, ?_, HBw.out⟩
          rw [lent_length]
          exact HO.out
set_option maxHeartbeats 400000 in
theorem kept_any (w : World) (vf vl : Value) (fl l : List Int) (hf : HB w vf fl) (hl : HB w vl l) (hbig : l.length ≤ 140737488351232) :
    Calls Try.prog 14 #[vf, vl] w fun e w' => e = .returned (.bool (decide (fl = lent l))) ∧ Below w.heap.size w w' := by
  have HF := hid hf
  have HLl := hid hl
  obtain ⟨p1, c1, rfl, _, _⟩ := hf.open
  obtain ⟨p2, c2, rfl, _, _⟩ := hl.open
  clear hf hl
  go_enter Try.func14, Try.ntmps14
  go_wp2_with fail
  refine (lent_any w _ l HLl.out hbig).mono ?_
  rintro e w1 ⟨v1, rfl, hown, hB⟩
  have H1 := hid (HB.of_own hown (lent_byt HLl.out.2))
  have HF1 := hid (HF.out.below hB)
  have B1 := hid hB
  obtain ⟨p3, c3, e3, _, _⟩ := H1.out.open
  clear hown hB
  subst e3
  obtain ⟨ll, HLL⟩ : ∃ ll, Hid (lent l = ll) := ⟨_, rfl⟩
  rw [HLL.out] at H1 ⊢
  go_wp2_with fail
  refine (sameBytes_any w1 _ _ fl ll HF1.out H1.out).mono ?_
  rintro e w2 ⟨rfl, hD⟩
  have B2 := hid (B1.out.trans (hD.below _))
  obtain ⟨z, HZ⟩ : ∃ z, Hid (decide (fl = ll) = z) := ⟨_, rfl⟩
  rw [HZ.out]
  clear hD
  go_wp2
  go_ret
  exact ⟨by rw [HLL.out, HZ.out]; rfl, B2.out⟩
set_option maxHeartbeats 1000000 in
theorem over_any (w : World) (B : Nat) (v : Value) (n : Nat) (xs : List Value) (h : w.ownsRow B 5 1 v n xs) (hn : n ≤ 140737488355328) :
    Calls Try.prog 30 #[v] w fun e w' => e = .returned (.tuple #[]) ∧ (∃ ys, w'.ownsRow B 5 1 v n ys) ∧ w.grownBy w' v.ownBlock := by
  rcases h.2 with ⟨rfl, rfl⟩ | ⟨g, cap, cur, rfl, hbg, hg, hnc, hcm, hcs, htake⟩
  · go_enter Try.func30, Try.ntmps30
    go_wp2
    go_loop [2] (fun i => i = .int .i64 0) (fun _ => 0)
    case atStart => rfl
    case round =>
      subst hrel
      go_wp2
      go_end0
      exact ⟨rfl, ⟨xs, h⟩, ⟨rfl, rfl, rfl, Nat.le_refl _, fun _ _ _ => rfl⟩⟩
  · have HO := hid h
    clear h hg htake hcs hbg
    unfold maxLen at hcm
    go_enter Try.func30, Try.ntmps30
    go_wp2
    go_loopw [2] (fun i wr => ∃ k : Nat, k ≤ n ∧ i = .int .i64 k ∧ Hid (∃ ys, wr.ownsRow B 5 1 (.slice (some ⟨g, 0, none⟩) n cap) n ys) ∧ Hid (w.grownBy wr (some g))) (fun i _ => n - (intOf i).toNat)
    case atStart => exact ⟨0, Nat.zero_le _, rfl, ⟨_, HO.out⟩, ⟨rfl, rfl, rfl, Nat.le_refl _, fun _ _ _ => rfl⟩⟩
    case round =>
      obtain ⟨k, hk, rfl, HY, HG⟩ := hrel
      by_cases hlt : k < n
      · obtain ⟨ys, hy⟩ := HY.out
        have hc := hy.cellAt k (by omega)
        have hfz := hy.frozenAt k
        obtain ⟨z, hz⟩ : ∃ z, ys[k]? = some z := ⟨_, List.getElem?_eq_getElem (by have := hy.1; omega)⟩
        rw [hz] at hc
        have HYY := hid hy
        clear hz hy
        go_wp2_with fail
        have e1 : ((k : Int) + 3) = ((k + 3 : Nat) : Int) := by omega
        rw [e1]
        refine (mark_any wr 7 (k + 3) (by omega) (by omega)).mono ?_
        rintro e wz ⟨rfl, hw⟩
        have hw' := hw.symm
        subst hw'
        clear hw e1
        go_wp2
        exact ⟨⟨k + 1, by omega, by go_num, ⟨_, (HYY.out.stored k _).1⟩, ⟨HG.out.os, HG.out.tape, HG.out.output, by simpa using HG.out.size, fun i hi hne => by
          rw [heap_setCell_other _ _ _ _ (fun e => hne (by simp [e]))]
          exact HG.out.block i hi hne⟩⟩, by simp [intOf]; omega⟩
      · go_wp2
        go_end0
        exact ⟨rfl, HY.out, HG.out⟩
def marksL (k n : Nat) : List Int := (List.range n).map (mkB k)
theorem marksL_length (k n : Nat) : (marksL k n).length = n := by simp [marksL]
theorem marksL_getD (k n i : Nat) (h : i < n) : (marksL k n).getD i 0 = mkB k i := by simp [marksL, List.getD, h]
theorem marksL_byt (k n : Nat) : ∀ x ∈ marksL k n, 0 ≤ x ∧ x < 256 := by
  intro x hx
  obtain ⟨i, _, rfl⟩ := List.mem_map.1 hx
  exact mkB_byt _ _
theorem marksL_succ (k n : Nat) : marksL k (n + 1) = marksL k n ++ [mkB k n] := by simp [marksL, List.range_succ]
theorem marksL_take (k n m : Nat) (h : n ≤ m) : (marksL k m).take n = marksL k n := by
  unfold marksL
  rw [← List.map_take, List.take_range]
  congr 2
  omega
def Apt (B : Nat) (w : World) (us : List Value) (ls : List (List Int)) : Prop :=
  us.length = ls.length ∧ (∀ k, k < us.length → w.ownsRow B 5 1 (us.getD k undef) (ls.getD k []).length ((ls.getD k []).map (Value.int .u8))) ∧
    ∀ i j, i < us.length → j < us.length → i ≠ j → (us.getD i undef).ownBlock = none ∨ (us.getD i undef).ownBlock ≠ (us.getD j undef).ownBlock
def HV (w : World) (v : Value) (us : List Value) : Prop :=
  ∃ (p : Option Addr) (c : Nat), v = .slice p us.length c ∧ us.length ≤ c ∧ c ≤ maxLen ∧
    (us ≠ [] → ∃ b off, p = some ⟨b, off, none⟩ ∧ BT w b 22 ∧ ∀ k, k < us.length → w.cell? ⟨b, off + k, none⟩ = some (us.getD k undef))
theorem BT.grown {w w' : World} {b : Nat} {T : TypeId} {row : Option Nat} (h : BT w b T) (hg : w.grownBy w' row) (hr : ∀ g, row = some g → ∃ e, BT w g e ∧ e ≠ T) : BT w' b T := by
  obtain ⟨cur, fz, hh⟩ := h
  refine ⟨cur, fz, ?_⟩
  rw [hg.block b (Array.getElem?_eq_some_iff.1 hh).1 ?_]
  · exact hh
  · intro e
    obtain ⟨e', ⟨cur', fz', hh'⟩, hne⟩ := hr b e.symm
    rw [hh] at hh'
    simp only [Option.some.injEq, Obj.cells.injEq] at hh'
    exact hne hh'.2.1.symm
theorem HV.grown {w w' : World} {v : Value} {us : List Value} {row : Option Nat} (h : HV w v us) (hg : w.grownBy w' row) (hr : ∀ g, row = some g → BT w g 5) : HV w' v us := by
  obtain ⟨p, c, h1, h2, h3, h4⟩ := h
  refine ⟨p, c, h1, h2, h3, fun hne => ?_⟩
  obtain ⟨b, off, e, hb, hc⟩ := h4 hne
  have hb' : BT w' b 22 := hb.grown hg (fun g e => ⟨_, hr g e, by decide⟩)
  refine ⟨b, off, e, hb', fun k hk => hg.cell (hc k hk) ?_⟩
  intro e
  obtain ⟨cur, fz, hh⟩ := hb
  obtain ⟨cur', fz', hh'⟩ := hr b e.symm
  rw [hh] at hh'
  simp at hh'
theorem own_BT {w : World} {B n : Nat} {v : Value} {xs : List Value} {e : TypeId} (h : w.ownsRow B e 1 v n xs) : ∀ g, v.ownBlock = some g → BT w g e := by
  intro g hg
  rcases h.2 with ⟨rfl, _⟩ | ⟨g', cap, cur, rfl, _, hh, _⟩
  · simp [Value.ownBlock] at hg
  · simp only [Value.ownBlock, Option.some.injEq] at hg
    subst hg
    exact ⟨cur, _, hh⟩
theorem BT.ne {w : World} {b g : Nat} {T U : TypeId} (h : BT w b T) (k : BT w g U) (hne : T ≠ U) : b ≠ g := by
  intro e
  subst e
  obtain ⟨cur, fz, hh⟩ := h
  obtain ⟨cur', fz', hh'⟩ := k
  rw [hh] at hh'
  simp only [Option.some.injEq, Obj.cells.injEq] at hh'
  exact hne hh'.2.1
theorem HV.block {w : World} {b off n c : Nat} {us : List Value} (h : HV w (.slice (some ⟨b, off, none⟩) n c) us) (h0 : 0 < us.length) : BT w b 22 := by
  obtain ⟨p, c', e, _, _, h4⟩ := h
  obtain ⟨b', off', e2, hb, _⟩ := h4 (by intro e; subst e; simp at h0)
  simp only [Value.slice.injEq] at e
  rw [← e.1] at e2
  simp only [Option.some.injEq, Addr.mk.injEq, and_true] at e2
  rw [e2.1]
  exact hb
theorem getD_set {α : Type} (l : List α) (d x : α) (k j : Nat) (hk : k < l.length) : (l.set k x).getD j d = if j = k then x else l.getD j d := by
  by_cases h : j = k
  · subst h
    simp [List.getD, hk]
  · rw [if_neg h]
    simp only [List.getD]
    rw [List.getElem?_set_ne (Ne.symm h)]
theorem Apt.store {B : Nat} {w : World} {us : List Value} {ls : List (List Int)} (h : Apt B w us ls) (k i : Nat) (x : Int) (hk : k < us.length) {g cap n : Nat} (hu : us.getD k undef = .slice (some ⟨g, 0, none⟩) n cap) :
    Apt B (w.setCell ⟨g, i, none⟩ (.int .u8 x)) us (ls.set k ((ls.getD k []).set i x)) ∧ w.grownBy (w.setCell ⟨g, i, none⟩ (.int .u8 x)) (some g) := by
  obtain ⟨h1, h2, h3⟩ := h
  have hok := h2 k hk
  rw [hu] at hok
  have hn : n = (ls.getD k []).length := by
    rcases hok.2 with ⟨e, _⟩ | ⟨_, _, _, e, _⟩
    · cases e
    · cases e; rfl
  subst hn
  have hst := hok.stored i (.int .u8 x)
  refine ⟨⟨by simpa using h1, fun j hj => ?_, h3⟩, hst.2⟩
  rw [getD_set ls [] _ k j (by omega)]
  by_cases hjk : j = k
  · subst hjk
    rw [if_pos rfl, hu, List.length_set, List.map_set]
    exact hst.1
  · rw [if_neg hjk]
    refine (h2 j hj).kept hst.2 ?_
    have := h3 j k hj hk hjk
    rw [hu] at this
    exact this
theorem Apt.slice {B : Nat} {w : World} {us : List Value} {ls : List (List Int)} (h : Apt B w us ls) (k : Nat) (hk : k < us.length) : ∃ p c, us.getD k undef = .slice p (ls.getD k []).length c := by
  rcases (h.2.1 k hk).2 with ⟨e, e2⟩ | ⟨g, cap, _, e, _⟩
  · exact ⟨none, 0, by rw [e, e2]⟩
  · exact ⟨_, _, e⟩
theorem Apt.some {B : Nat} {w : World} {us : List Value} {ls : List (List Int)} (h : Apt B w us ls) (k : Nat) (hk : k < us.length) (h0 : 0 < (ls.getD k []).length) : ∃ g c, us.getD k undef = .slice (Option.some ⟨g, 0, none⟩) (ls.getD k []).length c ∧ c ≤ maxLen ∧ (ls.getD k []).length ≤ c ∧ B ≤ g ∧ BT w g 5 := by
  rcases (h.2.1 k hk).2 with ⟨_, e2⟩ | ⟨g, cap, cur, e, hb, hh, h1, h2, _⟩
  · omega
  · exact ⟨g, cap, e, h2, h1, hb, cur, _, hh⟩
def Ph1 (B : Nat) (w : World) (us : List Value) (ls : List (List Int)) (K i : Nat) : Prop :=
  ∃ ms, Apt B w us ms ∧ (∀ j, (ms.getD j []).length = (ls.getD j []).length) ∧ (∀ j, j < K → ms.getD j [] = marksL (j + 1) (ls.getD j []).length) ∧ (ms.getD K []).take i = marksL (K + 1) i
theorem Ph1.start {B : Nat} {w : World} {us : List Value} {ls : List (List Int)} (h : Apt B w us ls) : Ph1 B w us ls 0 0 := ⟨ls, h, fun _ => rfl, fun j hj => by omega, by simp [marksL]⟩
theorem take_set_succ (l : List Int) (i : Nat) (x : Int) (hi : i < l.length) : (l.set i x).take (i + 1) = l.take i ++ [x] := by
  rw [List.take_succ_eq_append_getElem (by simpa using hi)]
  have e : (l.set i x).take i = l.take i := by
    apply List.ext_getElem?
    intro j
    simp only [List.getElem?_take]
    split
    · rw [List.getElem?_set_ne (by omega)]
    · rfl
  rw [e]
  simp
theorem Ph1.step {B : Nat} {w : World} {us : List Value} {ls : List (List Int)} {K i : Nat} (h : Ph1 B w us ls K i) (hK : K < us.length) (hi : i < (ls.getD K []).length) {g cap n : Nat} (hu : us.getD K undef = .slice (some ⟨g, 0, none⟩) n cap) :
    Ph1 B (w.setCell ⟨g, i, none⟩ (.int .u8 (mkB (K + 1) i))) us ls K (i + 1) ∧ w.grownBy (w.setCell ⟨g, i, none⟩ (.int .u8 (mkB (K + 1) i))) (some g) := by
  obtain ⟨ms, ha, hl, hd, ht⟩ := h
  have hs := ha.store K i (mkB (K + 1) i) hK hu
  have hKm : K < ms.length := by have := ha.1; omega
  refine ⟨⟨_, hs.1, fun j => ?_, fun j hj => ?_, ?_⟩, hs.2⟩
  · rw [getD_set ms [] _ K j hKm]
    split
    · rename_i e; subst e; rw [List.length_set]; exact hl _
    · exact hl j
  · rw [getD_set ms [] _ K j hKm, if_neg (by omega)]
    exact hd j hj
  · rw [getD_set ms [] _ K K hKm, if_pos rfl, take_set_succ _ _ _ (by rw [hl]; exact hi), ht, marksL_succ]
theorem Ph1.next {B : Nat} {w : World} {us : List Value} {ls : List (List Int)} {K i : Nat} (h : Ph1 B w us ls K i) (hi : (ls.getD K []).length ≤ i) : Ph1 B w us ls (K + 1) 0 := by
  obtain ⟨ms, ha, hl, hd, ht⟩ := h
  refine ⟨ms, ha, hl, fun j hj => ?_, by simp [marksL]⟩
  by_cases hj2 : j < K
  · exact hd j hj2
  · have e : j = K := by omega
    subst e
    have e1 := congrArg (List.take (ls.getD j []).length) ht
    rw [List.take_take, marksL_take _ _ _ hi] at e1
    rw [← e1, List.take_of_length_le]
    rw [hl]
    omega
theorem Ph1.slice {B : Nat} {w : World} {us : List Value} {ls : List (List Int)} {K i : Nat} (h : Ph1 B w us ls K i) (k : Nat) (hk : k < us.length) : ∃ p c, us.getD k undef = .slice p (ls.getD k []).length c := by
  obtain ⟨ms, ha, hl, _, _⟩ := h
  obtain ⟨p, c, e⟩ := ha.slice k hk
  rw [hl] at e
  exact ⟨p, c, e⟩
theorem Ph1.some {B : Nat} {w : World} {us : List Value} {ls : List (List Int)} {K i : Nat} (h : Ph1 B w us ls K i) (k : Nat) (hk : k < us.length) (h0 : 0 < (ls.getD k []).length) : ∃ g c, us.getD k undef = .slice (Option.some ⟨g, 0, none⟩) (ls.getD k []).length c ∧ c ≤ maxLen ∧ (ls.getD k []).length ≤ c ∧ B ≤ g ∧ BT w g 5 ∧ ∀ j, j < (ls.getD k []).length → (∃ z, w.cell? ⟨g, j, none⟩ = Option.some z) ∧ w.frozen? ⟨g, j, none⟩ = false := by
  obtain ⟨ms, ha, hl, _, _⟩ := h
  obtain ⟨g, c, e, h1, h2, h3, h4⟩ := ha.some k hk (by rw [hl]; exact h0)
  have hrow := ha.2.1 k hk
  rw [e] at hrow
  rw [hl] at e h2
  refine ⟨g, c, e, h1, h2, h3, h4, fun j hj => ⟨?_, hrow.frozenAt j⟩⟩
  have := hrow.cellAt j (by rw [hl]; omega)
  rw [this]
  exact ⟨_, List.getElem?_eq_getElem (by simp only [List.length_map]; rw [hl]; exact hj)⟩
theorem Ph1.drew {B : Nat} {w : World} {us : List Value} {ls : List (List Int)} {K i : Nat} (h : Ph1 B w us ls K i) : Ph1 B w.drew us ls K i := h
theorem HV.drew {w : World} {v : Value} {us : List Value} (h : HV w v us) : HV w.drew v us := h
theorem HB.away {w w' : World} {u : Value} {l : List Int} {row : Option Nat} (h : HB w u l) (hg : w.grownBy w' row) (hr : u.ownBlock = none ∨ u.ownBlock ≠ row) : HB w' u l := by
  obtain ⟨⟨p, c, rfl, h2, h3, h6, h4⟩, h5⟩ := h
  refine ⟨⟨p, c, rfl, h2, h3, h6, fun hl => ?_⟩, h5⟩
  obtain ⟨b, off, rfl, hh⟩ := h4 hl
  refine ⟨b, off, rfl, fun j hj => hg.cell (hh j hj) ?_⟩
  rcases hr with hr | hr
  · simp [Value.ownBlock] at hr
  · exact hr
def Usf (w : World) (us : List Value) (ls : List (List Int)) : Prop :=
  (∀ i j, i < us.length → j < us.length → i ≠ j → (us.getD i undef).ownBlock = none ∨ (us.getD i undef).ownBlock ≠ (us.getD j undef).ownBlock) ∧
  (∀ j b, j < us.length → (us.getD j undef).ownBlock = some b → b < w.heap.size ∧ ∃ c, us.getD j undef = .slice (some ⟨b, 0, none⟩) (ls.getD j []).length c ∧ (ls.getD j []).length ≤ c ∧ c ≤ maxLen) ∧
  (∀ j, j < us.length → ∃ p c, us.getD j undef = .slice p (ls.getD j []).length c)
theorem Usf.grown {w w' : World} {us : List Value} {ls : List (List Int)} (h : Usf w us ls) (hs : w.heap.size ≤ w'.heap.size) : Usf w' us ls :=
  ⟨h.1, fun j b hj hb => ⟨Nat.lt_of_lt_of_le (h.2.1 j b hj hb).1 hs, (h.2.1 j b hj hb).2⟩, h.2.2⟩
def Pool (B : Nat) (w : World) (us : List Value) (ls : List (List Int)) (K L : Nat) (gl : List Value) : Prop :=
  gl.length = K ∧ Usf w us ls ∧
  (∀ j, j < K → w.ownsRow B 5 1 (gl.getD j undef) ((ls.getD j []).length + 70) ((marksL (j + 1) ((ls.getD j []).length + 70)).map (Value.int .u8)) ∧ HB w (us.getD j undef) (marksL (j + 1) (ls.getD j []).length)) ∧
  (∀ j, L ≤ j → j < us.length → w.ownsRow B 5 1 (us.getD j undef) (ls.getD j []).length ((marksL (j + 1) (ls.getD j []).length).map (Value.int .u8))) ∧
  (∀ i j, i < K → K ≤ j → j < us.length → (gl.getD i undef).ownBlock ≠ (us.getD j undef).ownBlock)
theorem Pool.grown {B : Nat} {w w' : World} {us : List Value} {ls : List (List Int)} {K L : Nat} {gl : List Value} {row : Option Nat} (h : Pool B w us ls K L gl) (hg : w.grownBy w' row)
    (hr1 : ∀ i, i < K → (gl.getD i undef).ownBlock = none ∨ (gl.getD i undef).ownBlock ≠ row) (hr2 : ∀ j, j < us.length → (j < K ∨ L ≤ j) → (us.getD j undef).ownBlock = none ∨ (us.getD j undef).ownBlock ≠ row) (hKL : K ≤ us.length) : Pool B w' us ls K L gl := by
  obtain ⟨h1, h2, h3, h4, h5⟩ := h
  refine ⟨h1, h2.grown hg.size, fun j hj => ⟨(h3 j hj).1.kept hg (hr1 j hj), (h3 j hj).2.away hg (hr2 j (by omega) (.inl hj))⟩, fun j hj hj2 => (h4 j hj hj2).kept hg (hr2 j hj2 (.inr hj)), h5⟩
def Cur (B : Nat) (w : World) (us : List Value) (ls : List (List Int)) (K : Nat) (gl : List Value) (g : Value) (m : Nat) : Prop :=
  Pool B w us ls K (K + 1) gl ∧ w.ownsRow B 5 1 g ((ls.getD K []).length + m) ((marksL (K + 1) ((ls.getD K []).length + m)).map (Value.int .u8)) ∧ HB w (us.getD K undef) (marksL (K + 1) (ls.getD K []).length) ∧
  (∀ i, i < K → (gl.getD i undef).ownBlock ≠ g.ownBlock) ∧ ∀ j, j < us.length → j ≠ K → (us.getD j undef).ownBlock = none ∨ (us.getD j undef).ownBlock ≠ g.ownBlock
theorem Cur.start {B : Nat} {w : World} {us : List Value} {ls : List (List Int)} {K : Nat} {gl : List Value} (h : Pool B w us ls K K gl) (hK : K < us.length) : Cur B w us ls K gl (us.getD K undef) 0 := by
  obtain ⟨h1, h2, h3, h4, h5⟩ := h
  have hk := h4 K (Nat.le_refl _) hK
  refine ⟨⟨h1, h2, h3, fun j hj => h4 j (by omega), h5⟩, by simpa using hk, HB.of_own (by rw [marksL_length]; exact hk) (marksL_byt _ _), fun i hi => h5 i K hi (Nat.le_refl _) hK, fun j hj hne => h2.1 j K hj hK hne⟩
theorem Cur.finish {B : Nat} {w : World} {us : List Value} {ls : List (List Int)} {K : Nat} {gl : List Value} {g : Value} (h : Cur B w us ls K gl g 70) (hK : K < us.length) : Pool B w us ls (K + 1) (K + 1) (gl ++ [g]) := by
  obtain ⟨⟨h1, h2, h3, h4, h5⟩, hg, hu, hs1, hs2⟩ := h
  have gd : ∀ j, (gl ++ [g]).getD j undef = if j < K then gl.getD j undef else if j = K then g else undef := by
    intro j
    rw [getD_app, h1]
    split
    · rfl
    · split
      · rename_i e; subst e; simp
      · rename_i h6 h7
        have : 0 < j - K := by omega
        obtain ⟨t, ht⟩ : ∃ t, j - K = t + 1 := ⟨j - K - 1, by omega⟩
        rw [ht]; rfl
  refine ⟨by simp [h1], h2, fun j hj => ?_, h4, fun i j hi hj hj2 => ?_⟩
  · rw [gd]
    by_cases hjk : j < K
    · rw [if_pos hjk]; exact h3 j hjk
    · have e : j = K := by omega
      subst e
      rw [if_neg hjk, if_pos rfl]
      exact ⟨hg, hu⟩
  · rw [gd]
    by_cases hik : i < K
    · rw [if_pos hik]; exact h5 i j hik (by omega) hj2
    · have e : i = K := by omega
      subst e
      rw [if_neg hik, if_pos rfl]
      rcases hs2 j hj2 (by omega) with h | h
      · rw [h]
        intro e
        rcases hg.2 with ⟨_, e2⟩ | ⟨g', cap, cur, e2, _⟩
        · omega
        · rw [e2] at e; simp [Value.ownBlock] at e
      · exact Ne.symm h
theorem Cur.alloc {B : Nat} {w : World} {us : List Value} {ls : List (List Int)} {K : Nat} {gl : List Value} {g : Value} {m : Nat} (h : Cur B w us ls K gl g m) (hK : K < us.length) (o : Obj) : Cur B (w.alloc o) us ls K gl g m := by
  have hg := World.grownBy_alloc w o none
  have tr : ∀ x : Option Nat, x = none ∨ x ≠ none := fun x => by cases x <;> simp
  exact ⟨h.1.grown hg (fun i _ => tr _) (fun j _ _ => tr _) (by omega), h.2.1.kept hg (tr _), h.2.2.1.away hg (tr _), h.2.2.2⟩
theorem Cur.step {B : Nat} {w w' : World} {us : List Value} {ls : List (List Int)} {K : Nat} {gl : List Value} {g g' : Value} {m : Nat} (h : Cur B w us ls K gl g m) (hK : K < us.length)
    (hown : w'.ownsRow B 5 1 g' ((ls.getD K []).length + m + 1) ((marksL (K + 1) ((ls.getD K []).length + m)).map (Value.int .u8) ++ [.int .u8 (mkB (K + 1) ((ls.getD K []).length + m))])) (hgr : w.grownBy w' g.ownBlock)
    (hd : g'.ownBlock = g.ownBlock ∨ (g'.ownBlock = some w.heap.size ∧ w.grownBy w' none)) : Cur B w' us ls K gl g' (m + 1) := by
  obtain ⟨hp, hg, hu, hs1, hs2⟩ := h
  have hp2 := hp
  obtain ⟨h1, h2, h3, h4, h5⟩ := hp2
  have hown2 : w'.ownsRow B 5 1 g' ((ls.getD K []).length + (m + 1)) ((marksL (K + 1) ((ls.getD K []).length + (m + 1))).map (Value.int .u8)) := by
    rw [← Nat.add_assoc, marksL_succ, List.map_append]
    exact hown
  have tr : ∀ x : Option Nat, x = none ∨ x ≠ none := fun x => by cases x <;> simp
  have hpool : Pool B w' us ls K (K + 1) gl := hp.grown hgr (fun i hi => .inr (hs1 i hi)) (fun j hj hj2 => hs2 j hj (by omega)) (by omega)
  rcases hd with hd | ⟨hd, hgn⟩
  · refine ⟨hpool, hown2, ?_, fun i hi => by rw [hd]; exact hs1 i hi, fun j hj hne => by rw [hd]; exact hs2 j hj hne⟩
    by_cases hsame : (us.getD K undef).ownBlock = none ∨ (us.getD K undef).ownBlock ≠ g.ownBlock
    · exact hu.away hgr hsame
    · obtain ⟨b, hb⟩ : ∃ b, (us.getD K undef).ownBlock = some b := by
        cases hx : (us.getD K undef).ownBlock with
        | none => exact absurd (.inl hx) hsame
        | some b => exact ⟨b, rfl⟩
      have hbg : g.ownBlock = some b := by
        apply Classical.byContradiction
        intro hn
        exact hsame (.inr (by rw [hb]; exact Ne.symm hn))
      obtain ⟨_, c, e, hc1, hc2⟩ := h2.2.1 K b hK hb
      rw [e]
      refine ⟨⟨some ⟨b, 0, none⟩, c, by rw [marksL_length], by rw [marksL_length]; exact hc1, hc2, (fun e => by cases e), fun _ => ⟨b, 0, rfl, fun j hj => ?_⟩⟩, marksL_byt _ _⟩
      rw [marksL_length] at hj
      obtain ⟨g2, cap, e2, _, _, _, hcell⟩ := ownsRow_cells hown2 (by omega)
      rw [hbg, e2] at hd
      simp only [Value.ownBlock, Option.some.injEq] at hd
      subst hd
      have hjl : j < (marksL (K + 1) ((ls.getD K []).length + (m + 1))).length := by rw [marksL_length]; omega
      have := hcell j (.int .u8 (mkB (K + 1) j)) (by
        rw [List.getElem?_map, List.getElem?_eq_getElem hjl, ← getD_of_lt hjl, marksL_getD _ _ _ (by omega)]; rfl)
      rw [this, marksL_getD _ _ _ hj]
  · refine ⟨hpool, hown2, hu.away hgn (tr _), fun i hi => ?_, fun j hj hne => ?_⟩
    · rw [hd]
      intro e
      have := ((h3 i hi).1.lt _ e).2
      omega
    · rw [hd]
      right
      intro e
      have := (h2.2.1 j _ hj e).1
      omega
theorem Ph1.pool {B : Nat} {w : World} {us : List Value} {ls : List (List Int)} (h : Ph1 B w us ls us.length 0) : Pool B w us ls 0 0 [] := by
  obtain ⟨ms, ha, hl, hd, _⟩ := h
  refine ⟨rfl, ⟨ha.2.2, fun j b hj hb => ?_, fun j hj => ?_⟩, fun j hj => by omega, fun j _ hj => ?_, fun i j hi => by omega⟩
  · have hrow := ha.2.1 j hj
    refine ⟨(hrow.lt b hb).2, ?_⟩
    rcases hrow.2 with ⟨e, _⟩ | ⟨g, cap, cur, e, _, _, h1, h2, _⟩
    · rw [e] at hb; simp [Value.ownBlock] at hb
    · rw [e] at hb
      simp only [Value.ownBlock, Option.some.injEq] at hb
      subst hb
      rw [hl] at e h1
      exact ⟨cap, e, h1, h2⟩
  · obtain ⟨p, c, e⟩ := ha.slice j hj
    rw [hl] at e
    exact ⟨p, c, e⟩
  · have := ha.2.1 j hj
    rw [hd j hj, marksL_length] at this
    exact this
theorem HV.apart {w w' : World} {v : Value} {us : List Value} {row : Option Nat} {N : Nat} (h : HV w v us) (hg : w.grownBy w' row) (hr : ∀ g, row = some g → N ≤ g) (hv : ∀ b off n c, v = .slice (some ⟨b, off, none⟩) n c → 0 < us.length → b < N) : HV w' v us := by
  obtain ⟨p, c, h1, h2, h3, h4⟩ := h
  refine ⟨p, c, h1, h2, h3, fun hne => ?_⟩
  obtain ⟨b, off, e, ⟨cur, fz, hh⟩, hc⟩ := h4 hne
  have hb : b < N := hv b off us.length c (by rw [h1, e]) (by cases us with | nil => exact absurd rfl hne | cons _ _ => simp)
  have hne2 : some b ≠ row := fun e => by have := hr b e.symm; omega
  exact ⟨b, off, e, ⟨cur, fz, by rw [hg.block b (Array.getElem?_eq_some_iff.1 hh).1 hne2]; exact hh⟩, fun k hk => hg.cell (hc k hk) hne2⟩
theorem HV.cellAt {w : World} {b off n c : Nat} {us : List Value} (h : HV w (.slice (some ⟨b, off, none⟩) n c) us) (k : Nat) (hk : k < us.length) : w.cell? ⟨b, off + k, none⟩ = some (us.getD k undef) := by
  obtain ⟨p', c', e', _, _, h4⟩ := h
  obtain ⟨b', off', e2, _, hc⟩ := h4 (by intro e; subst e; simp at hk)
  simp only [Value.slice.injEq] at e'
  rw [← e'.1] at e2
  simp only [Option.some.injEq, Addr.mk.injEq, and_true] at e2
  obtain ⟨rfl, rfl⟩ := e2
  exact hc k hk
set_option maxHeartbeats 4000000 in
theorem apart_any (B : Nat) (w : World) (v : Value) (us : List Value) (ls : List (List Int)) (hv : HV w v us) (ha : Apt B w us ls) (hB : B ≤ w.heap.size) (hn : us.length ≤ 5864062014634) (hls : ∀ k, (ls.getD k []).length ≤ 140737488351232) :
    Calls Try.prog 31 #[v] w fun e w' => e = .returned (.bool true) ∧ Below B w w' := by
  obtain ⟨p, c, e, hlc, hm, hcell⟩ := id hv
  unfold maxLen at hm
  subst e
  have A : Hid (0 < us.length → ∃ b off, p = some ⟨b, off, none⟩) := fun h0 => by
    obtain ⟨b, off, e, _⟩ := hcell (by intro e; subst e; simp at h0)
    exact ⟨b, off, e⟩
  have HV0 := hid hv
  have HA0 := hid (Ph1.start ha)
  have HLS := hid hls
  clear hcell hv ha hls
  go_enter Try.func31, Try.ntmps31
  go_wp2
  go_loopw [3] (fun k wr => ∃ K : Nat, K ≤ us.length ∧ k = .int .i64 K ∧ Hid (Ph1 B wr us ls K 0) ∧ Hid (HV wr (.slice p us.length c) us) ∧ Hid (Below B w wr)) (fun k _ => us.length - (intOf k).toNat)
  case atStart => exact ⟨0, Nat.zero_le _, rfl, HA0, HV0, Below.refl _ _⟩
  case round =>
    clear HA0 HV0
    obtain ⟨K, hK, rfl, HP, HVr, HBr⟩ := hrel
    by_cases hlt : K < us.length
    · obtain ⟨b, off, rfl⟩ := A.out (by omega)
      have hcells : Hid (∀ wz, HV wz (.slice (some ⟨b, off, none⟩) us.length c) us → wz.cell? ⟨b, off + K, none⟩ = some (us.getD K undef)) := by
        intro wz hz
        obtain ⟨p', c', e', _, _, h4⟩ := hz
        obtain ⟨b', off', e2, _, hc⟩ := h4 (by intro e; subst e; simp at hlt)
        simp only [Value.slice.injEq, true_and] at e'
        rw [← e'.1] at e2
        simp only [Option.some.injEq, Addr.mk.injEq, and_true] at e2
        obtain ⟨rfl, rfl⟩ := e2
        exact hc K hlt
      obtain ⟨n, HN⟩ : ∃ n, Hid ((ls.getD K []).length = n) := ⟨_, rfl⟩
      have hn2 : n ≤ 140737488351232 := by rw [← HN.out]; exact HLS.out K
      obtain ⟨pk, ck, HU⟩ : ∃ pk ck, Hid (us.getD K undef = .slice pk n ck) := by
        obtain ⟨pk, ck, e⟩ := HP.out.slice K hlt
        rw [HN.out] at e
        exact ⟨pk, ck, e⟩
      go_wp2
      go_loopw [4] (fun i wz => ∃ I : Nat, I ≤ n ∧ i = .int .i64 I ∧ Hid (Ph1 B wz us ls K I) ∧ Hid (HV wz (.slice (some ⟨b, off, none⟩) us.length c) us) ∧ Hid (Below B w wz)) (fun i _ => n - (intOf i).toNat)
      case atStart => exact ⟨0, Nat.zero_le _, rfl, HP, HVr, HBr⟩
      case round =>
        clear HP HVr HBr
        obtain ⟨I, hI, rfl, HP, HVr, HBr⟩ := hrel
        have hc1 := hcells.out wr HVr.out
        rw [HU.out] at hc1
        by_cases hli : I < n
        · obtain ⟨g, ck', e, hck, hck2, hgB, hBT, hcc⟩ := HP.out.some K hlt (by rw [HN.out]; omega)
          rw [HU.out, HN.out] at e
          simp only [Value.slice.injEq, true_and] at e
          obtain ⟨rfl, rfl⟩ := e
          obtain ⟨⟨z, hz⟩, hfz⟩ := hcc I (by rw [HN.out]; exact hli)
          rw [HN.out] at hck2
          unfold maxLen at hck
          have HBT := hid hBT
          have hgb : b ≠ g := (HVr.out.block (by omega)).ne hBT (by decide)
          have hbg : g ≠ b := Ne.symm hgb
          clear hcc hBT
          go_wp2
          go_region_held3 (fun w' => w'.cell? ⟨b, off + K, none⟩ = some (.slice (some ⟨g, 0, none⟩) n ck)) (go_keep) ((go_at_call 38; refine (mark_eq _ (K + 1) I _ _ (wrap_succ K (by omega)) rfl (by omega) (by omega)).mono ?_; rintro e wz ⟨rfl, hw⟩; have hw' := hw.symm; subst hw'; clear hw))
          have hst := HP.out.step hlt (by rw [HN.out]; exact hli) HU.out
          have HP2 := hid hst.1.drew
          have HV2 := hid (HVr.out.grown hst.2 (fun g' e => by cases e; exact HBT.out)).drew
          have HB2 := hid (HBr.out.setCell (p := ⟨g, I, none⟩) hgB (.int .u8 (mkB (K + 1) I))).drew
          clear hst
          go_wp2
          exact ⟨⟨I + 1, by omega, by go_num, HP2, HV2, HB2⟩, by simp [intOf]; omega⟩
        · have HP2 := hid (HP.out.next (by rw [HN.out]; omega))
          go_wp2
          exact ⟨⟨K + 1, by omega, by go_num, HP2, HVr, HBr⟩, by simp [intOf]; omega⟩
    · have hKn : K = us.length := by omega
      have HPl : Hid (Pool B wr us ls 0 0 []) := by
        have := HP.out
        rw [hKn] at this
        exact this.pool
      obtain ⟨N, HN⟩ : ∃ N, Hid (wr.heap.size = N) := ⟨_, rfl⟩
      have HNu : Hid (∀ j b, j < us.length → (us.getD j undef).ownBlock = some b → b < N) := fun j b hj hb => by rw [← HN.out]; exact (HPl.out.2.1.2.1 j b hj hb).1
      have HNv : Hid (∀ b off n c', Value.slice p us.length c = .slice (some ⟨b, off, none⟩) n c' → 0 < us.length → b < N) := fun b off n c' e h0 => by
        rw [← HN.out]
        have h1 := HVr.out
        rw [e] at h1
        obtain ⟨cur, fz, hh⟩ := h1.block h0
        exact (Array.getElem?_eq_some_iff.1 hh).1
      have HNB : Hid (B ≤ N) := by rw [← HN.out]; exact Nat.le_trans hB HBr.out.size
      have HNs : Hid (N ≤ wr.heap.size) := by rw [HN.out]; exact Nat.le_refl N
      clear HP hKn HN
      go_wp2
      go_loopw [5, 6] (fun gs k wz => ∃ (K : Nat) (gl : List Value), K ≤ us.length ∧ k = .int .i64 K ∧ Hid (Pool B wz us ls K K gl) ∧ Hid (wz.ownsRow N 22 1 gs K gl) ∧ Hid (HV wz (.slice p us.length c) us) ∧ Hid (Below B w wz) ∧ Hid (N ≤ wz.heap.size)) (fun _ k _ => us.length - (intOf k).toNat)
      case atStart => exact ⟨0, [], Nat.zero_le _, rfl, HPl, World.ownsRow_nil _ _ _ _, HVr, HBr, HNs⟩
      case round =>
        clear HPl HVr HBr HNs hlt hK
        obtain ⟨K, gl, hK, rfl, HP, HG, HVr, HBr, HNs⟩ := hrel
        by_cases hlt : K < us.length
        · obtain ⟨b, off, rfl⟩ := A.out (by omega)
          obtain ⟨n, HNn⟩ : ∃ n, Hid ((ls.getD K []).length = n) := ⟨_, rfl⟩
          have hn2 : n ≤ 140737488351232 := by rw [← HNn.out]; exact HLS.out K
          obtain ⟨pk, ck, HU⟩ : ∃ pk ck, Hid (us.getD K undef = .slice pk n ck) := by
            obtain ⟨pk, ck, e⟩ := HP.out.2.1.2.2 K hlt
            rw [HNn.out] at e
            exact ⟨pk, ck, e⟩
          have hc1 := HVr.out.cellAt K hlt
          rw [HU.out] at hc1
          have HC := hid (Cur.start HP.out hlt)
          rw [HU.out] at HC
          go_wp2
          go_loopw [7, 8] (fun g i wz => ∃ m : Nat, m ≤ 70 ∧ i = .int .i64 m ∧ Hid (Cur B wz us ls K gl g m) ∧ Hid (wz.ownsRow N 22 1 u5 K gl) ∧ Hid (HV wz (.slice (some ⟨b, off, none⟩) us.length c) us) ∧ Hid (Below B w wz) ∧ Hid (N ≤ wz.heap.size)) (fun _ i _ => 70 - (intOf i).toNat)
          case atStart => exact ⟨0, Nat.zero_le _, rfl, HC, HG, HVr, HBr, HNs⟩
          case round =>
            clear HC HG HVr HBr HNs hc1
            obtain ⟨m, hm70, rfl, HC, HG, HVr, HBr, HNs⟩ := hrel
            have hc1 := HVr.out.cellAt K hlt
            rw [HU.out] at hc1
            by_cases hlm : m < 70
            · have hlm2 : (m : Int) < 70 := by omega
              go_wp2_with fail
              refine (mark_eq wr (K + 1) (n + m) _ _ (by omega) (by omega) (by omega) (by omega)).mono ?_
              rintro e wz ⟨rfl, hw⟩
              have hw' := hw.symm
              subst hw'
              clear hw
              have HCa := hid (HC.out.alloc hlt (.cells #[.int .u8 (mkB (K + 1) (n + m))] 5))
              have HO := HCa.out.2.1
              rw [HNn.out] at HO
              have HOh := hid HO
              clear HO
              go_wp2_with (at_builtin; refine wpList_append_byte rfl _ _ rfl B _ (n + m) _ rfl HOh.out ⟨wr.heap.size, 0, none⟩ 1 (mkB (K + 1) (n + m)) rfl (by simp) ?q1 ?q2 ?_)
              case q1 => omega
              case q2 => have := HBr.out.size; simp; omega
              intro g' w2 hown2 hgr2 hd2
              have hBT := own_BT HOh.out
              have hal := World.grownBy_alloc wr (.cells #[.int .u8 (mkB (K + 1) (n + m))] 5) none
              have HC2 := hid (HCa.out.step hlt (by rw [HNn.out]; exact hown2) hgr2 (by rw [World.size_alloc]; exact hd2))
              have HG2 : Hid (w2.ownsRow N 22 1 u5 K gl) := by
                have h1 := HG.out.alloc (.cells #[.int .u8 (mkB (K + 1) (n + m))] 5)
                refine h1.kept hgr2 ?_
                cases hx : u7.ownBlock with
                | none => cases hy : u5.ownBlock <;> simp
                | some q =>
                  obtain ⟨cur, fz, hh⟩ := hBT q hx
                  exact .inr (own_block_ne h1 hh (by decide))
              have HV2 := hid ((HVr.out.grown hal (fun g e => by cases e)).grown hgr2 hBT)
              have HB2 := hid ((HBr.out.alloc (Nat.le_trans hB HBr.out.size) (.cells #[.int .u8 (mkB (K + 1) (n + m))] 5)).grown hgr2 (by have := HBr.out.size; simp; omega) (fun k e => (HOh.out.lt k e).1))
              have HN2 : Hid (N ≤ w2.heap.size) := by have h1 := hgr2.size; have h2 := HNs.out; simp at h1; exact Nat.le_trans h2 (by omega)
              clear hown2 hgr2 hd2 hBT hal
              go_wp2
              exact ⟨⟨m + 1, by omega, by go_num, HC2, HG2, HV2, HB2, HN2⟩, by simp [intOf]; omega⟩
            · have e70 : m = 70 := by omega
              subst e70
              have HPn := hid (HC.out.finish hlt)
              have HOg := HC.out.2.1
              rw [HNn.out] at HOg
              obtain ⟨pg, cg, eg, _, _⟩ : ∃ pg cg, u7 = .slice pg (n + 70) cg ∧ True ∧ True := by
                rcases HOg.2 with ⟨_, e⟩ | ⟨g', cap, cur, e, _⟩
                · omega
                · exact ⟨_, _, e, trivial, trivial⟩
              subst eg
              obtain ⟨i0, hi, hz0, hz1, hz2⟩ := info_parts info_bytes
              have HGa := hid (HG.out.alloc (.cells #[.slice pg (n + 70) cg] 22))
              have hal := World.grownBy_alloc wr (.cells #[.slice pg (n + 70) cg] 22) none
              have tr : ∀ x : Option Nat, x = none ∨ x ≠ none := fun x => by cases x <;> simp
              have HPa := hid (HPn.out.grown hal (fun i _ => tr _) (fun j _ _ => tr _) (by omega))
              have HVa := hid (HVr.out.grown hal (fun g e => by cases e))
              have HBa := hid (HBr.out.alloc (Nat.le_trans hB HBr.out.size) (.cells #[.slice pg (n + 70) cg] 22))
              clear HOg tr hal
              go_wp2_with (at_builtin; refine wpList_append_own _ rfl _ _ 48 rfl N 22 i0 (.slice none 0 0) 1 24 Try.underlying48 hi hz0 hz1 hz2 rfl (by decide) _ K gl rfl HGa.out ⟨wr.heap.size, 0, none⟩ 1 1 [_] rfl rfl (cell_one_new _ _ _) ?q1 ?q2 ?q3 ?q4 ?_)
              case q1 => intro u hu; simp only [List.mem_singleton] at hu; subst hu; rfl
              case q2 => unfold maxLen; omega
              case q3 => omega
              case q4 => have := HNs.out; simp; omega
              intro gs' w2 hown2 hgr2 _
              have hlo : ∀ g, u5.ownBlock = some g → N ≤ g := fun g e => (HGa.out.lt g e).1
              have HP2 : Hid (Pool B w2 us ls (K + 1) (K + 1) (gl ++ [.slice pg (n + 70) cg])) := by
                refine HPa.out.grown hgr2 (fun i hi => ?_) (fun j hj _ => ?_) (by omega)
                · cases hx : u5.ownBlock with
                  | none => cases hy : ((gl ++ [Value.slice pg (n + 70) cg]).getD i undef).ownBlock <;> simp
                  | some q =>
                    obtain ⟨cur, fz, hh⟩ := own_BT HGa.out q hx
                    exact .inr (own_block_ne (HPa.out.2.2.1 i hi).1 hh (by decide))
                · cases hx : (us.getD j undef).ownBlock with
                  | none => exact .inl rfl
                  | some q =>
                    right
                    intro e
                    have h1 := HNu.out j q hj hx
                    have h2 := hlo q e.symm
                    omega
              have HV2 := hid (HVa.out.apart hgr2 hlo HNv.out)
              have HB2 := hid (HBa.out.grown hgr2 (by have := HBr.out.size; simp; omega) (fun k e => Nat.le_trans HNB.out (hlo k e)))
              have HG2 : Hid (w2.ownsRow N 22 1 gs' (K + 1) (gl ++ [.slice pg (n + 70) cg])) := hown2
              have HN2 : Hid (N ≤ w2.heap.size) := by have h1 := hgr2.size; have h2 := HNs.out; simp at h1; exact Nat.le_trans h2 (by omega)
              clear hown2 hgr2 hlo
              go_wp2
              exact ⟨⟨K + 1, _, by omega, by go_num, HP2, HG2, HV2, HB2, HN2⟩, by simp [intOf]; omega⟩
        · have hKn : K = us.length := by omega
          subst hKn
          obtain ⟨pg, cg, eg⟩ : ∃ pg cg, u5 = .slice pg us.length cg := by
            rcases HG.out.2 with ⟨e, e2⟩ | ⟨g', cap, cur, e, _⟩
            · exact ⟨none, 0, by rw [e, e2]⟩
            · exact ⟨_, _, e⟩
          subst eg
          go_wp2
          go_loop [9] (fun k => ∃ Q : Nat, Q ≤ us.length ∧ k = .int .i64 Q) (fun k => us.length - (intOf k).toNat)
          case atStart => exact ⟨0, Nat.zero_le _, rfl⟩
          case round =>
            obtain ⟨Q, hQ, rfl⟩ := hrel
            by_cases hlq : Q < us.length
            · obtain ⟨b, off, rfl⟩ := A.out (by omega)
              obtain ⟨n, HNn⟩ : ∃ n, Hid ((ls.getD Q []).length = n) := ⟨_, rfl⟩
              have hn2 : n ≤ 140737488351232 := by rw [← HNn.out]; exact HLS.out Q
              have hc1 := HVr.out.cellAt Q hlq
              obtain ⟨hrow, hu⟩ := HP.out.2.2.1 Q hlq
              rw [HNn.out] at hrow hu
              obtain ⟨pk, ck, HU⟩ : ∃ pk ck, Hid (us.getD Q undef = .slice pk n ck) := by
                obtain ⟨pk, ck, e⟩ := HP.out.2.1.2.2 Q hlq
                rw [HNn.out] at e
                exact ⟨pk, ck, e⟩
              rw [HU.out] at hc1 hu
              obtain ⟨gg, capg, eg, _, hcg1, hcg2, hgc⟩ := ownsRow_cells HG.out (by omega)
              simp only [Value.slice.injEq, true_and] at eg
              obtain ⟨rfl, rfl⟩ := eg
              have hgl : gl.length = us.length := HP.out.1
              have hc2 := hgc Q (gl.getD Q undef) (by simp [List.getD, List.getElem?_eq_getElem (show Q < gl.length by omega)])
              rw [Nat.zero_add] at hc2
              obtain ⟨gq, capq, eq, _, hq1, hq2, hqc⟩ := ownsRow_cells hrow (by omega)
              rw [eq] at hc2
              have HQ : Hid (∀ I, I < n + 70 → wr.cell? ⟨gq, I, none⟩ = some (.int .u8 (mkB (Q + 1) I))) := fun I hI => by
                have hjl : I < (marksL (Q + 1) (n + 70)).length := by rw [marksL_length]; exact hI
                have := hqc I (.int .u8 (mkB (Q + 1) I)) (by rw [List.getElem?_map, List.getElem?_eq_getElem hjl, ← getD_of_lt hjl, marksL_getD _ _ _ hI]; rfl)
                rwa [Nat.zero_add] at this
              have HUc : Hid (∀ I, I < n → ∃ b' off', pk = some ⟨b', off', none⟩ ∧ wr.cell? ⟨b', off' + I, none⟩ = some (.int .u8 (mkB (Q + 1) I)) ∧ n ≤ ck) := fun I hI => by
                obtain ⟨b', off', c', e, h1, h2, hh⟩ := hu.ne (by rw [marksL_length]; omega)
                rw [marksL_length] at e hh h1
                simp only [Value.slice.injEq, true_and] at e
                obtain ⟨rfl, rfl⟩ := e
                have := hh I hI
                rw [marksL_getD _ _ _ hI] at this
                exact ⟨b', off', rfl, this, h1⟩
              unfold maxLen at hcg2 hq2
              clear hrow hu hgc hqc eq hgl
              go_wp2
              go_loop [10] (fun i => ∃ I : Nat, I ≤ n + 70 ∧ i = .int .i64 I) (fun i => n + 70 - (intOf i).toNat)
              case atStart => exact ⟨0, Nat.zero_le _, rfl⟩
              case round =>
                obtain ⟨I, hI, rfl⟩ := hrel
                by_cases hli : I < n + 70
                · have hx1 := HQ.out I hli
                  have hli2 : (I : Int) < (n : Int) + 70 := by omega
                  go_wp2_with fail
                  refine (mark_eq wr (Q + 1) I _ _ (by omega) rfl (by omega) (by omega)).mono ?_
                  rintro e wz ⟨rfl, hw⟩
                  have hw' := hw.symm
                  subst hw'
                  clear hw
                  obtain ⟨x, HX⟩ : ∃ x, Hid (mkB (Q + 1) I = x) := ⟨_, rfl⟩
                  rw [HX.out] at hx1 ⊢
                  have hxx : (x != x) = false := by simp
                  by_cases hln : I < n
                  · have hdn : decide ((I : Int) < (n : Int)) = true := by simp; omega
                    have hln2 : (I : Int) < (n : Int) := by omega
                    obtain ⟨b', off', rfl, hx2, _⟩ := HUc.out I hln
                    rw [HX.out] at hx2
                    go_wp2
                    exact ⟨⟨I + 1, by omega, by go_num⟩, by simp [intOf]; omega⟩
                  · have hdn : decide ((I : Int) < (n : Int)) = false := by simp; omega
                    go_wp2
                    exact ⟨⟨I + 1, by omega, by go_num⟩, by simp [intOf]; omega⟩
                · have hli2 : ¬ ((I : Int) < (n : Int) + 70) := by omega
                  go_wp2
                  exact ⟨⟨Q + 1, by omega, by go_num⟩, by simp [intOf]; omega⟩
            · go_wp2
              go_ret
              exact ⟨rfl, HBr.out⟩
end Go.Proofs.Ytafdklelfcccbaa
namespace Go.Proofs.Ytafdklelfcccbaa
open Go Go.RowKit Go.Shelf
attribute [local go_sem] Oper.semAt_some
def PWD (B : Nat) (w : World) (v : Value) (ls : List (List Int)) : Prop :=
  ∃ xs, w.ownsRow B 22 1 v ls.length xs ∧ Apt B w xs ls ∧ ∀ j, j < ls.length → BytI (ls.getD j [])
theorem PWD.fromD {B n : Nat} {A C : World} {v : Value} {ls : List (List Int)} {row : Option Nat} (h : PWD B A v ls) (hg : A.grownBy C row) (hr : ∀ r, row = some r → n ≤ r ∧ ∃ o : Obj, A.heap[r]? = some o ∧ o.isCells = false) : PWD B C v ls := by
  obtain ⟨xs, h1, h2, h3⟩ := h
  exact ⟨xs, row_from h1 hg hr, ⟨h2.1, fun j hj => row_from (h2.2.1 j hj) hg hr, h2.2.2⟩, h3⟩
set_option maxRecDepth 100000 in
set_option maxHeartbeats 8000000 in
theorem blocks_apt (w : World) (v : Value) (l : List Int) (k : Nat) (hv : HB w v l) (hk1 : 1 ≤ k) (hk2 : k ≤ 255) (hl1 : 1 ≤ l.length) (hl2 : (l.length : Int) ≤ (k : Int) * upI 65536 k) :
    Calls Try.prog 34 #[v, .int .i64 k] w fun e w' => ∃ v', e = .returned (.tuple #[v', .int .i64 0]) ∧ PWD w.heap.size w' v' (blL l k k) ∧ Below w.heap.size w w' := by
  have HA := hid hv
  obtain ⟨p, c, rfl, hlc, hcm⟩ := hv.open
  unfold maxLen at hcm
  obtain ⟨b0, o0, c0, e0, _, _, hcell0⟩ := hv.ne (by omega)
  simp only [Value.slice.injEq] at e0
  obtain ⟨rfl, _, rfl⟩ := e0
  have HC0 := hid hcell0
  clear hcell0 hv
  have ml := most_lt (k := (k : Int)) (by omega) (by omega)
  have CM := hid fun w => most_any w (k : Int) (by omega) (by omega)
  obtain ⟨M, HM⟩ : ∃ M, Hid ((k : Int) * upI 65536 k = M) := ⟨_, rfl⟩
  rw [HM.out] at CM ml hl2
  have CU := hid fun w => upward_any w (l.length : Int) (k : Int) (by omega) (by omega) (by omega)
  rw [pcN_up hl1] at CU
  obtain ⟨u, HU⟩ : ∃ u, Hid (blU l k = u) := ⟨_, rfl⟩
  have hu1 : 1 ≤ u := by rw [← HU.out]; exact blU_pos l k
  obtain ⟨N, HN⟩ : ∃ N, Hid (k * u = N) := ⟨_, rfl⟩
  have hN1 : l.length ≤ N := by rw [← HN.out, ← HU.out]; exact blU_ge hk1 hl1
  have hN2 : N ≤ l.length + k := by rw [← HN.out, ← HU.out]; exact blU_le hk1
  have huN : u ≤ N := by rw [← HN.out]; exact Nat.le_mul_of_pos_left u hk1
  have HU' : Hid (pcN l.length k = u) := HU
  rw [HU'.out] at CU
  have hmul : (k : Int) * (u : Int) = (N : Int) := by rw [← HN.out]; simp
  have hwN : IntKind.i64.wrap (N : Int) = (N : Int) := wrap64 (by omega) (by omega)
  obtain ⟨i0, hi, hz0, hz1, hz2⟩ := info_parts info_u8
  obtain ⟨w1, hmk, hown, hgr⟩ := run_make_full (P := Try.prog) w w.heap.size 22 5 i0 (.int .u8 0) 1 Try.underlying22 hi hz0 hz1 .i64 .i64 N (by rw [hz2]; omega) (by unfold maxLen; omega) (Nat.le_refl _)
  rw [made_cells] at hown
  have B1 : Hid (Below w.heap.size w w1) := (Below.refl _ w).grown hgr (Nat.le_refl _) (fun k e => by cases e)
  obtain ⟨w2, HW2⟩ : ∃ w2, Hid (w1.setCells w.heap.size 0 (l.map (Value.int .u8)) = w2) := ⟨_, rfl⟩
  have F2 : Hid (HB w2 (.slice (some ⟨w.heap.size, 0, none⟩) N N) (padL l N)) := by rw [← HW2.out]; exact fill_HB hown hN1 (by omega) HA.out.2
  have B2 : Hid (Below w.heap.size w w2) := by rw [← HW2.out]; exact below_setCells (Nat.le_refl _) _ _ _ B1.out
  have hg1 : w.heap.size < w1.heap.size := (hown.lt w.heap.size rfl).2
  have hS2 : w2.heap.size = w1.heap.size := by rw [← HW2.out]; exact setCells_size _ _ _ _
  have HCP : Hid (∀ ty, (Builtin.copy_ #[22, 22] ty #[.slice (some ⟨w.heap.size, 0, none⟩) N N, .slice (some ⟨b0, o0, none⟩) l.length c]).run Try.prog w1 = .ok (goInt (l.map (Value.int .u8)).length) w2) := by
    intro ty
    rw [← HW2.out]
    obtain ⟨g', cap, e, _, hn, hm, hc⟩ := ownsRow_cells hown (by omega)
    simp only [Value.slice.injEq, Option.some.injEq, Addr.mk.injEq, and_true, true_and] at e
    obtain ⟨rfl, rfl⟩ := e
    have cell : ∀ j, j < N → w1.cell? ⟨w.heap.size, 0 + j, none⟩ = some (.int .u8 0) := fun j hj => hc j _ (by simp [hj])
    refine run_copy_cells (P := Try.prog) w1 22 22 ty 5 w.heap.size 0 N N ⟨b0, o0, none⟩ l.length c (l.map (Value.int .u8)) Try.underlying22 info_u8s (by simp [Nat.min_def]; omega) (fun j v hv => ?_) (fun j hj => ?_) (fun j hj => ?_) (fun v hv => ?_)
    · have hj : j < l.length := by have := (List.getElem?_eq_some_iff.1 hv).1; simpa using this
      have e2 : v = .int .u8 (l.getD j 0) := by simp [List.getElem?_map, List.getElem?_eq_getElem hj] at hv; rw [← hv]; simp [List.getD, List.getElem?_eq_getElem hj]
      rw [e2, Go.WideShapes.add_plain]
      have := HC0.out j hj
      exact (B1.out.cell (World.block_lt_of_cell? w _ this)).trans this
    · rw [cell j (by simp at hj; omega)]; rfl
    · rcases hown.2 with ⟨e, _⟩ | ⟨g2, cap2, cur, e, _, hh, _⟩
      · cases e
      · simp only [Value.slice.injEq, Option.some.injEq, Addr.mk.injEq, and_true, true_and] at e
        obtain ⟨rfl, _⟩ := e
        simp [World.frozen?, hh]
    · obtain ⟨t, _, rfl⟩ := List.mem_map.1 hv; rfl
  have BT2 : Hid (∃ cur fz, w2.heap[w.heap.size]? = some (.cells cur 5 fz)) := by
    rw [← HW2.out]
    refine bt_setCells _ _ _ _ ?_
    rcases hown.2 with ⟨e, _⟩ | ⟨g2, cap2, cur, e, _, hh, _⟩
    · cases e
    · simp only [Value.slice.injEq, Option.some.injEq, Addr.mk.injEq, and_true, true_and] at e
      obtain ⟨rfl, _⟩ := e
      exact ⟨cur, _, hh⟩
  clear hown hgr
  obtain ⟨i1, hi1, hy0, hy1, hy2⟩ := info_parts info_bytes
  obtain ⟨w3, hmk3, hown3, hgr3⟩ := run_make_own (P := Try.prog) w2 w2.heap.size 48 22 i1 (.slice none 0 0) 1 Try.underlying48 hi1 hy0 hy1 .i64 .i64 k (by rw [hy2]; omega) (by unfold maxLen; omega) (Nat.le_refl _)
  have O3 := hid hown3
  have G3 := hid hgr3
  clear hown3 hgr3
  refine (callsIn_wide (n := 3)).1 ?_
  refine callsIn_of_wp_marks Try.func34 rfl trivial (wpIn_wide.2 ?_) rfl
  simp only [Try.ntmps34, List.size_toArray, List.length_cons, List.length_nil, Nat.reduceAdd, Nat.reduceSub, Array.replicate_succ, Array.replicate_zero, List.push_toArray, List.append_toArray, List.nil_append, List.cons_append]
  go_wp2_with fail
  refine (CM.out w).mono ?_
  rintro e wq ⟨rfl, hwq⟩
  rw [hwq]
  clear hwq wq
  go_wp2_with fail
  refine (CU.out w).mono ?_
  rintro e wq ⟨rfl, hwq⟩
  rw [hwq]
  clear hwq wq
  have hcp := HCP.out
  simp only [goInt, List.length_map] at hcp
  go_wp2_with fail
  clear hcp hmk hmk3
  obtain ⟨W4, HW4⟩ : ∃ W4, Hid (w3.alloc (.cells #[.slice (some ⟨w1.heap.size, 0, none⟩) 0 k] 48) = W4) := ⟨_, rfl⟩
  rw [HW4.out]
  have B23 : Below w2.heap.size w2 w3 := (Below.refl _ w2).grown G3.out (Nat.le_refl _) (fun k e => by cases e)
  have B34 : Below w3.heap.size w3 W4 := by rw [← HW4.out]; exact below_alloc _ _
  have hs23 := B23.size
  have hS4 : W4.heap.size = w3.heap.size + 1 := by rw [← HW4.out]; simp
  have F4 := hid ((F2.out.below B23).below B34)
  have B04 : Hid (Below w.heap.size w W4) := (B2.out.trans (B23.mono (by omega))).trans (B34.mono (by omega))
  have X4 : Hid (Boxed W4 w3.heap.size 48 (.slice (some ⟨w1.heap.size, 0, none⟩) 0 k)) := by rw [← HW4.out]; exact Boxed.new _ _ _
  have O4 : Hid (W4.ownsRow w.heap.size 22 1 (.slice (some ⟨w1.heap.size, 0, none⟩) 0 k) 0 []) := by
    have := own_below O3.out B34
    rw [hS2] at this
    exact own_mono this (by omega)
  have hw13 : w1.heap.size < w3.heap.size := by
    have := O3.out.lt w2.heap.size rfl
    omega
  have hBT : ∃ cur fz, W4.heap[w.heap.size]? = some (.cells cur 5 fz) := by
    obtain ⟨cur, fz, h⟩ := BT2.out
    exact ⟨cur, fz, (B34.block w.heap.size (by omega)).trans ((B23.block w.heap.size (by omega)).trans h)⟩
  clear B23 B34 F2 O3 G3 B1 B2
  refine (pieces_any W4 _ (padL l N) u F4.out).mono ?_
  rintro e w5 ⟨b5, b3, rfl, hbox, hb5, hb3, hs5, hh5, hh3, hB5⟩
  have HBx := hid hbox
  have HH5 := hid hh5
  have HH3 := hid hh3
  have B05 : Hid (Below w.heap.size w w5) := B04.out.trans (hB5.mono B04.out.size)
  have X5 : Hid (Boxed w5 w3.heap.size 48 (.slice (some ⟨w1.heap.size, 0, none⟩) 0 k)) := X4.out.kept (grown_below (r := none) hB5) (by simp)
  have O5 := hid (own_below O4.out hB5)
  have HBT : Hid (∃ cur fz, w5.heap[w.heap.size]? = some (.cells cur 5 fz)) := by
    obtain ⟨cur, fz, h⟩ := hBT
    exact ⟨cur, fz, (hB5.block w.heap.size (by omega)).trans h⟩
  clear hbox hh5 hh3 hB5 X4 O4 B04 hBT
  have HDl : Hid (∀ i, pcD (.slice (some ⟨w.heap.size, 0, none⟩) N N) b5 b3 i → i < w5.heap.size ∧ i ≠ w3.heap.size) := by
    rintro i (rfl | rfl | hi)
    · omega
    · omega
    · simp only [Value.ownBlock, Option.some.injEq] at hi; omega
  have HD0 : Hid (∀ i, pcD (.slice (some ⟨w.heap.size, 0, none⟩) N N) b5 b3 i → (Value.slice (some ⟨w1.heap.size, 0, none⟩) 0 k).ownBlock ≠ some i) := by
    rintro i (rfl | rfl | hi) q
    · simp only [Value.ownBlock, Option.some.injEq] at q; omega
    · simp only [Value.ownBlock, Option.some.injEq] at q; omega
    · simp only [Value.ownBlock, Option.some.injEq] at q hi; omega
  have hw5 := hid B05.out.size
  have HW3 : Hid (w.heap.size ≤ w3.heap.size) := by show _ ≤ _; omega
  have HW35 : Hid (w.heap.size < w5.heap.size) := by show _ < _; omega
  clear hb5 hb3 hs5 hS4 hs23 hw13 hg1 hS2
  go_wp2_with fail
  refine (wpIn_wide (n := 3)).1 ?_
  have hpl : (padL l N).length = N := padL_length hN1
  apply range_fitG rfl (by decide) (gf := 54) (lb := #[.pointer (some ⟨b5, 0, none⟩), .pointer (some ⟨b3, 0, none⟩)]) rfl trivial (enters_of Try.func54 (by kernel_rfl) rfl)
    (pieces_iterG (3 - 1) w5 (.slice (some ⟨w.heap.size, 0, none⟩) N N) b5 b3 (padL l N) u hu1 (by omega) (by omega) (by omega) HBx.out (fun i hi => (HDl.out i hi).1)) (KD.refl _ _) (fun i hi => (HDl.out i hi).1) (fun _ _ => rfl)
    (fun i W => ∃ v, Boxed W w3.heap.size 48 v ∧ PWD w.heap.size W v (blL l k i) ∧ Below w.heap.size w W ∧ KD (pcD (.slice (some ⟨w.heap.size, 0, none⟩) N N) b5 b3) w5 W ∧ ∀ i, pcD (.slice (some ⟨w.heap.size, 0, none⟩) N N) b5 b3 i → v.ownBlock ≠ some i)
    (fun _ _ => False)
    (fun s A C row hs hg hr => by
      obtain ⟨v, h1, h2, h3, h4, h5⟩ := hs
      refine ⟨v, box_from h1 hg hr, h2.fromD hg hr, below_from h3 (Nat.le_refl _) hg hr (by have := hw5.out; omega), ⟨Nat.le_trans h4.1 hg.size, fun i hi => ?_⟩, h5⟩
      have hlt := (HDl.out i hi).1
      refine (hg.block i (Nat.lt_of_lt_of_le hlt h4.1) fun e => ?_).trans (h4.2 i hi)
      obtain ⟨q1, _⟩ := hr i e.symm
      omega)
    (fun _ _ _ _ hs _ _ => hs)
    (fun k v S _ A C row hs hg hr => row_from hs hg hr)
    ⟨_, X5.out, ⟨[], O5.out, ⟨rfl, fun j hj => by simp at hj, fun i j hi => by simp at hi⟩, fun j hj => by simp [blL] at hj⟩, B05.out, KD.refl _ _, HD0.out⟩
  case hassign =>
    intro l k v W K hK
    gi_wp2
    exact hK
  case hstop =>
    intro d c W _ h _
    exact h.elim
  case hbody =>
    rintro lp i v A W hlp - ⟨vp, x1A, ⟨xs, hrowA, hapA, hbyA⟩, x3A, x4A, x5⟩ hT hf hi'
    have x1 := hT (fun W => Boxed W w3.heap.size 48 vp) (fun _ A C row hs hg hr => box_from hs hg hr) x1A
    have hrow := hT (fun W => W.ownsRow w.heap.size 22 1 vp (blL l k i).length xs) (fun _ A C row hs hg hr => row_from hs hg hr) hrowA
    have hap := hT (fun W => Apt w.heap.size W xs (blL l k i)) (fun _ A C row hs hg hr => ⟨hs.1, fun j hj => row_from (hs.2.1 j hj) hg hr, hs.2.2⟩) hapA
    have x3 := hT (fun W => Below w.heap.size w W) (fun _ A C row hs hg hr => below_from hs (Nat.le_refl _) hg hr (by have := hw5.out; omega)) x3A
    have x4 := hT (fun W => KD (pcD (.slice (some ⟨w.heap.size, 0, none⟩) N N) b5 b3) w5 W) (fun _ A C row hs hg hr => ⟨Nat.le_trans hs.1 hg.size, fun i hi => by
      have hlt := (HDl.out i hi).1
      refine (hg.block i (Nat.lt_of_lt_of_le hlt hs.1) fun e => ?_).trans (hs.2 i hi)
      obtain ⟨q1, _⟩ := hr i e.symm
      omega⟩) x4A
    have hel : ∀ j, j < (blL l k i).length → W.ownsRow w.heap.size 5 1 (xs.getD j undef) ((blL l k i).getD j []).length (((blL l k i).getD j []).map (Value.int .u8)) ∧ BytI ((blL l k i).getD j []) := fun j hj => ⟨hap.2.1 j (by rw [hap.1]; exact hj), hbyA j hj⟩
    have OLD : Hid (∀ j, j < xs.length → ∀ b, (xs.getD j undef).ownBlock = some b → b < A.heap.size) := fun j hj b e => ((hapA.2.1 j hj).lt b e).2
    have HAP := hid hap
    have HA5 : Hid (w5.heap.size ≤ A.heap.size) := x4A.1
    clear x1A hrowA hapA hbyA x3A x4A hT hap
    rw [hpl, ← HN.out, pcN_mul hk1 hu1] at hi'
    have HBL : Hid (blL l k (i + 1) = blL l k i ++ [pcP (padL l N) u i]) := by
      show _ = _
      rw [blL_succ, HU.out, HN.out]
    obtain ⟨pv, cv, ev⟩ := own_slc1 hf
    obtain ⟨pp, cp, ep⟩ := own_slc1 hrow
    subst ev ep
    have PL := hid (blL_length l k i)
    have HROW := hid hrow
    have HEL := hid hel
    have HF := hid hf
    have X1 := hid x1
    have X3 := hid x3
    have X4 := hid x4
    have X5 := hid x5
    have c1 := x1.cell
    have HPB := hid (pcP_byt (padL_byt (N := N) HA.out.2) u i)
    obtain ⟨m, HMM⟩ : ∃ m, Hid ((pcP (padL l N) u i).length = m) := ⟨_, rfl⟩
    have hm1 : Hid (1 ≤ m) := by
      rw [← HMM.out, pcP_length, hpl]
      have h2 : i < pcN N u := by rw [← HN.out, pcN_mul hk1 hu1]; exact hi'
      have := (pcN_iff hu1 (by omega)).1 h2
      show _ ≤ _
      omega
    rw [HMM.out]
    obtain ⟨kk, HKK⟩ : ∃ kk, Hid ((blL l k i).length = kk) := ⟨_, rfl⟩
    have hkk : kk < 255 := by rw [← HKK.out, PL.out]; omega
    rw [HKK.out] at c1
    have HR2 : Hid (W.ownsRow w.heap.size 22 1 (.slice pp kk cp) kk xs) := by rw [← HKK.out]; exact HROW.out
    have X2 : Hid (Boxed W w3.heap.size 48 (.slice pp kk cp)) := by rw [← HKK.out]; exact X1.out
    have HF2 : Hid (W.ownsRow A.heap.size 5 1 (.slice pv m cv) (pcP (padL l N) u i).length ((pcP (padL l N) u i).map (Value.int .u8))) := by rw [← HMM.out]; exact HF.out
    have X6 : Hid (∀ j, pcD (.slice (some ⟨w.heap.size, 0, none⟩) N N) b5 b3 j → (Value.slice pp kk cp).ownBlock ≠ some j) := by rw [← HKK.out]; exact X5.out
    clear hrow hel hf x1 x3 x4 x5 hlp
    gi_wp2_with (gi_at_builtin; refine wpListIn_append_own _ rfl _ _ 48 rfl w.heap.size 22 i1 (.slice none 0 0) 1 24 Try.underlying48 hi1 hy0 hy1 hy2 rfl (by decide) _ _ xs rfl (HR2.out.alloc _) ⟨W.heap.size, 0, none⟩ 1 1 [.slice pv m cv] rfl rfl (cell_one_new _ _ _) (by simp [Value.oneCell']) ?b1 ?b2 ?b3 ?_)
    case b1 => unfold maxLen; omega
    case b2 => omega
    case b3 => have := X3.out.size; simp; omega
    intro v' w1' hown' hgrow _
    obtain ⟨g', cap', rfl⟩ := ownsRow_succ hown'
    have P1 : (w1'.setCell ⟨w3.heap.size, 0, none⟩ (.slice (some ⟨g', 0, none⟩) (kk + 1) cap')).heap.size = w1'.heap.size := by simp
    have PP := PW.push (ls := blL l k i) (by rw [HKK.out]; exact HR2.out) HEL.out (own_mono HF2.out (Nat.le_trans hw5.out HA5.out)) HPB.out X2.out (by rw [HKK.out]; exact hown') hgrow
    rw [← HBL.out] at PP
    obtain ⟨hp1, hp2, hp3⟩ := PP
    have FP : Hid (PWD w.heap.size (w1'.setCell ⟨w3.heap.size, 0, none⟩ (.slice (some ⟨g', 0, none⟩) (kk + 1) cap')) (.slice (some ⟨g', 0, none⟩) (kk + 1) cap') (blL l k (i + 1))) := by
      have hxl : xs.length = (blL l k i).length := HAP.out.1
      have q1 : (w1'.setCell ⟨w3.heap.size, 0, none⟩ (.slice (some ⟨g', 0, none⟩) (kk + 1) cap')).ownsRow w.heap.size 22 1 (.slice (some ⟨g', 0, none⟩) (kk + 1) cap') (kk + 1) (xs ++ [.slice pv m cv]) := by
        have gs := grownBy_setCell' w1' w3.heap.size (.slice (some ⟨g', 0, none⟩) (kk + 1) cap')
        exact hown'.kept gs (.inr (hp2.not_row (by decide) hown').symm)
      obtain ⟨xs2, r1, r2⟩ := hp1
      have hx2 : xs2 = xs ++ [.slice pv m cv] := by
        have hlen2 : (blL l k (i + 1)).length = kk + 1 := by rw [HBL.out, List.length_append, HKK.out]; rfl
        rw [hlen2] at r1
        rcases r1.2 with ⟨e0, _⟩ | ⟨ga, ca, cura, e0, _, ha, _, _, _, hta⟩
        · cases e0
        · rcases q1.2 with ⟨e3, _⟩ | ⟨gb, cb, curb, e3, _, hb, _, _, _, htb⟩
          · cases e3
          · cases e0
            cases e3
            rw [ha] at hb
            simp only [Option.some.injEq, Obj.cells.injEq] at hb
            rw [← hta, ← htb, hb.1]
      subst hx2
      refine ⟨_, r1, ⟨?_, fun j hj => ?_, fun a b ha hb hab => ?_⟩, fun j hj => (r2 j hj).2⟩
      · rw [HBL.out]; simp [hxl]
      · exact (r2 j (by rw [HBL.out]; simp at hj ⊢; omega)).1
      · have key : ∀ c, c < xs.length → (xs.getD c undef).ownBlock = none ∨ (xs.getD c undef).ownBlock ≠ (Value.slice pv m cv).ownBlock := fun c hc => by
          cases e1 : (xs.getD c undef).ownBlock with
          | none => exact .inl rfl
          | some z =>
            refine .inr fun e2 => ?_
            have h1 := OLD.out c hc z e1
            have h2 := (HF2.out.lt z e2.symm).1
            omega
        simp only [List.length_append, List.length_singleton] at ha hb
        rw [getD_app, getD_app]
        by_cases ha2 : a < xs.length
        · rw [if_pos ha2]
          by_cases hb2 : b < xs.length
          · rw [if_pos hb2]; exact HAP.out.2.2 a b ha2 hb2 hab
          · rw [if_neg hb2, show b - xs.length = 0 by omega]; exact key a ha2
        · rw [if_neg ha2, show a - xs.length = 0 by omega]
          by_cases hb2 : b < xs.length
          · rw [if_pos hb2]
            rcases key b hb2 with h | h
            · cases e1 : (Value.slice pv m cv).ownBlock with
              | none => exact .inl (by simpa using e1)
              | some z => exact .inr (by rw [h]; simp [e1])
            · exact .inr fun q => h q.symm
          · omega
    have hc1 := hp2.cell
    have hf1 := hp2.frozen
    have HP1 := FP
    have HP3 := hid hp3
    have hwsz : W.heap.size + 1 ≤ w1'.heap.size := by have := hgrow.size; simpa using this
    have lt5 := HR2.out.lt
    have FK : Hid (KeepsFrom w5.heap.size W (w1'.setCell ⟨w3.heap.size, 0, none⟩ (.slice (some ⟨g', 0, none⟩) (kk + 1) cap'))) := by
      have a1 := KeepsOthers.alloc W (.cells #[.slice pv m cv] 22)
      have a2 : KeepsOthers (W.alloc (.cells #[.slice pv m cv] 22)) w1' := KeepsOthers.of_grownBy hgrow fun j o ej hj => by
        rcases (HR2.out.alloc (.cells #[.slice pv m cv] 22)).2 with ⟨e0, _⟩ | ⟨g, cap, cur, e0, _, hgb, _⟩
        · rw [e0] at ej; simp [Value.ownBlock] at ej
        · rw [e0] at ej
          obtain rfl : g = j := by simpa [Value.ownBlock] using ej
          rw [hgb] at hj; cases hj; rfl
      exact ((a1.trans a2).trans (KeepsOthers.setCell _ _ _)).from _
    have FD0 : ∀ j, pcD (.slice (some ⟨w.heap.size, 0, none⟩) N N) b5 b3 j → w1'.heap[j]? = W.heap[j]? := fun j hj => by
      have hj5 := (HDl.out j hj).1
      have hW := X4.out.1
      rw [hgrow.block j (by simp; omega) (fun e => X6.out j hj e.symm)]
      exact Below.heap_alloc W _ j (by omega)
    have FD : Hid (KD (pcD (.slice (some ⟨w.heap.size, 0, none⟩) N N) b5 b3) W (w1'.setCell ⟨w3.heap.size, 0, none⟩ (.slice (some ⟨g', 0, none⟩) (kk + 1) cap'))) := by
      refine ⟨by simp; omega, fun j hj => ?_⟩
      rw [heap_setCell_other _ _ _ _ (by have := (HDl.out j hj).2; simp; omega)]
      exact FD0 j hj
    have FB : Hid (Below w.heap.size w (w1'.setCell ⟨w3.heap.size, 0, none⟩ (.slice (some ⟨g', 0, none⟩) (kk + 1) cap'))) := by
      have b1 := X3.out.alloc X3.out.size (.cells #[.slice pv m cv] 22)
      have b2 := b1.grown hgrow b1.size (fun j e => by have := (lt5 j e).1; omega)
      exact b2.setCell (p := ⟨w3.heap.size, 0, none⟩) HW3.out _
    have FN : Hid (∀ j, pcD (.slice (some ⟨w.heap.size, 0, none⟩) N N) b5 b3 j → (Value.slice (some ⟨g', 0, none⟩) (kk + 1) cap').ownBlock ≠ some j) := by
      intro j hj e
      obtain rfl : g' = j := by simpa [Value.ownBlock] using e
      have hblk := (FD0 g' hj).trans (X4.out.2 g' hj)
      rcases hown'.2 with ⟨e0, _⟩ | ⟨g2, cap2, cur, e0, _, hgb, hn2, _, hcs, htk⟩
      · cases e0
      simp only [Value.slice.injEq, Option.some.injEq, Addr.mk.injEq, and_true, true_and] at e0
      obtain ⟨rfl, rfl⟩ := e0
      rw [hgb] at hblk
      rcases hj with rfl | rfl | hj
      · rw [HH5.out] at hblk
        simp only [Option.some.injEq, Obj.cells.injEq] at hblk
        obtain ⟨hcur, _, _⟩ := hblk
        have hl1' : cur.size = 1 := by rw [hcur]; rfl
        have hkk0 : kk = 0 := by omega
        subst hkk0
        have hx0 : xs = [] := List.length_eq_zero_iff.1 (by have := HR2.out.1; omega)
        rw [hcur, hx0] at htk
        simp at htk
        obtain ⟨e1, _, _⟩ := htk
        have := (HF2.out.lt w.heap.size (by rw [← e1]; rfl)).1
        have := hw5.out
        have := HW35.out
        have := HA5.out
        omega
      · rw [HH3.out] at hblk
        simp only [Option.some.injEq, Obj.cells.injEq] at hblk
        exact absurd hblk.2.1 (by decide)
      · simp only [Value.ownBlock, Option.some.injEq] at hj
        obtain ⟨cur2, fz2, hb2⟩ := HBT.out
        rw [← hj, hb2] at hblk
        simp only [Option.some.injEq, Obj.cells.injEq] at hblk
        exact absurd hblk.2.1 (by decide)
    clear hown' hgrow hp2 hp3 c1 lt5 FD0
    gi_wp2
    exact ⟨FK.out, FD.out, _, HP3.out, HP1.out, FB.out, X4.out.trans FD.out, FN.out⟩
  case hdone =>
    rintro d W hd ⟨vp, x1, x2, x3, x4, x5⟩ hK
    rw [hpl, ← HN.out, pcN_mul hk1 hu1] at x2
    have c1 := x1.cell
    have HKD := hid hK
    have X2 := hid x2
    have X3 := hid x3
    obtain ⟨pp, cp, ep⟩ : ∃ p c, vp = .slice p (blL l k k).length c := by obtain ⟨xs, hrow, _, _⟩ := x2; exact own_slc1 hrow
    subst ep
    clear x1 x2 x3 x4 x5 hK
    go_wp2
    refine ⟨by simp, .inl ⟨_, _, rfl, run_takeDeferred HKD.out, ?_⟩⟩
    refine ⟨_, results_tmp2 rfl _ _ _, _, rfl, ?_, X3.out.trans (belowK_b (w := w) (Nat.le_refl _) W d _ _ (by have := hw5.out; omega) HKD.out rfl rfl)⟩
    obtain ⟨xs, hrow, hap, hby⟩ := X2.out
    exact ⟨xs, ownsRow_putObj hrow _ HKD.out rfl, ⟨hap.1, fun j hj => ownsRow_putObj (hap.2.1 j hj) _ HKD.out rfl, hap.2.2⟩, hby⟩
end Go.Proofs.Ytafdklelfcccbaa
