/- Of the road to uebReadCard_holds: RegRel, UbRCut. -/
import Derived.Test.YtklklldmhoofnaaDoorG04
import Derived.Test.YtklklldmhoofnaaDoorG03
set_option linter.unusedVariables false
set_option linter.unusedSimpArgs false
namespace Go.Proofs.YtklklldmhoofnaaDoor
open Go Go.RowKit
structure RelI (N : Nat) (dst : Nat → Nat) (a0 : Act) (w0 : World) (L0 : Array Bool) (Φ : Nat → World → Value → Prop) (L : Array Bool) (a : Act) (w : World) (vals : Nat → Value) : Prop where
  size : a.tmps.size = a0.tmps.size
  defers : a.defers = a0.defers
  ge : ∀ i : Nat, L0[i]? = some true → L[i]? = some true
  done : ∀ i, i < N → L0[i]? = some false → L[i]? = some true → a.tmps[dst i]? = some (vals i) ∧ Φ i w (vals i)
  rest : ∀ s, (∀ i, i < N → L0[i]? = some false → dst i ≠ s) → a.tmps[s]? = a0.tmps[s]?
  bel : Below w0.heap.size w0 w
theorem wpAny_rel {P : Program} {ops : Array Oper} {Q : Exit → Act → World → Prop} (hg : ∀ (i : Nat) (o : Oper), ops[i]? = some o → o.guard = none ∧ ∀ e ∈ o.after, e.on < i)
    {dst : Nat → Nat} {a0 : Act} {w0 : World} {Φ : Nat → World → Value → Prop} (L0 : Array Bool) (hL0 : L0.size = ops.size)
    (hdst : ∀ i j, i < ops.size → j < ops.size → L0[i]? = some false → L0[j]? = some false → dst i = dst j → i = j)
    (hops : ∀ i o, ops[i]? = some o → L0[i]? = some false → o.dst = some (dst i)) (hin : ∀ i, i < ops.size → L0[i]? = some false → dst i < a0.tmps.size)
    (hΦ : ∀ i w w' v, Φ i w v → Below w.heap.size w w' → Φ i w' v)
    (hstep : ∀ i o, ops[i]? = some o → L0[i]? = some false → ∀ (a : Act) (w : World) (K : Act → World → Prop) (vals : Nat → Value) (L : Array Bool), RelI ops.size dst a0 w0 L0 Φ L a w vals → (∀ e ∈ o.after, Region.binds .any e = true → L[e.on]? = some true) →
      (∀ v w', Φ i w' v → Below w.heap.size w w' → K (a.put o.dst v) w') → o.wp P a w K Q)
    (hend : ∀ (a : Act) (w : World) (vals : Nat → Value), a.defers = a0.defers ∧ a.tmps.size = a0.tmps.size ∧ (∀ s, (∀ i, i < ops.size → L0[i]? = some false → dst i ≠ s) → a.tmps[s]? = a0.tmps[s]?) → (∀ i, i < ops.size → L0[i]? = some false → a.tmps[dst i]? = some (vals i) ∧ Φ i w (vals i)) → Below w0.heap.size w0 w → Q .normal a w) :
    ∀ n, undone L0 = n → wpAny P .any ops Q n L0 a0 w0 := by
  intro n hu
  refine wpAny_inv hg (fun L a w => ∃ vals, RelI ops.size dst a0 w0 L0 Φ L a w vals) ?_ ?_ n L0 a0 w0 hL0 hu ⟨fun _ => undef, rfl, rfl, (fun i h => h), (fun i _ h1 h2 => by rw [h1] at h2; cases h2), (fun s _ => rfl), Below.refl _ _⟩
  · intro L i o a w K ho hs hL hd hI hK
    obtain ⟨vals, hR⟩ := hI
    have hi : i < ops.size := (Array.getElem?_eq_some_iff.1 ho).1
    have hL0i : L0[i]? = some false := by
      cases h : L0[i]? with
      | none => rw [Array.getElem?_eq_none_iff] at h; omega
      | some b =>
        cases b with
        | false => rfl
        | true => rw [hR.ge i h] at hL; cases hL
    refine hstep i o ho hL0i a w K vals L hR hd fun v w' q1 q2 => hK _ _ ⟨fun j => if j = i then v else vals j, ?_⟩
    rw [hops i o ho hL0i]
    have hds : dst i < a.tmps.size := by rw [hR.size]; exact hin i hi hL0i
    refine ⟨by show (a.tmps.setIfInBounds (dst i) v).size = _; rw [Array.size_setIfInBounds]; exact hR.size, hR.defers, fun j hj => ?_, fun j hj h0 h1 => ?_, fun s hs' => ?_, hR.bel.trans (q2.mono hR.bel.size)⟩
    · by_cases e : i = j
      · subst e; simp [show i < L.size by omega]
      · rw [Array.getElem?_setIfInBounds_ne e]; exact hR.ge j hj
    · show (a.tmps.setIfInBounds (dst i) v)[dst j]? = _ ∧ _
      by_cases e : j = i
      · subst e
        simp only [if_pos]
        exact ⟨by simp [hds], q1⟩
      · rw [Array.getElem?_setIfInBounds_ne (fun h => e (hdst i j hi hj hL0i h0 h).symm), if_neg e]
        rw [Array.getElem?_setIfInBounds_ne (fun h => e h.symm)] at h1
        obtain ⟨r1, r2⟩ := hR.done j hj h0 h1
        exact ⟨r1, hΦ j w w' _ r2 q2⟩
    · show (a.tmps.setIfInBounds (dst i) v)[s]? = _
      rw [Array.getElem?_setIfInBounds_ne (hs' i hi hL0i)]
      exact hR.rest s hs'
  · intro L a w hs hall hI
    obtain ⟨vals, hR⟩ := hI
    exact hend a w vals ⟨hR.defers, hR.size, hR.rest⟩ (fun i hi h0 => hR.done i hi h0 (hall i hi)) hR.bel
theorem tmps_lay {a a0 : Act} {N base : Nat} {vals : Nat → Value} (hs0 : a0.tmps.size = base + N) (hs : a.tmps.size = a0.tmps.size) (h1 : ∀ s, s < base → a.tmps[s]? = a0.tmps[s]?) (h2 : ∀ i, i < N → a.tmps[base + i]? = some (vals i)) : a.tmps = (a0.tmps.toList.take base ++ (List.range N).map vals).toArray := by
  have hl0 : a0.tmps.toList.length = base + N := by rw [Array.length_toList]; exact hs0
  have key : a.tmps.toList = a0.tmps.toList.take base ++ (List.range N).map vals := by
    refine List.ext_getElem? fun s => ?_
    rw [Array.getElem?_toList]
    by_cases hb : s < base
    · rw [List.getElem?_append_left (by rw [List.length_take]; omega), List.getElem?_take, if_pos hb, h1 s hb, Array.getElem?_toList]
    · by_cases hn : s < base + N
      · have e := h2 (s - base) (by omega)
        rw [show base + (s - base) = s by omega] at e
        rw [e, List.getElem?_append_right (by rw [List.length_take]; omega), List.length_take, Nat.min_eq_left (by omega), List.getElem?_map, List.getElem?_range (by omega)]
        rfl
      · rw [Array.getElem?_eq_none (by omega), List.getElem?_eq_none (by rw [List.length_append, List.length_take, List.length_map, List.length_range]; omega)]
  rw [← key]
set_option maxRecDepth 100000 in
set_option maxHeartbeats 4000000 in
theorem rup_hand (w : World) (x y : Int) (hx : 1 ≤ x) (hx2 : x ≤ 4611686018427387904) (hy : 1 ≤ y) (hy2 : y ≤ 1073741824) : Calls Tryd.prog 62 #[.int .i64 x, .int .i64 y] w fun e w' => e = .returned (.int .i64 (upI x y)) ∧ Dr w w' := by
  have E := hid (rup_tdiv (x := x) (y := y) (by omega) hy)
  have h2 := Int.emod_nonneg x (show y ≠ 0 by omega)
  have h3 := Int.emod_lt_of_pos x (show 0 < y by omega)
  have q1 := Int.ediv_nonneg (show 0 ≤ x by omega) (show 0 ≤ y by omega)
  have q2 := Int.ediv_le_self y (show 0 ≤ x by omega)
  have q3 := Int.ediv_nonneg (show 0 ≤ x % y + y - 1 by omega) (show 0 ≤ y by omega)
  have q4 := Int.ediv_le_self y (show 0 ≤ x % y + y - 1 by omega)
  have e1 : x.tmod y = x % y := Int.tmod_eq_emod_of_nonneg (by omega)
  have e2 : x.tdiv y = x / y := Int.tdiv_eq_ediv_of_nonneg (by omega)
  have e3 : (x % y + y - 1).tdiv y = (x % y + y - 1) / y := Int.tdiv_eq_ediv_of_nonneg (by omega)
  rw [e1, e2, e3] at E
  obtain ⟨D, HD⟩ : ∃ d, Hid (x / y = d) := ⟨_, rfl⟩
  obtain ⟨M, HM⟩ : ∃ d, Hid (x % y = d) := ⟨_, rfl⟩
  rw [HM.out] at h2 h3 q3 q4 e1 e3 E
  rw [HD.out] at q1 q2 e2 E
  obtain ⟨U, HU⟩ : ∃ d, Hid ((M + y - 1) / y = d) := ⟨_, rfl⟩
  rw [HU.out] at q3 q4 e3 E
  have k1 : IntKind.i64.wrap (M + y) = M + y := by rw [IntKind.wrap_i64]; omega
  have k2 : IntKind.i64.wrap (M + y - 1) = M + y - 1 := by rw [IntKind.wrap_i64]; omega
  have k3 : IntKind.i64.wrap D = D := by rw [IntKind.wrap_i64]; omega
  have k4 : IntKind.i64.wrap U = U := by rw [IntKind.wrap_i64]; omega
  have k5 : IntKind.i64.wrap M = M := by rw [IntKind.wrap_i64]; omega
  have k6 : IntKind.i64.wrap (D + U) = D + U := by rw [IntKind.wrap_i64]; omega
  have hy0 : ¬ y = 0 := by omega
  rw [← E.out]
  clear h2 h3 q1 q2 q3 q4
  go_enter Tryd.func62, Tryd.ntmps62
  go_wp2
  go_quiet (fail)
  go_wp2
  go_ret
  exact ⟨rfl, Dr.one _ _⟩
set_option maxRecDepth 100000 in
set_option maxHeartbeats 8000000 in
theorem rcheckH_any (w : World) (k n g h : Int) (p : Option Addr) (l c : Nat) : Calls Tryd.prog 60 #[prV k n g h (.slice p l c)] w fun e w' => e = .returned (.int .i64 (chkE k n g l)) ∧ Below w.heap.size w w' := by
  unfold prV
  go_enter Tryd.func60, Tryd.ntmps60
  by_cases h1 : n < 1
  · have F : Hid (chkE k n g l = 3) := if_neg fun h => by have := h.1; have := h.2.1; omega
    go_wp2; go_ret; rw [F.out]; exact ⟨rfl, below_alloc _ _⟩
  by_cases h2 : 255 < n
  · have F : Hid (chkE k n g l = 3) := if_neg fun h => by have := h.2.2.1; omega
    go_wp2; go_ret; rw [F.out]; exact ⟨rfl, below_alloc _ _⟩
  by_cases h3 : k < 1
  · have F : Hid (chkE k n g l = 3) := if_neg fun h => by have := h.1; omega
    go_wp2; go_ret; rw [F.out]; exact ⟨rfl, below_alloc _ _⟩
  by_cases h4 : n < k
  · have F : Hid (chkE k n g l = 3) := if_neg fun h => by have := h.2.1; omega
    go_wp2; go_ret; rw [F.out]; exact ⟨rfl, below_alloc _ _⟩
  by_cases h5 : g < 1
  · have F : Hid (chkE k n g l = 3) := if_neg fun h => by have := h.2.2.2.1; omega
    go_wp2; go_ret; rw [F.out]; exact ⟨rfl, below_alloc _ _⟩
  by_cases h6 : 65536 < g
  · have F : Hid (chkE k n g l = 3) := if_neg fun h => by have := h.2.2.2.2.1; omega
    go_wp2; go_ret; rw [F.out]; exact ⟨rfl, below_alloc _ _⟩
  by_cases h7 : (64 : Int) < (l : Int)
  · have F : Hid (chkE k n g l = 3) := if_neg fun h => by have := h.2.2.2.2.2; omega
    go_wp2; go_ret; rw [F.out]; exact ⟨rfl, below_alloc _ _⟩
  · have F : Hid (chkE k n g l = 0) := if_pos ⟨by omega, by omega, by omega, by omega, by omega, by omega⟩
    go_wp2; go_ret; rw [F.out]; exact ⟨rfl, below_alloc _ _⟩
theorem bel_drewN9 {B : Nat} {w W : World} (h : Below B w W) (q : Nat) : Below B w (W.drewN q) := h.trans ((Dr.one _ _).below _)
set_option maxRecDepth 100000 in
set_option maxHeartbeats 8000000 in
theorem rlaid_hand (w : World) (k n g z : Int) (h1 : 1 ≤ k) (h2 : k ≤ 255) (hg : 1 ≤ g) (hg2 : g ≤ 65790) (hz : 1 ≤ z) (hz2 : z ≤ 16777216) : Calls Tryd.prog 61 #[.int .i64 k, .int .i64 n, .int .i64 g, .int .i64 z] w fun e w' => e = .returned (.agg (shA (shR k n g z))) ∧ Below w.heap.size w w' := by
  have C1 := hid fun w => rup_hand w z g hz (by omega) hg (by omega)
  have t1 := tlI_pos (x := z) hg
  have t2 := tlI_le (x := z) hg
  have u1 := upI_pos hz hg
  have u2 := upI_le hz hg
  have hsp := up_split z g
  have C2 := hid fun w => rup_hand w (tlI z g) k t1 (by omega) h1 (by omega)
  have hq : g.tdiv k = g / k := Int.tdiv_eq_ediv_of_nonneg (by omega)
  have hq2 : 0 ≤ g / k ∧ g / k ≤ g := ⟨Int.ediv_nonneg (by omega) (by omega), Int.ediv_le_self _ (by omega)⟩
  have HR : Hid (shR k n g z = [k, n, g, z, upI z g, tlI z g, g / k, upI (tlI z g) k]) := rfl
  rw [HR.out]
  obtain ⟨U, HU⟩ : ∃ x, Hid (upI z g = x) := ⟨_, rfl⟩
  obtain ⟨T, HT⟩ : ∃ x, Hid (tlI z g = x) := ⟨_, rfl⟩
  rw [HT.out] at C2 t1 t2 hsp ⊢
  obtain ⟨V, HV⟩ : ∃ x, Hid (upI T k = x) := ⟨_, rfl⟩
  obtain ⟨D, HD⟩ : ∃ x, Hid (g / k = x) := ⟨_, rfl⟩
  rw [HU.out] at C1 u1 u2 hsp ⊢
  rw [HV.out] at C2 ⊢
  rw [HD.out] at hq hq2 ⊢
  have k1 : IntKind.i64.wrap (U - 1) = U - 1 := by rw [IntKind.wrap_i64]; omega
  have hp : (U - 1) * g = z - T := by omega
  have k2 : IntKind.i64.wrap (z - T) = z - T := by rw [IntKind.wrap_i64]; omega
  have k3 : IntKind.i64.wrap (z - (z - T)) = T := by rw [IntKind.wrap_i64]; omega
  have k4 : IntKind.i64.wrap D = D := by rw [IntKind.wrap_i64]; omega
  have hk0 : ¬ k = 0 := by omega
  clear HR hsp
  go_enter Tryd.func61, Tryd.ntmps61
  go_wp2_with fail
  refine (C1.out _).mono ?_
  rintro e w1 ⟨rfl, hd1⟩
  have hz8 : (shA sh0) = #[.int .i64 0, .int .i64 0, .int .i64 0, .int .i64 0, .int .i64 0, .int .i64 0, .int .i64 0, .int .i64 0] := rfl
  have hh1 := hd1.heap
  have KA : Bk w1 w.heap.size (shA sh0) 51 := by
    show w1.heap[w.heap.size]? = _
    rw [hh1, heap_alloc_old _ _ (by simp)]
    exact heap_alloc_new w _
  have KB : Bk w1 (w.heap.size + 1) (shA [k, n, g, z, 0, 0, 0, 0]) 51 := by
    show w1.heap[w.heap.size + 1]? = _
    rw [hh1]
    have := heap_alloc_new (w.alloc (.cells (shA sh0) 51)) (.cells (shA [k, n, g, z, 0, 0, 0, 0]) 51)
    rw [show (w.alloc (.cells (shA sh0) 51)).heap.size = w.heap.size + 1 by simp] at this
    exact this
  have B1 : Below w.heap.size w w1 := ((((Below.refl _ w).alloc (Nat.le_refl _) (.cells (shA sh0) 51)).alloc (by simp) (.cells (shA [k, n, g, z, 0, 0, 0, 0]) 51))).trans (hd1.below _)
  have HKA := hid KA
  have HKB := hid KB
  have HB1 := hid B1
  have c4 := KB.cell 4 (.int .i64 0) rfl
  have f4 := KB.free 4
  have c5 := KB.cell 5 (.int .i64 0) rfl
  have f5 := KB.free 5
  have c6 := KB.cell 6 (.int .i64 0) rfl
  have f6 := KB.free 6
  clear hd1 hz8 hh1 KA KB B1
  go_wp2_with fail
  refine (C2.out _).mono ?_
  rintro e w2 ⟨rfl, hd2⟩
  have KB2 : Bk w2 (w.heap.size + 1) (shA [k, n, g, z, U, T, D, 0]) 51 := by
    have := ((HKB.out.set 4 (.int .i64 U)).set 5 (.int .i64 T)).set 6 (.int .i64 D)
    show w2.heap[w.heap.size + 1]? = _
    rw [hd2.heap]
    exact this
  have KA2 : Bk w2 w.heap.size (shA sh0) 51 := by
    have := ((HKA.out.setOther (y := w.heap.size + 1) (by omega) 4 (.int .i64 U)).setOther (y := w.heap.size + 1) (by omega) 5 (.int .i64 T)).setOther (y := w.heap.size + 1) (by omega) 6 (.int .i64 D)
    show w2.heap[w.heap.size]? = _
    rw [hd2.heap]
    exact this
  have HB2 := hid ((((HB1.out.setCell (p := ⟨w.heap.size + 1, 4, none⟩) (by simp) (.int .i64 U)).setCell (p := ⟨w.heap.size + 1, 5, none⟩) (by simp) (.int .i64 T)).setCell (p := ⟨w.heap.size + 1, 6, none⟩) (by simp) (.int .i64 D)).trans (hd2.below _))
  have c7 := KB2.cell 7 (.int .i64 0) rfl
  have f7 := KB2.free 7
  have HKB3 := hid (KB2.set 7 (.int .i64 V))
  have HKA3 := hid (KA2.setOther (y := w.heap.size + 1) (by omega) 7 (.int .i64 V))
  have HB3 := hid (HB2.out.setCell (p := ⟨w.heap.size + 1, 7, none⟩) (by simp) (.int .i64 V))
  have E8 : Hid ((shA [k, n, g, z, U, T, D, 0]).setIfInBounds 7 (.int .i64 V) = shA [k, n, g, z, U, T, D, V]) := rfl
  rw [E8.out] at HKB3
  obtain ⟨m, HM⟩ : ∃ x, Hid (shA [k, n, g, z, U, T, D, V] = x) := ⟨_, rfl⟩
  have HS8 : Hid (m.size = 8) := by rw [← HM.out]; exact rfl
  have HO8 : Hid (m.all (·.oneCell') = true) := by refine hid ?_; rw [← HM.out]; simp [shA, Value.oneCell']
  have HI8 : Hid ((Tryd.prog.info? 51).map (·.size) = some m.size) := by refine hid ?_; rw [HS8.out]; exact size_shape
  have HZ8 : Hid ((shA sh0).size = m.size) := by refine hid ?_; rw [HS8.out]; rfl
  rw [HM.out] at HKB3
  clear hd2 KA2 KB2
  go_wp2_with (first | (refine wpList_load_row rfl 51 _ rfl (w.heap.size + 1) rfl 51 m (0, 0) _ HKB3.out Tryd.underlying51 rfl HI8.out ?_) | (refine wpList_store_row rfl 51 _ _ rfl w.heap.size m rfl rfl 51 (shA sh0) HKA3.out HI8.out HZ8.out HO8.out ?_))
  refine bodyPost_ret (v := .agg m) (results_cell_row (p := 8) (ty := 51) rfl _ _ w.heap.size 51 m (0, 0) _ rfl (setRow_heap _ _ _ _ _ _ HKA3.out) Tryd.underlying51 rfl HI8.out) rfl ?_
  exact ⟨by rw [HM.out], bel_setRow HB3.out (Nat.le_refl _) _⟩
end Go.Proofs.YtklklldmhoofnaaDoor
