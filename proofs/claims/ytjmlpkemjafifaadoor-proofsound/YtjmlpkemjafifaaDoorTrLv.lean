/- Digests appended; slices.Clone of digests; fault and Leaves of tree where the nodes are a tree, walked. -/
import Derived.Test.YtjmlpkemjafifaaDoorTrBuild
import Derived.Test.YtjmlpkemjafifaaDoorTgPad
import Derived.Laws.Cover3
set_option linter.unusedVariables false
set_option linter.unusedSimpArgs false
namespace Go.Proofs.YtjmlpkemjafifaaDoor
open Go.RowKit

theorem lf_pad {ls : List (List Int)} {k : Nat} (h : ls.length ≤ k) : lf ls k = pdL k := by unfold lf; rw [if_neg (by omega)]
theorem lf_leaf {ls : List (List Int)} {k : Nat} (h : k < ls.length) : lf ls k = ls.getD k [] := by unfold lf; rw [if_pos h]
theorem flat_rows32 : ∀ (l : List (List Int)), (∀ x ∈ l, D32 x) → ∀ (i j : Nat) (x : List Int), l[i]? = some x → j < 32 → (l.flatMap dc)[i * 32 + j]? = (dc x)[j]?
  | [], _, i, j, x, h, _ => by simp at h
  | y :: r, hl, 0, j, x, h, hj => by
    simp at h
    subst h
    rw [List.flatMap_cons, Nat.zero_mul, Nat.zero_add, List.getElem?_append_left (by rw [dc_length, (hl y (by simp)).1]; exact hj)]
  | y :: r, hl, i + 1, j, x, h, hj => by
    have hy : (dc y).length = 32 := by rw [dc_length, (hl y (by simp)).1]
    rw [List.flatMap_cons, List.getElem?_append_right (by rw [hy]; omega), hy, show (i + 1) * 32 + j - 32 = i * 32 + j by omega]
    exact flat_rows32 r (fun z hz => hl z (by simp [hz])) i j x (by simpa using h) hj
theorem HDs.of_own {w : World} {base : Nat} {v : Value} {ds : List (List Int)} (h : w.ownsRow base 28 32 v ds.length (ds.flatMap dc)) (hd : ∀ d ∈ ds, D32 d) : HDs w v ds := by
  have h0 := h
  rcases h.2 with ⟨rfl, hl⟩ | ⟨g, cap, cur, rfl, hbg, hg, hnc, hcm, hcs, htake⟩
  · exact ⟨⟨none, 0, by rw [hl], by rw [hl]; exact Nat.le_refl _, Nat.zero_le _, fun _ => rfl, fun hne => absurd (List.length_eq_zero_iff.1 hl) hne⟩, hd⟩
  · refine ⟨⟨_, cap, rfl, hnc, hcm, (fun e => by cases e), fun _ => ⟨g, 0, rfl, fun i hi j u hj => ?_⟩⟩, hd⟩
    have hx : ds[i]? = some (ds.getD i []) := by simp [List.getD, List.getElem?_eq_getElem hi]
    have hj2 : j < 32 := by
      have := (List.getElem?_eq_some_iff.1 hj).1
      rwa [dc_length, (hd _ (List.mem_of_getElem? hx)).1] at this
    have := h0.cells (g := g) rfl (i * 32 + j) u (by rw [flat_rows32 ds hd i j _ hx hj2]; exact hj)
    rw [Go.WideShapes.add_plain] at this
    rw [show (0 : Nat) + i * 32 + j = 0 + (i * 32 + j) by omega]
    exact this
/-- append of digests onto a row of the call's own. -/
theorem wpList_append_digs {w : World} {ops : Array Oper} {rest : List Oper} {o : Oper} {a : Act} {Q : Exit → Act → World → Prop} (hgd : o.guard = none) (s x : Operand)
    (ho : o.op = .call { callee := .builtin .append, args := #[s, x], argTypes := #[22, 22] })
    (base : Nat) (v : Value) (ds es : List (List Int)) (hs : a.eval s = v) (hown : w.ownsRow base 28 32 v ds.length (ds.flatMap dc)) (hes : ∀ d ∈ es, D32 d)
    (b off c : Nat) (hx : a.eval x = .slice (some ⟨b, off, none⟩) es.length c) (hr : ∀ i, i < es.length → w.rangeAt b (off + i * 32) (dc (es.getD i [])))
    (hn : ds.length + es.length ≤ 1000000) (hbase : base ≤ w.heap.size)
    (h : ∀ v' w', w'.ownsRow base 28 32 v' (ds ++ es).length ((ds ++ es).flatMap dc) → w.grownBy w' v.ownBlock → wpList Tryd.prog ops Q rest (a.put o.dst v') w') : wpList Tryd.prog ops Q (o :: rest) a w := by
  obtain ⟨i0, hi, hz0, hz1, hz2⟩ := info_parts info_digest
  have hfl := HDs.flat hr hes
  refine wpList_append_own w hgd s x 22 ho base 28 i0 _ 32 32 Tryd.underlying22 hi hz0 hz1 hz2 ?_ (by decide) v ds.length (ds.flatMap dc) hs hown ⟨b, off, none⟩ es.length c (es.flatMap dc) hx (flatMap_dc_length hes) ?_ ?_ (by unfold maxLen; omega) (by omega) hbase ?_
  · show (cellsB zeros32).size = 32
    rw [cellsB_size, zeros32_length]
  · intro j u hj
    rw [Go.WideShapes.add_plain]
    exact hfl j u hj
  · intro u hu
    obtain ⟨d, _, hd⟩ := List.mem_flatMap.1 hu
    unfold dc at hd
    obtain ⟨x, _, rfl⟩ := List.mem_map.1 hd
    rfl
  · intro v' w' h1 h2 _
    rw [← List.flatMap_append, ← List.length_append] at h1
    exact h v' w' h1 h2
theorem run_eql_slice_nil' (w : World) (p : Addr) (n c : Nat) : (binOp .eql 22 (.slice (some p) n c) (.slice none 0 0)).run Tryd.prog w = .ok (.bool false) w := by
  simp only [binOp]
  simp [run_equal_slice_nil w 22 _ (some p) n c Tryd.underlying22]
set_option maxRecDepth 100000 in
set_option maxHeartbeats 2000000 in
theorem scloneD_any (w : World) (b off c : Nat) (ds : List (List Int)) (hd : ∀ d ∈ ds, D32 d) (hr : ∀ i, i < ds.length → w.rangeAt b (off + i * 32) (dc (ds.getD i []))) (hn : ds.length ≤ 1000) :
    Calls Tryd.prog 45 #[.slice (some ⟨b, off, none⟩) ds.length c] w fun e w' => ∃ v, e = .returned v ∧ HDs w' v ds ∧ Below w.heap.size w w' := by
  have hq := fun w => run_eql_slice_nil' w ⟨b, off, none⟩ ds.length c
  obtain ⟨n, HN⟩ : ∃ n, Hid (ds.length = n) := ⟨_, rfl⟩
  rw [HN.out] at hq
  rw [HN.out]
  have HR := hid hr
  have HD := hid hd
  clear hr hd
  have hbl : ∀ i, i < ds.length → b < w.heap.size := fun i hi => by
    have h0 := HR.out i hi 0 _ (List.getElem?_eq_getElem (by rw [dc_length, (getD_D HD.out i hi).1]; decide))
    exact World.block_lt_of_cell? w _ h0
  have HBL := hid hbl
  clear hbl
  go_enter Tryd.func45, Tryd.ntmps45
  go_wp2_with (refine wpList_append_digs rfl _ _ rfl w.heap.size _ [] ds rfl (World.ownsRow_made w #[] 0 (Nat.le_refl _) (by unfold maxLen; omega) (by simp)) HD.out b off c (by rw [HN.out]; rfl) (fun i hi j u hj => (World.cell?_of_block (w := w) (Below.heap_alloc w _ b (HBL.out i hi))).trans (HR.out i hi j u hj)) (by simp only [List.length_nil, Nat.zero_add]; omega) (by simp) ?_; intro v' w' ho hg)
  go_ret
  refine ⟨_, rfl, ?_, ?_⟩
  · have := HDs.of_own (ds := [] ++ ds) ho (by simpa using HD.out)
    simpa using this
  · exact ((Below.refl _ w).alloc (Nat.le_refl _) _).grown hg (by simp) (fun k hk => by have e : some w.heap.size = some k := hk; cases e; exact Nat.le_refl _)
set_option maxRecDepth 100000 in
set_option maxHeartbeats 4000000 in
theorem fault_ok (w : World) (v : Value) (ls N : List (List Int)) (W L : Nat) (h : HDs w v N) (hT : IsT ls W N) (hL : ls.length = L) (hLW : L ≤ W) (hW : W ≤ 512) (hW1 : 1 ≤ W) (hk : KC w) :
    Calls Tryd.prog 44 #[.int .i64 (L : Int), .int .i64 (W : Int), v] w fun e w' => e = .returned (.int .i64 0) ∧ Below w.heap.size w w' := by
  obtain ⟨b, off, c, ev, hc1, hc2, hbl, hr⟩ := h.ne (by rw [hT.len]; omega)
  unfold maxLen at hc2
  have HV := hid h
  have HR := hid hr
  have HT := hid hT
  have HK := hid hk
  have HL := hid hL
  have HDN := hid h.2
  obtain ⟨m, HM⟩ : ∃ m, Hid (N.length = m) := ⟨_, rfl⟩
  have hm : m + 1 = 2 * W := by rw [← HM.out, hT.len]; omega
  rw [HM.out] at ev hc1
  subst ev
  clear h hr hT hk hL
  go_enter Tryd.func44, Tryd.ntmps44
  go_wp2
  go_loopw [7] (fun i wr => ∃ x : Nat, 1 ≤ x ∧ x ≤ W ∧ i = .int .i64 x ∧ Hid (Below w.heap.size w wr)) (fun i _ => W - (intOf i).toNat)
  case atStart => exact ⟨1, Nat.le_refl _, hW1, rfl, Below.refl _ _⟩
  case round =>
    obtain ⟨x, hx1, hx2, rfl, HB⟩ := hrel
    have hsz := HB.out.size
    by_cases hlt : x < W
    · have Rx := hid (range_below (HR.out (x - 1) (by rw [HM.out]; omega)) HB.out hbl)
      have dxD := hid (getD_D HDN.out (x - 1) (by rw [HM.out]; omega))
      have HIN := hid (HT.out.inner x hx1 hlt)
      unfold InR at HIN
      have CA := hid (fun (w' : World) (h : Below w.heap.size w w') => above_any w' _ N x (HV.out.below h) hx1 (by rw [HM.out]; omega) (HK.out.below h))
      rw [← HIN.out] at CA
      generalize N.getD (x - 1) [] = dx at Rx dxD CA HIN
      have hq := fun w => run_neq_bytes w 32 28 Tryd.underlying28 dx dx dxD.out.1 dxD.out.1
      rw [show decide (dx = dx) = true by simp] at hq
      have ew : IntKind.i64.wrap ((x : Int) - 1) = (x : Int) - 1 := by rw [IntKind.wrap_i64]; omega
      have et : ((x : Int) - 1).toNat = x - 1 := by omega
      have hbw : b < wr.heap.size := by omega
      clear HIN
      go_wp2
      refine wp_region_held_drew (S := Below wr.heap.size wr) (by kernel_rfl) (Below.refl _ _).drew (fun hHeld => ?_)
      have HS := hid hHeld
      clear hHeld
      change wpAnyH _ _ _ _ _ _ _ _ (World.drew _)
      refine wpAnyH_take (i := 0) (v := ?_) rfl (by kernel_rfl) (by kernel_rfl) (by kernel_rfl) (fun _ _ _ h => h) (Or.inl ⟨by rfl, ?q0⟩) HS.out ?_
      case q0 => intro w hSw; go_simp; rfl
      simp only [Act.put, List.getElem_toArray, List.getElem_cons_zero, List.getElem_cons_succ, List.setIfInBounds_toArray, List.set_cons_zero, List.set_cons_succ]
      refine wpAnyH_take (i := 1) (v := ?_) rfl (by kernel_rfl) (by kernel_rfl) (by kernel_rfl) (fun _ _ _ h => h) (Or.inl ⟨by rfl, ?q1⟩) HS.out ?_
      case q1 => intro w hSw; go_simp; rfl
      simp only [Act.put, List.getElem_toArray, List.getElem_cons_zero, List.getElem_cons_succ, List.setIfInBounds_toArray, List.set_cons_zero, List.set_cons_succ]
      refine wpAnyH_take (i := 2) (v := .int .i64 ((x : Int) - 1)) rfl (by kernel_rfl) (by kernel_rfl) (by kernel_rfl) (fun _ _ _ h => h) (Or.inl ⟨by rfl, ?q2⟩) HS.out ?_
      case q2 => intro w hSw; go_simp
      simp only [Act.put, List.getElem_toArray, List.getElem_cons_zero, List.getElem_cons_succ, List.setIfInBounds_toArray, List.set_cons_zero, List.set_cons_succ]
      refine wpAnyH_take (i := 3) (v := .pointer (some ⟨b, off + (x - 1) * 32, none⟩)) rfl (by kernel_rfl) (by kernel_rfl) (by kernel_rfl) (fun _ _ _ h => h) (Or.inl ⟨by rfl, ?q3⟩) HS.out ?_
      case q3 => intro w hSw; go_simp; intro hq; exfalso; omega
      simp only [Act.put, List.getElem_toArray, List.getElem_cons_zero, List.getElem_cons_succ, List.setIfInBounds_toArray, List.set_cons_zero, List.set_cons_succ]
      refine wpAnyH_take (i := 4) rfl (by kernel_rfl) (by kernel_rfl) (by kernel_rfl) (fun _ _ _ h => h) (yieldsIf_load_mid (by rfl) 28 _ rfl b (off + (x - 1) * 32) rfl (dc dx) _ (fun W hW => range_below Rx.out hW hbw) Tryd.underlying28 rfl (size_dig dxD.out)) HS.out ?_
      simp only [Act.put, List.getElem_toArray, List.getElem_cons_zero, List.getElem_cons_succ, List.setIfInBounds_toArray, List.set_cons_zero, List.set_cons_succ]
      rw [dc_arr]
      refine wpAnyH_take (i := 5) (v := ?_) rfl (by kernel_rfl) (by kernel_rfl) (by kernel_rfl) (fun _ _ _ h => h) (Or.inl ⟨by rfl, ?q5⟩) HS.out ?_
      case q5 => intro w hSw; go_simp; rfl
      simp only [Act.put, List.getElem_toArray, List.getElem_cons_zero, List.getElem_cons_succ, List.setIfInBounds_toArray, List.set_cons_zero, List.set_cons_succ]
      refine wpAnyH_take (i := 6) (v := ?_) rfl (by kernel_rfl) (by kernel_rfl) (by kernel_rfl) (fun _ _ _ h => h) (Or.inl ⟨by rfl, ?q6⟩) HS.out ?_
      case q6 => intro w hSw; go_simp; rfl
      simp only [Act.put, List.getElem_toArray, List.getElem_cons_zero, List.getElem_cons_succ, List.setIfInBounds_toArray, List.set_cons_zero, List.set_cons_succ]
      refine wpAnyH_ready (rs := [7]) (by kernel_rfl) (by simp) ?_
      refine AllReadyH.cons rfl (fun K hK => ?_) AllReadyH.nil
      go_simp
      refine (CA.out _ (HB.out.trans (HS.out.mono hsz))).mono ?_
      rintro e w5 ⟨rfl, hB5⟩
      have HS5 := hid (HS.out.trans (hB5.mono HS.out.size))
      clear hB5
      refine hK.out _ _ HS5.out (fun _ => ?_)
      clear hK K
      have HS := hid HS5.out
      clear HS5
      refine wpAnyH_take (i := 8) (v := .bool false) rfl (by kernel_rfl) (by kernel_rfl) (by kernel_rfl) (fun _ _ _ h => h) (Or.inl ⟨by rfl, ?q8⟩) HS.out ?_
      case q8 => intro w hSw; go_simp
      simp only [Act.put, List.getElem_toArray, List.getElem_cons_zero, List.getElem_cons_succ, List.setIfInBounds_toArray, List.set_cons_zero, List.set_cons_succ]
      refine wpAnyH_done (by kernel_rfl) ?_ _
      go_wp2
      exact ⟨⟨x + 1, by omega, by omega, by go_num, HB.out.trans (HS.out.mono hsz)⟩, by simp [intOf]; omega⟩
    · have hxW : x = W := by omega
      subst hxW
      go_wp2
      go_loopw [8] (fun i wr' => ∃ k : Nat, L ≤ k ∧ k ≤ x ∧ i = .int .i64 k ∧ Hid (Below w.heap.size w wr')) (fun i _ => x - (intOf i).toNat)
      case atStart => exact ⟨L, Nat.le_refl _, hLW, rfl, HB⟩
      case round =>
        clear HB hsz
        obtain ⟨k, hk1, hk2, rfl, HB⟩ := hrel
        have hsz := HB.out.size
        by_cases hkl : k < x
        · have Rx := hid (range_below (HR.out (x + k - 1) (by rw [HM.out]; omega)) HB.out hbl)
          have HLF : Hid (N.getD (x + k - 1) [] = pdL k) := by
            have := HT.out.leaf k hkl
            rw [show x - 1 + k = x + k - 1 by omega] at this
            rw [this]
            exact lf_pad (by rw [HL.out]; exact hk1)
          rw [HLF.out] at Rx
          clear HLF
          have CP := hid (fun (w' : World) (h : Below w.heap.size w w') => tpad_any w' k (by omega) (HK.out.below h))
          have dxD := hid (pdL_D k)
          obtain ⟨dx, HDX⟩ : ∃ dx, Hid (pdL k = dx) := ⟨_, rfl⟩
          rw [HDX.out] at Rx dxD CP
          have hq := fun w => run_neq_bytes w 32 28 Tryd.underlying28 dx dx dxD.out.1 dxD.out.1
          rw [show decide (dx = dx) = true by simp] at hq
          have ew0 : IntKind.i64.wrap ((x : Int) + (k : Int)) = (x : Int) + (k : Int) := by rw [IntKind.wrap_i64]; omega
          have ew : IntKind.i64.wrap ((x : Int) + (k : Int) - 1) = (x : Int) + (k : Int) - 1 := by rw [IntKind.wrap_i64]; omega
          have et : ((x : Int) + (k : Int) - 1).toNat = x + k - 1 := by omega
          have ew32 : IntKind.u32.wrap (k : Int) = (k : Int) := by rw [IntKind.wrap_u32]; omega
          have hbw : b < wr.heap.size := by omega
          go_wp2
          refine wp_region_held_drew (S := Below wr.heap.size wr) (by kernel_rfl) (Below.refl _ _).drew (fun hHeld => ?_)
          have HS := hid hHeld
          clear hHeld
          change wpAnyH _ _ _ _ _ _ _ _ (World.drew _)
          refine wpAnyH_take (i := 0) (v := ?_) rfl (by kernel_rfl) (by kernel_rfl) (by kernel_rfl) (fun _ _ _ h => h) (Or.inl ⟨by rfl, ?q0⟩) HS.out ?_
          case q0 => intro w hSw; go_simp; rfl
          simp only [Act.put, List.getElem_toArray, List.getElem_cons_zero, List.getElem_cons_succ, List.setIfInBounds_toArray, List.set_cons_zero, List.set_cons_succ]
          refine wpAnyH_take (i := 1) (v := ?_) rfl (by kernel_rfl) (by kernel_rfl) (by kernel_rfl) (fun _ _ _ h => h) (Or.inl ⟨by rfl, ?q1⟩) HS.out ?_
          case q1 => intro w hSw; go_simp; rfl
          simp only [Act.put, List.getElem_toArray, List.getElem_cons_zero, List.getElem_cons_succ, List.setIfInBounds_toArray, List.set_cons_zero, List.set_cons_succ]
          refine wpAnyH_take (i := 2) (v := .int .i64 ((x : Int) + (k : Int) - 1)) rfl (by kernel_rfl) (by kernel_rfl) (by kernel_rfl) (fun _ _ _ h => h) (Or.inl ⟨by rfl, ?q2⟩) HS.out ?_
          case q2 => intro w hSw; go_simp
          simp only [Act.put, List.getElem_toArray, List.getElem_cons_zero, List.getElem_cons_succ, List.setIfInBounds_toArray, List.set_cons_zero, List.set_cons_succ]
          refine wpAnyH_take (i := 3) (v := .pointer (some ⟨b, off + (x + k - 1) * 32, none⟩)) rfl (by kernel_rfl) (by kernel_rfl) (by kernel_rfl) (fun _ _ _ h => h) (Or.inl ⟨by rfl, ?q3⟩) HS.out ?_
          case q3 => intro w hSw; go_simp; intro hq; exfalso; omega
          simp only [Act.put, List.getElem_toArray, List.getElem_cons_zero, List.getElem_cons_succ, List.setIfInBounds_toArray, List.set_cons_zero, List.set_cons_succ]
          refine wpAnyH_take (i := 4) rfl (by kernel_rfl) (by kernel_rfl) (by kernel_rfl) (fun _ _ _ h => h) (yieldsIf_load_mid (by rfl) 28 _ rfl b (off + (x + k - 1) * 32) rfl (dc dx) _ (fun W hW => range_below Rx.out hW hbw) Tryd.underlying28 rfl (size_dig dxD.out)) HS.out ?_
          simp only [Act.put, List.getElem_toArray, List.getElem_cons_zero, List.getElem_cons_succ, List.setIfInBounds_toArray, List.set_cons_zero, List.set_cons_succ]
          rw [dc_arr]
          refine wpAnyH_take (i := 5) (v := ?_) rfl (by kernel_rfl) (by kernel_rfl) (by kernel_rfl) (fun _ _ _ h => h) (Or.inl ⟨by rfl, ?q5⟩) HS.out ?_
          case q5 => intro w hSw; go_simp; rfl
          simp only [Act.put, List.getElem_toArray, List.getElem_cons_zero, List.getElem_cons_succ, List.setIfInBounds_toArray, List.set_cons_zero, List.set_cons_succ]
          refine wpAnyH_take (i := 6) (v := .int .u32 (k : Int)) rfl (by kernel_rfl) (by kernel_rfl) (by kernel_rfl) (fun _ _ _ h => h) (Or.inl ⟨by rfl, ?q6⟩) HS.out ?_
          case q6 => intro w hSw; go_simp
          simp only [Act.put, List.getElem_toArray, List.getElem_cons_zero, List.getElem_cons_succ, List.setIfInBounds_toArray, List.set_cons_zero, List.set_cons_succ]
          refine wpAnyH_ready (rs := [7]) (by kernel_rfl) (by simp) ?_
          refine AllReadyH.cons rfl (fun K hK => ?_) AllReadyH.nil
          go_simp
          refine (CP.out _ (HB.out.trans (HS.out.mono hsz))).mono ?_
          rintro e w5 ⟨rfl, hB5⟩
          have HS5 := hid (HS.out.trans (hB5.mono HS.out.size))
          clear hB5
          refine hK.out _ _ HS5.out (fun _ => ?_)
          clear hK K
          have HS := hid HS5.out
          clear HS5
          refine wpAnyH_take (i := 8) (v := .bool false) rfl (by kernel_rfl) (by kernel_rfl) (by kernel_rfl) (fun _ _ _ h => h) (Or.inl ⟨by rfl, ?q8⟩) HS.out ?_
          case q8 => intro w hSw; go_simp
          simp only [Act.put, List.getElem_toArray, List.getElem_cons_zero, List.getElem_cons_succ, List.setIfInBounds_toArray, List.set_cons_zero, List.set_cons_succ]
          refine wpAnyH_done (by kernel_rfl) ?_ _
          go_wp2
          exact ⟨⟨k + 1, by omega, by omega, by go_num, HB.out.trans (HS.out.mono hsz)⟩, by simp [intOf]; omega⟩
        · go_wp2
          go_ret
          exact ⟨rfl, HB.out⟩
set_option maxRecDepth 100000 in
set_option maxHeartbeats 4000000 in
theorem leaves_ok (w : World) (v : Value) (ls N : List (List Int)) (h : HDs w v N) (h1 : 1 ≤ ls.length) (h2 : ls.length ≤ 512) (hT : IsT ls (wdN ls.length) N) (hls : ∀ d ∈ ls, D32 d) (hk : KC w) :
    Calls Tryd.prog 15 #[.int .i64 (ls.length : Int), v] w fun e w' => ∃ u, e = .returned (.tuple #[u, .int .i64 0, .int .i64 0]) ∧ HDs w' u ls ∧ Below w.heap.size w w' := by
  have hWg := wdN_ge ls.length h2
  have hWl := wdN_le ls.length
  obtain ⟨b, off, c, ev, hc1, hc2, hbl, hr⟩ := h.ne (by rw [hT.len]; omega)
  unfold maxLen at hc2
  have CW := hid (width_ok w ls.length h1 h2)
  have HV := hid h
  have HR := hid hr
  have HT := hid hT
  have HK := hid hk
  have HLS := hid hls
  obtain ⟨L, HL⟩ : ∃ L, Hid (ls.length = L) := ⟨_, rfl⟩
  rw [HL.out] at CW hWg hWl h1 h2 HT
  rw [HL.out]
  obtain ⟨W, HW⟩ : ∃ W, Hid (wdN L = W) := ⟨_, rfl⟩
  rw [HW.out] at CW hWg hWl HT
  obtain ⟨hW5, hW1⟩ := hWl
  obtain ⟨m, HM⟩ : ∃ m, Hid (N.length = m) := ⟨_, rfl⟩
  have hm : m + 1 = 2 * W := by rw [← HM.out, HT.out.len]; omega
  rw [HM.out] at ev hc1
  subst ev
  clear h hr hT hk hls
  go_enter Tryd.func15, Tryd.ntmps15
  go_wp2_with fail
  refine CW.out.mono ?_
  rintro e w1 ⟨rfl, hB1⟩
  have BL1 := hid hB1
  have CS := hid (size_w w1 W hW5)
  clear hB1 CW
  go_wp2_with fail
  refine CS.out.mono ?_
  rintro e w2 ⟨rfl, rfl⟩
  have hmi : (m : Int) = 2 * (W : Int) - 1 := by omega
  have hmb : ((m : Int) != 2 * (W : Int) - 1) = false := by simp; omega
  have CF := hid (fault_ok w2 _ ls N W L (HV.out.below BL1.out) HT.out HL.out hWg hW5 hW1 (HK.out.below BL1.out))
  have HMI := hid hmi
  clear hmi CS
  go_wp2_with fail
  refine CF.out.mono ?_
  rintro e w3 ⟨rfl, hB3⟩
  have BL3 := hid (BL1.out.trans (hB3.mono BL1.out.size))
  have ew : IntKind.i64.wrap ((W : Int) - 1) = (W : Int) - 1 := by rw [IntKind.wrap_i64]; omega
  have CC := hid (scloneD_any w3 b (off + (W - 1) * 32) L ls HLS.out (fun i hi => by
    have q := range_below (HR.out (W - 1 + i) (by rw [HM.out]; rw [HL.out] at hi; omega)) BL3.out hbl
    have e1 := HT.out.leaf i (by rw [HL.out] at hi; omega)
    rw [e1] at q
    have e2 : lf ls i = ls.getD i [] := lf_leaf hi
    rw [e2] at q
    rw [show off + (W - 1) * 32 + i * 32 = off + (W - 1 + i) * 32 by omega]
    exact q) (by rw [HL.out]; omega))
  rw [HL.out] at CC
  clear hB3 CF
  go_wp2_with fail
  refine CC.out.mono ?_
  rintro e w4 ⟨u, rfl, hu, hB4⟩
  have HU := hid hu
  have BL4 := hid (BL3.out.trans (hB4.mono BL3.out.size))
  clear hB4 hu CC
  go_wp2
  go_ret3
  exact ⟨u, rfl, HU.out, BL4.out⟩
end Go.Proofs.YtjmlpkemjafifaaDoor
