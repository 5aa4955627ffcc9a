/- Rows of digests: what a slice of digests holds; beneath, above and alike of tree, walked. -/
import Derived.Test.YtjmlpkemjafifaaDoorTgTwo
import Derived.Deep.RegionHeld
set_option linter.unusedVariables false
set_option linter.unusedSimpArgs false
namespace Go.Proofs.YtjmlpkemjafifaaDoor
open Go.RowKit

/-- The cells of a digest, as a list. -/
def dc (d : List Int) : List Value := d.map (Value.int .u8)
theorem dc_arr (d : List Int) : (dc d).toArray = cellsB d := rfl
theorem dc_length (d : List Int) : (dc d).length = d.length := by simp [dc]
/-- v is a slice of the digests ds, in the world w. -/
def HDs (w : World) (v : Value) (ds : List (List Int)) : Prop :=
  (∃ (p : Option Addr) (c : Nat), v = .slice p ds.length c ∧ ds.length ≤ c ∧ c ≤ maxLen ∧ (p = none → c = 0) ∧
    (ds ≠ [] → ∃ b off, p = some ⟨b, off, none⟩ ∧ ∀ i, i < ds.length → w.rangeAt b (off + i * 32) (dc (ds.getD i [])))) ∧ ∀ d ∈ ds, D32 d
theorem HDs.open {w : World} {v : Value} {ds : List (List Int)} (h : HDs w v ds) : ∃ (p : Option Addr) (c : Nat), v = .slice p ds.length c ∧ ds.length ≤ c ∧ c ≤ maxLen := by
  obtain ⟨⟨p, c, h1, h2, h3, _⟩, _⟩ := h
  exact ⟨p, c, h1, h2, h3⟩
theorem HDs.ne {w : World} {v : Value} {ds : List (List Int)} (h : HDs w v ds) (hl : 0 < ds.length) :
    ∃ b off c, v = .slice (some ⟨b, off, none⟩) ds.length c ∧ ds.length ≤ c ∧ c ≤ maxLen ∧ b < w.heap.size ∧ ∀ i, i < ds.length → w.rangeAt b (off + i * 32) (dc (ds.getD i [])) := by
  obtain ⟨⟨p, c, h1, h2, h3, _, h4⟩, h5⟩ := h
  obtain ⟨b, off, rfl, hc⟩ := h4 (by intro e; subst e; simp at hl)
  refine ⟨b, off, c, h1, h2, h3, ?_, hc⟩
  have h6 := hc 0 hl
  have hd : D32 (ds.getD 0 []) := by
    have e : ds.getD 0 [] = ds[0] := by simp [List.getD, List.getElem?_eq_getElem hl]
    rw [e]; exact h5 _ (List.getElem_mem hl)
  have h7 := h6 0 _ (List.getElem?_eq_getElem (by rw [dc_length, hd.1]; omega))
  exact World.block_lt_of_cell? w _ h7
theorem getD_D {ds : List (List Int)} (h : ∀ d ∈ ds, D32 d) (i : Nat) (hi : i < ds.length) : D32 (ds.getD i []) := by
  have e : ds.getD i [] = ds[i] := by simp [List.getD, List.getElem?_eq_getElem hi]
  rw [e]; exact h _ (List.getElem_mem hi)
theorem range_below {w w' : World} {B b o : Nat} {cs : List Value} (h : w.rangeAt b o cs) (hB : Below B w w') (hb : b < B) : w'.rangeAt b o cs := fun j v hv => (hB.cell (p := ⟨b, o + j, none⟩) hb).trans (h j v hv)
theorem HDs.below {w w' : World} {v : Value} {ds : List (List Int)} (h : HDs w v ds) (hB : Below w.heap.size w w') : HDs w' v ds := by
  refine ⟨?_, h.2⟩
  by_cases h0 : 0 < ds.length
  · obtain ⟨b, off, c, h1, h2, h3, h4, h5⟩ := h.ne h0
    exact ⟨_, c, h1, h2, h3, (fun e => by cases e), fun _ => ⟨b, off, rfl, fun i hi => range_below (h5 i hi) hB h4⟩⟩
  · obtain ⟨⟨p, c, h1, h2, h3, h4, h5⟩, _⟩ := h
    exact ⟨p, c, h1, h2, h3, h4, fun hne => absurd (List.length_pos_iff.2 hne) h0⟩
theorem size_dig {d : List Int} (h : D32 d) : (Tryd.prog.info? 28).map (·.size) = some (dc d).length := by rw [dc_length, h.1]; exact size_digest
theorem results_cell2 {P : Program} {fn : Func} {p q : Tmp} {ty : TypeId} (h : fn.results = #[.cell p ty, .cell q ty]) (tmps : Array Value) (w : World) (g g' : Nat) (t : TypeId) (cs cs' : Array Value) (fr fr' : Nat × Nat) (d : TypeDesc)
    (hp : tmps.getD p undef = .pointer (some ⟨g, 0, none⟩)) (hq : tmps.getD q undef = .pointer (some ⟨g', 0, none⟩)) (hg : w.heap[g]? = some (.cells cs t fr)) (hg' : w.heap[g']? = some (.cells cs' t fr'))
    (hu : P.underlying ty = some d) (hd : (match d with | .struct _ | .array _ _ => true | _ => false) = true) (hi : (P.info? ty).map (·.size) = some cs.size) (hi' : (P.info? ty).map (·.size) = some cs'.size) :
    (results fn tmps).run P w = .ok (.tuple #[.agg cs, .agg cs']) w := by
  have hp' : tmps[p]?.getD undef = .pointer (some ⟨g, 0, none⟩) := by simpa using hp
  have hq' : tmps[q]?.getD undef = .pointer (some ⟨g', 0, none⟩) := by simpa using hq
  simp [results, h, hp', hq', asAddr, run_loadVar_row w g t ty cs fr d hg hu hd hi, run_loadVar_row w g' t ty cs' fr' d hg' hu hd hi']
theorem results_cellt {P : Program} {fn : Func} {p u : Tmp} {ty : TypeId} (h : fn.results = #[.cell p ty, .tmp u]) (tmps : Array Value) (w : World) (g : Nat) (t : TypeId) (cs : Array Value) (fr : Nat × Nat) (d : TypeDesc)
    (hp : tmps.getD p undef = .pointer (some ⟨g, 0, none⟩)) (hg : w.heap[g]? = some (.cells cs t fr))
    (hu : P.underlying ty = some d) (hd : (match d with | .struct _ | .array _ _ => true | _ => false) = true) (hi : (P.info? ty).map (·.size) = some cs.size) (x : Value) (hx : tmps.getD u undef = x) :
    (results fn tmps).run P w = .ok (.tuple #[.agg cs, x]) w := by
  have hp' : tmps[p]?.getD undef = .pointer (some ⟨g, 0, none⟩) := by simpa using hp
  have hx' : tmps[u]?.getD undef = x := by simpa using hx
  simp [results, h, hp', hx', asAddr, run_loadVar_row w g t ty cs fr d hg hu hd hi]

set_option maxRecDepth 100000 in
set_option maxHeartbeats 2000000 in
theorem beneath_any (w : World) (v : Value) (ds : List (List Int)) (x : Nat) (h : HDs w v ds) (hx : 1 ≤ x) (hx2 : 2 * x < ds.length) :
    Calls Tryd.prog 67 #[v, .int .i64 (x : Int)] w fun e w' => e = .returned (.tuple #[.agg (cellsB (ds.getD (2 * x - 1) [])), .agg (cellsB (ds.getD (2 * x) []))]) ∧ Below w.heap.size w w' := by
  obtain ⟨zd, HZD⟩ : ∃ zd, Hid (cellsB zeros32 = zd) := ⟨_, rfl⟩
  obtain ⟨b, off, c, ev, hc1, hc2, hbl, hr⟩ := h.ne (by omega)
  have hd1 := getD_D h.2 (2 * x - 1) (by omega)
  have hd2 := getD_D h.2 (2 * x) (by omega)
  have R1 := hid (hr (2 * x - 1) (by omega))
  have R2 := hid (hr (2 * x) hx2)
  clear h hr
  obtain ⟨n, HN⟩ : ∃ n, Hid (ds.length = n) := ⟨_, rfl⟩
  rw [HN.out] at ev hc1 hx2
  subst ev
  unfold maxLen at hc2
  generalize ds.getD (2 * x - 1) [] = d1 at hd1 R1 ⊢
  generalize ds.getD (2 * x) [] = d2 at hd2 R2 ⊢
  go_enter Tryd.func67, Tryd.ntmps67
  go_wp2_with (refine wpList_alloc_digest rfl rfl ?_; rw [HZD.out])
  obtain ⟨W0, hW0⟩ : ∃ W0, Hid ((w.alloc (.cells zd 28)).alloc (.cells zd 28) = W0) := ⟨_, rfl⟩
  have e1 : (w.alloc (.cells zd 28)).heap.size = w.heap.size + 1 := by simp
  have HB0 : Hid (Below w.heap.size w W0) := by
    rw [← hW0.out]
    exact ((Below.refl _ w).alloc (Nat.le_refl _) _).alloc (by simp) _
  have H1 : Hid (W0.heap[w.heap.size]? = some (.cells zd 28 (0, 0))) := by rw [← hW0.out]; exact heap_alloc2_old _ _ _
  have H2 : Hid (W0.heap[w.heap.size + 1]? = some (.cells zd 28 (0, 0))) := by rw [← hW0.out]; exact heap_alloc2_new _ _ _
  rw [hW0.out, e1]
  simp only [Act.put, List.setIfInBounds_toArray, List.set_cons_zero, List.set_cons_succ]
  have ew1 : IntKind.i64.wrap (2 * (x : Int)) = 2 * (x : Int) := by rw [IntKind.wrap_i64]; omega
  have ew2 : IntKind.i64.wrap (2 * (x : Int) - 1) = 2 * (x : Int) - 1 := by rw [IntKind.wrap_i64]; omega
  have et1 : (2 * (x : Int) - 1).toNat = 2 * x - 1 := by omega
  have et2 : (2 * (x : Int)).toNat = 2 * x := by omega
  refine wp_region_held_drew (S := Below w.heap.size w) (by kernel_rfl) HB0.out.drew (fun hHeld => ?_)
  have HS := hid hHeld
  clear hHeld
  change wpAnyH _ _ _ _ _ _ _ _ (World.drew _)
  refine wpAnyH_take (i := 0) (v := ?_) rfl (by kernel_rfl) (by kernel_rfl) (by kernel_rfl) (fun _ _ _ h => h) (Or.inl ⟨by rfl, ?q0⟩) HS.out ?_
  case q0 => intro w hSw; go_simp; rfl
  simp only [Act.put, List.getElem_toArray, List.getElem_cons_zero, List.getElem_cons_succ, List.setIfInBounds_toArray, List.set_cons_zero, List.set_cons_succ]
  refine wpAnyH_take (i := 1) (v := ?_) rfl (by kernel_rfl) (by kernel_rfl) (by kernel_rfl) (fun _ _ _ h => h) (Or.inl ⟨by rfl, ?q1⟩) HS.out ?_
  case q1 => intro w hSw; go_simp; rfl
  simp only [Act.put, List.getElem_toArray, List.getElem_cons_zero, List.getElem_cons_succ, List.setIfInBounds_toArray, List.set_cons_zero, List.set_cons_succ]
  refine wpAnyH_take (i := 2) (v := .int .i64 (2 * (x : Int))) rfl (by kernel_rfl) (by kernel_rfl) (by kernel_rfl) (fun _ _ _ h => h) (Or.inl ⟨by rfl, ?q2⟩) HS.out ?_
  case q2 => intro w hSw; go_simp
  simp only [Act.put, List.getElem_toArray, List.getElem_cons_zero, List.getElem_cons_succ, List.setIfInBounds_toArray, List.set_cons_zero, List.set_cons_succ]
  refine wpAnyH_take (i := 3) (v := .int .i64 (2 * (x : Int) - 1)) rfl (by kernel_rfl) (by kernel_rfl) (by kernel_rfl) (fun _ _ _ h => h) (Or.inl ⟨by rfl, ?q3⟩) HS.out ?_
  case q3 => intro w hSw; go_simp
  simp only [Act.put, List.getElem_toArray, List.getElem_cons_zero, List.getElem_cons_succ, List.setIfInBounds_toArray, List.set_cons_zero, List.set_cons_succ]
  refine wpAnyH_take (i := 4) (v := .pointer (some ⟨b, off + (2 * x - 1) * 32, none⟩)) rfl (by kernel_rfl) (by kernel_rfl) (by kernel_rfl) (fun _ _ _ h => h) (Or.inl ⟨by rfl, ?q4⟩) HS.out ?_
  case q4 => intro w hSw; go_simp; intro hq; exfalso; omega
  simp only [Act.put, List.getElem_toArray, List.getElem_cons_zero, List.getElem_cons_succ, List.setIfInBounds_toArray, List.set_cons_zero, List.set_cons_succ]
  refine wpAnyH_take (i := 5) rfl (by kernel_rfl) (by kernel_rfl) (by kernel_rfl) (fun _ _ _ h => h) (yieldsIf_load_mid (by rfl) 28 _ rfl b (off + (2 * x - 1) * 32) rfl (dc d1) _ (fun W hW => range_below R1.out hW hbl) Tryd.underlying28 rfl (size_dig hd1)) HS.out ?_
  simp only [Act.put, List.getElem_toArray, List.getElem_cons_zero, List.getElem_cons_succ, List.setIfInBounds_toArray, List.set_cons_zero, List.set_cons_succ]
  refine wpAnyH_take (i := 6) (v := ?_) rfl (by kernel_rfl) (by kernel_rfl) (by kernel_rfl) (fun _ _ _ h => h) (Or.inl ⟨by rfl, ?q6⟩) HS.out ?_
  case q6 => intro w hSw; go_simp; rfl
  simp only [Act.put, List.getElem_toArray, List.getElem_cons_zero, List.getElem_cons_succ, List.setIfInBounds_toArray, List.set_cons_zero, List.set_cons_succ]
  refine wpAnyH_take (i := 7) (v := ?_) rfl (by kernel_rfl) (by kernel_rfl) (by kernel_rfl) (fun _ _ _ h => h) (Or.inl ⟨by rfl, ?q7⟩) HS.out ?_
  case q7 => intro w hSw; go_simp; rfl
  simp only [Act.put, List.getElem_toArray, List.getElem_cons_zero, List.getElem_cons_succ, List.setIfInBounds_toArray, List.set_cons_zero, List.set_cons_succ]
  refine wpAnyH_take (i := 8) (v := .int .i64 (2 * (x : Int))) rfl (by kernel_rfl) (by kernel_rfl) (by kernel_rfl) (fun _ _ _ h => h) (Or.inl ⟨by rfl, ?q8⟩) HS.out ?_
  case q8 => intro w hSw; go_simp
  simp only [Act.put, List.getElem_toArray, List.getElem_cons_zero, List.getElem_cons_succ, List.setIfInBounds_toArray, List.set_cons_zero, List.set_cons_succ]
  refine wpAnyH_take (i := 9) (v := .pointer (some ⟨b, off + 2 * x * 32, none⟩)) rfl (by kernel_rfl) (by kernel_rfl) (by kernel_rfl) (fun _ _ _ h => h) (Or.inl ⟨by rfl, ?q9⟩) HS.out ?_
  case q9 => intro w hSw; go_simp; intro hq; exfalso; omega
  simp only [Act.put, List.getElem_toArray, List.getElem_cons_zero, List.getElem_cons_succ, List.setIfInBounds_toArray, List.set_cons_zero, List.set_cons_succ]
  refine wpAnyH_take (i := 10) rfl (by kernel_rfl) (by kernel_rfl) (by kernel_rfl) (fun _ _ _ h => h) (yieldsIf_load_mid (by rfl) 28 _ rfl b (off + 2 * x * 32) rfl (dc d2) _ (fun W hW => range_below R2.out hW hbl) Tryd.underlying28 rfl (size_dig hd2)) HS.out ?_
  simp only [Act.put, List.getElem_toArray, List.getElem_cons_zero, List.getElem_cons_succ, List.setIfInBounds_toArray, List.set_cons_zero, List.set_cons_succ]
  rw [dc_arr, dc_arr]
  obtain ⟨c1, HC1⟩ : ∃ c1, Hid (cellsB d1 = c1) := ⟨_, rfl⟩
  obtain ⟨c2, HC2⟩ : ∃ c2, Hid (cellsB d2 = c2) := ⟨_, rfl⟩
  have hz : zd.size = 32 := by rw [← HZD.out]; rfl
  have hs1 : c1.size = 32 := by rw [← HC1.out, cellsB_size, hd1.1]
  have hs2 : c2.size = 32 := by rw [← HC2.out, cellsB_size, hd2.1]
  have SD1 : Hid ((Tryd.prog.info? 28).map (·.size) = some c1.size) := by rw [hs1]; exact size_digest
  have SD2 : Hid ((Tryd.prog.info? 28).map (·.size) = some c2.size) := by rw [hs2]; exact size_digest
  have O1 : Hid (c1.all (·.oneCell') = true) := by rw [← HC1.out]; exact cellsB_one _
  have O2 : Hid (c2.all (·.oneCell') = true) := by rw [← HC2.out]; exact cellsB_one _
  rw [HC1.out, HC2.out]
  refine wpAnyH_ready (rs := [11]) (by kernel_rfl) (by simp) ?_
  refine AllReadyH.cons rfl (fun K hK => ?_) AllReadyH.nil
  rw [if_pos (by rfl)]
  refine wp_store_row 28 _ _ rfl w.heap.size c1 rfl rfl 28 _ H1.out SD1.out (by rw [hz, hs1]) O1.out ?_
  refine hK.out _ _ (below_setRow HS.out (Nat.le_refl _) _) (fun _ => ?_)
  clear hK K
  refine wpAnyH_ready (rs := [12]) (by kernel_rfl) (by simp) ?_
  refine AllReadyH.cons rfl (fun K hK => ?_) AllReadyH.nil
  rw [if_pos (by rfl)]
  have H2b : Hid ((W0.drew.setRow w.heap.size c1).heap[w.heap.size + 1]? = some (.cells zd 28 (0, 0))) := by
    refine hid ?_
    rw [setRow_other _ _ _ _ (by omega)]
    exact H2.out
  refine wp_store_row 28 _ _ rfl (w.heap.size + 1) c2 rfl rfl 28 _ H2b.out SD2.out (by rw [hz, hs2]) O2.out ?_
  refine hK.out _ _ (below_setRow (below_setRow HS.out (Nat.le_refl _) _) (Nat.le_succ _) _) (fun _ => ?_)
  clear hK K
  refine wpAnyH_done (by kernel_rfl) ?_ _
  go_wp2
  have HA : Hid (((W0.drew.setRow w.heap.size c1).setRow (w.heap.size + 1) c2).heap[w.heap.size]? = some (.cells c1 28 (0, 0))) := by
    refine hid ?_
    rw [setRow_other _ _ _ _ (by omega)]
    exact setRow_heap _ _ _ _ _ _ H1.out
  refine bodyPost_ret (v := .tuple #[.agg c1, .agg c2]) (results_cell2 (p := 4) (q := 5) (ty := 28) rfl _ _ w.heap.size (w.heap.size + 1) 28 c1 c2 (0, 0) (0, 0) _ rfl rfl HA.out (setRow_heap _ _ _ _ _ _ H2b.out) Tryd.underlying28 rfl SD1.out SD2.out) rfl ?_
  exact ⟨by rw [HC1.out, HC2.out], below_setRow (below_setRow HS.out (Nat.le_refl _) _) (Nat.le_succ _) _⟩
/-- Two digests in blocks of their own. -/
theorem twoBox (w : World) (zd c1 c2 : Array Value) :
    ((w.alloc (.cells zd 28)).alloc (.cells zd 28)).heap[w.heap.size]? = some (.cells zd 28 (0, 0)) ∧
    (((w.alloc (.cells zd 28)).alloc (.cells zd 28)).setRow w.heap.size c1).heap[w.heap.size + 1]? = some (.cells zd 28 (0, 0)) ∧
    ((((w.alloc (.cells zd 28)).alloc (.cells zd 28)).setRow w.heap.size c1).setRow (w.heap.size + 1) c2).heap[w.heap.size]? = some (.cells c1 28 (0, 0)) ∧
    ((((w.alloc (.cells zd 28)).alloc (.cells zd 28)).setRow w.heap.size c1).setRow (w.heap.size + 1) c2).heap[w.heap.size + 1]? = some (.cells c2 28 (0, 0)) ∧
    Below w.heap.size w ((((w.alloc (.cells zd 28)).alloc (.cells zd 28)).setRow w.heap.size c1).setRow (w.heap.size + 1) c2) := by
  have h1 : ((w.alloc (.cells zd 28)).alloc (.cells zd 28)).heap[w.heap.size]? = some (.cells zd 28 (0, 0)) := heap_alloc2_old _ _ _
  have h2 : (((w.alloc (.cells zd 28)).alloc (.cells zd 28)).setRow w.heap.size c1).heap[w.heap.size + 1]? = some (.cells zd 28 (0, 0)) := by
    rw [setRow_other _ _ _ _ (by omega)]
    exact heap_alloc2_new _ _ _
  refine ⟨h1, h2, ?_, setRow_heap _ _ _ _ _ _ h2, ?_⟩
  · rw [setRow_other _ _ _ _ (by omega)]
    exact setRow_heap _ _ _ _ _ _ h1
  · exact below_setRow (below_setRow (((Below.refl _ w).alloc (Nat.le_refl _) _).alloc (by simp) _) (Nat.le_refl _) _) (by omega) _
set_option maxRecDepth 100000 in
set_option maxHeartbeats 2000000 in
theorem above_any (w : World) (v : Value) (ds : List (List Int)) (x : Nat) (h : HDs w v ds) (hx : 1 ≤ x) (hx2 : 2 * x < ds.length) (hk : KC w) :
    Calls Tryd.prog 40 #[v, .int .i64 (x : Int)] w fun e w' => e = .returned (.agg (cellsB (ndL (ds.getD (2 * x - 1) []) (ds.getD (2 * x) [])))) ∧ Below w.heap.size w w' := by
  obtain ⟨zd, HZD⟩ : ∃ zd, Hid (cellsB zeros32 = zd) := ⟨_, rfl⟩
  have hd1 := getD_D h.2 (2 * x - 1) (by omega)
  have hd2 := getD_D h.2 (2 * x) (by omega)
  obtain ⟨W0, hW0⟩ : ∃ W0, Hid (w.alloc (.cells zd 28) = W0) := ⟨_, rfl⟩
  have HB0 : Hid (Below w.heap.size w W0) := by rw [← hW0.out]; exact (Below.refl _ w).alloc (Nat.le_refl _) _
  have HR0 : Hid (W0.heap[w.heap.size]? = some (.cells zd 28 (0, 0))) := by rw [← hW0.out]; exact heap_alloc_new w _
  have hS0 : W0.heap.size = w.heap.size + 1 := by rw [← hW0.out]; simp
  have CB := hid (beneath_any W0 v ds x (h.below HB0.out) hx hx2)
  have HK := hid hk
  clear h hk
  generalize ds.getD (2 * x - 1) [] = d1 at hd1 CB ⊢
  generalize ds.getD (2 * x) [] = d2 at hd2 CB ⊢
  obtain ⟨c1, HC1⟩ : ∃ c1, Hid (cellsB d1 = c1) := ⟨_, rfl⟩
  obtain ⟨c2, HC2⟩ : ∃ c2, Hid (cellsB d2 = c2) := ⟨_, rfl⟩
  have hz : zd.size = 32 := by rw [← HZD.out]; rfl
  have hs1 : c1.size = 32 := by rw [← HC1.out, cellsB_size, hd1.1]
  have hs2 : c2.size = 32 := by rw [← HC2.out, cellsB_size, hd2.1]
  have SD1 : Hid ((Tryd.prog.info? 28).map (·.size) = some c1.size) := by rw [hs1]; exact size_digest
  have SD2 : Hid ((Tryd.prog.info? 28).map (·.size) = some c2.size) := by rw [hs2]; exact size_digest
  have O1 : Hid (c1.all (·.oneCell') = true) := by rw [← HC1.out]; exact cellsB_one _
  have O2 : Hid (c2.all (·.oneCell') = true) := by rw [← HC2.out]; exact cellsB_one _
  rw [HC1.out, HC2.out] at CB
  go_enter Tryd.func40, Tryd.ntmps40
  go_wp2_with (refine wpList_alloc_digest rfl rfl ?_; rw [HZD.out, hW0.out])
  refine CB.out.mono ?_
  rintro e w1 ⟨rfl, hB1⟩
  have BL1 := hid (HB0.out.trans (hB1.mono (by omega)))
  have HR1 : Hid (w1.heap[w.heap.size]? = some (.cells zd 28 (0, 0))) := (hB1.block _ (by omega)).trans HR0.out
  have hw1 : w.heap.size < w1.heap.size := by have := hB1.size; omega
  have X := hid (twoBox w1 zd c1 c2)
  have e1 : (w1.alloc (.cells zd 28)).heap.size = w1.heap.size + 1 := by simp
  have Z1 : Hid (zd.size = c1.size) := by rw [hz, hs1]; exact rfl
  have Z2 : Hid (zd.size = c2.size) := by rw [hz, hs2]; exact rfl
  clear hB1 CB hs1 hs2 hz
  go_wp2_with (first
    | (refine wpList_alloc_digest rfl rfl ?_; rw [HZD.out]; try rw [e1])
    | (refine wpList_store_row rfl 28 _ _ rfl w1.heap.size c1 rfl rfl 28 _ X.out.1 SD1.out Z1.out O1.out ?_)
    | (refine wpList_store_row rfl 28 _ _ rfl (w1.heap.size + 1) c2 rfl rfl 28 _ X.out.2.1 SD2.out Z2.out O2.out ?_)
    | (refine wpList_load_row rfl 28 _ rfl w1.heap.size rfl 28 c1 (0, 0) _ X.out.2.2.1 Tryd.underlying28 rfl SD1.out ?_)
    | (refine wpList_load_row rfl 28 _ rfl (w1.heap.size + 1) rfl 28 c2 (0, 0) _ X.out.2.2.2.1 Tryd.underlying28 rfl SD2.out ?_))
  obtain ⟨W2, hW2⟩ : ∃ W2, Hid ((((w1.alloc (.cells zd 28)).alloc (.cells zd 28)).setRow w1.heap.size c1).setRow (w1.heap.size + 1) c2 = W2) := ⟨_, rfl⟩
  have BB : Hid (Below w1.heap.size w1 W2) := by rw [← hW2.out]; exact X.out.2.2.2.2
  rw [hW2.out]
  clear X
  have BL2 := hid (BL1.out.trans (BB.out.mono BL1.out.size))
  have CN := hid (node_any W2 d1 d2 hd1 hd2 (HK.out.below BL2.out))
  rw [HC1.out, HC2.out] at CN
  refine CN.out.mono ?_
  rintro e w3 ⟨rfl, hB3⟩
  obtain ⟨dm, HD⟩ : ∃ dm, Hid (cellsB (ndL d1 d2) = dm) := ⟨_, rfl⟩
  have hds : dm.size = 32 := by rw [← HD.out, cellsB_size, (ndL_D d1 d2).1]
  have SD : Hid ((Tryd.prog.info? 28).map (·.size) = some dm.size) := by rw [hds]; exact size_digest
  have OD : Hid (dm.all (·.oneCell') = true) := by rw [← HD.out]; exact cellsB_one _
  have ZD : Hid (zd.size = dm.size) := by rw [hds, ← HZD.out]; rfl
  have HR3 : Hid (w3.heap[w.heap.size]? = some (.cells zd 28 (0, 0))) := by
    refine hid ?_
    rw [hB3.block _ (by have := BB.out.size; omega), BB.out.block _ hw1]
    exact HR1.out
  have HBF := hid (below_setRow (BL2.out.trans (hB3.mono BL2.out.size)) (g := w.heap.size) (Nat.le_refl _) dm)
  rw [HD.out]
  clear hB3 hds CN
  go_wp2_with (refine wpList_store_row rfl 28 _ _ rfl w.heap.size dm rfl rfl 28 _ HR3.out SD.out ZD.out OD.out ?_)
  refine bodyPost_ret (v := .agg dm) (results_cell_row (p := 4) (ty := 28) rfl _ _ w.heap.size 28 dm (0, 0) _ rfl (setRow_heap _ _ _ _ _ _ HR3.out) Tryd.underlying28 rfl SD.out) rfl ?_
  exact ⟨by rw [HD.out], HBF.out⟩
end Go.Proofs.YtjmlpkemjafifaaDoor
