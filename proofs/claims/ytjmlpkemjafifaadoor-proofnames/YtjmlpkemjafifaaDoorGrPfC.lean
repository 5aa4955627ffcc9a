/- Texts laid together: PfLit, PfAwM, PfAw. -/
import Derived.Test.YtjmlpkemjafifaaDoorPfNeeds
import Derived.Test.YtjmlpkemjafifaaDoorTrRef
import Derived.Test.YtjmlpkemjafifaaDoorTrLives
import Derived.Great.BuildSlice

/- Literals of digests and nodes; the law's leaves. -/
set_option linter.unusedVariables false
set_option linter.unusedSimpArgs false
namespace Go.Proofs.YtjmlpkemjafifaaDoor
open Go.RowKit Ev

/-- A row of cells of one size out of a list of parts. -/
theorem flat_rows {s : Nat} (hs : 0 < s) {α : Type} (f : α → List Value) : ∀ (l : List α), (∀ x ∈ l, (f x).length = s) → ∀ (i j : Nat) (x : α), l[i]? = some x → j < s → (l.flatMap f)[i * s + j]? = (f x)[j]?
  | [], _, i, j, x, h, _ => by simp at h
  | y :: r, hl, 0, j, x, h, hj => by
    simp at h
    subst h
    rw [List.flatMap_cons, Nat.zero_mul, Nat.zero_add, List.getElem?_append_left (by rw [hl y (by simp)]; exact hj)]
  | y :: r, hl, i + 1, j, x, h, hj => by
    have hy := hl y (by simp)
    rw [List.flatMap_cons, List.getElem?_append_right (by rw [hy, Nat.add_mul]; omega), hy, show (i + 1) * s + j - s = i * s + j by rw [Nat.add_mul]; omega]
    exact flat_rows hs f r (fun z hz => hl z (by simp [hz])) i j x (by simpa using h) hj
theorem flat_length {s : Nat} {α : Type} (f : α → List Value) : ∀ (l : List α), (∀ x ∈ l, (f x).length = s) → (l.flatMap f).length = l.length * s
  | [], _ => by simp
  | y :: r, hl => by
    rw [List.flatMap_cons, List.length_append, hl y (by simp), flat_length f r (fun z hz => hl z (by simp [hz])), List.length_cons, Nat.add_mul]
    omega
theorem OD.of_block {w : World} {g : Nat} {ds : List (List Int)} (hb : w.heap[g]? = some (.cells (ds.flatMap dc).toArray 28 (0, 0))) (hd : ∀ d ∈ ds, D32 d) : OD w g ds := by
  have hl : ∀ x ∈ ds, (dc x).length = 32 := fun x hx => by rw [dc_length, (hd x hx).1]
  refine ⟨⟨_, hb, by rw [List.size_toArray, flat_length dc ds hl]⟩, fun i hi j v hj => ?_, hd⟩
  have hx : ds[i]? = some (ds.getD i []) := by simp [List.getD, List.getElem?_eq_getElem hi]
  have hj2 : j < 32 := by
    have := (List.getElem?_eq_some_iff.1 hj).1
    rwa [hl _ (List.mem_of_getElem? hx)] at this
  rw [cell_of_row w g _ _ _ _ hb, List.getElem?_toArray, flat_rows (by decide) dc ds hl i j _ hx hj2]
  exact hj
theorem HNd.of_block {w : World} {g : Nat} {ns : List NdT} (hb : w.heap[g]? = some (.cells (ns.flatMap nc).toArray 60 (0, 0))) (hd : ∀ n ∈ ns, Nd n) (hn : ns.length ≤ 1000) : HNd w (.slice (some ⟨g, 0, none⟩) ns.length ns.length) ns := by
  have hl : ∀ x ∈ ns, (nc x).length = 33 := fun x hx => nc_length (hd x hx)
  refine ⟨⟨_, _, rfl, Nat.le_refl _, by unfold maxLen; omega, fun _ => ⟨g, 0, rfl, fun i hi j v hj => ?_⟩⟩, hd⟩
  have hx : ns[i]? = some (ns.getD i (0, [])) := by simp [List.getD, List.getElem?_eq_getElem hi]
  have hj2 : j < 33 := by
    have := (List.getElem?_eq_some_iff.1 hj).1
    rwa [hl _ (List.mem_of_getElem? hx)] at this
  rw [Nat.zero_add, cell_of_row w g _ _ _ _ hb, List.getElem?_toArray, flat_rows (by decide) nc ns hl i j _ hx hj2]
  exact hj
/-- A literal of digests. -/
theorem run_lit_digs (w : World) (ds : List (List Int)) (hd : ∀ d ∈ ds, D32 d) (h0 : 0 < ds.length) (h1 : ds.length ≤ 1000) :
    (Instr.buildSlice 22 ds.length (((ds.map fun d => Value.agg (cellsB d)).zipIdx 0).map fun x => (x.2, x.1)).toArray).run Tryd.prog w = .ok (.slice (some ⟨w.heap.size, 0, none⟩) ds.length ds.length) (w.alloc (.cells (ds.flatMap dc).toArray 28)) := by
  obtain ⟨i0, hi, hz0, hz1, hz2⟩ := info_parts info_digest
  refine run_buildSlice w 22 28 ds.length _ _ i0 _ Tryd.underlying22 hi hz0 (by rw [hz1]; omega) (by rw [hz1]; omega) ?_
  rw [hz1]
  have := Great.fill_whole (s := 32) (by decide) (ds.map fun d => Value.agg (cellsB d)) ((Array.range (ds.length * 32)).map ((Value.agg (cellsB zeros32)).cells[· % (Value.agg (cellsB zeros32)).cells.size]!)) (fun v hv => by
    obtain ⟨d, hd1, rfl⟩ := List.mem_map.1 hv
    exact (cellsB_size d).trans (hd d hd1).1) (by simp)
  have e : (ds.map fun d => Value.agg (cellsB d)).flatMap (fun v => v.cells.toList) = ds.flatMap dc := by
    rw [List.flatMap_map]
    exact congrArg (fun f => ds.flatMap f) (funext fun d => by show (cellsB d).toList = dc d; rw [← dc_arr])
  rw [e] at this
  exact this
theorem run_lit_nodes (w : World) (ns : List NdT) (hd : ∀ n ∈ ns, Nd n) (h0 : 0 < ns.length) (h1 : ns.length ≤ 1000) :
    (Instr.buildSlice 53 ns.length (((ns.map fun n => Value.agg (nc n).toArray).zipIdx 0).map fun x => (x.2, x.1)).toArray).run Tryd.prog w = .ok (.slice (some ⟨w.heap.size, 0, none⟩) ns.length ns.length) (w.alloc (.cells (ns.flatMap nc).toArray 60)) := by
  cases hi : Tryd.prog.info? 60 with
  | none => have := size_node; rw [hi] at this; cases this
  | some i0 =>
    have hz1 : i0.size = 33 := by have := size_node; rw [hi] at this; simpa using this
    have hz0 : i0.zero = some (.agg (nc (0, zeros32)).toArray) := by have := zero_node; rw [hi] at this; simpa using this
    refine run_buildSlice w 53 60 ns.length _ _ i0 _ Tryd.underlying53 hi hz0 (by rw [hz1]; omega) (by rw [hz1]; omega) ?_
    rw [hz1]
    have := Great.fill_whole (s := 33) (by decide) (ns.map fun n => Value.agg (nc n).toArray) ((Array.range (ns.length * 33)).map ((Value.agg (nc (0, zeros32)).toArray).cells[· % (Value.agg (nc (0, zeros32)).toArray).cells.size]!)) (fun v hv => by
      obtain ⟨n, hn1, rfl⟩ := List.mem_map.1 hv
      show (nc n).toArray.size = 33
      rw [List.size_toArray, nc_length (hd n hn1)]) (by simp)
    have e : (ns.map fun n => Value.agg (nc n).toArray).flatMap (fun v => v.cells.toList) = ns.flatMap nc := by
      rw [List.flatMap_map]
      exact congrArg (fun f => ns.flatMap f) (funext fun n => by show (nc n).toArray.toList = nc n; simp)
    rw [e] at this
    exact this
theorem fill_node (a : Int) (cd : Array Value) (hd : cd.size = 32) (z : Array Value) (hz : z.size = 33) (pl : Nat → Option (Nat × Nat)) (h0 : pl 0 = some (0, 1)) (h1 : pl 1 = some (1, 32)) :
    Instr.fill pl z [(0, .int .i64 a), (1, .agg cd)] = some (#[.int .i64 a] ++ cd) := by
  have e1 : (Value.int .i64 a).cells = #[.int .i64 a] := rfl
  have e2 : (Value.agg cd).cells = cd := rfl
  have f := (Great.foldl_set 1 cd.toList 0 (z.setIfInBounds 0 (.int .i64 a)))
  have hzip : cd.zipIdx.foldl (fun cs (c, j) => cs.setIfInBounds (1 + j) c) (z.setIfInBounds 0 (.int .i64 a)) = (cd.toList.zipIdx 0).foldl (fun cs (x : Value × Nat) => cs.setIfInBounds (1 + x.2) x.1) (z.setIfInBounds 0 (.int .i64 a)) := by
    rw [← Array.foldl_toList, Array.toList_zipIdx]
  simp only [Instr.fill, h0, h1, e1, e2, hd, hz]
  simp only [List.size_toArray, List.length_cons, List.length_nil]
  have e3 : (#[Value.int .i64 a].zipIdx.foldl (fun cs (x : Value × Nat) => cs.setIfInBounds (0 + x.2) x.1) z) = z.setIfInBounds 0 (.int .i64 a) := rfl
  simp only [e3]
  rw [if_neg (by simp), if_neg (by simp [hz])]
  congr 1
  rw [hzip]
  apply Array.ext_getElem?
  intro k
  rw [f.2 k]
  simp only [Array.size_setIfInBounds, hz, Array.length_toList, hd]
  by_cases hk : 1 ≤ k ∧ k < 33
  · rw [if_pos (by omega), Array.getElem?_append_right (by simp; omega)]
    simp
  · rw [if_neg (by omega)]
    by_cases hk0 : k = 0
    · subst hk0
      rw [Array.getElem?_append_left (by simp)]
      simp [hz]
    · rw [Array.getElem?_eq_none (by simp [hz]; omega), Array.getElem?_eq_none (by simp [hd]; omega)]
theorem run_build_node (w : World) (a : Int) (d : List Int) (hd : D32 d) : (Instr.build 60 #[(0, .int .i64 a), (1, .agg (cellsB d))]).run Tryd.prog w = .ok (.agg (nc (a, d)).toArray) w := by
  cases hi : Tryd.prog.info? 60 with
  | none => have := size_node; rw [hi] at this; cases this
  | some i0 =>
    have hz0 : i0.zero = some (.agg (nc (0, zeros32)).toArray) := by have := zero_node; rw [hi] at this; simpa using this
    have hzv : (zeroValue 60).run Tryd.prog w = .ok (.agg (nc (0, zeros32)).toArray) w := by simp [zeroValue, typeInfo, hi, hz0]
    have s1 : (sizeOf 3).run Tryd.prog w = .ok 1 w := by
      obtain ⟨i1, h1, h2, h3, h4⟩ := info_parts info_int
      simp [sizeOf, typeInfo, h1, h3]
    have s2 : (sizeOf 28).run Tryd.prog w = .ok 32 w := by
      obtain ⟨i1, h1, h2, h3, h4⟩ := info_parts info_digest
      simp [sizeOf, typeInfo, h1, h3]
    have hf := fun pl h0 h1 => fill_node a (cellsB d) ((cellsB_size d).trans hd.1) (nc (0, zeros32)).toArray (by simp [nc, dc_length, zeros32_length]) pl h0 h1
    have hfin : (nc (a, d)).toArray = #[.int .i64 a] ++ cellsB d := by simp [nc, ← dc_arr]
    rw [hfin]
    obtain ⟨zc, HZC⟩ : ∃ z, Hid ((nc (0, zeros32)).toArray = z) := ⟨_, rfl⟩
    rw [HZC.out] at hzv hf
    simp only [Instr.build, Sem.run_bind, hzv, Result.andThen_ok, run_underlying Tryd.underlying60]
    simp [s1, s2, Value.cells, hf]
/-- A literal at its operation, by an equation on its run. -/
theorem wp_lit_run {P : Program} {o : Oper} {a : Act} {w : World} {K : Act → World → Prop} {Q : Exit → Act → World → Prop} (t : TypeId) (len : Nat) (parts : Array (Nat × Operand)) (ho : o.op = .buildSlice t len parts) (ps : Array (Nat × Value)) (hps : (parts.map fun (i, x) => (i, a.eval x)) = ps) (v : Value) (w' : World)
    (hr : (Instr.buildSlice t len ps).run P w = .ok v w') (h : K (a.put o.dst v) w') : o.wp P a w K Q := by
  unfold Oper.wp execOp
  simp only [ho, Sem.run_bind, hps, hr, Result.andThen_ok]
  exact h
theorem wpList_lit_run {P : Program} {ops : Array Oper} {rest : List Oper} {o : Oper} {a : Act} {w : World} {Q : Exit → Act → World → Prop} (hg : o.guard = none) (t : TypeId) (len : Nat) (parts : Array (Nat × Operand)) (ho : o.op = .buildSlice t len parts) (ps : Array (Nat × Value)) (hps : (parts.map fun (i, x) => (i, a.eval x)) = ps) (v : Value) (w' : World)
    (hr : (Instr.buildSlice t len ps).run P w = .ok v w') (h : wpList P ops Q rest (a.put o.dst v) w') : wpList P ops Q (o :: rest) a w :=
  wpList_plain hg fun _ hK => wp_lit_run t len parts ho ps hps v w' hr (hK _ _ h)
theorem wpList_build_run {P : Program} {ops : Array Oper} {rest : List Oper} {o : Oper} {a : Act} {w : World} {Q : Exit → Act → World → Prop} (hg : o.guard = none) (t : TypeId) (parts : Array (Nat × Operand)) (ho : o.op = .build t parts) (ps : Array (Nat × Value)) (hps : (parts.map fun (i, x) => (i, a.eval x)) = ps) (v : Value)
    (hr : (Instr.build t ps).run P w = .ok v w) (h : wpList P ops Q rest (a.put o.dst v) w) : wpList P ops Q (o :: rest) a w :=
  wpList_plain hg fun _ hK => by
    unfold Oper.wp execOp
    simp only [ho, Sem.run_bind, hps, hr, Result.andThen_ok]
    exact hK _ _ h
theorem yieldsIf_build {P : Program} {ops : Array Oper} {S : World → Prop} {op : Oper} {a : Act} (hw : Region.wanted op (yielded ops a.tmps) = true) (t : TypeId) (parts : Array (Nat × Operand)) (ho : op.op = .build t parts) (ps : Array (Nat × Value)) (hps : (parts.map fun (i, x) => (i, a.eval x)) = ps) (v : Value)
    (hr : ∀ w, (Instr.build t ps).run P w = .ok v w) : YieldsIf P ops S op v a :=
  .inl ⟨hw, fun w _ => by
    unfold execOp
    simp only [ho, Sem.run_bind, hps, hr, Result.andThen_ok]
    rfl⟩
/-- The law's leaf. -/
def lvL (i : Nat) : List Int := [(i : Int), 0, 1] ++ List.replicate 29 0
theorem lvL_D (i : Nat) (h : i < 256) : D32 (lvL i) := ⟨rfl, fun x hx => by
  unfold lvL at hx
  rcases List.mem_append.1 hx with q | q
  · simp at q; omega
  · have := (List.mem_replicate.1 q).2; omega⟩
theorem leaf_ev0 : evCallF Tryd.prog noLore noCon 100 21 [.tv (.sc (.int .i64 (.lit 0)))] H0 = some (.tv (.agg (lI (lvL 0))), H0) := by kernel_rfl
theorem leaf_0 (w : World) : Calls Tryd.prog 21 #[.int .i64 0] w fun e w' => e = .returned (.agg (cellsB (lvL 0))) ∧ Below w.heap.size w w' := by
  refine (calls_of_evF (noLore_ok noEnvW) (noCon_ok _ noEnvW) mixedOrders 100 leaf_ev0 w (args := #[.int .i64 0]) ?_).mono ?_
  · simp [AV.inst, TV.inst, SV.inst, Ex.den]
  · rintro e w' ⟨ms, u, rfl, h3, _, h5⟩
    rw [agg_inst (lI_inst noEnvW ms (lvL 0))] at h3
    rw [← Option.some.inj h3]
    exact ⟨rfl, h5⟩
theorem leaf_ev1 : evCallF Tryd.prog noLore noCon 100 21 [.tv (.sc (.int .i64 (.lit 1)))] H0 = some (.tv (.agg (lI (lvL 1))), H0) := by kernel_rfl
theorem leaf_1 (w : World) : Calls Tryd.prog 21 #[.int .i64 1] w fun e w' => e = .returned (.agg (cellsB (lvL 1))) ∧ Below w.heap.size w w' := by
  refine (calls_of_evF (noLore_ok noEnvW) (noCon_ok _ noEnvW) mixedOrders 100 leaf_ev1 w (args := #[.int .i64 1]) ?_).mono ?_
  · simp [AV.inst, TV.inst, SV.inst, Ex.den]
  · rintro e w' ⟨ms, u, rfl, h3, _, h5⟩
    rw [agg_inst (lI_inst noEnvW ms (lvL 1))] at h3
    rw [← Option.some.inj h3]
    exact ⟨rfl, h5⟩
theorem leaf_ev2 : evCallF Tryd.prog noLore noCon 100 21 [.tv (.sc (.int .i64 (.lit 2)))] H0 = some (.tv (.agg (lI (lvL 2))), H0) := by kernel_rfl
theorem leaf_2 (w : World) : Calls Tryd.prog 21 #[.int .i64 2] w fun e w' => e = .returned (.agg (cellsB (lvL 2))) ∧ Below w.heap.size w w' := by
  refine (calls_of_evF (noLore_ok noEnvW) (noCon_ok _ noEnvW) mixedOrders 100 leaf_ev2 w (args := #[.int .i64 2]) ?_).mono ?_
  · simp [AV.inst, TV.inst, SV.inst, Ex.den]
  · rintro e w' ⟨ms, u, rfl, h3, _, h5⟩
    rw [agg_inst (lI_inst noEnvW ms (lvL 2))] at h3
    rw [← Option.some.inj h3]
    exact ⟨rfl, h5⟩
theorem leaf_ev5 : evCallF Tryd.prog noLore noCon 100 21 [.tv (.sc (.int .i64 (.lit 5)))] H0 = some (.tv (.agg (lI (lvL 5))), H0) := by kernel_rfl
theorem leaf_5 (w : World) : Calls Tryd.prog 21 #[.int .i64 5] w fun e w' => e = .returned (.agg (cellsB (lvL 5))) ∧ Below w.heap.size w w' := by
  refine (calls_of_evF (noLore_ok noEnvW) (noCon_ok _ noEnvW) mixedOrders 100 leaf_ev5 w (args := #[.int .i64 5]) ?_).mono ?_
  · simp [AV.inst, TV.inst, SV.inst, Ex.den]
  · rintro e w' ⟨ms, u, rfl, h3, _, h5⟩
    rw [agg_inst (lI_inst noEnvW ms (lvL 5))] at h3
    rw [← Option.some.inj h3]
    exact ⟨rfl, h5⟩
theorem leaf_ev9 : evCallF Tryd.prog noLore noCon 100 21 [.tv (.sc (.int .i64 (.lit 9)))] H0 = some (.tv (.agg (lI (lvL 9))), H0) := by kernel_rfl
theorem leaf_9 (w : World) : Calls Tryd.prog 21 #[.int .i64 9] w fun e w' => e = .returned (.agg (cellsB (lvL 9))) ∧ Below w.heap.size w w' := by
  refine (calls_of_evF (noLore_ok noEnvW) (noCon_ok _ noEnvW) mixedOrders 100 leaf_ev9 w (args := #[.int .i64 9]) ?_).mono ?_
  · simp [AV.inst, TV.inst, SV.inst, Ex.den]
  · rintro e w' ⟨ms, u, rfl, h3, _, h5⟩
    rw [agg_inst (lI_inst noEnvW ms (lvL 9))] at h3
    rw [← Option.some.inj h3]
    exact ⟨rfl, h5⟩
end Go.Proofs.YtjmlpkemjafifaaDoor

/- What the law's own look comes to, as plain functions. -/
set_option linter.unusedVariables false
namespace Go.Proofs.YtjmlpkemjafifaaDoor

/-- A proof over three leaves, at first. -/
def K34 (r p : List Int) : Kn := fun x => if x = 1 then Option.some r else if x = 7 then Option.some p else none
theorem newF34 (r : List Int) : newF 3 4 r = K34 r (pdL 3) := by
  have e : new0 3 4 r = K34 r (pdL 3) := by
    funext x
    unfold new0 K34
    by_cases e1 : x = 1
    · rw [if_pos e1, if_pos e1]
    · rw [if_neg e1, if_neg e1]
      by_cases e7 : x = 7
      · subst e7
        rw [if_pos (by omega), if_pos rfl]
      · rw [if_neg (by omega), if_neg e7]
  unfold newF
  rw [e]
  generalize pdL 3 = p
  simp [riseF, askB, K34, emptyI]
theorem needs34 (r p : List Int) : needF (K34 r p) (chL 2 (4 + 0)) = [5, 3] := by
  rw [show chL 2 (4 + 0) = [5, 3] from by decide]
  simp [needF, K34]
theorem put34_loose (a b r p : List Int) : putF 4 (K34 r p) [(4, a), (5, b)] = (122, K34 r p) := by
  simp [putF, layF, holdB, holdS, riseF, askB, kidD, K34, PS.put, kset, iset, emptyI, looseF]
/-- What stands behind the second list. -/
def K34b (a b c p : List Int) : Kn := kset (kset (kset (K34 (ndL (ndL a b) (ndL c p)) p) 6 c) 2 (ndL a b)) 3 (ndL c p)
theorem lay34 (r n c p : List Int) : layF 4 [(6, c), (2, n)] ⟨K34 r p, emptyI⟩ = (0, ⟨kset (kset (K34 r p) 6 c) 2 n, iset (iset emptyI 6) 2⟩) := by
  simp [layF, holdB, holdS, K34, PS.put, kset]
theorem rise34 (n m c p : List Int) (hm : m = ndL c p) (r : List Int) (hr : r = ndL n m) : riseF 3 ⟨kset (kset (K34 r p) 6 c) 2 n, iset (iset emptyI 6) 2⟩ = (0, ⟨kset (kset (kset (K34 r p) 6 c) 2 n) 3 m, iset (iset (iset emptyI 6) 2) 3⟩) := by
  have a3 : askB ⟨kset (kset (K34 r p) 6 c) 2 n, iset (iset emptyI 6) 2⟩ 3 = true := rfl
  have k3 : kidD ⟨kset (kset (K34 r p) 6 c) 2 n, iset (iset emptyI 6) 2⟩ 3 = m := hm.symm
  have h3 : holdB ⟨kset (kset (K34 r p) 6 c) 2 n, iset (iset emptyI 6) 2⟩ 3 m = true := rfl
  have s3 : holdS ⟨kset (kset (K34 r p) 6 c) 2 n, iset (iset emptyI 6) 2⟩ 3 m = ⟨kset (kset (kset (K34 r p) 6 c) 2 n) 3 m, iset (iset (iset emptyI 6) 2) 3⟩ := rfl
  have a2 : askB ⟨kset (kset (kset (K34 r p) 6 c) 2 n) 3 m, iset (iset (iset emptyI 6) 2) 3⟩ 2 = false := rfl
  have a1 : askB ⟨kset (kset (kset (K34 r p) 6 c) 2 n) 3 m, iset (iset (iset emptyI 6) 2) 3⟩ 1 = true := rfl
  have k1 : kidD ⟨kset (kset (kset (K34 r p) 6 c) 2 n) 3 m, iset (iset (iset emptyI 6) 2) 3⟩ 1 = r := hr.symm
  have h1 : holdB ⟨kset (kset (kset (K34 r p) 6 c) 2 n) 3 m, iset (iset (iset emptyI 6) 2) 3⟩ 1 r = true := decide_eq_true rfl
  have s1 : holdS ⟨kset (kset (kset (K34 r p) 6 c) 2 n) 3 m, iset (iset (iset emptyI 6) 2) 3⟩ 1 r = ⟨kset (kset (kset (K34 r p) 6 c) 2 n) 3 m, iset (iset (iset emptyI 6) 2) 3⟩ := rfl
  rw [riseF, if_pos a3, k3, if_pos h3, s3, riseF, if_neg (by rw [a2]; simp), riseF, if_pos a1, k1, if_pos h1, s1, riseF]
theorem put34_ok (n m c p r : List Int) (hm : m = ndL c p) (hr : r = ndL n m) : putF 4 (K34 r p) [(6, c), (2, n)] = (0, kset (kset (kset (K34 r p) 6 c) 2 n) 3 m) := by
  unfold putF
  rw [lay34]
  simp only [Nat.reduceSub]
  rw [rise34 n m c p hm r hr]
  have hl : looseF ⟨kset (kset (kset (K34 r p) 6 c) 2 n) 3 m, iset (iset (iset emptyI 6) 2) 3⟩ (2 * 4) = false := rfl
  simp only [hl]
  simp
theorem build34 {a b c : List Int} {N : List (List Int)} (h : IsT [a, b, c] 4 N) : N.length = 7 ∧ N.getD 0 [] = ndL (ndL a b) (ndL c (pdL 3)) ∧ N.getD 1 [] = ndL a b ∧ N.getD 2 [] = ndL c (pdL 3) := by
  have l0 := h.leaf 0 (by decide)
  have l1 := h.leaf 1 (by decide)
  have l2 := h.leaf 2 (by decide)
  have l3 := h.leaf 3 (by decide)
  have i3 := h.inner 3 (by decide) (by decide)
  have i2 := h.inner 2 (by decide) (by decide)
  have i1 := h.inner 1 (by decide) (by decide)
  unfold InR at i1 i2 i3
  simp only [Nat.reduceMul, Nat.reduceSub, Nat.reduceAdd, Nat.sub_self] at l0 l1 l2 l3 i1 i2 i3
  have e0 : lf [a, b, c] 0 = a := rfl
  have e1 : lf [a, b, c] 1 = b := rfl
  have e2 : lf [a, b, c] 2 = c := rfl
  have e3 : lf [a, b, c] 3 = pdL 3 := if_neg (by simp)
  rw [e0] at l0
  rw [e1] at l1
  rw [e2] at l2
  rw [e3] at l3
  rw [l2, l3] at i3
  rw [l0, l1] at i2
  rw [i2, i3] at i1
  exact ⟨h.len, i1, i2, i3⟩
end Go.Proofs.YtjmlpkemjafifaaDoor

/- The law's own look whether the program lives, walked. -/
set_option linter.unusedVariables false
set_option linter.unusedSimpArgs false
namespace Go.Proofs.YtjmlpkemjafifaaDoor
open Go.RowKit

theorem pgrown_below {w w' : World} {b B : Nat} (h : w.grownBy w' (some b)) (hb : B ≤ b) (hB : B ≤ w.heap.size) : Below B w w' := ⟨h.os, h.tape, h.output, h.size, fun k hk => h.block k (by omega) (fun e => by cases e; omega)⟩
set_option maxRecDepth 100000 in
set_option maxHeartbeats 8000000 in
theorem pawake_any (w : World) (hk : KC w) : Calls Tryd.prog 26 #[] w fun e w' => e = .returned (.bool true) ∧ Below w.heap.size w w' := by
  obtain ⟨a, HA⟩ : ∃ a, Hid (lvL 0 = a) := ⟨_, rfl⟩
  obtain ⟨b, HB⟩ : ∃ a, Hid (lvL 1 = a) := ⟨_, rfl⟩
  obtain ⟨c, HC⟩ : ∃ a, Hid (lvL 2 = a) := ⟨_, rfl⟩
  have DA : Hid (D32 a) := by rw [← HA.out]; exact lvL_D 0 (by decide)
  have DB : Hid (D32 b) := by rw [← HB.out]; exact lvL_D 1 (by decide)
  have DC : Hid (D32 c) := by rw [← HC.out]; exact lvL_D 2 (by decide)
  have L0 := hid (fun w => leaf_0 w)
  have L1 := hid (fun w => leaf_1 w)
  have L2 := hid (fun w => leaf_2 w)
  rw [HA.out] at L0
  rw [HB.out] at L1
  rw [HC.out] at L2
  clear HA HB HC
  obtain ⟨ca, HCA⟩ : ∃ x, Hid (cellsB a = x) := ⟨_, rfl⟩
  obtain ⟨cb, HCB⟩ : ∃ x, Hid (cellsB b = x) := ⟨_, rfl⟩
  obtain ⟨cc, HCC⟩ : ∃ x, Hid (cellsB c = x) := ⟨_, rfl⟩
  rw [HCA.out] at L0
  rw [HCB.out] at L1
  rw [HCC.out] at L2
  have HKC := hid hk
  clear hk
  go_enter Tryd.func26, Tryd.ntmps26
  go_wp2_with fail
  refine (L0.out w).mono ?_
  rintro e w1 ⟨rfl, hB1⟩
  have BL1 := hid hB1
  clear hB1
  go_wp2_with fail
  refine (L1.out w1).mono ?_
  rintro e w2 ⟨rfl, hB2⟩
  have BL2 := hid (BL1.out.trans (hB2.mono BL1.out.size))
  clear hB2
  go_wp2_with fail
  refine (L2.out w2).mono ?_
  rintro e w3 ⟨rfl, hB3⟩
  have BL3 := hid (BL2.out.trans (hB3.mono BL2.out.size))
  clear hB3
  have hD3 : ∀ d ∈ [a, b, c], D32 d := fun d hd => by
    simp at hd
    rcases hd with rfl | rfl | rfl
    · exact DA.out
    · exact DB.out
    · exact DC.out
  have hlit := run_lit_digs w3 [a, b, c] hD3 (by simp) (by simp)
  simp only [List.length_cons, List.length_nil, Nat.zero_add, Nat.reduceAdd, List.map_cons, List.map_nil, List.zipIdx_cons, List.zipIdx_nil] at hlit
  rw [HCA.out, HCB.out, HCC.out] at hlit
  obtain ⟨W4, hW4⟩ : ∃ W4, Hid (w3.alloc (.cells ([a, b, c].flatMap dc).toArray 28) = W4) := ⟨_, rfl⟩
  rw [hW4.out] at hlit
  have BL4 : Hid (Below w.heap.size w W4) := by rw [← hW4.out]; exact BL3.out.alloc BL3.out.size _
  have HDs4 : Hid (HDs W4 (.slice (some ⟨w3.heap.size, 0, none⟩) 3 3) [a, b, c]) := by
    refine OD.HDs (N := [a, b, c]) (OD.of_block ?_ hD3) (by simp)
    rw [← hW4.out]
    exact heap_alloc_new w3 _
  have CB := hid (rbuild_ok W4 _ [a, b, c] HDs4.out (by simp) (by simp))
  rw [show wdN [a, b, c].length = 4 from rfl] at CB
  clear hD3
  have HLIT := hid hlit
  clear hlit
  go_wp2_with (first | (refine wpList_lit_run rfl 22 3 _ rfl #[(0, .agg ca), (1, .agg cb), (2, .agg cc)] (by go_simp) _ _ HLIT.out ?_) | fail)
  refine CB.out.mono ?_
  rintro e w5 ⟨gN, N, rfl, hgN, hO5, hT, hB5⟩
  have BL5 := hid (BL4.out.trans (hB5.mono BL4.out.size))
  obtain ⟨hn7, hr0, hr1, hr2⟩ := build34 hT
  have HO5 := hid hO5
  have hgN' : w.heap.size ≤ gN := Nat.le_trans BL4.out.size hgN
  have hgl := hO5.lt
  have R0 := hid (hO5.2.1 0 (by omega))
  have R1 := hid (hO5.2.1 1 (by omega))
  obtain ⟨n45, HN45⟩ : ∃ x, Hid (ndL a b = x) := ⟨_, rfl⟩
  obtain ⟨n67, HN67⟩ : ∃ x, Hid (ndL c (pdL 3) = x) := ⟨_, rfl⟩
  rw [HN45.out, HN67.out] at hr0
  rw [HN45.out] at hr1
  obtain ⟨r, HR⟩ : ∃ x, Hid (ndL n45 n67 = x) := ⟨_, rfl⟩
  rw [HR.out] at hr0
  rw [hr0, Nat.zero_mul] at R0
  rw [hr1, Nat.one_mul] at R1
  have Dr : Hid (D32 r) := by rw [← HR.out]; exact ndL_D _ _
  have Dn : Hid (D32 n45) := by rw [← HN45.out]; exact ndL_D _ _
  obtain ⟨cr, HCR⟩ : ∃ x, Hid (cellsB r = x) := ⟨_, rfl⟩
  obtain ⟨cn, HCN⟩ : ∃ x, Hid (cellsB n45 = x) := ⟨_, rfl⟩
  have HSr := hid (size_dig Dr.out)
  have HSn := hid (size_dig Dn.out)
  rw [hn7]
  clear hO5 hT hB5 CB hr0 hr1 hr2 HDs4
  have CNW := hid (pnew_ok w5 3 r Dr.out (by decide) (by decide) (HKC.out.below BL5.out))
  rw [show ((3 : Nat) : Int) = (3 : Int) from rfl, HCR.out] at CNW
  go_wp2_with (first | (refine wpList_load_mid rfl 28 _ rfl gN 0 rfl (dc r) _ R0.out Tryd.underlying28 rfl HSr.out ?_; rw [dc_arr, HCR.out]) | fail)
  refine CNW.out.mono ?_
  rintro e w6 (⟨hbad, _⟩ | ⟨L, g, bm, hL, hL1, hL2, rfl, hg, hbm, hP6, hB6⟩)
  · exact absurd ⟨by decide, by decide⟩ hbad
  obtain rfl : L = 3 := by omega
  rw [show wdN 3 = 4 from rfl, newF34] at hP6
  obtain ⟨pd, HPD⟩ : ∃ x, Hid (pdL 3 = x) := ⟨_, rfl⟩
  rw [HPD.out] at hP6 HN67
  have HP6 := hid hP6
  have BL6 := hid (BL5.out.trans (hB6.mono BL5.out.size))
  have R16 := hid (range_below R1.out hB6 hgl)
  have hgNg : gN < w5.heap.size := hgl
  have CND := hid (ne_ok w6 g bm 3 2 (K34 r pd) HP6.out (by decide) (by decide) rfl (by decide) 0 (by decide))
  rw [show chL 2 (wdN 3 + 0) = chL 2 (4 + 0) from rfl, needs34, show ((0 : Nat) : Int) = (0 : Int) from rfl] at CND
  clear hP6 hB6 CNW hL hL1 hL2
  go_wp2_with fail
  refine CND.out.mono ?_
  rintro e w7 ⟨v7, rfl, hv7, hB7⟩
  have HP7 := hid (HP6.out.below hB7)
  have BL7 := hid (BL6.out.trans (hB7.mono BL6.out.size))
  have hgN6 : gN < w6.heap.size := by have := World.block_lt_of_cell? w6 _ (R16.out 0 _ (List.getElem?_eq_getElem (by rw [dc_length, Dn.out.1]; decide))); exact this
  have R17 := hid (range_below R16.out hB7 hgN6)
  have hgN7 : gN < w7.heap.size := Nat.lt_of_lt_of_le hgN6 hB7.size
  obtain ⟨p7, c7, rfl, hc7⟩ := hv7
  obtain ⟨b7, o7, rfl, hcell⟩ := hc7 (by decide)
  have hx0 : w7.cell? ⟨b7, o7, none⟩ = some (.int .i64 5) := hcell 0 (by decide)
  have hx1 : w7.cell? ⟨b7, o7 + 1, none⟩ = some (.int .i64 3) := hcell 1 (by decide)
  clear hB7 CND hcell hc7
  simp only [List.length_cons, List.length_nil, Nat.zero_add, Nat.reduceAdd]
  go_wp2_with fail
  refine (L0.out w7).mono ?_
  rintro e w8 ⟨rfl, hB8⟩
  have HP8 := hid (HP7.out.below hB8)
  have BL8 := hid (BL7.out.trans (hB8.mono BL7.out.size))
  have R18 := hid (range_below R17.out hB8 hgN7)
  have hgN8 : gN < w8.heap.size := Nat.lt_of_lt_of_le hgN7 hB8.size
  clear hB8 hx0 hx1
  have hbn4 := fun w => run_build_node w 4 a DA.out
  rw [HCA.out] at hbn4
  have HBN4 := hid hbn4
  clear hbn4
  go_wp2_with (first | (refine wpList_build_run rfl 60 _ rfl #[(0, .int .i64 4), (1, .agg ca)] (by go_simp) _ (HBN4.out _) ?_) | fail)
  refine (L1.out w8).mono ?_
  rintro e w9 ⟨rfl, hB9⟩
  have HP9 := hid (HP8.out.below hB9)
  have BL9 := hid (BL8.out.trans (hB9.mono BL8.out.size))
  have R19 := hid (range_below R18.out hB9 hgN8)
  have hgN9 : gN < w9.heap.size := Nat.lt_of_lt_of_le hgN8 hB9.size
  clear hB9
  have hbn5 := fun w => run_build_node w 5 b DB.out
  rw [HCB.out] at hbn5
  have hND : ∀ n ∈ [((4 : Int), a), ((5 : Int), b)], Nd n := fun n hn => by
    simp at hn
    rcases hn with rfl | rfl
    · exact ⟨DA.out, by simp, by simp⟩
    · exact ⟨DB.out, by simp, by simp⟩
  have hlit := run_lit_nodes w9 [((4 : Int), a), ((5 : Int), b)] hND (by simp) (by simp)
  simp only [List.length_cons, List.length_nil, Nat.zero_add, Nat.reduceAdd, List.map_cons, List.map_nil, List.zipIdx_cons, List.zipIdx_nil] at hlit
  obtain ⟨W10, hW10⟩ : ∃ W4, Hid (w9.alloc (.cells ([((4 : Int), a), ((5 : Int), b)].flatMap nc).toArray 60) = W4) := ⟨_, rfl⟩
  rw [hW10.out] at hlit
  have HB10 : Hid (Below w9.heap.size w9 W10) := by rw [← hW10.out]; exact (Below.refl _ w9).alloc (Nat.le_refl _) _
  have HV10 : Hid (HNd W10 (.slice (some ⟨w9.heap.size, 0, none⟩) 2 2) [((4 : Int), a), ((5 : Int), b)]) := by
    refine HNd.of_block (ns := [((4 : Int), a), ((5 : Int), b)]) ?_ hND (by simp)
    rw [← hW10.out]
    exact heap_alloc_new w9 _
  have BL10 := hid (BL9.out.trans (HB10.out.mono BL9.out.size))
  have CP1 := hid (put_any W10 g bm 3 4 (K34 r pd) _ [((4 : Int), a), ((5 : Int), b)] (HP9.out.below HB10.out) (by decide) (by decide) HV10.out (HKC.out.below BL10.out))
  obtain ⟨nn4, HN4⟩ : ∃ x, Hid ((nc (4, a)).toArray = x) := ⟨_, rfl⟩
  obtain ⟨nn5, HN5⟩ : ∃ x, Hid ((nc (5, b)).toArray = x) := ⟨_, rfl⟩
  rw [HN4.out, HN5.out] at hlit
  rw [HN5.out] at hbn5
  rw [HN4.out]
  unfold PutQ at CP1
  rw [put34_loose] at CP1
  have HLIT := hid hlit
  have HBN5 := hid hbn5
  clear hND hlit hbn5
  go_wp2_with (first | (refine wpList_build_run rfl 60 _ rfl #[(0, .int .i64 5), (1, .agg cb)] (by go_simp) _ (HBN5.out _) ?_) | (refine wpList_lit_run rfl 53 2 _ rfl #[(0, .agg nn4), (1, .agg nn5)] (by go_simp) _ _ HLIT.out ?_) | fail)
  refine CP1.out.mono ?_
  rintro e w11 ⟨rfl, hP11, hG11⟩
  have HP11 := hid hP11
  have hwbm : w.heap.size ≤ bm := Nat.le_trans BL5.out.size hbm
  have hwg : w.heap.size ≤ g := Nat.le_trans BL5.out.size hg
  have BL11 := hid (BL10.out.trans (pgrown_below hG11 hwbm BL10.out.size))
  have hgNb : gN ≠ bm := by omega
  have R111 : Hid (w11.rangeAt gN 32 (dc n45)) := by
    have q1 := range_below R19.out HB10.out hgN9
    intro j v hj
    rw [World.cell?_of_block (w := W10) (hG11.block gN (Nat.lt_of_lt_of_le hgN9 HB10.out.size) (fun e => hgNb (by cases e; rfl)))]
    exact q1 j v hj
  have hgN11 : gN < w11.heap.size := Nat.lt_of_lt_of_le (Nat.lt_of_lt_of_le hgN9 HB10.out.size) hG11.size
  clear hP11 hG11 CP1
  have hbn6 := fun w => run_build_node w 6 c DC.out
  have hbn2 := fun w => run_build_node w 2 n45 Dn.out
  obtain ⟨nn6, HN6⟩ : ∃ x, Hid ((nc (6, c)).toArray = x) := ⟨_, rfl⟩
  obtain ⟨nn2, HN2⟩ : ∃ x, Hid ((nc (2, n45)).toArray = x) := ⟨_, rfl⟩
  rw [HCC.out, HN6.out] at hbn6
  rw [HCN.out, HN2.out] at hbn2
  have hND2 : ∀ n ∈ [((6 : Int), c), ((2 : Int), n45)], Nd n := fun n hn => by
    simp at hn
    rcases hn with rfl | rfl
    · exact ⟨DC.out, by simp, by simp⟩
    · exact ⟨Dn.out, by simp, by simp⟩
  have HLT : Hid (∀ w, (Instr.buildSlice 53 2 #[(0, .agg nn6), (1, .agg nn2)]).run Tryd.prog w = .ok (.slice (some ⟨w.heap.size, 0, none⟩) 2 2) (w.alloc (.cells ([((6 : Int), c), ((2 : Int), n45)].flatMap nc).toArray 60))) := fun w => by
    have hlit := run_lit_nodes w [((6 : Int), c), ((2 : Int), n45)] hND2 (by simp) (by simp)
    simp only [List.length_cons, List.length_nil, Nat.zero_add, Nat.reduceAdd, List.map_cons, List.map_nil, List.zipIdx_cons, List.zipIdx_nil] at hlit
    rw [HN6.out, HN2.out] at hlit
    exact hlit
  have HND2 := hid hND2
  have HBN6 := hid hbn6
  have HBN2 := hid hbn2
  clear hND2 hbn6 hbn2
  go_wp2
  refine wp_region_held_drew (S := fun W' => W'.rangeAt gN 32 (dc n45)) (by kernel_rfl) R111.out (fun hHeld => ?_)
  have HS := hid hHeld
  clear hHeld
  change wpAnyH _ _ _ _ _ _ _ _ (World.drew _)
  refine wpAnyH_take (i := 0) (v := ?_) rfl (by kernel_rfl) (by kernel_rfl) (by kernel_rfl) (fun _ _ _ h => h) (Or.inl ⟨by rfl, ?q0⟩) HS.out ?_
  case q0 => intro w hSw; go_simp; rfl
  simp only [Act.put, List.getElem_toArray, List.getElem_cons_zero, List.getElem_cons_succ, List.setIfInBounds_toArray, List.set_cons_zero, List.set_cons_succ]
  refine wpAnyH_take (i := 3) (v := ?_) rfl (by kernel_rfl) (by kernel_rfl) (by kernel_rfl) (fun _ _ _ h => h) (Or.inl ⟨by rfl, ?q3⟩) HS.out ?_
  case q3 => intro w hSw; go_simp; rfl
  simp only [Act.put, List.getElem_toArray, List.getElem_cons_zero, List.getElem_cons_succ, List.setIfInBounds_toArray, List.set_cons_zero, List.set_cons_succ]
  refine wpAnyH_take (i := 4) (v := .pointer (some ⟨gN, 32, none⟩)) rfl (by kernel_rfl) (by kernel_rfl) (by kernel_rfl) (fun _ _ _ h => h) (Or.inl ⟨by rfl, ?q4⟩) HS.out ?_
  case q4 => intro w hSw; go_simp
  simp only [Act.put, List.getElem_toArray, List.getElem_cons_zero, List.getElem_cons_succ, List.setIfInBounds_toArray, List.set_cons_zero, List.set_cons_succ]
  refine wpAnyH_take (i := 5) rfl (by kernel_rfl) (by kernel_rfl) (by kernel_rfl) (fun _ _ _ h => h) (yieldsIf_load_mid (by rfl) 28 _ rfl gN 32 rfl (dc n45) _ (fun W hW => hW) Tryd.underlying28 rfl HSn.out) HS.out ?_
  simp only [Act.put, List.getElem_toArray, List.getElem_cons_zero, List.getElem_cons_succ, List.setIfInBounds_toArray, List.set_cons_zero, List.set_cons_succ]
  rw [dc_arr, HCN.out]
  refine wpAnyH_take (i := 6) rfl (by kernel_rfl) (by kernel_rfl) (by kernel_rfl) (fun _ _ _ h => h) (yieldsIf_build (by rfl) 60 _ rfl #[(0, .int .i64 2), (1, .agg cn)] (by go_simp) (.agg nn2) HBN2.out) HS.out ?_
  simp only [Act.put, List.getElem_toArray, List.getElem_cons_zero, List.getElem_cons_succ, List.setIfInBounds_toArray, List.set_cons_zero, List.set_cons_succ]
  refine wpAnyH_ready (rs := [1]) (by kernel_rfl) (by simp) ?_
  refine AllReadyH.cons rfl (fun K hK => ?_) AllReadyH.nil
  go_simp
  refine (L2.out _).mono ?_
  rintro e w12 ⟨rfl, hB12⟩
  have HP12 := hid ((show HPf w11.drew g bm 3 4 (K34 r pd) from HP11.out.of rfl rfl).below hB12)
  have BL12 := hid (BL11.out.drew.trans (hB12.mono BL11.out.size))
  have R112 := hid (range_below (show w11.drew.rangeAt gN 32 (dc n45) from R111.out) hB12 hgN11)
  have hgN12 : gN < w12.heap.size := Nat.lt_of_lt_of_le hgN11 hB12.size
  clear hB12
  refine hK.out _ _ R112.out (fun _ => ?_)
  clear hK K
  have HS := hid R112.out
  refine wpAnyH_take (i := 2) rfl (by kernel_rfl) (by kernel_rfl) (by kernel_rfl) (fun _ _ _ h => h) (yieldsIf_build (by rfl) 60 _ rfl #[(0, .int .i64 6), (1, .agg cc)] (by go_simp) (.agg nn6) HBN6.out) HS.out ?_
  simp only [Act.put, List.getElem_toArray, List.getElem_cons_zero, List.getElem_cons_succ, List.setIfInBounds_toArray, List.set_cons_zero, List.set_cons_succ]
  refine wpAnyH_ready (rs := [7]) (by kernel_rfl) (by simp) ?_
  refine AllReadyH.cons rfl (fun K hK => ?_) AllReadyH.nil
  have hlit := HLT.out w12
  obtain ⟨W13, hW13⟩ : ∃ W4, Hid (w12.alloc (.cells ([((6 : Int), c), ((2 : Int), n45)].flatMap nc).toArray 60) = W4) := ⟨_, rfl⟩
  rw [hW13.out] at hlit
  refine wp_lit_run 53 2 _ rfl #[(0, .agg nn6), (1, .agg nn2)] (by go_simp) _ _ hlit ?_
  have HB13 : Hid (Below w12.heap.size w12 W13) := by rw [← hW13.out]; exact (Below.refl _ w12).alloc (Nat.le_refl _) _
  have R113 := hid (range_below R112.out HB13.out hgN12)
  refine hK.out _ _ R113.out (fun _ => ?_)
  clear hK K
  clear hlit
  have HS := hid R113.out
  have HV13 : Hid (HNd W13 (.slice (some ⟨w12.heap.size, 0, none⟩) 2 2) [((6 : Int), c), ((2 : Int), n45)]) := by
    refine HNd.of_block (ns := [((6 : Int), c), ((2 : Int), n45)]) ?_ HND2.out (by simp)
    rw [← hW13.out]
    exact heap_alloc_new w12 _
  have BL13 := hid (BL12.out.trans (HB13.out.mono BL12.out.size))
  have CP2 := hid (put_any W13 g bm 3 4 (K34 r pd) _ [((6 : Int), c), ((2 : Int), n45)] (HP12.out.below HB13.out) (by decide) (by decide) HV13.out (HKC.out.below BL13.out))
  unfold PutQ at CP2
  rw [put34_ok n45 n67 c pd r HN67.out.symm HR.out.symm] at CP2
  refine wpAnyH_ready (rs := [8]) (by kernel_rfl) (by simp) ?_
  refine AllReadyH.cons rfl (fun K hK => ?_) AllReadyH.nil
  go_simp
  refine CP2.out.mono ?_
  rintro e w14 ⟨rfl, hP14, hG14⟩
  have HP14 := hid hP14
  have BL14 := hid (BL13.out.trans (pgrown_below hG14 hwbm BL13.out.size))
  have R114 : Hid (w14.rangeAt gN 32 (dc n45)) := by
    intro j v hj
    rw [World.cell?_of_block (w := W13) (hG14.block gN (Nat.lt_of_lt_of_le hgN12 HB13.out.size) (fun e => hgNb (by cases e; rfl)))]
    exact R113.out j v hj
  clear hP14 hG14 CP2
  refine hK.out _ _ R114.out (fun _ => ?_)
  clear hK K
  have HS := hid R114.out
  refine wpAnyH_take (i := 9) (v := ?_) rfl (by kernel_rfl) (by kernel_rfl) (by kernel_rfl) (fun _ _ _ h => h) (Or.inl ⟨by rfl, ?q9⟩) HS.out ?_
  case q9 => intro w hSw; go_simp; rfl
  simp only [Act.put, List.getElem_toArray, List.getElem_cons_zero, List.getElem_cons_succ, List.setIfInBounds_toArray, List.set_cons_zero, List.set_cons_succ]
  refine wpAnyH_done (by kernel_rfl) ?_ _
  have CL2 := hid (lf_any w14 g bm 3 4 _ HP14.out (by decide) (by decide) 2)
  have CL0 := hid (fun (w' : World) (h : Below w14.heap.size w14 w') => lf_any w' g bm 3 4 _ (HP14.out.below h) (by decide) (by decide) 0)
  have e1 : lfAt (kset (kset (kset (K34 r pd) 6 c) 2 n45) 3 n67) 3 4 2 = c := rfl
  have e2 : lfIs (kset (kset (kset (K34 r pd) 6 c) 2 n45) 3 n67) 3 4 2 = true := rfl
  have e3 : lfAt (kset (kset (kset (K34 r pd) 6 c) 2 n45) 3 n67) 3 4 0 = zeros32 := rfl
  have e4 : lfIs (kset (kset (kset (K34 r pd) 6 c) 2 n45) 3 n67) 3 4 0 = false := rfl
  obtain ⟨zd, HZD⟩ : ∃ zd, Hid (cellsB zeros32 = zd) := ⟨_, rfl⟩
  rw [e1, e2, HCC.out] at CL2
  rw [e3, e4, HZD.out] at CL0
  have hzs : zd.size = 32 := by rw [← HZD.out, cellsB_size, zeros32_length]
  have hcs : cc.size = 32 := by rw [← HCC.out, cellsB_size, DC.out.1]
  have SZ : Hid ((Tryd.prog.info? 28).map (·.size) = some zd.size) := by rw [hzs]; exact size_digest
  have SC : Hid ((Tryd.prog.info? 28).map (·.size) = some cc.size) := by rw [hcs]; exact size_digest
  have O1 : Hid (zd.all (·.oneCell') = true) := by rw [← HZD.out]; exact cellsB_one _
  have O2 : Hid (cc.all (·.oneCell') = true) := by rw [← HCC.out]; exact cellsB_one _
  have HZC : Hid (zd.size = cc.size) := by refine hid ?_; rw [hzs, hcs]
  clear e1 e2 e3 e4 hzs hcs
  go_wp2_with fail
  refine CL2.out.mono ?_
  rintro e w15 ⟨rfl, hB15⟩
  have B15 := hid hB15
  clear hB15 CL2
  obtain ⟨W16, hW16⟩ : ∃ W16, Hid (w15.alloc (.cells cc 28) = W16) := ⟨_, rfl⟩
  have HB16 : Hid (Below w15.heap.size w15 W16) := by rw [← hW16.out]; exact (Below.refl _ w15).alloc (Nat.le_refl _) _
  have HR16 : Hid (W16.heap[w15.heap.size]? = some (.cells cc 28 (0, 0))) := by rw [← hW16.out]; exact heap_alloc_new w15 _
  have B16 := hid (B15.out.trans (HB16.out.mono B15.out.size))
  go_wp2_with (first | (refine wpList_alloc_digest rfl rfl ?_; rw [HZD.out]) | (refine wpList_store_row rfl 28 _ _ rfl w15.heap.size cc rfl rfl 28 zd (heap_alloc_new w15 _) SC.out HZC.out O2.out ?_; rw [setRow_alloc_new', hW16.out]) | fail)
  refine (CL0.out W16 B16.out).mono ?_
  rintro e w17 ⟨rfl, hB17⟩
  have HR17 : Hid (w17.heap[w15.heap.size]? = some (.cells cc 28 (0, 0))) := (hB17.block _ (Array.getElem?_eq_some_iff.1 HR16.out).1).trans HR16.out
  have B17 := hid (B16.out.trans (hB17.mono B16.out.size))
  clear hB17 CL0
  obtain ⟨W18, hW18⟩ : ∃ W18, Hid (w17.alloc (.cells zd 28) = W18) := ⟨_, rfl⟩
  have HB18 : Hid (Below w17.heap.size w17 W18) := by rw [← hW18.out]; exact (Below.refl _ w17).alloc (Nat.le_refl _) _
  have HR18 : Hid (W18.heap[w15.heap.size]? = some (.cells cc 28 (0, 0))) := (HB18.out.block _ (Array.getElem?_eq_some_iff.1 HR17.out).1).trans HR17.out
  have B18 := hid (B17.out.trans (HB18.out.mono B17.out.size))
  have BL18 := hid (BL14.out.trans (B18.out.mono BL14.out.size))
  have HX18 : Hid (W18.rangeAt w15.heap.size 0 (dc c)) := fun j v hj => by
    rw [Nat.zero_add, cell_of_row W18 w15.heap.size j _ _ _ HR18.out, ← HCC.out, ← dc_arr, List.getElem?_toArray]
    exact hj
  have hl18 : w15.heap.size < W18.heap.size := (Array.getElem?_eq_some_iff.1 HR18.out).1
  have HSc := hid (size_dig DC.out)
  have hq := fun w => run_eql_bytes w 32 28 Tryd.underlying28 c c DC.out.1 DC.out.1
  rw [show decide (c = c) = true by simp, HCC.out] at hq
  go_wp2_with (first | (refine wpList_alloc_digest rfl rfl ?_; rw [HZD.out]) | (refine wpList_store_row rfl 28 _ _ rfl w17.heap.size zd rfl rfl 28 zd (heap_alloc_new w17 _) SZ.out rfl O1.out ?_; rw [setRow_alloc_new', hW18.out]) | fail)
  refine wp_region_held_drew (S := fun W' => W'.rangeAt w15.heap.size 0 (dc c)) (by kernel_rfl) HX18.out (fun hHeld => ?_)
  have HS := hid hHeld
  clear hHeld
  change wpAnyH _ _ _ _ _ _ _ _ (World.drew _)
  refine wpAnyH_take (i := 0) (v := ?_) rfl (by kernel_rfl) (by kernel_rfl) (by kernel_rfl) (fun _ _ _ h => h) (Or.inl ⟨by rfl, ?q0⟩) HS.out ?_
  case q0 => intro w hSw; go_simp; rfl
  simp only [Act.put, List.getElem_toArray, List.getElem_cons_zero, List.getElem_cons_succ, List.setIfInBounds_toArray, List.set_cons_zero, List.set_cons_succ]
  refine wpAnyH_take (i := 1) (v := .bool true) rfl (by kernel_rfl) (by kernel_rfl) (by kernel_rfl) (fun _ _ _ h => h) (Or.inl ⟨by rfl, ?q1⟩) HS.out ?_
  case q1 => intro w hSw; go_simp
  simp only [Act.put, List.getElem_toArray, List.getElem_cons_zero, List.getElem_cons_succ, List.setIfInBounds_toArray, List.set_cons_zero, List.set_cons_succ]
  refine wpAnyH_take (i := 2) (v := ?_) rfl (by kernel_rfl) (by kernel_rfl) (by kernel_rfl) (fun _ _ _ h => h) (Or.inl ⟨by rfl, ?q2⟩) HS.out ?_
  case q2 => intro w hSw; go_simp; rfl
  simp only [Act.put, List.getElem_toArray, List.getElem_cons_zero, List.getElem_cons_succ, List.setIfInBounds_toArray, List.set_cons_zero, List.set_cons_succ]
  refine wpAnyH_take (i := 3) (v := ?_) rfl (by kernel_rfl) (by kernel_rfl) (by kernel_rfl) (fun _ _ _ h => h) (Or.inl ⟨by rfl, ?q3⟩) HS.out ?_
  case q3 => intro w hSw; go_simp; rfl
  simp only [Act.put, List.getElem_toArray, List.getElem_cons_zero, List.getElem_cons_succ, List.setIfInBounds_toArray, List.set_cons_zero, List.set_cons_succ]
  refine wpAnyH_take (i := 4) (v := ?_) rfl (by kernel_rfl) (by kernel_rfl) (by kernel_rfl) (fun _ _ _ h => h) (Or.inl ⟨by rfl, ?q4⟩) HS.out ?_
  case q4 => intro w hSw; go_simp; rfl
  simp only [Act.put, List.getElem_toArray, List.getElem_cons_zero, List.getElem_cons_succ, List.setIfInBounds_toArray, List.set_cons_zero, List.set_cons_succ]
  refine wpAnyH_take (i := 5) (v := ?_) rfl (by kernel_rfl) (by kernel_rfl) (by kernel_rfl) (fun _ _ _ h => h) (Or.inl ⟨by rfl, ?q5⟩) HS.out ?_
  case q5 => intro w hSw; go_simp; rfl
  simp only [Act.put, List.getElem_toArray, List.getElem_cons_zero, List.getElem_cons_succ, List.setIfInBounds_toArray, List.set_cons_zero, List.set_cons_succ]
  refine wpAnyH_take (i := 6) rfl (by kernel_rfl) (by kernel_rfl) (by kernel_rfl) (fun _ _ _ h => h) (yieldsIf_load_mid (by rfl) 28 _ rfl w15.heap.size 0 rfl (dc c) _ (fun W hW => hW) Tryd.underlying28 rfl HSc.out) HS.out ?_
  simp only [Act.put, List.getElem_toArray, List.getElem_cons_zero, List.getElem_cons_succ, List.setIfInBounds_toArray, List.set_cons_zero, List.set_cons_succ]
  rw [dc_arr, HCC.out]
  refine wpAnyH_ready (rs := [7]) (by kernel_rfl) (by simp) ?_
  refine AllReadyH.cons rfl (fun K hK => ?_) AllReadyH.nil
  go_simp
  refine (L2.out _).mono ?_
  rintro e w19 ⟨rfl, hB19⟩
  have HX19 := hid (range_below (show W18.drew.rangeAt w15.heap.size 0 (dc c) from HX18.out) hB19 hl18)
  have BL19 := hid (BL18.out.drew.trans (hB19.mono BL18.out.size))
  clear hB19
  refine hK.out _ _ HX19.out (fun _ => ?_)
  clear hK K
  have HS := hid HX19.out
  refine wpAnyH_take (i := 8) (v := .bool true) rfl (by kernel_rfl) (by kernel_rfl) (by kernel_rfl) (fun _ _ _ h => h) (Or.inl ⟨by rfl, ?q8⟩) HS.out ?_
  case q8 => intro w hSw; go_simp
  simp only [Act.put, List.getElem_toArray, List.getElem_cons_zero, List.getElem_cons_succ, List.setIfInBounds_toArray, List.set_cons_zero, List.set_cons_succ]
  refine wpAnyH_take (i := 9) (v := ?_) rfl (by kernel_rfl) (by kernel_rfl) (by kernel_rfl) (fun _ _ _ h => h) (Or.inl ⟨by rfl, ?q9⟩) HS.out ?_
  case q9 => intro w hSw; go_simp; rfl
  simp only [Act.put, List.getElem_toArray, List.getElem_cons_zero, List.getElem_cons_succ, List.setIfInBounds_toArray, List.set_cons_zero, List.set_cons_succ]
  refine wpAnyH_take (i := 10) (v := ?_) rfl (by kernel_rfl) (by kernel_rfl) (by kernel_rfl) (fun _ _ _ h => h) (Or.inl ⟨by rfl, ?q10⟩) HS.out ?_
  case q10 => intro w hSw; go_simp; rfl
  simp only [Act.put, List.getElem_toArray, List.getElem_cons_zero, List.getElem_cons_succ, List.setIfInBounds_toArray, List.set_cons_zero, List.set_cons_succ]
  refine wpAnyH_take (i := 11) (v := ?_) rfl (by kernel_rfl) (by kernel_rfl) (by kernel_rfl) (fun _ _ _ h => h) (Or.inl ⟨by rfl, ?q11⟩) HS.out ?_
  case q11 => intro w hSw; go_simp; rfl
  simp only [Act.put, List.getElem_toArray, List.getElem_cons_zero, List.getElem_cons_succ, List.setIfInBounds_toArray, List.set_cons_zero, List.set_cons_succ]
  refine wpAnyH_take (i := 12) (v := .bool true) rfl (by kernel_rfl) (by kernel_rfl) (by kernel_rfl) (fun _ _ _ h => h) (Or.inl ⟨by rfl, ?q12⟩) HS.out ?_
  case q12 => intro w hSw; go_simp
  simp only [Act.put, List.getElem_toArray, List.getElem_cons_zero, List.getElem_cons_succ, List.setIfInBounds_toArray, List.set_cons_zero, List.set_cons_succ]
  refine wpAnyH_take (i := 13) (v := ?_) rfl (by kernel_rfl) (by kernel_rfl) (by kernel_rfl) (fun _ _ _ h => h) (Or.inl ⟨by rfl, ?q13⟩) HS.out ?_
  case q13 => intro w hSw; go_simp; rfl
  simp only [Act.put, List.getElem_toArray, List.getElem_cons_zero, List.getElem_cons_succ, List.setIfInBounds_toArray, List.set_cons_zero, List.set_cons_succ]
  refine wpAnyH_take (i := 14) (v := ?_) rfl (by kernel_rfl) (by kernel_rfl) (by kernel_rfl) (fun _ _ _ h => h) (Or.inl ⟨by rfl, ?q14⟩) HS.out ?_
  case q14 => intro w hSw; go_simp; rfl
  simp only [Act.put, List.getElem_toArray, List.getElem_cons_zero, List.getElem_cons_succ, List.setIfInBounds_toArray, List.set_cons_zero, List.set_cons_succ]
  refine wpAnyH_done (by kernel_rfl) ?_ _
  go_wp2
  go_ret
  exact ⟨rfl, BL19.out⟩
end Go.Proofs.YtjmlpkemjafifaaDoor
