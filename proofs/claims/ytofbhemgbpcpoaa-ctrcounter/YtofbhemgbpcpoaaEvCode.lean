/- The evaluator: operations that write, calls, regions in the text's order, what a function answers. -/
import Derived.Test.YtofbhemgbpcpoaaEvStep
import Derived.Laws.MakeOwn
import Derived.Laws.IdiomCopy
namespace Go.Proofs.Ytofbhemgbpcpoaa.Ev
open Go Go.RowKit

def newBlk (l : List SV) : Blk := ⟨false, l.all SV.plain, l⟩
def evWrite (P : Program) (t : List AV) (H : List Blk) : Op → Option (AV × List Blk)
  | .alloc T => (evZero P T).map fun l => (.tv (.sc (.ptr H.length 0)), H ++ [newBlk l])
  | .box _ x => (gCells t x).map fun l => (.tv (.sc (.ptr H.length 0)), H ++ [newBlk l])
  | .store T x y => (evStore P t H T x y).map fun H' => (.tup [], H')
  | .buildSlice T len parts =>
    match P.underlying T with
    | some (.slice e) =>
      match rowOf P e, evZero P e, partsOf t parts.toList with
      | some (_, s), some z, some ps =>
        if 0 < len * s ∧ len * s ≤ 1000 ∧ z.length = s then
          (fillA (fun i => some (i * s, s)) ((List.range (len * s)).map fun i => z.getD (i % s) .nilp) ps).map fun l => (.tv (.sc (.sl H.length 0 len len)), H ++ [newBlk l])
        else none
      | _, _, _ => none
    | _ => none
  | .makeSlice T x y =>
    match P.underlying T, gInt t x, gInt t y with
    | some (.slice e), some (_, l), some (_, c) =>
      match P.info? e, evZero P e with
      | some i, some z =>
        if 0 ≤ l ∧ l ≤ c ∧ c ≤ 1000 ∧ 0 < i.size ∧ z.length = i.size ∧ i.bytes ≤ 1000000 then
          some (.tv (.sc (.sl H.length 0 l.toNat c.toNat)), H ++ [newBlk ((List.range (c.toNat * i.size)).map fun j => z.getD (j % i.size) .nilp)])
        else none
      | _, _ => none
    | _, _, _ => none
  | _ => none

theorem rep_ok {ρ : Env} {ms : List Nat} {z : List SV} {z0 : Value} {s : Nat} (hzl : z.map (SV.inst ρ ms) = z0.cells.toList.map some) (hs0 : 0 < s) (hl : z.length = s) (n : Nat) :
    ((List.range n).map fun i => z.getD (i % s) .nilp).map (SV.inst ρ ms) = ((Array.range n).map fun i => z0.cells[i % z0.cells.size]!).toList.map some := by
  have hzs : z0.cells.size = s := by have := congrArg List.length hzl; simp at this; omega
  rw [Array.toList_map, Array.toList_range, List.map_map, List.map_map]
  refine List.map_congr_left fun j hj => ?_
  have hjs : j % s < s := Nat.mod_lt _ hs0
  simp only [Function.comp, hzs]
  have e1 : (z.map (SV.inst ρ ms))[j % s]? = (z0.cells.toList.map some)[j % s]? := by rw [hzl]
  rw [List.getElem?_map, List.getElem?_map, List.getElem?_eq_getElem (show j % s < z.length by omega), List.getElem?_eq_getElem (show j % s < z0.cells.toList.length by simp; omega)] at e1
  simp only [Option.map_some, Option.some.injEq] at e1
  rw [show z.getD (j % s) .nilp = z[j % s]'(by omega) by simp [List.getD, List.getElem?_eq_getElem (show j % s < z.length by omega)], e1]
  simp [getElem!_pos, hzs, hjs]
/-- What the model makes of an operation, as told: the world behind it holds H', and its temporary has v. -/
def Made (P : Program) (ρ : Env) (ms : List Nat) (B : Nat) (a : Act) (w : World) (o : Oper) (v : AV) (H' : List Blk) : Prop :=
  ∃ n u ms' w', (execOp a.eval o).run P w = .ok n w' ∧ ((n = .value u) ∨ (n = .skip ∧ u = undef)) ∧ ms <+: ms' ∧ v.inst ρ ms' = some u ∧ Holds ρ ms' H' B w' ∧ Below B w w'

theorem evWrite_ok {P : Program} {ρ : Env} {ms : List Nat} {t : List AV} {H H' : List Blk} {B : Nat} {a : Act} {o : Oper} {v : AV} {w : World} (hT : RelT ρ ms t a.tmps) (hH : Holds ρ ms H B w) (h : evWrite P t H o.op = some (v, H')) :
    Made P ρ ms B a w o v H' := by
  cases hop : o.op <;> rw [hop] at h <;> simp only [evWrite] at h <;> try (cases h; done)
  case alloc T =>
    rw [Option.map_eq_some_iff] at h
    obtain ⟨l, h1, h2⟩ := h
    simp only [Prod.mk.injEq] at h2
    obtain ⟨rfl, rfl⟩ := h2
    obtain ⟨i, z, hi, hz, hl⟩ := evZero_ok h1
    refine ⟨.value (.pointer (some ⟨w.heap.size, 0, none⟩)), _, ms ++ [w.heap.size], w.alloc (.cells z.cells T), ?_, .inl rfl, List.prefix_append _ _, ?_, ?_, (Below.refl B w).alloc hH.big _⟩
    · simp [execOp, hop, Instr.alloc, zeroValue_run hi hz, newVar, newRow]
    · simp [AV.inst, TV.inst, SV.inst, addr, ← hH.len]
    · have := hH.alloc (hl ρ ms) T
      rw [Array.toArray_toList] at this
      exact this
  case box T x =>
    rw [Option.map_eq_some_iff] at h
    obtain ⟨l, h1, h2⟩ := h
    simp only [Prod.mk.injEq] at h2
    obtain ⟨rfl, rfl⟩ := h2
    obtain ⟨vs, h3, h4⟩ := gCells_ok hT h1
    refine ⟨.value (.pointer (some ⟨w.heap.size, 0, none⟩)), _, ms ++ [w.heap.size], w.alloc (.cells vs.toArray T), ?_, .inl rfl, List.prefix_append _ _, ?_, hH.alloc h3 T, (Below.refl B w).alloc hH.big _⟩
    · simp [execOp, hop, Instr.box, newVar, newRow, h4]
    · simp [AV.inst, TV.inst, SV.inst, addr, ← hH.len]
  case buildSlice T len parts =>
    split at h
    case h_2 => cases h
    rename_i e hu
    split at h
    case h_2 => cases h
    rename_i r s z ps h1 h2 h3
    split at h
    case isFalse => cases h
    rename_i hc
    obtain ⟨hc1, hc2, hc3⟩ := hc
    rw [Option.map_eq_some_iff] at h
    obtain ⟨l, h4, h5⟩ := h
    simp only [Prod.mk.injEq] at h5
    obtain ⟨rfl, rfl⟩ := h5
    obtain ⟨i, z0, hi, hz, hl⟩ := evZero_ok h2
    have hzl := hl ρ ms
    have hzs : z0.cells.size = s := by have := congrArg List.length hzl; simp at this; omega
    have hs0 : 0 < s := by
      rcases Nat.eq_zero_or_pos s with e0 | e0
      · rw [e0, Nat.mul_zero] at hc1; omega
      · exact e0
    have hbase : ((List.range (len * s)).map fun i => z.getD (i % s) .nilp).map (SV.inst ρ ms) = ((Array.range (len * s)).map fun i => z0.cells[i % z0.cells.size]!).toList.map some := by
      rw [Array.toList_map, Array.toList_range, List.map_map, List.map_map]
      refine List.map_congr_left fun j hj => ?_
      have hjs : j % s < s := Nat.mod_lt _ hs0
      simp only [Function.comp, hzs]
      have e1 : (z.map (SV.inst ρ ms))[j % s]? = (z0.cells.toList.map some)[j % s]? := by rw [hzl]
      rw [List.getElem?_map, List.getElem?_map, List.getElem?_eq_getElem (show j % s < z.length by omega), List.getElem?_eq_getElem (show j % s < z0.cells.toList.length by simp; omega)] at e1
      simp only [Option.map_some, Option.some.injEq] at e1
      rw [show z.getD (j % s) .nilp = z[j % s]'(by omega) by simp [List.getD, List.getElem?_eq_getElem (show j % s < z.length by omega)], e1]
      simp [getElem!_pos, hzs, hjs]
    obtain ⟨us, h6, h7⟩ := fill_ok (ρ := ρ) (ms := ms) _ ps _ _ l _ hbase (partsOf_ok hT _ _ h3) h4
    rw [Array.toArray_toList] at h7
    refine ⟨.value (.slice (some ⟨w.heap.size, 0, none⟩) len len), _, ms ++ [w.heap.size], w.alloc (.cells us.toArray e), ?_, .inl rfl, List.prefix_append _ _, ?_, hH.alloc h6 e, (Below.refl B w).alloc hH.big _⟩
    · simp only [execOp, hop, Instr.buildSlice, Sem.run_bind, run_underlying hu, Result.andThen_ok, sizeOf_run h1]
      rw [if_neg (by omega), if_neg (by omega)]
      simp only [Sem.run_bind, Sem.run_pure, Result.andThen_ok, zeroValue_run hi hz, Array.toList_map, h7]
      simp [newRow]
    · simp [AV.inst, TV.inst, SV.inst, ← hH.len]
  case makeSlice T x y =>
    split at h
    case h_2 => cases h
    rename_i e kl l kc c hu h1 h2
    split at h
    case h_2 => cases h
    rename_i i z hi h3
    split at h
    case isFalse => cases h
    rename_i hc
    obtain ⟨c1, c2, c3, c4, c5, c6⟩ := hc
    simp only [Option.some.injEq, Prod.mk.injEq] at h
    obtain ⟨rfl, rfl⟩ := h
    obtain ⟨i', z0, hi', hz, hl⟩ := evZero_ok h3
    rw [hi] at hi'
    cases hi'
    have hb : (i.bytes : Int) * c ≤ 281474976710656 := by
      have h8 : (i.bytes : Int) * c ≤ 1000000 * 1000 := Int.mul_le_mul (by omega) c3 (by omega) (by decide)
      omega
    have hr := run_make (P := P) w T e i z0 hu hi hz kl kc l c c1 c2 hb (by omega)
    have hcells := rep_ok (ρ := ρ) (ms := ms) (hl ρ ms) c4 c5 (c.toNat * i.size)
    refine ⟨.value (.slice (some ⟨w.heap.size, 0, none⟩) l.toNat c.toNat), _, ms ++ [w.heap.size], _, ?_, .inl rfl, List.prefix_append _ _, ?_, ?_, (Below.refl B w).alloc hH.big (.cells (madeCells z0.cells (c.toNat * i.size)) e)⟩
    · simp only [execOp, hop, gInt_ok hT h1, gInt_ok hT h2, Sem.run_bind, hr, Result.andThen_ok, Sem.run_pure]
    · simp [AV.inst, TV.inst, SV.inst, ← hH.len]
    · have := hH.alloc hcells e
      rw [Array.toArray_toList] at this
      exact this
  case store T x y =>
    rw [Option.map_eq_some_iff] at h
    obtain ⟨H1, h1, h2⟩ := h
    simp only [Prod.mk.injEq] at h2
    obtain ⟨rfl, rfl⟩ := h2
    obtain ⟨w', h3, h4, h5⟩ := evStore_ok hT hH h1
    exact ⟨.skip, undef, ms, w', by simp [execOp, hop, h3], .inr ⟨rfl, rfl⟩, List.prefix_refl _, rfl, h4, h5⟩

def evLen (P : Program) (t : List AV) (c : Call) : Option AV :=
  match c.args.toList, c.argTypes.toList with
  | [x], [T] =>
    match P.underlying T, evGet t x with
    | some (.slice _), some (.tv (.sc (.sl _ _ n _))) => some (.tv (.sc (.int .i64 (.lit n))))
    | some (.slice _), some (.tv (.sc (.nils n _))) => some (.tv (.sc (.int .i64 (.lit n))))
    | some (.array n _), some _ => some (.tv (.sc (.int .i64 (.lit n))))
    | _, _ => none
  | _, _ => none
theorem evLen_ok {P : Program} {ρ : Env} {ms : List Nat} {t : List AV} {a : Act} {o : Oper} {c : Call} {v : AV} (hT : RelT ρ ms t a.tmps) (hop : o.op = .call c) (hc : c.callee = .builtin .len) (h : evLen P t c = some v) (w : World) : ∃ u, v.inst ρ ms = some u ∧ (execOp a.eval o).run P w = .ok (.value u) w := by
  unfold evLen at h
  split at h
  case h_2 => cases h
  rename_i x T hx hTy
  have e1 : c.args = #[x] := by rw [← hx, Array.toArray_toList]
  have e2 : c.argTypes = #[T] := by rw [← hTy, Array.toArray_toList]
  have hrun : ∀ u : Value, (Builtin.len_ #[T] o.type #[a.eval x]).run P w = .ok u w → (execOp a.eval o).run P w = .ok (.value u) w := fun u hu => by
    simp only [execOp, hop, resolve, hc, e1, e2, Sem.run_bind, Sem.run_pure, Result.andThen_ok, invoke, builtin, List.map_toArray, List.map_cons, List.map_nil, hu]
  split at h
  · rename_i e m oo n cp hu hg
    simp only [Option.some.injEq] at h
    subst h
    have hv := evGet_ok hT hg
    simp only [AV.inst, TV.inst, SV.inst, Option.map_eq_some_iff] at hv
    obtain ⟨b, _, hv⟩ := hv
    refine ⟨_, rfl, hrun _ ?_⟩
    simp [Builtin.len_, run_underlying hu, ← hv, goInt, Ex.den]
  · rename_i e n cp hu hg
    simp only [Option.some.injEq] at h
    subst h
    have hv := evGet_ok hT hg
    simp only [AV.inst, TV.inst, SV.inst, Option.some.injEq] at hv
    refine ⟨_, rfl, hrun _ ?_⟩
    simp [Builtin.len_, run_underlying hu, ← hv, goInt, Ex.den]
  · rename_i n e av hu hg
    simp only [Option.some.injEq] at h
    subst h
    refine ⟨_, rfl, hrun _ ?_⟩
    simp [Builtin.len_, run_underlying hu, goInt, Ex.den]
  · cases h

def evCopy (P : Program) (t : List AV) (H : List Blk) (c : Call) : Option (AV × List Blk) :=
  match c.args.toList, c.argTypes.toList with
  | [x, y], [T, _] =>
    match P.underlying T, evGet t x, evGet t y with
    | some (.slice e), some (.tv (.sc (.sl n o dl _))), some (.tv (.sc (.sl m p sl _))) =>
      match P.info? e, span H m p (Nat.min sl dl), H[n]? with
      | some i, some l, some k =>
        if i.size = 1 ∧ k.ro = false ∧ 0 < Nat.min sl dl ∧ ((k.cells.drop o).take (Nat.min sl dl)).length = Nat.min sl dl then
          some (.tv (.sc (.int .i64 (.lit (Nat.min sl dl : Nat)))), H.set n ⟨false, k.pl && l.all SV.plain, over k.cells o l⟩)
        else none
      | _, _, _ => none
    | _, _, _ => none
  | _, _ => none
theorem evCopy_ok {P : Program} {ρ : Env} {ms : List Nat} {t : List AV} {H H' : List Blk} {B : Nat} {a : Act} {o : Oper} {c : Call} {v : AV} {w : World} (hT : RelT ρ ms t a.tmps) (hH : Holds ρ ms H B w) (hop : o.op = .call c) (hc : c.callee = .builtin .copy) (h : evCopy P t H c = some (v, H')) :
    Made P ρ ms B a w o v H' := by
  unfold evCopy at h
  split at h
  case h_2 => cases h
  rename_i x y T T' hx hTy
  have e1 : c.args = #[x, y] := by rw [← hx, Array.toArray_toList]
  have e2 : c.argTypes = #[T, T'] := by rw [← hTy, Array.toArray_toList]
  split at h
  case h_2 => cases h
  rename_i e n oo dl dc m p sl sc hu hg1 hg2
  split at h
  case h_2 => cases h
  rename_i i l k hi hsp hk
  split at h
  case isFalse => cases h
  rename_i hcond
  obtain ⟨c1, c2, c3, c4⟩ := hcond
  simp only [Option.some.injEq, Prod.mk.injEq] at h
  obtain ⟨rfl, rfl⟩ := h
  have q1 := evGet_ok hT hg1
  have q2 := evGet_ok hT hg2
  simp only [AV.inst, TV.inst, SV.inst, Option.map_eq_some_iff] at q1 q2
  obtain ⟨b, hb, q1⟩ := q1
  obtain ⟨b2, hb2, q2⟩ := q2
  obtain ⟨vs, r1, r2, r3, r4⟩ := span_ok (hH.sees m) hb2 hsp
  have hll : l.length = vs.length := by have := congrArg List.length r1; simpa using this
  have hle : oo + Nat.min sl dl ≤ k.cells.length := by
    rw [List.length_take, List.length_drop] at c4
    omega
  have hone : ∀ u ∈ vs, u.oneCell' = true := fun u hu => by
    obtain ⟨j, hj, rfl⟩ := List.getElem_of_mem hu
    have e3 : (l.map (SV.inst ρ ms))[j]? = (vs.map some)[j]? := by rw [r1]
    simp only [List.getElem?_map, List.getElem?_eq_getElem hj, List.getElem?_eq_getElem (show j < l.length by omega), Option.map_some, Option.some.injEq] at e3
    exact SV.inst_one e3
  have hth : ∀ j, j < vs.length → (w.cell? ⟨b, oo + j, none⟩).isSome = true ∧ w.frozen? ⟨b, oo + j, none⟩ = false := fun j hj => by
    have hj2 : oo + j < k.cells.length := by omega
    obtain ⟨u, _, h2, h3⟩ := hH.cell n b k hb hk (oo + j) _ (List.getElem?_eq_getElem hj2)
    exact ⟨by rw [h2]; rfl, h3⟩
  have hr := run_copy_cells (P := P) w T T' o.type e b oo dl dc ⟨b2, p, none⟩ sl sc vs hu (by simp [hi, c1]) (by omega) (fun j u hj => by rw [Addr.add_mid]; exact r3 j u hj) (fun j hj => (hth j hj).1) (fun j hj => (hth j hj).2) hone
  refine ⟨.value (goInt vs.length), _, ms, w.setCells b oo vs, ?_, .inl rfl, List.prefix_refl _, ?_, hH.store hb hk r1 (by omega) c2, below_setCells (hH.low n b k hb hk c2) vs oo w w (Below.refl _ _)⟩
  · simp only [execOp, hop, resolve, hc, e1, e2, Sem.run_bind, Sem.run_pure, Result.andThen_ok, invoke, builtin, List.map_toArray, List.map_cons, List.map_nil, ← q1, ← q2, hr]
  · simp only [AV.inst, TV.inst, SV.inst, Ex.den, goInt, r2]

/-- How calls go: the function's number, what it is handed, the blocks. -/
abbrev CallF := Nat → List AV → List Blk → Option (AV × List Blk)
def CallOk (P : Program) (ρ : Env) (call : CallF) : Prop :=
  ∀ g as H v H', call g as H = some (v, H') → ∀ (ms : List Nat) (B : Nat) (w : World) (args : Array Value), as.map (AV.inst ρ ms) = args.toList.map some → Holds ρ ms H B w →
    Calls P g args w fun e w' => ∃ ms' u, e = .returned u ∧ ms <+: ms' ∧ v.inst ρ ms' = some u ∧ Holds ρ ms' H' B w' ∧ Below B w w'

def canCall (P : Program) (g : Nat) : Bool :=
  match P.funcs[g]? with
  | some fn => fn.name != "runtime.NumGoroutine" && fn.body.isSome
  | none => false
def evStepX : Op → CallF → Program → Lore → List AV → List Blk → Option (AV × List Blk)
  | .call c => fun call P _ t H =>
    match c.callee with
    | .value f =>
      match evGet t f, seqO (c.args.toList.map (evGet t)) with
      | some (.tv (.sc (.clo g caps))), some as => if canCall P g then call g (as ++ ptrs caps) H else none
      | _, _ => none
    | .builtin .len => (evLen P t c).map fun v => (v, H)
    | .builtin .copy => evCopy P t H c
    | _ => none
  | .buildSlice T n ps => fun _ P _ t H => evWrite P t H (.buildSlice T n ps)
  | .makeSlice T x y => fun _ P _ t H => evWrite P t H (.makeSlice T x y)
  | .alloc T => fun _ P _ t H => evWrite P t H (.alloc T)
  | .box T x => fun _ P _ t H => evWrite P t H (.box T x)
  | .store T x y => fun _ P _ t H => evWrite P t H (.store T x y)
  | op => fun _ P L t H => (evRead P L t H op).map fun v => (v, H)
def evStep (call : CallF) (P : Program) (L : Lore) (t : List AV) (H : List Blk) (o : Oper) : Option (AV × List Blk) := evStepX o.op call P L t H

theorem wp_of_made {P : Program} {ρ : Env} {ms : List Nat} {B : Nat} {a : Act} {w : World} {o : Oper} {v : AV} {H' : List Blk} (h : Made P ρ ms B a w o v H') {K : Act → World → Prop} {Q : Exit → Act → World → Prop}
    (hK : ∀ ms' u w', ms <+: ms' → v.inst ρ ms' = some u → Holds ρ ms' H' B w' → Below B w w' → K (a.put o.dst u) w') : o.wp P a w K Q := by
  obtain ⟨n, u, ms', w', h1, h2, h3, h4, h5, h6⟩ := h
  unfold Oper.wp
  rw [h1]
  rcases h2 with rfl | ⟨rfl, rfl⟩
  · exact hK ms' u w' h3 h4 h5 h6
  · exact hK ms' _ w' h3 h4 h5 h6

theorem evStep_ok {P : Program} {ρ : Env} {L : Lore} (hL : LoreOk ρ L) {call : CallF} (hc : CallOk P ρ call) {ms : List Nat} {t : List AV} {H H' : List Blk} {B : Nat} {a : Act} {o : Oper} {v : AV} {w : World} (hT : RelT ρ ms t a.tmps) (hH : Holds ρ ms H B w)
    (h : evStep call P L t H o = some (v, H')) {K : Act → World → Prop} {Q : Exit → Act → World → Prop} (hK : ∀ ms' u w', ms <+: ms' → v.inst ρ ms' = some u → Holds ρ ms' H' B w' → Below B w w' → K (a.put o.dst u) w') : o.wp P a w K Q := by
  unfold evStep at h
  have gen : (evRead P L t H o.op).map (fun v => (v, H)) = some (v, H') → o.wp P a w K Q := fun h => by
    rw [Option.map_eq_some_iff] at h
    obtain ⟨v', h1, h2⟩ := h
    simp only [Prod.mk.injEq] at h2
    obtain ⟨rfl, rfl⟩ := h2
    obtain ⟨u, h3, h4⟩ := evRead_ok hL hT h1 w (fun _ _ n _ _ _ => hH.sees n)
    exact wp_of_made ⟨.value u, u, ms, w, h4, .inl rfl, List.prefix_refl _, h3, hH, Below.refl _ _⟩ hK
  cases hop : o.op
  case call c =>
    rw [hop] at h
    simp only [evStepX] at h
    split at h
    case h_4 => cases h
    case h_3 =>
      rename_i hcal
      exact wp_of_made (evCopy_ok hT hH hop hcal h) hK
    case h_2 =>
      rename_i hcal
      rw [Option.map_eq_some_iff] at h
      obtain ⟨v', h1, h2⟩ := h
      simp only [Prod.mk.injEq] at h2
      obtain ⟨rfl, rfl⟩ := h2
      obtain ⟨u, h3, h4⟩ := evLen_ok hT hop hcal h1 w
      exact wp_of_made ⟨.value u, u, ms, w, h4, .inl rfl, List.prefix_refl _, h3, hH, Below.refl _ _⟩ hK
    rename_i f hcal
    split at h
    case h_2 => cases h
    rename_i g caps as h1 h2
    split at h
    case isFalse => cases h
    rename_i hcan
    have e1 := evGet_ok hT h1
    simp only [AV.inst, TV.inst, SV.inst, Option.map_eq_some_iff] at e1
    obtain ⟨cvs, e2, e3⟩ := e1
    rw [seqO_iff] at h2 e2
    have e4 : as.map (AV.inst ρ ms) = (c.args.toList.map a.eval).map some := by
      have key : ∀ (xs : List Operand) (l : List AV), xs.map (evGet t) = l.map some → l.map (AV.inst ρ ms) = (xs.map a.eval).map some := by
        intro xs
        induction xs with
        | nil => intro l hl; cases l <;> simp at hl ⊢
        | cons x xs ih =>
          intro l hl
          cases l with
          | nil => simp at hl
          | cons p l =>
            simp only [List.map_cons, List.cons.injEq] at hl ⊢
            exact ⟨evGet_ok hT hl.1, ih l hl.2⟩
      exact key _ _ h2
    have e5 : (ptrs caps).map (AV.inst ρ ms) = cvs.map some := by
      unfold ptrs
      rw [List.map_map, ← e2]
      rfl
    unfold canCall at hcan
    split at hcan
    case h_2 => cases hcan
    rename_i fn hfn
    simp only [Bool.and_eq_true, bne_iff_ne, ne_eq] at hcan
    have hrun : (execOp a.eval o).run P w = .ok (.enter g (c.args.map a.eval ++ cvs.toArray)) w := by
      simp only [execOp, hop, resolve, hcal, ← e3, Deferred.ofValue, Sem.run_bind, Sem.run_pure, Result.andThen_ok, invoke, callFunc, program, Sem.run, hfn]
      have hn : (fn.name == "runtime.NumGoroutine") = false := by simpa using hcan.1
      have hb : fn.body.isNone = false := by cases hq : fn.body <;> simp [hq] at hcan ⊢
      simp [hn, hb]
    unfold Oper.wp
    rw [hrun]
    simp only [Oper.upon]
    refine (hc g _ H v H' h ms B w (c.args.map a.eval ++ cvs.toArray) ?_ hH).mono ?_
    · rw [List.map_append, e4, e5]; simp
    · rintro e w' ⟨ms', u, rfl, q1, q2, q3, q4⟩
      exact hK ms' u w' q1 q2 q3 q4
  case makeSlice T x y =>
    rw [hop] at h
    exact wp_of_made (evWrite_ok hT hH (by rw [hop]; exact h)) hK
  case buildSlice T n ps =>
    rw [hop] at h
    exact wp_of_made (evWrite_ok hT hH (by rw [hop]; exact h)) hK
  case alloc T =>
    rw [hop] at h
    exact wp_of_made (evWrite_ok hT hH (by rw [hop]; exact h)) hK
  case box T x =>
    rw [hop] at h
    exact wp_of_made (evWrite_ok hT hH (by rw [hop]; exact h)) hK
  case store T x y =>
    rw [hop] at h
    exact wp_of_made (evWrite_ok hT hH (by rw [hop]; exact h)) hK
  all_goals
    rw [hop] at h
    exact gen (by rw [hop]; exact h)

def wantA (ops : Array Oper) (t : List AV) (o : Oper) : Option Bool :=
  match o.guard with
  | none => some true
  | some (j, want) =>
    match (ops[j]?).bind (·.dst) with
    | some d =>
      match t[d]? with
      | some (.tv (.sc (.bool b))) => some (b == want)
      | some (.tup []) => some false
      | _ => none
    | none => none
theorem wantA_ok {ρ : Env} {ms : List Nat} {ops : Array Oper} {t : List AV} {a : Act} {o : Oper} {b : Bool} (hT : RelT ρ ms t a.tmps) (h : wantA ops t o = some b) : Region.wanted o (yielded ops a.tmps) = b := by
  unfold wantA at h
  unfold Region.wanted
  split at h
  · rename_i hg; rw [hg]; simpa using h
  · rename_i j want hg
    rw [hg]
    simp only
    split at h
    case h_2 => cases h
    rename_i d hd
    split at h
    · rename_i b' ht
      obtain ⟨u, h1, h2⟩ := hT.get ht
      simp only [AV.inst, TV.inst, SV.inst, Option.some.injEq] at h2
      simp only [Option.some.injEq] at h
      subst h h2
      simp [yielded, hd, h1]
    · rename_i ht
      obtain ⟨u, h1, h2⟩ := hT.get ht
      simp only [AV.inst, List.map_nil, seqO, Option.map_some, Option.some.injEq] at h2
      simp only [Option.some.injEq] at h
      subst h h2
      simp [yielded, hd, h1]
    · cases h

def putA (t : List AV) (d : Option Nat) (v : AV) : List AV := match d with | some d => t.set d v | none => t
theorem RelT.putA {ρ : Env} {ms : List Nat} {t : List AV} {a : Act} (h : RelT ρ ms t a.tmps) (d : Option Nat) {x : AV} {v : Value} (hx : x.inst ρ ms = some v) : RelT ρ ms (putA t d x) (a.put d v).tmps := by
  cases d with
  | none => exact h
  | some d => exact h.put d hx
theorem put_defers (a : Act) (d : Option Nat) (v : Value) : (a.put d v).defers = a.defers := by cases d <;> rfl

def evOps (call : CallF) (P : Program) (L : Lore) (ops : Array Oper) : List Oper → List AV → List Blk → Option (List AV × List Blk)
  | [], t, H => some (t, H)
  | o :: r, t, H =>
    match wantA ops t o with
    | some true =>
      match evStep call P L t H o with
      | some (v, H') => evOps call P L ops r (putA t o.dst v) H'
      | none => none
    | some false => evOps call P L ops r (putA t o.dst (.tup [])) H
    | none => none

theorem evOps_ok {P : Program} {ρ : Env} {L : Lore} (hL : LoreOk ρ L) {call : CallF} (hc : CallOk P ρ call) {ops : Array Oper} {Q : Exit → Act → World → Prop} {B : Nat} : ∀ (l : List Oper) (ms : List Nat) (t : List AV) (H : List Blk) (a : Act) (w : World) (t' : List AV) (H' : List Blk),
    RelT ρ ms t a.tmps → Holds ρ ms H B w → evOps call P L ops l t H = some (t', H') →
    (∀ ms' a' w', ms <+: ms' → RelT ρ ms' t' a'.tmps → a'.defers = a.defers → Holds ρ ms' H' B w' → Below B w w' → Q .normal a' w') → wpList P ops Q l a w
  | [], ms, t, H, a, w, t', H', hT, hH, h, hQ => by
    simp only [evOps, Option.some.injEq, Prod.mk.injEq] at h
    obtain ⟨rfl, rfl⟩ := h
    exact hQ ms a w (List.prefix_refl _) hT rfl hH (Below.refl _ _)
  | o :: r, ms, t, H, a, w, t', H', hT, hH, h, hQ => by
    simp only [evOps] at h
    split at h
    · rename_i hw
      have hw2 := wantA_ok hT hw
      split at h
      case h_2 => cases h
      rename_i v H1 hs
      refine wpList_step fun K hK => ?_
      rw [hw2, if_pos rfl]
      refine evStep_ok hL hc hT hH hs fun ms1 u w1 p1 p2 p3 p4 => hK _ _ ?_
      refine evOps_ok hL hc r ms1 _ H1 _ w1 t' H' ((hT.mono p1).putA o.dst p2) p3 h fun ms2 a2 w2 q1 q2 q3 q4 q5 => ?_
      exact hQ ms2 a2 w2 (p1.trans q1) q2 (q3.trans (put_defers _ _ _)) q4 (p4.trans q5)
    · rename_i hw
      have hw2 := wantA_ok hT hw
      refine wpList_step fun K hK => ?_
      rw [hw2, if_neg (by decide)]
      refine hK _ _ ?_
      refine evOps_ok hL hc r ms _ H _ w t' H' (hT.putA o.dst (v := undef) rfl) hH h fun ms2 a2 w2 q1 q2 q3 q4 q5 => ?_
      exact hQ ms2 a2 w2 q1 q2 (q3.trans (put_defers _ _ _)) q4 q5
    · cases h

/- What a function answers. -/
def evRes (P : Program) (t : List AV) (H : List Blk) : ResultVar → Option TV
  | .tmp i => match t[i]? with | some (.tv v) => some v | _ => none
  | .cell i T => match evLoad P t H T (.tmp i) with | some (.tv v) => some v | _ => none
def evResults (P : Program) (fn : Func) (t : List AV) (H : List Blk) : Option AV :=
  match seqO (fn.results.toList.map (evRes P t H)) with
  | some [v] => some (.tv v)
  | some l => some (.tup l)
  | none => none
theorem evResults_ok {P : Program} {ρ : Env} {ms : List Nat} {fn : Func} {t : List AV} {H : List Blk} {B : Nat} {a : Act} {w : World} {v : AV} (hT : RelT ρ ms t a.tmps) (hH : Holds ρ ms H B w) (h : evResults P fn t H = some v) :
    ∃ u, v.inst ρ ms = some u ∧ (results fn a.tmps).run P w = .ok u w := by
  unfold evResults at h
  have one : ∀ (r : ResultVar) (x : TV), evRes P t H r = some x → ∃ u, x.inst ρ ms = some u ∧ (match r with
    | .tmp t => pure (a.tmps.getD t undef)
    | .cell b t => do loadVar t (← asAddr (a.tmps.getD b undef)) : Sem Value).run P w = .ok u w := by
    intro r x hr
    cases r with
    | tmp i =>
      simp only [evRes] at hr
      split at hr <;> cases hr
      rename_i hx
      obtain ⟨u, h1, h2⟩ := hT.get hx
      exact ⟨u, h2, by simp [Array.getD_eq_getD_getElem?, h1]⟩
    | cell i T =>
      simp only [evRes] at hr
      split at hr <;> cases hr
      rename_i hx
      have hp : ∃ n o, gPtr t (.tmp i) = some (n, o) := by
        unfold evLoad at hx
        split at hx
        · exact ⟨_, _, by assumption⟩
        · exact ⟨_, _, by assumption⟩
        · cases hx
      obtain ⟨n, o, hp⟩ := hp
      obtain ⟨b, hb, he⟩ := gPtr_ok hT hp
      obtain ⟨u, h1, h2⟩ := evLoad_ok hT (fun n _ _ => hH.sees n) hx
      refine ⟨u, h1, ?_⟩
      rw [he] at h2
      have he2 : a.tmps.getD i undef = .pointer (some ⟨b, o, none⟩) := he
      simp only [he2, asAddr]
      simpa [Instr.loadAt, Instr.sureAddr] using h2
  have all : ∀ (rs : List ResultVar) (l : List TV), rs.map (evRes P t H) = l.map some → ∃ vs : List Value, l.map (TV.inst ρ ms) = vs.map some ∧ vs.length = rs.length ∧ ∀ (i : Nat) (r : ResultVar) (u : Value), rs[i]? = some r → vs[i]? = some u → (match r with
    | .tmp t => pure (a.tmps.getD t undef)
    | .cell b t => do loadVar t (← asAddr (a.tmps.getD b undef)) : Sem Value).run P w = .ok u w := by
    intro rs
    induction rs with
    | nil => intro l hl; cases l <;> simp at hl; exact ⟨[], rfl, rfl, fun i r u h => by simp at h⟩
    | cons r rs ih =>
      intro l hl
      cases l with
      | nil => simp at hl
      | cons x l =>
        simp only [List.map_cons, List.cons.injEq] at hl
        obtain ⟨u, h1, h2⟩ := one r x hl.1
        obtain ⟨vs, h3, h4, h5⟩ := ih l hl.2
        refine ⟨u :: vs, by simp [h1, h3], by simp [h4], fun i r' u' hr hu => ?_⟩
        cases i with
        | zero => simp at hr hu; subst hr hu; exact h2
        | succ i => simp at hr hu; exact h5 i r' u' hr hu
  cases hq : seqO (fn.results.toList.map (evRes P t H)) with
  | none => rw [hq] at h; simp at h
  | some l =>
    rw [hq] at h
    rw [seqO_iff] at hq
    obtain ⟨vs, h1, h2, h3⟩ := all _ _ hq
    have hll : l.length = vs.length := by have := congrArg List.length h1; simpa using this
    have hm := mapM_run (P := P) w (fun
      | .tmp t => pure (a.tmps.getD t undef)
      | .cell b t => do loadVar t (← asAddr (a.tmps.getD b undef)) : ResultVar → Sem Value) fn.results.toList vs h2.symm h3
    have hr : (results fn a.tmps).run P w = .ok (if h : vs.toArray.size = 1 then vs.toArray[0] else .tuple vs.toArray) w := by
      unfold results
      rw [Sem.run_bind, Array.mapM_eq_mapM_toList, Sem.run_map]
      exact (congrArg (fun r : Result (List Value) => (r.andThen fun a w' => Result.ok a.toArray w').andThen fun a w' => Sem.run P (pure (if h : a.size = 1 then a[0] else Value.tuple a) : Sem Value) w') hm).trans rfl
    rw [hr]
    match l, vs, hll, h1, h with
    | [x], [u], _, h1, h =>
      simp only [Option.some.injEq] at h
      subst h
      simp only [List.map_cons, List.map_nil, List.cons.injEq, and_true] at h1
      exact ⟨u, h1, by simp⟩
    | [], [], _, _, h =>
      simp only [Option.some.injEq] at h
      subst h
      exact ⟨.tuple #[], rfl, by simp⟩
    | x :: y :: l, u :: u' :: vs, _, h1, h =>
      simp only [Option.some.injEq] at h
      subst h
      refine ⟨.tuple (u :: u' :: vs).toArray, ?_, by simp⟩
      simp only [AV.inst, (seqO_iff _ _).2 h1, Option.map_some]

/- Blocks that the call made and nobody has any more are forgotten. -/
def SV.below (n : Nat) : SV → Bool
  | .ptr m _ => decide (m < n)
  | .sl m _ _ _ => decide (m < n)
  | .clo _ cs => cs.all fun p => decide (p.1 < n)
  | _ => true
def TV.below (n : Nat) : TV → Bool
  | .sc s => s.below n
  | .agg l => l.all (SV.below n)
def AV.below (n : Nat) : AV → Bool
  | .tv v => v.below n
  | .tup l => l.all (TV.below n)
def Blk.below (n : Nat) (k : Blk) : Bool := k.pl || k.cells.all (SV.below n)
def trim (n : Nat) (v : AV) (H : List Blk) : List Blk :=
  if v.below n && (H.take n).all (Blk.below n) then H.take n else H
theorem addr_take {ms : List Nat} {n : Nat} {p : Nat × Nat} (h : p.1 < n) : addr (ms.take n) p = addr ms p := by
  unfold addr; rw [List.getElem?_take, if_pos h]
theorem SV.inst_take {ρ : Env} {ms : List Nat} {n : Nat} {s : SV} (h : s.below n = true) : s.inst ρ (ms.take n) = s.inst ρ ms := by
  cases s <;> simp only [SV.inst]
  case ptr => exact addr_take (by simpa [SV.below] using h)
  case sl => rw [List.getElem?_take, if_pos (by simpa [SV.below] using h)]
  case clo f cs =>
    congr 2
    refine List.map_congr_left fun p hp => addr_take ?_
    simp only [SV.below, List.all_eq_true, decide_eq_true_eq] at h
    exact h p hp
theorem SV.inst_plain {ρ : Env} {ms : List Nat} {n : Nat} {s : SV} (h : s.plain = true) : s.inst ρ (ms.take n) = s.inst ρ ms := by
  cases s <;> simp [SV.plain] at h <;> simp only [SV.inst]
  subst h; rfl
theorem TV.inst_take {ρ : Env} {ms : List Nat} {n : Nat} {s : TV} (h : s.below n = true) : s.inst ρ (ms.take n) = s.inst ρ ms := by
  cases s with
  | sc s => exact SV.inst_take h
  | agg l =>
    simp only [TV.inst]
    congr 2
    refine List.map_congr_left fun p hp => SV.inst_take ?_
    simp only [TV.below, List.all_eq_true] at h
    exact h p hp
theorem AV.inst_take {ρ : Env} {ms : List Nat} {n : Nat} {s : AV} (h : s.below n = true) : s.inst ρ (ms.take n) = s.inst ρ ms := by
  cases s with
  | tv s => exact TV.inst_take h
  | tup l =>
    simp only [AV.inst]
    congr 2
    refine List.map_congr_left fun p hp => TV.inst_take ?_
    simp only [AV.below, List.all_eq_true] at h
    exact h p hp
theorem Holds.take {ρ : Env} {ms : List Nat} {H : List Blk} {B : Nat} {w : World} (h : Holds ρ ms H B w) {n : Nat} (hb : (H.take n).all (Blk.below n) = true) : Holds ρ (ms.take n) (H.take n) B w where
  len := by simp [h.len]
  inj := by
    intro i j b hi hj
    rw [List.getElem?_take] at hi hj
    split at hi
    · split at hj
      · exact h.inj i j b hi hj
      · cases hj
    · cases hi
  low := by
    intro i b k hi hk hr
    rw [List.getElem?_take] at hi hk
    split at hi
    · rename_i hn; rw [if_pos hn] at hk; exact h.low i b k hi hk hr
    · cases hi
  bnd := by
    intro i b hi
    rw [List.getElem?_take] at hi
    split at hi
    · exact h.bnd i b hi
    · cases hi
  big := h.big
  plain := by
    intro i k hk hp
    rw [List.getElem?_take] at hk
    split at hk
    · exact h.plain i k hk hp
    · cases hk
  cell := by
    intro i b k hi hk j s hs
    have hm := List.mem_of_getElem? hk
    rw [List.getElem?_take] at hi hk
    split at hi
    case isFalse => cases hi
    rename_i hn
    rw [if_pos hn] at hk
    obtain ⟨v, h1, h2, h3⟩ := h.cell i b k hi hk j s hs
    refine ⟨v, ?_, h2, h3⟩
    have hb2 := List.all_eq_true.1 hb k hm
    unfold Blk.below at hb2
    rw [Bool.or_eq_true] at hb2
    rcases hb2 with hp | hp
    · rw [SV.inst_plain (List.all_eq_true.1 (h.plain i k hk hp) s (List.mem_of_getElem? hs))]; exact h1
    · rw [SV.inst_take (List.all_eq_true.1 hp s (List.mem_of_getElem? hs))]; exact h1
theorem trim_ok {ρ : Env} {ms ms' : List Nat} {n : Nat} {v : AV} {H : List Blk} {B : Nat} {w : World} {u : Value} (hp : ms <+: ms') (hl : ms.length = n) (hv : v.inst ρ ms' = some u) (hH : Holds ρ ms' H B w) :
    ∃ ms2, ms <+: ms2 ∧ v.inst ρ ms2 = some u ∧ Holds ρ ms2 (trim n v H) B w := by
  unfold trim
  split
  · rename_i hc
    rw [Bool.and_eq_true] at hc
    refine ⟨ms'.take n, ?_, ?_, hH.take hc.2⟩
    · obtain ⟨r, rfl⟩ := hp
      rw [List.take_append_of_le_length (by omega), List.take_of_length_le (by omega)]
      exact List.prefix_refl _
    · rw [AV.inst_take hc.1]; exact hv
  · exact ⟨ms', hp, hv, hH⟩
end Go.Proofs.Ytofbhemgbpcpoaa.Ev
