/- Of the road to tagCallsUptoCard_holds: EvCode, EvAny, EvDraw. -/
import Derived.Test.YtcpchhigiohlnaaDoorG05
import Derived.Laws.MakeOwn
import Derived.Laws.IdiomCopy
import Derived.Laws.IdiomStrings
import Derived.Deep.AppendSrc
set_option linter.unusedVariables false
set_option linter.unusedSimpArgs false
set_option maxRecDepth 100000
set_option maxHeartbeats 16000000
namespace Go.Proofs.YtcpchhigiohlnaaDoor.Ev
open Go Go.RowKit
def slOf : AV -> Option (Nat × Nat × Nat)
 | .tv (.sc (.sl n o l _)) => some (n, o, l)
 | .tv (.sc (.slg n o _ l)) => some (n, o, l)
 | _ => none
theorem slOf_ok {ρ : Env} {ms : List Nat} {v : AV} {n o l : Nat} (h : slOf v = some (n, o, l)) {u : Value} (hu : v.inst ρ ms = some u) : ∃ b c, ms[n]? = some b /\ u = .slice (some ⟨b, o, none⟩) l c := by
 unfold slOf at h
 split at h
 ·cases h
  simp only [AV.inst, TV.inst, SV.inst, Option.map_eq_some_iff] at hu
  obtain ⟨b, hb, rfl⟩ := hu
  exact ⟨b, _, hb, rfl⟩
 ·cases h
  simp only [AV.inst, TV.inst, SV.inst] at hu
  obtain ⟨b, c, hb, _, _, rfl⟩ := grown_iff.1 hu
  exact ⟨b, _, hb, rfl⟩
 ·cases h
theorem insts_one {ρ : Env} {ms : List Nat} {l : List SV} {vs : List Value} (h : l.map (SV.inst ρ ms) = vs.map some) : ∀ u ∈ vs, u.oneCell' = true := fun u hu => by
 have hll : l.length = vs.length := by have := congrArg List.length h; simpa using this
 obtain ⟨j, hj, rfl⟩ := List.getElem_of_mem hu
 have e3 : (l.map (SV.inst ρ ms))[j]? = (vs.map some)[j]? := by rw [h]
 simp only [List.getElem?_map, List.getElem?_eq_getElem hj, List.getElem?_eq_getElem (show j < l.length by omega), Option.map_some, Option.some.injEq] at e3
 exact SV.inst_one e3
def strCells (l : List Nat) : List SV := l.map fun x => .int .u8 (.lit ((x % 256 : Nat) : Int))
theorem strCells_ok (ρ : Env) (ms : List Nat) (l : List Nat) : (strCells l).map (SV.inst ρ ms) = (byteCells (bytesOf l)).map some := by
 unfold strCells byteCells bytesOf
 simp [SV.inst, Ex.den]
theorem bytesOf_size (l : List Nat) : (bytesOf l).size = l.length := by simp [bytesOf, ByteArray.size]
def evWrite (P : Program) (t : Tm) (H : List Blk) : Op -> Option (AV × List Blk)
 | .alloc T => (evZero P T).map fun l => (.tv (.sc (.ptr H.length 0)), H ++ [newBlk l])
 | .box _ x => (gCells t x).map fun l => (.tv (.sc (.ptr H.length 0)), H ++ [newBlk l])
 | .store T x y => (evStore P t H T x y).map fun H' => (.tup [], H')
 | .buildSlice T len parts =>
  match P.underlying T with
  | some (.slice e) =>
   match rowOf P e, evZero P e, partsOf t parts.toList with
   | some (_, s), some z, some ps =>
    if 0 < len * s /\ len * s <= 1000 /\ z.length = s then
     (fillA (fun i => some (i * s, s)) ((List.range (len * s)).map fun i => z.getD (i % s) .nilp) ps).map fun l => (.tv (.sc (.sl H.length 0 len len)), H ++ [newBlk l])
    else if len = 0 /\ parts.toList = [] then some (.tv (.sc (.sl H.length 0 0 0)), H ++ [newBlk []])
    else none
   | _, _, _ => none
  | _ => none
 | .makeSlice T x y =>
  match P.underlying T, gInt t x, gInt t y with
  | some (.slice e), some (_, l), some (_, c) =>
   match P.info? e, evZero P e with
   | some i, some z =>
    if 0 <= l /\ l <= c /\ c <= 1000 /\ 0 < i.size /\ z.length = i.size /\ i.bytes <= 1000000 then
     some (.tv (.sc (.sl H.length 0 l.toNat c.toNat)), H ++ [newBlk ((List.range (c.toNat * i.size)).map fun j => z.getD (j % i.size) .nilp)])
    else none
   | _, _ => none
  | _, _, _ => none
 | _ => none
theorem rep_ok {ρ : Env} {ms : List Nat} {z : List SV} {z0 : Value} {s : Nat} (hzl : z.map (SV.inst ρ ms) = z0.cells.toList.map some) (hs0 : 0 < s) (hl : z.length = s) (n : Nat) :
  ((List.range n).map fun i => z.getD (i % s) .nilp).map (SV.inst ρ ms) = ((Array.range n).map fun i => z0.cells[i % z0.cells.size]!).toList.map some := by
 have hzs : z0.cells.size = s := by have := congrArg List.length hzl; simp at this; omega
 rw [Array.toList_map, Array.toList_range, List.map_map, List.map_map]
 refine List.map_congr_left fun j hj => ?_
 have hjs : j % s < s := Nat.mod_lt _ hs0
 simp only [Function.comp, hzs]
 have e1 : (z.map (SV.inst ρ ms))[j % s]? = (z0.cells.toList.map some)[j % s]? := by rw [hzl]
 rw [List.getElem?_map, List.getElem?_map, List.getElem?_eq_getElem (show j % s < z.length by omega), List.getElem?_eq_getElem (show j % s < z0.cells.toList.length by simp; omega)] at e1
 simp only [Option.map_some, Option.some.injEq] at e1
 rw [show z.getD (j % s) .nilp = z[j % s]'(by omega) by simp [List.getD, List.getElem?_eq_getElem (show j % s < z.length by omega)], e1]
 simp [getElem!_pos, hzs, hjs]
def Made (P : Program) (ρ : Env) (ms : List Nat) (B : Nat) (a : Act) (w : World) (o : Oper) (v : AV) (H' : List Blk) : Prop :=
 ∃ n u ms' w', (execOp a.eval o).run P w = .ok n w' /\ ((n = .value u) \/ (n = .skip /\ u = undef)) /\ ms <+: ms' /\ v.inst ρ ms' = some u /\ Holds ρ ms' H' B w' /\ Bel B w w'
theorem evWrite_ok {P : Program} {ρ : Env} {ms : List Nat} {t : Tm} {H H' : List Blk} {B : Nat} {a : Act} {o : Oper} {v : AV} {w : World} (hT : RelT ρ ms t a.tmps) (hH : Holds ρ ms H B w) (h : evWrite P t H o.op = some (v, H')) :
  Made P ρ ms B a w o v H' := by
 cases hop : o.op <;> rw [hop] at h <;> simp only [evWrite] at h <;> try (cases h; done)
 case alloc T =>
  rw [Option.map_eq_some_iff] at h
  obtain ⟨l, h1, h2⟩ := h
  simp only [Prod.mk.injEq] at h2
  obtain ⟨rfl, rfl⟩ := h2
  obtain ⟨i, z, hi, hz, hl⟩ := evZero_ok h1
  refine ⟨.value (.pointer (some ⟨w.heap.size, 0, none⟩)), _, ms ++ [w.heap.size], w.alloc (.cells z.cells T), ?_, .inl rfl, List.prefix_append _ _, ?_, ?_, (Bel.refl B w).alloc hH.big _⟩
  ·simp [execOp, hop, Instr.alloc, zeroValue_run hi hz, newVar, newRow]
  ·simp [AV.inst, TV.inst, SV.inst, addr, <- hH.len]
  ·have := hH.alloc (hl ρ ms) T
   rw [Array.toArray_toList] at this
   exact this
 case box T x =>
  rw [Option.map_eq_some_iff] at h
  obtain ⟨l, h1, h2⟩ := h
  simp only [Prod.mk.injEq] at h2
  obtain ⟨rfl, rfl⟩ := h2
  obtain ⟨vs, h3, h4⟩ := gCells_ok hT h1
  refine ⟨.value (.pointer (some ⟨w.heap.size, 0, none⟩)), _, ms ++ [w.heap.size], w.alloc (.cells vs.toArray T), ?_, .inl rfl, List.prefix_append _ _, ?_, hH.alloc h3 T, (Bel.refl B w).alloc hH.big _⟩
  ·simp [execOp, hop, Instr.box, newVar, newRow, h4]
  ·simp [AV.inst, TV.inst, SV.inst, addr, <- hH.len]
 case buildSlice T len parts =>
  split at h
  case h_2 => cases h
  rename_i e hu
  split at h
  case h_2 => cases h
  rename_i r s z ps h1 h2 h3
  split at h
  case isFalse =>
   split at h
   case isFalse => cases h
   rename_i hz
   obtain ⟨rfl, hp⟩ := hz
   cases h
   refine ⟨.value (.slice (some ⟨w.heap.size, 0, none⟩) 0 0), _, ms ++ [w.heap.size], w.alloc (.cells ([] : List Value).toArray e), ?_, .inl rfl, List.prefix_append _ _, ?_, hH.alloc (l := []) (vs := []) rfl e, (Bel.refl B w).alloc hH.big _⟩
   ·have hpe : parts = #[] := by rw [<- Array.toArray_toList (xs := parts), hp]
    simp [execOp, hop, Instr.buildSlice, run_underlying hu, sizeOf_run h1, hpe, Instr.fill, newRow]
    congr 2
    exact Array.eq_empty_of_size_eq_zero (by simp)
   ·simp [AV.inst, TV.inst, SV.inst, <- hH.len]
  rename_i hc
  obtain ⟨hc1, hc2, hc3⟩ := hc
  rw [Option.map_eq_some_iff] at h
  obtain ⟨l, h4, h5⟩ := h
  simp only [Prod.mk.injEq] at h5
  obtain ⟨rfl, rfl⟩ := h5
  obtain ⟨i, z0, hi, hz, hl⟩ := evZero_ok h2
  have hzl := hl ρ ms
  have hzs : z0.cells.size = s := by have := congrArg List.length hzl; simp at this; omega
  have hs0 : 0 < s := by
   rcases Nat.eq_zero_or_pos s with e0 | e0
   ·rw [e0, Nat.mul_zero] at hc1; omega
   ·exact e0
  have hbase : ((List.range (len * s)).map fun i => z.getD (i % s) .nilp).map (SV.inst ρ ms) = ((Array.range (len * s)).map fun i => z0.cells[i % z0.cells.size]!).toList.map some := by
   rw [Array.toList_map, Array.toList_range, List.map_map, List.map_map]
   refine List.map_congr_left fun j hj => ?_
   have hjs : j % s < s := Nat.mod_lt _ hs0
   simp only [Function.comp, hzs]
   have e1 : (z.map (SV.inst ρ ms))[j % s]? = (z0.cells.toList.map some)[j % s]? := by rw [hzl]
   rw [List.getElem?_map, List.getElem?_map, List.getElem?_eq_getElem (show j % s < z.length by omega), List.getElem?_eq_getElem (show j % s < z0.cells.toList.length by simp; omega)] at e1
   simp only [Option.map_some, Option.some.injEq] at e1
   rw [show z.getD (j % s) .nilp = z[j % s]'(by omega) by simp [List.getD, List.getElem?_eq_getElem (show j % s < z.length by omega)], e1]
   simp [getElem!_pos, hzs, hjs]
  obtain ⟨us, h6, h7⟩ := fill_ok (ρ := ρ) (ms := ms) _ ps _ _ l _ hbase (partsOf_ok hT _ _ h3) h4
  rw [Array.toArray_toList] at h7
  refine ⟨.value (.slice (some ⟨w.heap.size, 0, none⟩) len len), _, ms ++ [w.heap.size], w.alloc (.cells us.toArray e), ?_, .inl rfl, List.prefix_append _ _, ?_, hH.alloc h6 e, (Bel.refl B w).alloc hH.big _⟩
  ·simp only [execOp, hop, Instr.buildSlice, Sem.run_bind, run_underlying hu, Result.andThen_ok, sizeOf_run h1]
   rw [if_neg (by omega), if_neg (by omega)]
   simp only [Sem.run_bind, Sem.run_pure, Result.andThen_ok, zeroValue_run hi hz, Array.toList_map, h7]
   simp [newRow]
  ·simp [AV.inst, TV.inst, SV.inst, <- hH.len]
 case makeSlice T x y =>
  split at h
  case h_2 => cases h
  rename_i e kl l kc c hu h1 h2
  split at h
  case h_2 => cases h
  rename_i i z hi h3
  split at h
  case isFalse => cases h
  rename_i hc
  obtain ⟨c1, c2, c3, c4, c5, c6⟩ := hc
  simp only [Option.some.injEq, Prod.mk.injEq] at h
  obtain ⟨rfl, rfl⟩ := h
  obtain ⟨i', z0, hi', hz, hl⟩ := evZero_ok h3
  rw [hi] at hi'
  cases hi'
  have hb : (i.bytes : Int) * c <= 281474976710656 := by
   have h8 : (i.bytes : Int) * c <= 1000000 * 1000 := Int.mul_le_mul (by omega) c3 (by omega) (by decide)
   omega
  have hr := run_make (P := P) w T e i z0 hu hi hz kl kc l c c1 c2 hb (by omega)
  have hcells := rep_ok (ρ := ρ) (ms := ms) (hl ρ ms) c4 c5 (c.toNat * i.size)
  refine ⟨.value (.slice (some ⟨w.heap.size, 0, none⟩) l.toNat c.toNat), _, ms ++ [w.heap.size], _, ?_, .inl rfl, List.prefix_append _ _, ?_, ?_, (Bel.refl B w).alloc hH.big (.cells (madeCells z0.cells (c.toNat * i.size)) e)⟩
  ·simp only [execOp, hop, gInt_ok hT h1, gInt_ok hT h2, Sem.run_bind, hr, Result.andThen_ok, Sem.run_pure]
  ·simp [AV.inst, TV.inst, SV.inst, <- hH.len]
  ·have := hH.alloc hcells e
   rw [Array.toArray_toList] at this
   exact this
 case store T x y =>
  rw [Option.map_eq_some_iff] at h
  obtain ⟨H1, h1, h2⟩ := h
  simp only [Prod.mk.injEq] at h2
  obtain ⟨rfl, rfl⟩ := h2
  obtain ⟨w', h3, h4, h5⟩ := evStore_ok hT hH h1
  exact ⟨.skip, undef, ms, w', by simp [execOp, hop, h3], .inr ⟨rfl, rfl⟩, List.prefix_refl _, rfl, h4, h5⟩
def evLen (P : Program) (t : Tm) (c : Call) : Option AV :=
 match c.args.toList, c.argTypes.toList with
 | [x], [T] =>
  match P.underlying T, evGet t x with
  | some (.slice _), some (.tv (.sc (.sl _ _ n _))) => some (.tv (.sc (.int .i64 (.lit n))))
  | some (.slice _), some (.tv (.sc (.nils n _))) => some (.tv (.sc (.int .i64 (.lit n))))
  | some (.slice _), some (.tv (.sc (.slg _ _ _ n))) => some (.tv (.sc (.int .i64 (.lit n))))
  | some .string, some (.tv (.sc (.str l))) => some (.tv (.sc (.int .i64 (.lit l.length))))
  | some (.array n _), some _ => some (.tv (.sc (.int .i64 (.lit n))))
  | some (.slice _), some (.tv (.sc (.sla _ n _))) => some (.tv (.sc (.int .i64 (.lit n))))
  | _, _ => none
 | _, _ => none
def evCap (P : Program) (t : Tm) (c : Call) : Option AV :=
 match c.args.toList, c.argTypes.toList with
 | [x], [T] =>
  match P.underlying T, evGet t x with
  | some (.slice _), some (.tv (.sc (.sl _ _ _ n))) => some (.tv (.sc (.int .i64 (.lit n))))
  | some (.slice _), some (.tv (.sc (.nils _ n))) => some (.tv (.sc (.int .i64 (.lit n))))
  | _, _ => none
 | _, _ => none
theorem evCap_ok {P : Program} {ρ : Env} {ms : List Nat} {t : Tm} {a : Act} {o : Oper} {c : Call} {v : AV} (hT : RelT ρ ms t a.tmps) (hop : o.op = .call c) (hc : c.callee = .builtin .cap) (h : evCap P t c = some v) (w : World) : ∃ u, v.inst ρ ms = some u /\ (execOp a.eval o).run P w = .ok (.value u) w := by
 unfold evCap at h
 split at h
 case h_2 => cases h
 rename_i x T hx hTy
 have e1 : c.args = #[x] := by rw [<- hx, Array.toArray_toList]
 have e2 : c.argTypes = #[T] := by rw [<- hTy, Array.toArray_toList]
 have hrun : ∀ u : Value, (Builtin.cap_ #[T] o.type #[a.eval x]).run P w = .ok u w -> (execOp a.eval o).run P w = .ok (.value u) w := fun u hu => by
  simp only [execOp, hop, resolve, hc, e1, e2, Sem.run_bind, Sem.run_pure, Result.andThen_ok, invoke, builtin, List.map_toArray, List.map_cons, List.map_nil, hu]
 split at h
 ·rename_i e m oo n cp hu hg
  simp only [Option.some.injEq] at h
  subst h
  have hv := evGet_ok hT hg
  simp only [AV.inst, TV.inst, SV.inst, Option.map_eq_some_iff] at hv
  obtain ⟨b, _, hv⟩ := hv
  refine ⟨_, rfl, hrun _ ?_⟩
  simp [Builtin.cap_, run_underlying hu, <- hv, goInt, Ex.den]
 ·rename_i e n cp hu hg
  simp only [Option.some.injEq] at h
  subst h
  have hv := evGet_ok hT hg
  simp only [AV.inst, TV.inst, SV.inst, Option.some.injEq] at hv
  refine ⟨_, rfl, hrun _ ?_⟩
  simp [Builtin.cap_, run_underlying hu, <- hv, goInt, Ex.den]
 ·cases h
theorem evLen_ok {P : Program} {ρ : Env} {ms : List Nat} {t : Tm} {a : Act} {o : Oper} {c : Call} {v : AV} (hT : RelT ρ ms t a.tmps) (hop : o.op = .call c) (hc : c.callee = .builtin .len) (h : evLen P t c = some v) (w : World) : ∃ u, v.inst ρ ms = some u /\ (execOp a.eval o).run P w = .ok (.value u) w := by
 unfold evLen at h
 split at h
 case h_2 => cases h
 rename_i x T hx hTy
 have e1 : c.args = #[x] := by rw [<- hx, Array.toArray_toList]
 have e2 : c.argTypes = #[T] := by rw [<- hTy, Array.toArray_toList]
 have hrun : ∀ u : Value, (Builtin.len_ #[T] o.type #[a.eval x]).run P w = .ok u w -> (execOp a.eval o).run P w = .ok (.value u) w := fun u hu => by
  simp only [execOp, hop, resolve, hc, e1, e2, Sem.run_bind, Sem.run_pure, Result.andThen_ok, invoke, builtin, List.map_toArray, List.map_cons, List.map_nil, hu]
 split at h
 ·rename_i e m oo n cp hu hg
  simp only [Option.some.injEq] at h
  subst h
  have hv := evGet_ok hT hg
  simp only [AV.inst, TV.inst, SV.inst, Option.map_eq_some_iff] at hv
  obtain ⟨b, _, hv⟩ := hv
  refine ⟨_, rfl, hrun _ ?_⟩
  simp [Builtin.len_, run_underlying hu, <- hv, goInt, Ex.den]
 ·rename_i e n cp hu hg
  simp only [Option.some.injEq] at h
  subst h
  have hv := evGet_ok hT hg
  simp only [AV.inst, TV.inst, SV.inst, Option.some.injEq] at hv
  refine ⟨_, rfl, hrun _ ?_⟩
  simp [Builtin.len_, run_underlying hu, <- hv, goInt, Ex.den]
 ·rename_i e m oo e0 n hu hg
  simp only [Option.some.injEq] at h
  subst h
  have hv := evGet_ok hT hg
  simp only [AV.inst, TV.inst, SV.inst] at hv
  obtain ⟨b, c, _, _, _, hv⟩ := grown_iff.1 hv
  refine ⟨_, rfl, hrun _ ?_⟩
  simp [Builtin.len_, run_underlying hu, hv, goInt, Ex.den]
 ·rename_i l hu hg
  simp only [Option.some.injEq] at h
  subst h
  have hv := evGet_ok hT hg
  simp only [AV.inst, TV.inst, SV.inst, Option.some.injEq] at hv
  refine ⟨_, rfl, hrun _ ?_⟩
  simp [Builtin.len_, run_underlying hu, <- hv, goInt, Ex.den, bytesOf_size]
 ·rename_i n e av hu hg
  simp only [Option.some.injEq] at h
  subst h
  refine ⟨_, rfl, hrun _ ?_⟩
  simp [Builtin.len_, run_underlying hu, goInt, Ex.den]
 ·rename_i e aa n cp hu hg
  simp only [Option.some.injEq] at h
  subst h
  have hv := evGet_ok hT hg
  simp only [AV.inst, TV.inst, SV.inst, Option.some.injEq] at hv
  refine ⟨_, rfl, hrun _ ?_⟩
  simp [Builtin.len_, run_underlying hu, <- hv, goInt, Ex.den]
 ·cases h
def evTwo (f : Int -> Int -> Int) (t : Tm) (c : Call) : Option AV :=
 match c.args.toList with
 | [x, y] =>
  match evGet t x, evGet t y with
  | some (.tv (.sc (.int k (.lit m)))), some (.tv (.sc (.int _ (.lit n)))) => some (.tv (.sc (.int k (.lit (f m n)))))
  | _, _ => none
 | _ => none
def maxI (m n : Int) : Int := if n > m then n else m
def minI (m n : Int) : Int := if n < m then n else m
theorem evTwo_ok {f : Int -> Int -> Int} {ρ : Env} {ms : List Nat} {t : Tm} {a : Act} {c : Call} {v : AV} (hT : RelT ρ ms t a.tmps) (h : evTwo f t c = some v) : ∃ x y k k' m n, c.args = #[x, y] /\ a.eval x = .int k m /\ a.eval y = .int k' n /\ v.inst ρ ms = some (.int k (f m n)) := by
 unfold evTwo at h
 split at h
 case h_2 => cases h
 rename_i x y hx
 split at h
 case h_2 => cases h
 rename_i k m k' n hg1 hg2
 simp only [Option.some.injEq] at h
 subst h
 have h1 := evGet_ok hT hg1
 have h2 := evGet_ok hT hg2
 simp only [AV.inst, TV.inst, SV.inst, Ex.den, Option.some.injEq] at h1 h2
 exact ⟨x, y, k, k', m, n, by rw [<- hx, Array.toArray_toList], h1.symm, h2.symm, rfl⟩
theorem evMax_ok {P : Program} {ρ : Env} {ms : List Nat} {t : Tm} {a : Act} {o : Oper} {c : Call} {v : AV} (hT : RelT ρ ms t a.tmps) (hop : o.op = .call c) (hc : c.callee = .builtin .max) (h : evTwo maxI t c = some v) (w : World) : ∃ u, v.inst ρ ms = some u /\ (execOp a.eval o).run P w = .ok (.value u) w := by
 obtain ⟨x, y, k, k', m, n, e1, e2, e3, e4⟩ := evTwo_ok hT h
 refine ⟨_, e4, ?_⟩
 simp only [execOp, hop, resolve, hc, e1, Sem.run_bind, Sem.run_pure, Result.andThen_ok, invoke, builtin, List.map_toArray, List.map_cons, List.map_nil, e2, e3, Builtin.max_, List.foldlM, Builtin.max2, maxI]
theorem evMin_ok {P : Program} {ρ : Env} {ms : List Nat} {t : Tm} {a : Act} {o : Oper} {c : Call} {v : AV} (hT : RelT ρ ms t a.tmps) (hop : o.op = .call c) (hc : c.callee = .builtin .min) (h : evTwo minI t c = some v) (w : World) : ∃ u, v.inst ρ ms = some u /\ (execOp a.eval o).run P w = .ok (.value u) w := by
 obtain ⟨x, y, k, k', m, n, e1, e2, e3, e4⟩ := evTwo_ok hT h
 refine ⟨_, e4, ?_⟩
 simp only [execOp, hop, resolve, hc, e1, Sem.run_bind, Sem.run_pure, Result.andThen_ok, invoke, builtin, List.map_toArray, List.map_cons, List.map_nil, e2, e3, Builtin.min_, List.foldlM, Builtin.min2, minI]
def noSl : AV -> Bool
 | .tv (.sc (.nils 0 _)) => true
 | _ => false
def evCopy (P : Program) (t : Tm) (H : List Blk) (c : Call) : Option (AV × List Blk) :=
 match c.args.toList, c.argTypes.toList with
 | [x, y], [T, _] =>
  match P.underlying T, (evGet t x).bind slOf, (evGet t y).bind slOf with
  | some (.slice e), some (_, _, _), none =>
   match P.info? e, evGet t y with
   | some _, some v => if noSl v then some (.tv (.sc (.int .i64 (.lit 0))), H) else none
   | _, _ => none
  | some (.slice e), some (n, o, dl), some (m, p, sl) =>
   match P.info? e, span H m p (Nat.min sl dl), H[n]? with
   | some i, some l, some k =>
    if i.size = 1 /\ k.ro = false /\ 0 < Nat.min sl dl /\ ((k.cells.drop o).take (Nat.min sl dl)).length = Nat.min sl dl then
     some (.tv (.sc (.int .i64 (.lit (Nat.min sl dl : Nat)))), H.set n ⟨false, k.pl && l.all SV.plain, 0, over k.cells o l⟩)
    else if i.size = 1 /\ Nat.min sl dl = 0 then some (.tv (.sc (.int .i64 (.lit 0))), H)
    else none
   | _, _, _ => none
  | _, _, _ => none
 | _, _ => none
theorem evCopy_ok {P : Program} {ρ : Env} {ms : List Nat} {t : Tm} {H H' : List Blk} {B : Nat} {a : Act} {o : Oper} {c : Call} {v : AV} {w : World} (hT : RelT ρ ms t a.tmps) (hH : Holds ρ ms H B w) (hop : o.op = .call c) (hc : c.callee = .builtin .copy) (h : evCopy P t H c = some (v, H')) :
  Made P ρ ms B a w o v H' := by
 unfold evCopy at h
 split at h
 case h_2 => cases h
 rename_i x y T T' hx hTy
 have e1 : c.args = #[x, y] := by rw [<- hx, Array.toArray_toList]
 have e2 : c.argTypes = #[T, T'] := by rw [<- hTy, Array.toArray_toList]
 split at h
 case h_3 => cases h
 case h_1 =>
  rename_i e n oo dl hu hg1 _
  split at h
  case h_2 => cases h
  rename_i i v2 hi hg2
  split at h <;> cases h
  rename_i hno
  rw [Option.bind_eq_some_iff] at hg1
  obtain ⟨v1, hg1, hs1⟩ := hg1
  obtain ⟨b, dc, hb, q1⟩ := slOf_ok hs1 (evGet_ok hT hg1)
  have q2 := evGet_ok hT hg2
  unfold noSl at hno
  split at hno
  ·simp only [AV.inst, TV.inst, SV.inst, Option.some.injEq] at q2
   refine ⟨.value (goInt 0), _, ms, w, ?_, .inl rfl, List.prefix_refl _, rfl, hH, Bel.refl _ _⟩
   simp [execOp, hop, resolve, hc, e1, e2, invoke, builtin, q1, <- q2, Builtin.copy_, run_underlying hu, Builtin.lenOf, Builtin.firstCells, sizeOf, typeInfo, hi, storeCells]
  ·cases hno
 rename_i e n oo dl m p sl hu hg1 hg2
 split at h
 case h_2 => cases h
 rename_i i l k hi hsp hk
 rw [Option.bind_eq_some_iff] at hg1 hg2
 obtain ⟨v1, hg1, hs1⟩ := hg1
 obtain ⟨v2, hg2, hs2⟩ := hg2
 obtain ⟨b, dc, hb, q1⟩ := slOf_ok hs1 (evGet_ok hT hg1)
 obtain ⟨b2, sc, hb2, q2⟩ := slOf_ok hs2 (evGet_ok hT hg2)
 obtain ⟨vs, r1, r2, r3⟩ := span_ok ((hH.sees m).at _ _) hb2 hsp
 have hll : l.length = vs.length := by have := congrArg List.length r1; simpa using this
 have hone := insts_one r1
 split at h
 ·rename_i hcond
  obtain ⟨c1, c2, c3, c4⟩ := hcond
  simp only [Option.some.injEq, Prod.mk.injEq] at h
  obtain ⟨rfl, rfl⟩ := h
  have hle : oo + Nat.min sl dl <= k.cells.length := by
   rw [List.length_take, List.length_drop] at c4
   omega
  have hth : ∀ j, j < vs.length -> (w.cell? ⟨b, oo + j, none⟩).isSome = true /\ w.frozen? ⟨b, oo + j, none⟩ = false := fun j hj => by
   have hj2 : oo + j < k.cells.length := by omega
   obtain ⟨u, _, h2, h3⟩ := hH.cell n b k hb hk (oo + j) _ (List.getElem?_eq_getElem hj2)
   exact ⟨by rw [h2]; rfl, h3 c2⟩
  have hr := run_copy_cells (P := P) w T T' o.type e b oo dl dc ⟨b2, p, none⟩ sl sc vs hu (by simp [hi, c1]) (by omega) (fun j u hj => by rw [Addr.add_mid]; exact r3 j u hj) (fun j hj => (hth j hj).1) (fun j hj => (hth j hj).2) hone
  refine ⟨.value (goInt vs.length), _, ms, w.setCells b oo vs, ?_, .inl rfl, List.prefix_refl _, ?_, hH.store hb hk r1 (by omega) (by omega) c2, below_setCells (hH.low n b k hb hk c2) vs oo w w (Bel.refl _ _)⟩
  ·simp only [execOp, hop, resolve, hc, e1, e2, Sem.run_bind, Sem.run_pure, Result.andThen_ok, invoke, builtin, List.map_toArray, List.map_cons, List.map_nil, q1, q2, hr]
  ·simp only [AV.inst, TV.inst, SV.inst, Ex.den, goInt, r2]
 ·split at h
  case isFalse => cases h
  rename_i hcond
  obtain ⟨c1, c2⟩ := hcond
  simp only [Option.some.injEq, Prod.mk.injEq] at h
  obtain ⟨rfl, rfl⟩ := h
  have hv0 : vs = [] := List.length_eq_zero_iff.1 (by omega)
  subst hv0
  have hr := run_copy_cells (P := P) w T T' o.type e b oo dl dc ⟨b2, p, none⟩ sl sc [] hu (by simp [hi, c1]) (by simp only [List.length_nil]; omega) (fun j u hj => by simp at hj) (fun j hj => by simp at hj) (fun j hj => by simp at hj) hone
  refine ⟨.value (goInt 0), _, ms, w, ?_, .inl rfl, List.prefix_refl _, rfl, hH, Bel.refl _ _⟩
  simp only [execOp, hop, resolve, hc, e1, e2, Sem.run_bind, Sem.run_pure, Result.andThen_ok, invoke, builtin, List.map_toArray, List.map_cons, List.map_nil, q1, q2, hr]
  rfl
def srcOf (P : Program) (t : Tm) (H : List Blk) (s : Nat) (T : TypeId) (y : Operand) : Option (Nat × List SV) :=
 match P.underlying T, evGet t y with
 | some (.slice _), some (.tv (.sc (.nils 0 _))) => some (0, [])
 | some .string, some (.tv (.sc (.str l))) => if s = 1 then some (l.length, strCells l) else none
 | some (.slice _), some v =>
  match slOf v with
  | some (m, p, n) => (span H m p (n * s)).map fun l => (n, l)
  | none => none
 | _, _ => none
theorem srcOf_ok {P : Program} {ρ : Env} {ms : List Nat} {t : Tm} {H : List Blk} {B : Nat} {a : Act} {w : World} {s : Nat} {T : TypeId} {y : Operand} {n : Nat} {l : List SV} (hT : RelT ρ ms t a.tmps) (hH : Holds ρ ms H B w) (h : srcOf P t H s T y = some (n, l)) :
  ∃ vs : List Value, l.map (SV.inst ρ ms) = vs.map some /\ Src P s T (a.eval y) n vs w := by
 unfold srcOf at h
 split at h
 ·rename_i e c hu hg
  simp only [Option.some.injEq, Prod.mk.injEq] at h
  obtain ⟨rfl, rfl⟩ := h
  have hv := evGet_ok hT hg
  simp only [AV.inst, TV.inst, SV.inst, Option.some.injEq] at hv
  rw [<- hv]
  exact ⟨[], rfl, Src.ofNil w hu c⟩
 ·rename_i b hu hg
  split at h <;> cases h
  rename_i hs
  subst hs
  have hv := evGet_ok hT hg
  simp only [AV.inst, TV.inst, SV.inst, Option.some.injEq] at hv
  rw [<- hv]
  have := Src.ofString (P := P) w hu (bytesOf b)
  rw [bytesOf_size] at this
  exact ⟨_, strCells_ok ρ ms b, this⟩
 ·rename_i e v _ hu hg
  split at h
  case h_2 => cases h
  rename_i m p n' hs
  rw [Option.map_eq_some_iff] at h
  obtain ⟨l', h1, h2⟩ := h
  simp only [Prod.mk.injEq] at h2
  obtain ⟨rfl, rfl⟩ := h2
  obtain ⟨b, c, hb, q⟩ := slOf_ok hs (evGet_ok hT hg)
  obtain ⟨vs, r1, r2, r3⟩ := span_ok ((hH.sees m).at _ _) hb h1
  rw [q]
  exact ⟨vs, r1, Src.ofSlice w hu _ _ _ _ r2 (fun j u hj => by rw [Addr.add_mid]; exact r3 j u hj) (insts_one r1)⟩
 ·cases h
def evAppend (P : Program) (t : Tm) (H : List Blk) (c : Call) : Option (AV × List Blk) :=
 match c.args.toList, c.argTypes.toList with
 | [x, y], [T, T'] =>
  match P.underlying T with
  | some (.slice e) =>
   match P.info? e, evZero P e with
   | some i, some z =>
    if 0 < i.size /\ i.bytes <= 1000000 /\ z.length = i.size then
     match srcOf P t H i.size T' y, evGet t x with
     | some (0, _), some (.tv (.sc (.nils 0 0))) => some (.tv (.sc (.nils 0 0)), H)
     | some (n + 1, news), some (.tv (.sc (.nils 0 0))) =>
      if n <= 100000 then some (.tv (.sc (.slg H.length 0 0 (n + 1))), H ++ [newBlk news, capBlk i.size]) else none
     | some (0, _), some (.tv (.sc (.sl m o len cap))) => if len <= cap then some (.tv (.sc (.sl m o len cap)), H) else none
     | some (n + 1, news), some (.tv (.sc (.sl m o len cap))) =>
      if len + (n + 1) <= cap then
       match H[m]? with
       | some k => if k.ro = false /\ o + len * i.size + news.length <= k.cells.length /\ 0 < news.length then some (.tv (.sc (.sl m o (len + (n + 1)) cap)), H.set m ⟨false, k.pl && news.all SV.plain, 0, over k.cells (o + len * i.size) news⟩) else none
       | none => none
      else
       match span H m o (len * i.size) with
       | some olds => if len + (n + 1) <= 100000 then some (.tv (.sc (.slg H.length 0 0 (len + (n + 1)))), H ++ [newBlk (olds ++ news), capBlk i.size]) else none
       | none => none
     | some (0, _), some (.tv (.sc (.slg m o e0 len))) => some (.tv (.sc (.slg m o e0 len)), H)
     | some (n + 1, news), some (.tv (.sc (.slg m 0 0 len))) =>
      match span H m 0 (len * i.size), H[m]?, H[m + 1]? with
      | some olds, some k, some kc => if k.ro = false /\ kc.cap = i.size /\ k.cells ≠ [] /\ len + (n + 1) <= 100000 then some (.tv (.sc (.slg H.length 0 0 (len + (n + 1)))), H.set m dead ++ [newBlk (olds ++ news), capBlk i.size]) else none
      | _, _, _ => none
     | _, _ => none
    else none
   | _, _ => none
  | _ => none
 | _, _ => none
section
variable {P : Program} {ρ : Env} {ms : List Nat} {H : List Blk} {B : Nat} {w : World}
theorem map_app {l l' : List SV} {vs us : List Value} (h : l.map (SV.inst ρ ms) = vs.map some) (h' : l'.map (SV.inst ρ ms) = us.map some) : (l ++ l').map (SV.inst ρ ms) = (vs ++ us).map some := by
 rw [List.map_append, List.map_append, h, h']
theorem Holds.grow (h : Holds ρ ms H B w) {l : List SV} {vs : List Value} (hl : l.map (SV.inst ρ ms) = vs.map some) {c s need : Nat} {z : Array Value} (e : TypeId) (hz : z.size = s) (hv : vs.length = need * s) (hc : need <= c) :
  Holds ρ (ms ++ [w.heap.size, c]) (H ++ [newBlk l, capBlk s]) B (w.drew.alloc (.cells (vs.toArray ++ Builtin.zeroCells z (c - need)) e)) := by
 have hcell : ∀ j, (w.drew.alloc (.cells (vs.toArray ++ Builtin.zeroCells z (c - need)) e)).cell? ⟨w.heap.size, j, none⟩ = (vs.toArray ++ Builtin.zeroCells z (c - need))[j]? := fun j => by
  exact World.cell?_alloc_mark w.drew _ e (0, 0) j
 have hfr : ∀ j, (w.drew.alloc (.cells (vs.toArray ++ Builtin.zeroCells z (c - need)) e)).frozen? ⟨w.heap.size, j, none⟩ = false := fun j => by
  have := World.frozen?_alloc_mark w.drew (vs.toArray ++ Builtin.zeroCells z (c - need)) e 0 0 j
  simpa using this
 have h1 := h.push (w' := w.drew.alloc (.cells (vs.toArray ++ Builtin.zeroCells z (c - need)) e)) hl (by rw [World.size_alloc]; rfl) (fun b j hb => ⟨World.cell?_alloc_lt w.drew _ _ hb, World.frozen?_alloc_past (w := w.drew) _ _ _ hb⟩)
  (fun j v hj => ⟨by rw [hcell, Array.getElem?_append]; rw [if_pos (by simpa using (List.getElem?_eq_some_iff.1 hj).1)]; simpa using hj, hfr j⟩)
 have h2 := h1.pushCap (b := w.heap.size) (c := c) (s := s) (by simp) (fun j hj => ⟨by
  rw [hcell, Array.getElem?_eq_getElem (by
   simp only [Array.size_append, Builtin.zeroCells, Array.size_map, Array.size_range, hz, List.size_toArray, hv]
   rw [<- Nat.add_mul, show need + (c - need) = c by omega]
   exact hj)]
  rfl, hfr j⟩)
 rw [List.append_assoc, List.append_assoc] at h2
 exact h2
theorem Holds.inRoom (h : Holds ρ ms H B w) {l l' : List SV} {vs us : List Value} (hl : l.map (SV.inst ρ ms) = vs.map some) (hl' : l'.map (SV.inst ρ ms) = us.map some) {m b c s len n : Nat} {k kc : Blk} (hb : ms[m]? = some b) (hc : ms[m + 1]? = some c) (hk : H[m]? = some k) (hkc : H[m + 1]? = some kc)
  (hro : k.ro = false) (hcap : kc.cap = s) (hs : 0 < s) (hne : k.cells ≠ []) (hsp : w.rangeAt b 0 vs) (hv : vs.length = len * s) (hu : us.length = n * s) (hroom : len + n <= c) :
  Holds ρ (ms ++ [b, c]) (H.set m dead ++ [newBlk (l ++ l'), capBlk s]) B (w.setCells b (len * s) us) := by
 have hr := h.room m b c k kc hb hc hk hro hne hkc (by omega)
 have hbl := h.bnd m b k hb hk hne
 have hBb := h.low m b k hb hk hro
 have hle : len * s + n * s <= c * s := by rw [<- Nat.add_mul]; exact Nat.mul_le_mul_right s hroom
 have hth2 : w.there b (len * s) us.length := fun j hj => by
  obtain ⟨q1, q2⟩ := hr (len * s + j) (by rw [hcap]; omega)
  exact ⟨q1, q2⟩
 have hsz : ∀ (vs : List Value) (o : Nat) (w : World), (w.setCells b o vs).heap.size = w.heap.size := by
  intro vs
  induction vs with
  | nil => intro o w; rfl
  | cons v r ih => intro o w; rw [World.setCells, ih]; simp
 have h1 := (h.kill m).pushAt (w' := w.setCells b (len * s) us) (map_app hl hl') (b0 := b) (by rw [hsz]; exact Nat.le_refl _) hBb (by rw [hsz]; exact hbl)
  (fun i b' k' hi hk' hne' e => by
   subst e
   rw [List.getElem?_set] at hk'
   by_cases e2 : m = i
   ·rw [if_pos e2] at hk'
    split at hk'
    ·simp only [Option.some.injEq] at hk'; subst hk'; exact hne' rfl
    ·cases hk'
   ·rw [if_neg e2] at hk'
    exact e2 (h.inj m i b' k k' hb hi hk hk' hne hne'))
  (fun b' j hbb _ => ⟨World.cell?_setCells_out b us _ w _ (fun e _ => absurd e hbb), World.frozen?_setCells b us _ w _⟩)
  (fun b' j _ q1 q2 => ⟨cell_setCells_isSome b us _ w _ hth2 q1, by rw [World.frozen?_setCells]; exact q2⟩)
  (fun j v hj => by
   rw [World.frozen?_setCells]
   rw [List.getElem?_append] at hj
   split at hj
   ·rename_i hlt
    refine ⟨?_, ?_⟩
    ·rw [World.cell?_setCells_out b us _ w _ (fun _ _ => by show j < len * s \/ _; omega)]
     have := hsp j v hj
     rwa [Nat.zero_add] at this
    ·exact (hr j (by rw [hcap]; omega)).2
   ·rename_i hge
    have hj2 := (List.getElem?_eq_some_iff.1 hj).1
    refine ⟨?_, ?_⟩
    ·have := World.rangeAt_setCells_same w b (len * s) us hth2 (j - vs.length) v hj
     rw [hv, show len * s + (j - len * s) = j by omega] at this
     exact this
    ·have := (hth2 (j - vs.length) hj2).2
     rw [hv, show len * s + (j - len * s) = j by omega] at this
     exact this)
 have h2 := h1.pushCap (b := b) (c := c) (s := s) (by simp) (fun j hj => by
  obtain ⟨q1, q2⟩ := hr j (by rw [hcap]; exact hj)
  exact ⟨cell_setCells_isSome b us _ w _ hth2 q1, by rw [World.frozen?_setCells]; exact q2⟩)
 rw [List.append_assoc, List.append_assoc] at h2
 exact h2
end
theorem evAppend_ok {P : Program} {ρ : Env} {ms : List Nat} {t : Tm} {H H' : List Blk} {B : Nat} {a : Act} {o : Oper} {c : Call} {v : AV} {w : World} (hT : RelT ρ ms t a.tmps) (hH : Holds ρ ms H B w) (hop : o.op = .call c) (hc : c.callee = .builtin .append) (h : evAppend P t H c = some (v, H')) :
  Made P ρ ms B a w o v H' := by
 unfold evAppend at h
 split at h
 case h_2 => cases h
 rename_i x y T T' hx hTy
 have e1 : c.args = #[x, y] := by rw [<- hx, Array.toArray_toList]
 have e2 : c.argTypes = #[T, T'] := by rw [<- hTy, Array.toArray_toList]
 split at h
 case h_2 => cases h
 rename_i e hu
 split at h
 case h_2 => cases h
 rename_i i z hi hz
 split at h
 case isFalse => cases h
 rename_i hcond
 obtain ⟨c1, c2, c3⟩ := hcond
 obtain ⟨i', z0, hi', hz0, hzl⟩ := evZero_ok hz
 rw [hi] at hi'
 cases hi'
 have hzs : z0.cells.size = i.size := by have := congrArg List.length (hzl ρ ms); simp at this; omega
 have hrun : ∀ (u : Value) (w' : World), (Builtin.append_ #[T, T'] o.type #[a.eval x, a.eval y]).run P w = .ok u w' -> (execOp a.eval o).run P w = .ok (.value u) w' := fun u w' hu => by
  simp only [execOp, hop, resolve, hc, e1, e2, Sem.run_bind, Sem.run_pure, Result.andThen_ok, invoke, builtin, List.map_toArray, List.map_cons, List.map_nil, hu]
 have hfit : ∀ need old, need <= 100001 -> old < need -> Builtin.nextslicecap need old * i.bytes <= 281474976710656 := fun need old h1 h2 => by
  refine growslice_fits h2 ?_
  have : need * i.bytes <= 100001 * 1000000 := Nat.mul_le_mul h1 c2
  omega
 split at h
 ·-- nothing onto nothing
  rename_i l hs hg
  cases h
  obtain ⟨vs, r1, r2⟩ := srcOf_ok hT hH hs
  have hv := evGet_ok hT hg
  simp only [AV.inst, TV.inst, SV.inst, Option.some.injEq] at hv
  refine ⟨_, .slice none 0 0, ms, w, hrun _ _ ?_, .inl rfl, List.prefix_refl _, rfl, hH, Bel.refl _ _⟩
  rw [<- hv]
  rcases r2.kind with ⟨e', hk⟩ | hk <;> simp [Builtin.append_, run_underlying hu, run_underlying hk, sizeOf, typeInfo, hi, r2.len, r2.cells]
 ·rename_i n l hs hg
  split at h <;> cases h
  rename_i hn
  obtain ⟨vs, r1, r2⟩ := srcOf_ok hT hH hs
  have hv := evGet_ok hT hg
  simp only [AV.inst, TV.inst, SV.inst, Option.some.injEq] at hv
  have hr := run_append_grow_src (P := P) w T T' o.type e i z0 hu hi hz0 none 0 0 [] (run_firstCells_none _ _ _ _ _) (a.eval y) (n + 1) vs r2 (by omega) (by omega) (hfit _ _ (by omega) (by omega))
  rw [hv] at hr
  simp only [Nat.zero_add, List.nil_append] at hr
  have hge := grownCap_ge w (n + 1) 0 e
  generalize grownCap w (n + 1) 0 e = gc at hr hge
  refine ⟨_, _, _, _, hrun _ _ hr, .inl rfl, ?_, ?_, hH.grow r1 e hzs r2.newsLen hge, ((Bel.refl B w).drew).alloc hH.big _⟩
  ·exact List.prefix_append _ _
  ·simp only [AV.inst, TV.inst, SV.inst]
   exact grown_iff.2 ⟨w.heap.size, gc, by simp [<- hH.len], by simp [<- hH.len], by omega, rfl⟩
 ·-- nothing onto a slice
  rename_i l m oo len cap hs hg
  split at h <;> cases h
  rename_i hlc
  obtain ⟨vs, r1, r2⟩ := srcOf_ok hT hH hs
  have hv := evGet_ok hT hg
  have hv0 := hv
  simp only [AV.inst, TV.inst, SV.inst, Option.map_eq_some_iff] at hv
  obtain ⟨b, hb, hv⟩ := hv
  have hvs : vs = [] := List.length_eq_zero_iff.1 (by have := r2.newsLen; omega)
  subst hvs
  refine ⟨_, _, ms, w, hrun _ _ ?_, .inl rfl, List.prefix_refl _, hv0, hH, Bel.refl _ _⟩
  rw [<- hv]
  exact run_append_room_src (P := P) w T T' o.type e i hu hi b oo len cap (a.eval y) 0 [] r2 (by omega) (fun j hj => by simp at hj) (fun j hj => by simp at hj)
 ·rename_i n l m oo len cap hs hg
  obtain ⟨vs, r1, r2⟩ := srcOf_ok hT hH hs
  have hll : l.length = vs.length := by have := congrArg List.length r1; simpa using this
  have hv := evGet_ok hT hg
  simp only [AV.inst, TV.inst, SV.inst, Option.map_eq_some_iff] at hv
  obtain ⟨b, hb, hv⟩ := hv
  split at h
  ·rename_i hroom
   split at h
   case h_2 => cases h
   rename_i k hk
   split at h <;> cases h
   rename_i hcd
   obtain ⟨d1, d2, d3⟩ := hcd
   have hth : ∀ j, j < vs.length -> (w.cell? ⟨b, oo + len * i.size + j, none⟩).isSome = true /\ w.frozen? ⟨b, oo + len * i.size + j, none⟩ = false := fun j hj => by
    have hj2 : oo + len * i.size + j < k.cells.length := by omega
    obtain ⟨u, _, h2, h3⟩ := hH.cell m b k hb hk (oo + len * i.size + j) _ (List.getElem?_eq_getElem hj2)
    exact ⟨by rw [h2]; rfl, h3 d1⟩
   have hr := run_append_room_src (P := P) w T T' o.type e i hu hi b oo len cap (a.eval y) (n + 1) vs r2 hroom (fun j hj => (hth j hj).1) (fun j hj => (hth j hj).2)
   rw [hv] at hr
   refine ⟨_, _, ms, _, hrun _ _ hr, .inl rfl, List.prefix_refl _, ?_, hH.store hb hk r1 (by omega) (by omega) d1, below_setCells (hH.low m b k hb hk d1) vs _ w w (Bel.refl _ _)⟩
   simp only [AV.inst, TV.inst, SV.inst, hb, Option.map_some]
  ·rename_i hroom
   split at h
   case h_2 => cases h
   rename_i olds hsp
   split at h <;> cases h
   rename_i hn
   obtain ⟨us, q1, q2, q3⟩ := span_ok ((hH.sees m).at _ _) hb hsp
   have hr := run_append_grow_src (P := P) w T T' o.type e i z0 hu hi hz0 (some ⟨b, oo, none⟩) len cap us (run_firstCells_some w.drew _ _ _ _ _ _ q2 (fun j u hj => by rw [Addr.add_mid]; exact q3 j u hj)) (a.eval y) (n + 1) vs r2 (by omega) (by omega) (hfit _ _ (by omega) (by omega))
   rw [hv] at hr
   have hge := grownCap_ge w (len + (n + 1)) cap e
   generalize grownCap w (len + (n + 1)) cap e = gc at hr hge
   refine ⟨_, _, _, _, hrun _ _ hr, .inl rfl, ?_, ?_, hH.grow (map_app q1 r1) e hzs (by rw [List.length_append, q2, r2.newsLen, Nat.add_mul]) hge, ((Bel.refl B w).drew).alloc hH.big _⟩
   ·exact List.prefix_append _ _
   ·simp only [AV.inst, TV.inst, SV.inst]
    exact grown_iff.2 ⟨w.heap.size, gc, by simp [<- hH.len], by simp [<- hH.len], by omega, rfl⟩
 ·rename_i l m oo e0 len hs hg
  cases h
  obtain ⟨vs, r1, r2⟩ := srcOf_ok hT hH hs
  have hv := evGet_ok hT hg
  have hv0 := hv
  simp only [AV.inst, TV.inst, SV.inst] at hv
  obtain ⟨b, cc, hb, hcc, hle, hv⟩ := grown_iff.1 hv
  have hvs : vs = [] := List.length_eq_zero_iff.1 (by have := r2.newsLen; omega)
  subst hvs
  refine ⟨_, _, ms, w, hrun _ _ ?_, .inl rfl, List.prefix_refl _, hv0, hH, Bel.refl _ _⟩
  rw [hv]
  exact run_append_room_src (P := P) w T T' o.type e i hu hi b oo len (cc - e0) (a.eval y) 0 [] r2 (by omega) (fun j hj => by simp at hj) (fun j hj => by simp at hj)
 ·rename_i n l m len hs hg
  split at h
  case h_2 => cases h
  rename_i olds k kc hsp hk hkc
  split at h <;> cases h
  rename_i hcd
  obtain ⟨d1, d2, d3, d4⟩ := hcd
  obtain ⟨vs, r1, r2⟩ := srcOf_ok hT hH hs
  have hv := evGet_ok hT hg
  simp only [AV.inst, TV.inst, SV.inst] at hv
  obtain ⟨b, cc, hb, hcc, hle, hv⟩ := grown_iff.1 hv
  obtain ⟨us, q1, q2, q3⟩ := span_ok ((hH.sees m).at _ _) hb hsp
  by_cases hroom : len + (n + 1) <= cc
  ·have hroomy := hH.room m b cc k kc hb hcc hk d1 d3 hkc (by omega)
   have hbnd : ∀ j, j < vs.length -> 0 + len * i.size + j < cc * kc.cap := fun j hj => by
    rw [d2]
    have h1 : (len + (n + 1)) * i.size <= cc * i.size := Nat.mul_le_mul_right _ hroom
    rw [Nat.add_mul, <- r2.newsLen] at h1
    omega
   have hr := run_append_room_src (P := P) w T T' o.type e i hu hi b 0 len (cc - 0) (a.eval y) (n + 1) vs r2 (by omega) (fun j hj => (hroomy _ (hbnd j hj)).1) (fun j hj => (hroomy _ (hbnd j hj)).2)
   rw [<- hv, Nat.zero_add] at hr
   refine ⟨_, _, _, _, hrun _ _ hr, .inl rfl, ?_, ?_, hH.inRoom q1 r1 hb hcc hk hkc d1 d2 c1 d3 q3 q2 r2.newsLen hroom, below_setCells (hH.low m b k hb hk d1) vs _ w w (Bel.refl _ _)⟩
   ·exact List.prefix_append _ _
   ·simp only [AV.inst, TV.inst, SV.inst]
    exact grown_iff.2 ⟨b, cc, by simp [<- hH.len], by simp [<- hH.len], by omega, rfl⟩
  ·have hr := run_append_grow_src (P := P) w T T' o.type e i z0 hu hi hz0 (some ⟨b, 0, none⟩) len (cc - 0) us (run_firstCells_some w.drew _ _ _ _ _ _ q2 (fun j u hj => by rw [Addr.add_mid]; exact q3 j u hj)) (a.eval y) (n + 1) vs r2 (by omega) (by omega) (hfit _ _ (by omega) (by omega))
   rw [<- hv] at hr
   have hge := grownCap_ge w (len + (n + 1)) (cc - 0) e
   generalize grownCap w (len + (n + 1)) (cc - 0) e = gc at hr hge
   refine ⟨_, _, _, _, hrun _ _ hr, .inl rfl, ?_, ?_, (hH.kill m).grow (map_app q1 r1) e hzs (by rw [List.length_append, q2, r2.newsLen, Nat.add_mul]) hge, ((Bel.refl B w).drew).alloc hH.big _⟩
   ·exact List.prefix_append _ _
   ·simp only [AV.inst, TV.inst, SV.inst]
    exact grown_iff.2 ⟨w.heap.size, gc, by simp [<- hH.len], by simp [<- hH.len], by omega, rfl⟩
 ·cases h
def byteOf : SV -> Option Nat
 | .int .u8 (.lit n) => if 0 <= n /\ n < 256 then some n.toNat else none
 | _ => none
def evConvX (P : Program) (t : Tm) (H : List Blk) (src dst : TypeId) (x : Operand) : Option (AV × List Blk) :=
 match P.underlying src, P.underlying dst, evGet t x with
 | some .string, some (.slice e), some (.tv (.sc (.str l))) =>
  match P.underlying e with
  | some (.int .u8) => some (.tv (.sc (.slg H.length 0 0 l.length)), H ++ [newBlk (strCells l), capBlk 1])
  | _ => none
 | some (.slice e), some .string, some (.tv (.sc (.nils _ _))) =>
  match P.underlying e with
  | some (.int .u8) => some (.tv (.sc (.str [])), H)
  | _ => none
 | some (.slice e), some .string, some v =>
  match P.underlying e, slOf v with
  | some (.int .u8), some (m, o, n) =>
   match span H m o n with
   | some l => (seqO (l.map byteOf)).map fun b => (.tv (.sc (.str b)), H)
   | none => none
  | _, _ => none
 | some (.slice _), some (.slice e), some (.tv (.sc (.sl m o n c))) =>
  match P.underlying e, H[m]? with
  | some (.int .u8), some k => if src = dst /\ k.ro = false /\ k.cells ≠ [] then some (.tv (.sc (.sl m o n c)), H.set m ⟨true, k.pl, 0, k.cells⟩) else none
  | _, _ => none
 | _, _, some v => (evConv P src dst v).map fun z => (z, H)
 | _, _, _ => none
theorem byteOf_ok {ρ : Env} {ms : List Nat} : ∀ (l : List SV) (b : List Nat) (vs : List Value), l.map byteOf = b.map some -> l.map (SV.inst ρ ms) = vs.map some -> vs = (b.map UInt8.ofNat).map fun x => Value.int .u8 (x.toNat : Int)
 | [], b, vs, h, hv => by cases b <;> cases vs <;> simp at h hv ⊢
 | s :: l, b, vs, h, hv => by
  match b, vs, h, hv with
  | x :: b, v :: vs, h, hv =>
   simp only [List.map_cons, List.cons.injEq] at h hv ⊢
   refine ⟨?_, byteOf_ok l b vs h.2 hv.2⟩
   have h1 := h.1
   unfold byteOf at h1
   split at h1
   ·rename_i n
    split at h1 <;> cases h1
    rename_i hn
    have h2 := hv.1
    simp only [SV.inst, Ex.den, Option.some.injEq] at h2
    rw [<- h2]
    congr 1
    rw [UInt8.toNat_ofNat', Nat.mod_eq_of_lt (by omega)]
    omega
   ·cases h1
theorem evConvX_ok {P : Program} {ρ : Env} {ms : List Nat} {t : Tm} {H H' : List Blk} {B : Nat} {a : Act} {o : Oper} {src dst : TypeId} {x : Operand} {v : AV} {w : World} (hT : RelT ρ ms t a.tmps) (hH : Holds ρ ms H B w) (hop : o.op = .convert src dst x) (h : evConvX P t H src dst x = some (v, H')) :
  Made P ρ ms B a w o v H' := by
 have hrun : ∀ (u : Value) (w' : World), (convert src dst (a.eval x)).run P w = .ok u w' -> (execOp a.eval o).run P w = .ok (.value u) w' := fun u w' hu => by
  simp [execOp, hop, hu]
 unfold evConvX at h
 split at h
 ·rename_i e l h1 h2 hg
  split at h
  case h_2 => cases h
  rename_i h3
  cases h
  have hv := evGet_ok hT hg
  simp only [AV.inst, TV.inst, SV.inst, Option.some.injEq] at hv
  have hr := run_bytes_of_string (P := P) w src dst e (bytesOf l) h1 h2 h3
  rw [hv] at hr
  have hge := grownCap_ge w (bytesOf l).size 0 e
  have hsz : (bytesRow (bytesOf l) (grownCap w (bytesOf l).size 0 e)).size = grownCap w (bytesOf l).size 0 e := by
   have : (bytesOf l).data.size = (bytesOf l).size := rfl
   simp only [bytesRow, Array.size_append, Array.size_map, Array.size_replicate]
   omega
  have hcell : ∀ j, (w.drew.alloc (.cells (bytesRow (bytesOf l) (grownCap w (bytesOf l).size 0 e)) e ((bytesRow (bytesOf l) (grownCap w (bytesOf l).size 0 e)).size, (bytesRow (bytesOf l) (grownCap w (bytesOf l).size 0 e)).size + 1))).cell? ⟨w.heap.size, j, none⟩ = (bytesRow (bytesOf l) (grownCap w (bytesOf l).size 0 e))[j]? := fun j =>
   World.cell?_alloc_mark w.drew _ e _ j
  have hfr : ∀ j, j < grownCap w (bytesOf l).size 0 e -> (w.drew.alloc (.cells (bytesRow (bytesOf l) (grownCap w (bytesOf l).size 0 e)) e ((bytesRow (bytesOf l) (grownCap w (bytesOf l).size 0 e)).size, (bytesRow (bytesOf l) (grownCap w (bytesOf l).size 0 e)).size + 1))).frozen? ⟨w.heap.size, j, none⟩ = false := fun j hj => by
   refine (World.frozen?_alloc_mark w.drew _ e _ _ j).trans ?_
   rw [hsz]
   simp; omega
  have hP := hH.push (w' := w.drew.alloc (.cells (bytesRow (bytesOf l) (grownCap w (bytesOf l).size 0 e)) e ((bytesRow (bytesOf l) (grownCap w (bytesOf l).size 0 e)).size, (bytesRow (bytesOf l) (grownCap w (bytesOf l).size 0 e)).size + 1))) (strCells_ok ρ ms l) (by rw [World.size_alloc]; rfl) (fun b j hb => ⟨World.cell?_alloc_lt w.drew _ _ hb, World.frozen?_alloc_past (w := w.drew) _ _ _ hb⟩) (fun j v hj => by
   have hlt := (List.getElem?_eq_some_iff.1 hj).1
   rw [byteCells_length] at hlt
   refine ⟨?_, hfr j (by omega)⟩
   rw [hcell, bytesRow, Array.getElem?_append, if_pos (by simpa using hlt)]
   simpa [byteCells] using hj)
  have hC := hP.pushCap (b := w.heap.size) (c := grownCap w (bytesOf l).size 0 e) (s := 1) (by simp) (fun j hj => ⟨by rw [hcell, Array.getElem?_eq_getElem (by rw [hsz]; omega)]; rfl, hfr j (by omega)⟩)
  rw [List.append_assoc, List.append_assoc] at hC
  refine ⟨_, _, _, _, hrun _ _ hr, .inl rfl, List.prefix_append _ _, ?_, hC, ((Bel.refl B w).drew).alloc hH.big _⟩
  simp only [AV.inst, TV.inst, SV.inst]
  rw [bytesOf_size]
  rw [bytesOf_size] at hge
  generalize grownCap w l.length 0 e = gc at hge
  exact grown_iff.2 ⟨w.heap.size, gc, by simp [<- hH.len], by simp [<- hH.len], by omega, rfl⟩
 ·rename_i e n c h1 h2 hg
  split at h
  case h_2 => cases h
  rename_i h3
  cases h
  have hv := evGet_ok hT hg
  simp only [AV.inst, TV.inst, SV.inst, Option.some.injEq] at hv
  refine ⟨_, .string .empty, ms, w, hrun _ _ ?_, .inl rfl, List.prefix_refl _, rfl, hH, Bel.refl _ _⟩
  rw [<- hv]
  simp [convert, run_underlying h1, run_underlying h2, run_underlying h3, Conv.bytesToString]
 ·rename_i e v' _ h1 h2 hg
  split at h
  case h_2 => cases h
  rename_i m oo n h3 hs
  split at h
  case h_2 => cases h
  rename_i l hsp
  rw [Option.map_eq_some_iff] at h
  obtain ⟨b, h4, h5⟩ := h
  cases h5
  rw [seqO_iff] at h4
  obtain ⟨bl, c, hb, q⟩ := slOf_ok hs (evGet_ok hT hg)
  obtain ⟨us, q1, q2, q3⟩ := span_ok ((hH.sees m).at _ _) hb hsp
  have e5 := byteOf_ok l b us h4 q1
  subst e5
  have hn : n = (b.map UInt8.ofNat).length := by rw [<- q2]; simp
  refine ⟨_, .string (bytesOf b), ms, w, hrun _ _ ?_, .inl rfl, List.prefix_refl _, rfl, hH, Bel.refl _ _⟩
  rw [q, hn]
  exact run_convert_bytes_back (P := P) w src dst e ⟨bl, oo, none⟩ c (b.map UInt8.ofNat) h1 h3 h2 (fun j hj => by
   rw [Addr.add_mid]
   refine q3 j _ ?_
   rw [List.getElem?_map, List.getElem?_eq_getElem hj]
   rfl)
 ·rename_i e' e m oo n c h1 h2 hg
  split at h
  case h_2 => cases h
  rename_i k h3 hk
  split at h <;> cases h
  rename_i hcd
  obtain ⟨d1, d2, d3⟩ := hcd
  have hv := evGet_ok hT hg
  have hv0 := hv
  simp only [AV.inst, TV.inst, SV.inst, Option.map_eq_some_iff] at hv
  obtain ⟨b, hb, hv⟩ := hv
  have hbl := hH.bnd m b k hb hk d3
  obtain ⟨s0, hs0⟩ : ∃ s0, k.cells[0]? = some s0 := by
   cases hq : k.cells with
   | nil => exact absurd hq d3
   | cons y r => exact ⟨y, rfl⟩
  obtain ⟨u0, _, hc0, _⟩ := hH.cell m b k hb hk 0 s0 hs0
  obtain ⟨T0, n0, hsh⟩ : ∃ T0 n0, w.shape? b = some (T0, n0) := by
   unfold World.cell? at hc0
   unfold World.shape?
   split at hc0
   ·rename_i c0 T0 f0 hq; exact ⟨T0, c0.size, by rw [hq]⟩
   ·cases hc0
  refine ⟨_, a.eval x, ms, w.freeze ⟨b, n0, none⟩ 1, hrun _ _ ?_, .inl rfl, List.prefix_refl _, hv0, hH.mark hb hk d3 _ rfl 1, below_freeze 1 (hH.low m b k hb hk d2)⟩
  rw [<- hv]
  subst d1
  have he : e' = e := by rw [h1] at h2; simpa using h2
  subst he
  simp [convert, run_underlying h1, run_underlying h3, markStringish, hsh]
 ·obtain ⟨v', hg, h⟩ : ∃ v', evGet t x = some v' /\ (evConv P src dst v').map (fun z => (z, H)) = some (v, H') := ⟨_, by assumption, h⟩
  rw [Option.map_eq_some_iff] at h
  obtain ⟨z, h1, h2⟩ := h
  cases h2
  obtain ⟨u, h3, h4⟩ := evConv_ok h1 (evGet_ok hT hg) w
  exact ⟨_, u, ms, w, hrun _ _ h4, .inl rfl, List.prefix_refl _, h3, hH, Bel.refl _ _⟩
 ·cases h
def evAppendZ (P : Program) (t : Tm) (H : List Blk) (c : Call) : Option (AV × List Blk) :=
 match c.args.toList, c.argTypes.toList with
 | [x, y], [T, T'] =>
  match P.underlying T, P.underlying T' with
  | some (.slice e), some (.int _) =>
   match P.info? e, evZero P e, evGet t x, gInt t y with
   | some i, some z, some (.tv (.sc (.nils 0 0))), some (_, l) =>
    if 0 < l /\ l <= 1000 /\ 0 < i.size /\ i.bytes <= 1000000 /\ z.length = i.size then
     some (.tv (.sc (.slg H.length 0 0 l.toNat)), H ++ [newBlk ((List.range (l.toNat * i.size)).map fun j => z.getD (j % i.size) .nilp), capBlk i.size])
    else none
   | _, _, _, _ => none
  | _, _ => none
 | _, _ => none
theorem run_append_zeros {P : Program} (w : World) (t u ty e : TypeId) (i : TypeInfo) (z : Value) (ki k : IntKind) (ht : P.underlying t = some (.slice e)) (hu : P.underlying u = some (.int ki)) (hi : P.info? e = some i) (hz : i.zero = some z) (n : Nat) (h0 : 0 < n) (hn : n <= 1000) (hs : 0 < i.size) (hb : i.bytes <= 1000000) :
  (Builtin.append_ #[t, u] ty #[.slice none 0 0, .int k (n : Int)]).run P w = .ok (.slice (some ⟨w.heap.size, 0, none⟩) n (grownCap w n 0 e)) (w.drew.alloc (.cells (Builtin.zeroCells z.cells n ++ Builtin.zeroCells z.cells (grownCap w n 0 e - n)) e)) := by
 have hw : IntKind.i64.wrap (n : Int) = (n : Int) := by simp [IntKind.wrap, IntKind.signed, IntKind.bits]; omega
 have ha : ∀ w', (asInt (.int k (n : Int))).run P w' = .ok (n : Int) w' := fun _ => rfl
 have hn0 : ¬ n = 0 := by omega
 have hneg : ¬ (n : Int) < 0 := by omega
 have hmul : n * i.bytes <= 1000 * 1000000 := Nat.mul_le_mul hn hb
 have h48 : ¬ (281474976710656 < (n : Int) * (i.bytes : Int)) := by
  have : ((n * i.bytes : Nat) : Int) <= 1000000000 := by omega
  rw [Int.natCast_mul] at this
  omega
 have h63 : ¬ (9223372036854775807 < (n : Int)) := by omega
 have h49 : ¬ (281474976710656 < Builtin.nextslicecap n 0 * i.bytes) := by rw [nextslicecap_zero h0]; omega
 have hs0 : ¬ i.size = 0 := by omega
 simp [Builtin.append_, run_underlying ht, run_underlying hu, sizeOf, typeInfo, zeroValue, hi, hz, ha, hw, hneg, h48, hn0, h63, h49, Question.forced, newRow, grownCap, Builtin.firstCells]
 intro h
 rcases Nat.mul_eq_zero.1 h with h | h
 ·exact absurd h hn0
 ·exact absurd h hs0
theorem evAppendZ_ok {P : Program} {ρ : Env} {ms : List Nat} {t : Tm} {H H' : List Blk} {B : Nat} {a : Act} {o : Oper} {c : Call} {v : AV} {w : World} (hT : RelT ρ ms t a.tmps) (hH : Holds ρ ms H B w) (hop : o.op = .call c) (hc : c.callee = .builtin .append) (h : evAppendZ P t H c = some (v, H')) :
  Made P ρ ms B a w o v H' := by
 unfold evAppendZ at h
 split at h
 case h_2 => cases h
 rename_i x y T T' hx hTy
 have e1 : c.args = #[x, y] := by rw [<- hx, Array.toArray_toList]
 have e2 : c.argTypes = #[T, T'] := by rw [<- hTy, Array.toArray_toList]
 split at h
 case h_2 => cases h
 rename_i e ki hu hu'
 split at h
 case h_2 => cases h
 rename_i i z k l hi hz hg hgi
 split at h
 case isFalse => cases h
 rename_i hcond
 obtain ⟨c0, c1, c2, c3, c4⟩ := hcond
 cases h
 obtain ⟨i', z0, hi', hz0, hzl⟩ := evZero_ok hz
 rw [hi] at hi'
 cases hi'
 have hzs : z0.cells.size = i.size := by have := congrArg List.length (hzl ρ ms); simp at this; omega
 have hrun : ∀ (u : Value) (w' : World), (Builtin.append_ #[T, T'] o.type #[a.eval x, a.eval y]).run P w = .ok u w' -> (execOp a.eval o).run P w = .ok (.value u) w' := fun u w' hu => by
  simp only [execOp, hop, resolve, hc, e1, e2, Sem.run_bind, Sem.run_pure, Result.andThen_ok, invoke, builtin, List.map_toArray, List.map_cons, List.map_nil, hu]
 have hv := evGet_ok hT hg
 simp only [AV.inst, TV.inst, SV.inst, Option.some.injEq] at hv
 have hy := gInt_ok hT hgi
 obtain ⟨n, rfl⟩ := Int.eq_ofNat_of_zero_le (show 0 <= l by omega)
 have hr := run_append_zeros (P := P) w T T' o.type e i z0 ki k hu hu' hi hz0 n (by omega) (by omega) c2 c3
 rw [hv, <- hy] at hr
 have hge := grownCap_ge w n 0 e
 generalize grownCap w n 0 e = gc at hr hge
 have hcl : ((List.range (n * i.size)).map fun j => z.getD (j % i.size) .nilp).map (SV.inst ρ ms) = (Builtin.zeroCells z0.cells n).toList.map some := by
  unfold Builtin.zeroCells
  rw [hzs]
  have := rep_ok (hzl ρ ms) c2 c4 (n * i.size)
  rw [hzs] at this
  exact this
 have hlen : (Builtin.zeroCells z0.cells n).toList.length = n * i.size := by simp [Builtin.zeroCells, hzs]
 have hgr := hH.grow hcl e hzs hlen hge
 rw [Array.toArray_toList] at hgr
 refine ⟨_, _, _, _, hrun _ _ hr, .inl rfl, ?_, ?_, hgr, ((Bel.refl B w).drew).alloc hH.big _⟩
 ·exact List.prefix_append _ _
 ·simp only [AV.inst, TV.inst, SV.inst]
  exact grown_iff.2 ⟨w.heap.size, gc, by simp [<- hH.len], by simp [<- hH.len], by simp; omega, by simp⟩
def evAppendA (P : Program) (t : Tm) (H : List Blk) (c : Call) : Option (AV × List Blk) := match evAppend P t H c with | some r => some r | none => evAppendZ P t H c
theorem evAppendA_ok {P : Program} {ρ : Env} {ms : List Nat} {t : Tm} {H H' : List Blk} {B : Nat} {a : Act} {o : Oper} {c : Call} {v : AV} {w : World} (hT : RelT ρ ms t a.tmps) (hH : Holds ρ ms H B w) (hop : o.op = .call c) (hc : c.callee = .builtin .append) (h : evAppendA P t H c = some (v, H')) :
  Made P ρ ms B a w o v H' := by
 unfold evAppendA at h
 split at h
 ·rename_i hr
  cases h
  exact evAppend_ok hT hH hop hc hr
 ·exact evAppendZ_ok hT hH hop hc h
abbrev CallF := Nat -> List AV -> List Blk -> Option (AV × List Blk)
def CallOk (P : Program) (ρ : Env) (call : CallF) : Prop :=
 ∀ g aas H v H', call g aas H = some (v, H') -> ∀ (ms : List Nat) (B : Nat) (w : World) (args : Array Value), aas.map (AV.inst ρ ms) = args.toList.map some -> Holds ρ ms H B w →
  Calls P g args w fun e w' => ∃ ms' u, e = .returned u /\ ms <+: ms' /\ v.inst ρ ms' = some u /\ Holds ρ ms' H' B w' /\ Bel B w w'
def canCall (P : Program) (g : Nat) : Bool :=
 match P.funcs[g]? with
 | some fn => fn.name != "runtime.NumGoroutine" && fn.body.isSome
 | none => false
def methF (P : Program) (ty : TypeId) (ptr : Bool) (name : String) : Option Nat :=
 match P.info? ty with
 | some i =>
  match i.methods.find? (·.name == name) with
  | some m =>
   if m.path.isEmpty then
    match m.func, P.underlying ty with
    | some (g, true), some (.pointer _) => if ptr then some g else none
    | some (g, false), some (.struct _) => if ptr then none else some g
    | _, _ => none
   else none
  | none => none
 | none => none
theorem methF_ok {P : Program} {ty : TypeId} {b : Bool} {name : String} {g : Nat} (h : methF P ty b name = some g) (v : Value) (k : Nat) (w : World) : (method (k + 1) ty v name).run P w = .ok (g, v) w := by
 unfold methF at h
 split at h
 case h_2 => cases h
 rename_i i hi
 split at h
 case h_2 => cases h
 rename_i m hm
 split at h
 case isFalse => cases h
 rename_i hp
 have hp2 : m.path.toList = [] := by simpa using hp
 split at h
 ·rename_i g' e h1 h2
  split at h
  case isFalse => cases h
  cases h
  simp [method, typeInfo, hi, hm, hp2, follow, h1, receiverAt, run_underlying h2, Place.get]
 ·rename_i g' e h1 h2
  split at h
  case isTrue => cases h
  cases h
  simp [method, typeInfo, hi, hm, hp2, follow, h1, receiverAt, run_underlying h2, Place.get]
 ·cases h
def recvOf : AV -> Option (Nat × Bool × AV)
 | .tv (.sc (.ifp ty n o)) => some (ty, true, .tv (.sc (.ptr n o)))
 | .tv (.sc (.ife ty)) => some (ty, false, .tv (.agg []))
 | _ => none
theorem recvOf_ok {ρ : Env} {ms : List Nat} {v r : AV} {ty : Nat} {b : Bool} (h : recvOf v = some (ty, b, r)) {u : Value} (hu : v.inst ρ ms = some u) : ∃ x, u = .iface ty x /\ r.inst ρ ms = some x := by
 unfold recvOf at h
 split at h
 ·simp only [Option.some.injEq, Prod.mk.injEq] at h
  obtain ⟨rfl, rfl, rfl⟩ := h
  simp only [AV.inst, TV.inst, SV.inst, Option.map_eq_some_iff] at hu ⊢
  obtain ⟨x, hx, rfl⟩ := hu
  exact ⟨x, rfl, hx⟩
 ·simp only [Option.some.injEq, Prod.mk.injEq] at h
  obtain ⟨rfl, rfl, rfl⟩ := h
  simp only [AV.inst, TV.inst, SV.inst, Option.some.injEq] at hu
  exact ⟨.agg #[], hu.symm, rfl⟩
 ·cases h
def evStepX : Op -> CallF -> Program -> Lore -> Tm -> List Blk -> Option (AV × List Blk)
 | .call c => fun call P _ t H =>
  match c.callee with
  | .value f =>
   match evGet t f, seqO (c.args.toList.map (evGet t)) with
   | some (.tv (.sc (.clo g caps))), some aas => if canCall P g then call g (aas ++ ptrs caps) H else none
   | _, _ => none
  | .builtin .len => (evLen P t c).map fun v => (v, H)
  | .builtin .copy => evCopy P t H c
  | .builtin .append => evAppendA P t H c
  | .builtin .max => (evTwo maxI t c).map fun v => (v, H)
  | .builtin .min => (evTwo minI t c).map fun v => (v, H)
  | .invoke f name =>
   match (evGet t f).bind recvOf, seqO (c.args.toList.map (evGet t)) with
   | some (ty, b, r), some aas =>
    match methF P ty b name with
    | some g => if canCall P g then call g (r :: aas) H else none
    | none => none
   | _, _ => none
  | .builtin .cap => (evCap P t c).map fun v => (v, H)
  | _ => none
 | .convert s d x => fun _ P _ t H => evConvX P t H s d x
 | .buildSlice T n ps => fun _ P _ t H => evWrite P t H (.buildSlice T n ps)
 | .makeSlice T x y => fun _ P _ t H => evWrite P t H (.makeSlice T x y)
 | .alloc T => fun _ P _ t H => evWrite P t H (.alloc T)
 | .box T x => fun _ P _ t H => evWrite P t H (.box T x)
 | .store T x y => fun _ P _ t H => evWrite P t H (.store T x y)
 | op => fun _ P L t H => (evRead P L t H op).map fun v => (v, H)
def evStep (call : CallF) (P : Program) (L : Lore) (t : Tm) (H : List Blk) (o : Oper) : Option (AV × List Blk) := evStepX o.op call P L t H
theorem wp_of_made {P : Program} {ρ : Env} {ms : List Nat} {B : Nat} {a : Act} {w : World} {o : Oper} {v : AV} {H' : List Blk} (h : Made P ρ ms B a w o v H') {K : Act -> World -> Prop} {Q : Exit -> Act -> World -> Prop}
  (hK : ∀ ms' u w', ms <+: ms' -> v.inst ρ ms' = some u -> Holds ρ ms' H' B w' -> Bel B w w' -> K (a.put o.dst u) w') : o.wp P a w K Q := by
 obtain ⟨n, u, ms', w', h1, h2, h3, h4, h5, h6⟩ := h
 unfold Oper.wp
 rw [h1]
 rcases h2 with rfl | ⟨rfl, rfl⟩
 ·exact hK ms' u w' h3 h4 h5 h6
 ·exact hK ms' _ w' h3 h4 h5 h6
theorem evStep_ok {P : Program} {ρ : Env} {L : Lore} (hL : LoreOk ρ L) {call : CallF} (hc : CallOk P ρ call) {ms : List Nat} {t : Tm} {H H' : List Blk} {B : Nat} {a : Act} {o : Oper} {v : AV} {w : World} (hT : RelT ρ ms t a.tmps) (hH : Holds ρ ms H B w)
  (h : evStep call P L t H o = some (v, H')) {K : Act -> World -> Prop} {Q : Exit -> Act -> World -> Prop} (hK : ∀ ms' u w', ms <+: ms' -> v.inst ρ ms' = some u -> Holds ρ ms' H' B w' -> Bel B w w' -> K (a.put o.dst u) w') : o.wp P a w K Q := by
 unfold evStep at h
 have gen : (evRead P L t H o.op).map (fun v => (v, H)) = some (v, H') -> o.wp P a w K Q := fun h => by
  rw [Option.map_eq_some_iff] at h
  obtain ⟨v', h1, h2⟩ := h
  simp only [Prod.mk.injEq] at h2
  obtain ⟨rfl, rfl⟩ := h2
  obtain ⟨u, h3, h4⟩ := evRead_ok hL hT h1 w (fun _ _ n _ _ _ => (hH.sees n).at _ _)
  exact wp_of_made ⟨.value u, u, ms, w, h4, .inl rfl, List.prefix_refl _, h3, hH, Bel.refl _ _⟩ hK
 cases hop : o.op
 case call c =>
  rw [hop] at h
  simp only [evStepX] at h
  split at h
  case h_9 => cases h
  case h_8 =>
   rename_i hcal
   rw [Option.map_eq_some_iff] at h
   obtain ⟨v', h1, h2⟩ := h
   simp only [Prod.mk.injEq] at h2
   obtain ⟨rfl, rfl⟩ := h2
   obtain ⟨u, h3, h4⟩ := evCap_ok hT hop hcal h1 w
   exact wp_of_made ⟨.value u, u, ms, w, h4, .inl rfl, List.prefix_refl _, h3, hH, Bel.refl _ _⟩ hK
  case h_7 =>
   rename_i f name hcal
   split at h
   case h_2 => cases h
   rename_i ty b r aas h1 h2
   split at h
   case h_2 => cases h
   rename_i g hmeth
   split at h
   case isFalse => cases h
   rename_i hcan
   rw [Option.bind_eq_some_iff] at h1
   obtain ⟨fv, h0, h1⟩ := h1
   obtain ⟨x, e1, e2⟩ := recvOf_ok (ρ := ρ) (ms := ms) h1 (evGet_ok hT h0)
   rw [seqO_iff] at h2
   have e4 : aas.map (AV.inst ρ ms) = (c.args.toList.map a.eval).map some := by
    have key : ∀ (xs : List Operand) (l : List AV), xs.map (evGet t) = l.map some -> l.map (AV.inst ρ ms) = (xs.map a.eval).map some := by
     intro xs
     induction xs with
     | nil => intro l hl; cases l <;> simp at hl ⊢
     | cons x xs ih =>
      intro l hl
      cases l with
      | nil => simp at hl
      | cons p l =>
       simp only [List.map_cons, List.cons.injEq] at hl ⊢
       exact ⟨evGet_ok hT hl.1, ih l hl.2⟩
    exact key _ _ h2
   unfold canCall at hcan
   split at hcan
   case h_2 => cases hcan
   rename_i fn hfn
   simp only [Bool.and_eq_true, bne_iff_ne, ne_eq] at hcan
   have hrun : (execOp a.eval o).run P w = .ok (.enter g (#[x] ++ c.args.map a.eval)) w := by
    have hd : P.types.size + Made.depth = (P.types.size + (Made.depth - 1)) + 1 := rfl
    have hm := methF_ok hmeth x (P.types.size + (Made.depth - 1)) w
    rw [<- hd] at hm
    have hx0 : (#[a.eval f] ++ c.args.map a.eval)[0]? = some (.iface ty x) := by rw [e1, Array.getElem?_append_left (by simp)]; rfl
    have hx1 : (#[a.eval f] ++ c.args.map a.eval).extract 1 (#[a.eval f] ++ c.args.map a.eval).size = c.args.map a.eval := by
     apply Array.ext'
     simp only [Array.toList_extract, Array.toList_append, List.extract_eq_take_drop, Array.size_append, Array.size_map]
     simp only [List.size_toArray, List.length_cons, List.length_nil, Nat.add_sub_cancel_left, Nat.zero_add, List.cons_append, List.nil_append, List.drop_succ_cons, List.drop_zero, Array.toList_map]
     exact List.take_of_length_le (by simp)
    have hn : (fn.name == "runtime.NumGoroutine") = false := by simpa using hcan.1
    have hb : fn.body.isNone = false := by cases hq : fn.body <;> simp [hq] at hcan ⊢
    have hcf : ∀ args, (callFunc g args).run P w = .ok (.enter g args) w := fun args => by
     simp only [callFunc, program, Sem.run_bind, Result.andThen_ok, Sem.run, hfn]
     simp [hn, hb]
    simp only [execOp, hop, resolve, hcal, Sem.run_bind, Sem.run_pure, Result.andThen_ok, invoke]
    simp only [hx0, hx1, callMethod, program, Sem.run_bind, Sem.run, hm, Result.andThen_ok]
    exact hcf _
   unfold Oper.wp
   rw [hrun]
   simp only [Oper.upon]
   refine (hc g _ H v H' h ms B w (#[x] ++ c.args.map a.eval) ?_ hH).mono ?_
   ·rw [List.map_cons, e4, e2]; simp
   ·rintro e w' ⟨ms', u, rfl, q1, q2, q3, q4⟩
    exact hK ms' u w' q1 q2 q3 q4
  case h_6 =>
   rename_i hcal
   rw [Option.map_eq_some_iff] at h
   obtain ⟨v', h1, h2⟩ := h
   simp only [Prod.mk.injEq] at h2
   obtain ⟨rfl, rfl⟩ := h2
   obtain ⟨u, h3, h4⟩ := evMin_ok hT hop hcal h1 w
   exact wp_of_made ⟨.value u, u, ms, w, h4, .inl rfl, List.prefix_refl _, h3, hH, Bel.refl _ _⟩ hK
  case h_5 =>
   rename_i hcal
   rw [Option.map_eq_some_iff] at h
   obtain ⟨v', h1, h2⟩ := h
   simp only [Prod.mk.injEq] at h2
   obtain ⟨rfl, rfl⟩ := h2
   obtain ⟨u, h3, h4⟩ := evMax_ok hT hop hcal h1 w
   exact wp_of_made ⟨.value u, u, ms, w, h4, .inl rfl, List.prefix_refl _, h3, hH, Bel.refl _ _⟩ hK
  case h_4 =>
   rename_i hcal
   exact wp_of_made (evAppendA_ok hT hH hop hcal h) hK
  case h_3 =>
   rename_i hcal
   exact wp_of_made (evCopy_ok hT hH hop hcal h) hK
  case h_2 =>
   rename_i hcal
   rw [Option.map_eq_some_iff] at h
   obtain ⟨v', h1, h2⟩ := h
   simp only [Prod.mk.injEq] at h2
   obtain ⟨rfl, rfl⟩ := h2
   obtain ⟨u, h3, h4⟩ := evLen_ok hT hop hcal h1 w
   exact wp_of_made ⟨.value u, u, ms, w, h4, .inl rfl, List.prefix_refl _, h3, hH, Bel.refl _ _⟩ hK
  rename_i f hcal
  split at h
  case h_2 => cases h
  rename_i g caps aas h1 h2
  split at h
  case isFalse => cases h
  rename_i hcan
  have e1 := evGet_ok hT h1
  simp only [AV.inst, TV.inst, SV.inst, Option.map_eq_some_iff] at e1
  obtain ⟨cvs, e2, e3⟩ := e1
  rw [seqO_iff] at h2 e2
  have e4 : aas.map (AV.inst ρ ms) = (c.args.toList.map a.eval).map some := by
   have key : ∀ (xs : List Operand) (l : List AV), xs.map (evGet t) = l.map some -> l.map (AV.inst ρ ms) = (xs.map a.eval).map some := by
    intro xs
    induction xs with
    | nil => intro l hl; cases l <;> simp at hl ⊢
    | cons x xs ih =>
     intro l hl
     cases l with
     | nil => simp at hl
     | cons p l =>
      simp only [List.map_cons, List.cons.injEq] at hl ⊢
      exact ⟨evGet_ok hT hl.1, ih l hl.2⟩
   exact key _ _ h2
  have e5 : (ptrs caps).map (AV.inst ρ ms) = cvs.map some := by
   unfold ptrs
   rw [List.map_map, <- e2]
   rfl
  unfold canCall at hcan
  split at hcan
  case h_2 => cases hcan
  rename_i fn hfn
  simp only [Bool.and_eq_true, bne_iff_ne, ne_eq] at hcan
  have hrun : (execOp a.eval o).run P w = .ok (.enter g (c.args.map a.eval ++ cvs.toArray)) w := by
   simp only [execOp, hop, resolve, hcal, <- e3, Deferred.ofValue, Sem.run_bind, Sem.run_pure, Result.andThen_ok, invoke, callFunc, program, Sem.run, hfn]
   have hn : (fn.name == "runtime.NumGoroutine") = false := by simpa using hcan.1
   have hb : fn.body.isNone = false := by cases hq : fn.body <;> simp [hq] at hcan ⊢
   simp [hn, hb]
  unfold Oper.wp
  rw [hrun]
  simp only [Oper.upon]
  refine (hc g _ H v H' h ms B w (c.args.map a.eval ++ cvs.toArray) ?_ hH).mono ?_
  ·rw [List.map_append, e4, e5]; simp
  ·rintro e w' ⟨ms', u, rfl, q1, q2, q3, q4⟩
   exact hK ms' u w' q1 q2 q3 q4
 case convert s d x =>
  rw [hop] at h
  exact wp_of_made (evConvX_ok hT hH hop h) hK
 case makeSlice T x y =>
  rw [hop] at h
  exact wp_of_made (evWrite_ok hT hH (by rw [hop]; exact h)) hK
 case buildSlice T n ps =>
  rw [hop] at h
  exact wp_of_made (evWrite_ok hT hH (by rw [hop]; exact h)) hK
 case alloc T =>
  rw [hop] at h
  exact wp_of_made (evWrite_ok hT hH (by rw [hop]; exact h)) hK
 case box T x =>
  rw [hop] at h
  exact wp_of_made (evWrite_ok hT hH (by rw [hop]; exact h)) hK
 case store T x y =>
  rw [hop] at h
  exact wp_of_made (evWrite_ok hT hH (by rw [hop]; exact h)) hK
 all_goals
  rw [hop] at h
  exact gen (by rw [hop]; exact h)
def wantA (ops : Array Oper) (t : Tm) (o : Oper) : Option Bool :=
 match o.guard with
 | none => some true
 | some (j, want) =>
  match (ops[j]?).bind (·.dst) with
  | some d =>
   match t.get d with
   | some (.tv (.sc (.bool b))) => some (b == want)
   | some (.tup []) => some false
   | _ => none
  | none => none
theorem wantA_ok {ρ : Env} {ms : List Nat} {ops : Array Oper} {t : Tm} {a : Act} {o : Oper} {b : Bool} (hT : RelT ρ ms t a.tmps) (h : wantA ops t o = some b) : Region.wanted o (yielded ops a.tmps) = b := by
 unfold wantA at h
 unfold Region.wanted
 split at h
 ·rename_i hg; rw [hg]; simpa using h
 ·rename_i j want hg
  rw [hg]
  simp only
  split at h
  case h_2 => cases h
  rename_i d hd
  split at h
  ·rename_i b' ht
   obtain ⟨u, h1, h2⟩ := hT.get ht
   simp only [AV.inst, TV.inst, SV.inst, Option.some.injEq] at h2
   simp only [Option.some.injEq] at h
   subst h h2
   simp [yielded, hd, h1]
  ·rename_i ht
   obtain ⟨u, h1, h2⟩ := hT.get ht
   simp only [AV.inst, List.map_nil, seqO, Option.map_some, Option.some.injEq] at h2
   simp only [Option.some.injEq] at h
   subst h h2
   simp [yielded, hd, h1]
  ·cases h
def putA (t : Tm) (d : Option Nat) (v : AV) : Tm := match d with | some d => t.set d v | none => t
theorem RelT.putA {ρ : Env} {ms : List Nat} {t : Tm} {a : Act} (h : RelT ρ ms t a.tmps) (d : Option Nat) {x : AV} {v : Value} (hx : x.inst ρ ms = some v) : RelT ρ ms (putA t d x) (a.put d v).tmps := by
 cases d with
 | none => exact h
 | some d => exact h.put d hx
theorem put_defers (a : Act) (d : Option Nat) (v : Value) : (a.put d v).defers = a.defers := by cases d <;> rfl
def evOps (call : CallF) (P : Program) (L : Lore) (ops : Array Oper) : List Oper -> Tm -> List Blk -> Option (Tm × List Blk)
 | [], t, H => some (t, H)
 | o :: r, t, H =>
  match wantA ops t o with
  | some true =>
   match evStep call P L t H o with
   | some (v, H') => evOps call P L ops r (putA t o.dst v) H'
   | none => none
  | some false => evOps call P L ops r (putA t o.dst (.tup [])) H
  | none => none
theorem evOps_ok {P : Program} {ρ : Env} {L : Lore} (hL : LoreOk ρ L) {call : CallF} (hc : CallOk P ρ call) {ops : Array Oper} {Q : Exit -> Act -> World -> Prop} {B : Nat} : ∀ (l : List Oper) (ms : List Nat) (t : Tm) (H : List Blk) (a : Act) (w : World) (t' : Tm) (H' : List Blk),
  RelT ρ ms t a.tmps -> Holds ρ ms H B w -> evOps call P L ops l t H = some (t', H') →
  (∀ ms' a' w', ms <+: ms' -> RelT ρ ms' t' a'.tmps -> a'.defers = a.defers -> Holds ρ ms' H' B w' -> Bel B w w' -> Q .normal a' w') -> wpList P ops Q l a w
 | [], ms, t, H, a, w, t', H', hT, hH, h, hQ => by
  simp only [evOps, Option.some.injEq, Prod.mk.injEq] at h
  obtain ⟨rfl, rfl⟩ := h
  exact hQ ms a w (List.prefix_refl _) hT rfl hH (Bel.refl _ _)
 | o :: r, ms, t, H, a, w, t', H', hT, hH, h, hQ => by
  simp only [evOps] at h
  split at h
  ·rename_i hw
   have hw2 := wantA_ok hT hw
   split at h
   case h_2 => cases h
   rename_i v H1 hs
   refine wpList_step fun K hK => ?_
   rw [hw2, if_pos rfl]
   refine evStep_ok hL hc hT hH hs fun ms1 u w1 p1 p2 p3 p4 => hK _ _ ?_
   refine evOps_ok hL hc r ms1 _ H1 _ w1 t' H' ((hT.mono p1).putA o.dst p2) p3 h fun ms2 a2 w2 q1 q2 q3 q4 q5 => ?_
   exact hQ ms2 a2 w2 (p1.trans q1) q2 (q3.trans (put_defers _ _ _)) q4 (p4.trans q5)
  ·rename_i hw
   have hw2 := wantA_ok hT hw
   refine wpList_step fun K hK => ?_
   rw [hw2, if_neg (by decide)]
   refine hK _ _ ?_
   refine evOps_ok hL hc r ms _ H _ w t' H' (hT.putA o.dst (v := undef) rfl) hH h fun ms2 a2 w2 q1 q2 q3 q4 q5 => ?_
   exact hQ ms2 a2 w2 q1 q2 (q3.trans (put_defers _ _ _)) q4 q5
  ·cases h
def evRes (P : Program) (t : Tm) (H : List Blk) : ResultVar -> Option TV
 | .tmp i => match t.get i with | some (.tv v) => some v | _ => none
 | .cell i T => match evLoad P t H T (.tmp i) with | some (.tv v) => some v | _ => none
def evResults (P : Program) (fn : Func) (t : Tm) (H : List Blk) : Option AV :=
 match seqO (fn.results.toList.map (evRes P t H)) with
 | some [v] => some (.tv v)
 | some l => some (.tup l)
 | none => none
theorem evResults_ok {P : Program} {ρ : Env} {ms : List Nat} {fn : Func} {t : Tm} {H : List Blk} {B : Nat} {a : Act} {w : World} {v : AV} (hT : RelT ρ ms t a.tmps) (hH : Holds ρ ms H B w) (h : evResults P fn t H = some v) :
  ∃ u, v.inst ρ ms = some u /\ (results fn a.tmps).run P w = .ok u w := by
 unfold evResults at h
 have one : ∀ (r : ResultVar) (x : TV), evRes P t H r = some x -> ∃ u, x.inst ρ ms = some u /\ (match r with
  | .tmp t => pure (a.tmps.getD t undef)
  | .cell b t => do loadVar t (<- asAddr (a.tmps.getD b undef)) : Sem Value).run P w = .ok u w := by
  intro r x hr
  cases r with
  | tmp i =>
   simp only [evRes] at hr
   split at hr <;> cases hr
   rename_i hx
   obtain ⟨u, h1, h2⟩ := hT.get hx
   exact ⟨u, h2, by simp [Array.getD_eq_getD_getElem?, h1]⟩
  | cell i T =>
   simp only [evRes] at hr
   split at hr <;> cases hr
   rename_i hx
   have hp : ∃ n o, gPtr t (.tmp i) = some (n, o) := by
    unfold evLoad at hx
    split at hx
    ·exact ⟨_, _, by assumption⟩
    ·exact ⟨_, _, by assumption⟩
    ·cases hx
   obtain ⟨n, o, hp⟩ := hp
   obtain ⟨b, hb, he⟩ := gPtr_ok hT hp
   obtain ⟨u, h1, h2⟩ := evLoad_ok hT (fun n _ _ => (hH.sees n).at _ _) hx
   refine ⟨u, h1, ?_⟩
   rw [he] at h2
   have he2 : a.tmps.getD i undef = .pointer (some ⟨b, o, none⟩) := he
   simp only [he2, asAddr]
   simpa [Instr.loadAt, Instr.sureAddr] using h2
 have all : ∀ (rs : List ResultVar) (l : List TV), rs.map (evRes P t H) = l.map some -> ∃ vs : List Value, l.map (TV.inst ρ ms) = vs.map some /\ vs.length = rs.length /\ ∀ (i : Nat) (r : ResultVar) (u : Value), rs[i]? = some r -> vs[i]? = some u -> (match r with
  | .tmp t => pure (a.tmps.getD t undef)
  | .cell b t => do loadVar t (<- asAddr (a.tmps.getD b undef)) : Sem Value).run P w = .ok u w := by
  intro rs
  induction rs with
  | nil => intro l hl; cases l <;> simp at hl; exact ⟨[], rfl, rfl, fun i r u h => by simp at h⟩
  | cons r rs ih =>
   intro l hl
   cases l with
   | nil => simp at hl
   | cons x l =>
    simp only [List.map_cons, List.cons.injEq] at hl
    obtain ⟨u, h1, h2⟩ := one r x hl.1
    obtain ⟨vs, h3, h4, h5⟩ := ih l hl.2
    refine ⟨u :: vs, by simp [h1, h3], by simp [h4], fun i r' u' hr hu => ?_⟩
    cases i with
    | zero => simp at hr hu; subst hr hu; exact h2
    | succ i => simp at hr hu; exact h5 i r' u' hr hu
 cases hq : seqO (fn.results.toList.map (evRes P t H)) with
 | none => rw [hq] at h; simp at h
 | some l =>
  rw [hq] at h
  rw [seqO_iff] at hq
  obtain ⟨vs, h1, h2, h3⟩ := all _ _ hq
  have hll : l.length = vs.length := by have := congrArg List.length h1; simpa using this
  have hm := mapM_run (P := P) w (fun
   | .tmp t => pure (a.tmps.getD t undef)
   | .cell b t => do loadVar t (<- asAddr (a.tmps.getD b undef)) : ResultVar -> Sem Value) fn.results.toList vs h2.symm h3
  have hr : (results fn a.tmps).run P w = .ok (if h : vs.toArray.size = 1 then vs.toArray[0] else .tuple vs.toArray) w := by
   unfold results
   rw [Sem.run_bind, Array.mapM_eq_mapM_toList, Sem.run_map]
   exact (congrArg (fun r : Result (List Value) => (r.andThen fun a w' => Result.ok a.toArray w').andThen fun a w' => Sem.run P (pure (if h : a.size = 1 then a[0] else Value.tuple a) : Sem Value) w') hm).trans rfl
  rw [hr]
  match l, vs, hll, h1, h with
  | [x], [u], _, h1, h =>
   simp only [Option.some.injEq] at h
   subst h
   simp only [List.map_cons, List.map_nil, List.cons.injEq, and_true] at h1
   exact ⟨u, h1, by simp⟩
  | [], [], _, _, h =>
   simp only [Option.some.injEq] at h
   subst h
   exact ⟨.tuple #[], rfl, by simp⟩
  | x :: y :: l, u :: u' :: vs, _, h1, h =>
   simp only [Option.some.injEq] at h
   subst h
   refine ⟨.tuple (u :: u' :: vs).toArray, ?_, by simp⟩
   simp only [AV.inst, (seqO_iff _ _).2 h1, Option.map_some]
def SV.below (n : Nat) : SV -> Bool
 | .ptr m _ => decide (m < n)
 | .sl m _ _ _ => decide (m < n)
 | .slg m _ _ _ => decide (m + 1 < n)
 | .clo _ cs => cs.all fun p => decide (p.1 < n)
 | .ifp _ m _ => decide (m < n)
 | .mtp _ _ m _ => decide (m < n)
 | _ => true
def TV.below (n : Nat) : TV -> Bool
 | .sc s => s.below n
 | .agg l => l.all (SV.below n)
def AV.below (n : Nat) : AV -> Bool
 | .tv v => v.below n
 | .tup l => l.all (TV.below n)
def Blk.below (n : Nat) (k : Blk) : Bool := k.pl || k.cells.all (SV.below n)
def trim (n : Nat) (v : AV) (H : List Blk) : List Blk :=
 if v.below n && (H.take n).all (Blk.below n) then H.take n else H
theorem addr_take {ms : List Nat} {n : Nat} {p : Nat × Nat} (h : p.1 < n) : addr (ms.take n) p = addr ms p := by
 unfold addr; rw [List.getElem?_take, if_pos h]
theorem SV.inst_take {ρ : Env} {ms : List Nat} {n : Nat} {s : SV} (h : s.below n = true) : s.inst ρ (ms.take n) = s.inst ρ ms := by
 cases s <;> simp only [SV.inst]
 case ptr => exact addr_take (by simpa [SV.below] using h)
 case sl => rw [List.getElem?_take, if_pos (by simpa [SV.below] using h)]
 case slg m _ _ _ =>
  have h1 : m + 1 < n := by simpa [SV.below] using h
  unfold grown
  rw [List.getElem?_take, List.getElem?_take, if_pos (by omega), if_pos h1]
 case clo f cs =>
  congr 2
  refine List.map_congr_left fun p hp => addr_take ?_
  simp only [SV.below, List.all_eq_true, decide_eq_true_eq] at h
  exact h p hp
 case ifp => rw [addr_take (by simpa [SV.below] using h)]
 case mtp => rw [addr_take (by simpa [SV.below] using h)]
theorem SV.inst_plain {ρ : Env} {ms : List Nat} {n : Nat} {s : SV} (h : s.plain = true) : s.inst ρ (ms.take n) = s.inst ρ ms := by
 cases s <;> simp [SV.plain] at h <;> simp only [SV.inst]
 subst h; rfl
theorem TV.inst_take {ρ : Env} {ms : List Nat} {n : Nat} {s : TV} (h : s.below n = true) : s.inst ρ (ms.take n) = s.inst ρ ms := by
 cases s with
 | sc s => exact SV.inst_take h
 | agg l =>
  simp only [TV.inst]
  congr 2
  refine List.map_congr_left fun p hp => SV.inst_take ?_
  simp only [TV.below, List.all_eq_true] at h
  exact h p hp
theorem AV.inst_take {ρ : Env} {ms : List Nat} {n : Nat} {s : AV} (h : s.below n = true) : s.inst ρ (ms.take n) = s.inst ρ ms := by
 cases s with
 | tv s => exact TV.inst_take h
 | tup l =>
  simp only [AV.inst]
  congr 2
  refine List.map_congr_left fun p hp => TV.inst_take ?_
  simp only [AV.below, List.all_eq_true] at h
  exact h p hp
theorem Holds.take {ρ : Env} {ms : List Nat} {H : List Blk} {B : Nat} {w : World} (h : Holds ρ ms H B w) {n : Nat} (hg : Gl (ms.take n)) (hb : (H.take n).all (Blk.below n) = true) : Holds ρ (ms.take n) (H.take n) B w := by
 have kt : ∀ {α : Type} {l : List α} {i : Nat} {x : α}, (l.take n)[i]? = some x -> i < n /\ l[i]? = some x := fun {α l i x} hx => by
  rw [List.getElem?_take] at hx
  split at hx
  ·rename_i hn; exact ⟨hn, hx⟩
  ·cases hx
 refine ⟨by simp [h.len], hg, ?_, ?_, ?_, h.big, ?_, ?_, ?_⟩
 ·intro i j b k k' hi hj hk hk' hne hne'
  exact h.inj i j b k k' (kt hi).2 (kt hj).2 (kt hk).2 (kt hk').2 hne hne'
 ·intro i b k hi hk hr
  exact h.low i b k (kt hi).2 (kt hk).2 hr
 ·intro i b k hi hk hne
  exact h.bnd i b k (kt hi).2 (kt hk).2 hne
 ·intro i k hk hp
  exact h.plain i k (kt hk).2 hp
 ·intro i b k hi hk j s hs
  have hm := List.mem_of_getElem? hk
  obtain ⟨hn, hi⟩ := kt hi
  obtain ⟨_, hk⟩ := kt hk
  obtain ⟨v, h1, h2, h3⟩ := h.cell i b k hi hk j s hs
  refine ⟨v, ?_, h2, h3⟩
  have hb2 := List.all_eq_true.1 hb k hm
  unfold Blk.below at hb2
  rw [Bool.or_eq_true] at hb2
  rcases hb2 with hp | hp
  ·rw [SV.inst_plain (List.all_eq_true.1 (h.plain i k hk hp) s (List.mem_of_getElem? hs))]; exact h1
  ·rw [SV.inst_take (List.all_eq_true.1 hp s (List.mem_of_getElem? hs))]; exact h1
 ·intro i b c k0 k hi hc hk0 hr0 hn0 hk hcap
  exact h.room i b c k0 k (kt hi).2 (kt hc).2 (kt hk0).2 hr0 hn0 (kt hk).2 hcap
theorem trim_ok {ρ : Env} {ms ms' : List Nat} {n : Nat} {v : AV} {H : List Blk} {B : Nat} {w : World} {u : Value} (hp : ms <+: ms') (hg : Gl ms) (hl : ms.length = n) (hv : v.inst ρ ms' = some u) (hH : Holds ρ ms' H B w) :
  ∃ ms2, ms <+: ms2 /\ v.inst ρ ms2 = some u /\ Holds ρ ms2 (trim n v H) B w := by
 unfold trim
 split
 ·rename_i hc
  rw [Bool.and_eq_true] at hc
  have hms : ms'.take n = ms := by
   obtain ⟨r, rfl⟩ := hp
   rw [List.take_append_of_le_length (by omega), List.take_of_length_le (by omega)]
  refine ⟨ms'.take n, ?_, ?_, hH.take (by rw [hms]; exact hg) hc.2⟩
  ·obtain ⟨r, rfl⟩ := hp
   rw [List.take_append_of_le_length (by omega), List.take_of_length_le (by omega)]
   exact List.prefix_refl _
  ·rw [AV.inst_take hc.1]; exact hv
 ·exact ⟨ms', hp, hv, hH⟩
end Go.Proofs.YtcpchhigiohlnaaDoor.Ev
namespace Go.Proofs.YtcpchhigiohlnaaDoor.Ev
open Go Go.RowKit
def carry : Op -> Bool
 | .call _ | .alloc _ | .box _ _ | .store _ _ _ => true
 | _ => false
def waits (ops : Array Oper) (N : List Nat) (j : Nat) : Bool :=
 match ops[j]? with
 | some o => carry o.op && N.all fun i => o.after.any fun e => Region.binds .any e && e.on == i
 | none => false
def wpN (P : Program) (ops : Array Oper) (Q : Exit -> Act -> World -> Prop) (S : World -> Prop) (W : Nat -> Bool) : Nat -> Bool -> Array Bool -> Act -> World -> Prop
 | 0, _, listed, a, w => Region.ready .any ops listed = [] /\ Q .normal a w
 | f + 1, late, listed, a, w =>
  (Region.ready .any ops listed = [] -> Q .normal a w) ∧
  ∀ i ∈ Region.ready .any ops listed, wpOp P ops Q i (fun a' w' => (S w' \/ (late || W i) = true) /\ wpN P ops Q S W f (late || W i) (listed.setIfInBounds i true) a' w') a w
section
variable {P : Program} {ops : Array Oper} {Q : Exit -> Act -> World -> Prop} {S : World -> Prop} {W : Nat -> Bool}
theorem wpAny_of_N : ∀ (f : Nat) (late : Bool) (listed : Array Bool) (a : Act) (w : World), wpN P ops Q S W f late listed a w -> wpAny P .any ops Q f listed a w
 | 0, _, _, _, _, h => h
 | f + 1, _, _, _, _, h => ⟨h.1, fun i hi => wpOp_mono (fun a' w' h' => wpAny_of_N f _ _ a' w' h'.2) (h.2 i hi)⟩
theorem waits_edge {N : List Nat} {j i : Nat} {oj : Oper} (hj : ops[j]? = some oj) (h : waits ops N j = true) (hi : i ∈ N) : ∃ e ∈ oj.after, Region.binds .any e = true /\ e.on = i := by
 unfold waits at h
 rw [hj] at h
 simp only [Bool.and_eq_true, List.all_eq_true] at h
 have := h.2 i hi
 simp only [Array.any_eq_true', Bool.and_eq_true, beq_iff_eq] at this
 obtain ⟨e, h1, h2, h3⟩ := this
 exact ⟨e, h1, h2, h3⟩
theorem wpN_take {S' : World -> Prop} {i : Nat} {oi : Oper} {v : Value} (hi : ops[i]? = some oi) (hsel : Region.noSelect ops = true) (hQ : ∀ c a w, ¬ Q (.panic c) a w) (hWi : W i = false) :
  ∀ (f : Nat) (late' : Bool) (listed : Array Bool) (a : Act) (w : World), ((∀ w, S' w) \/ (S' = S /\ late' = false /\ ∀ j oj, ops[j]? = some oj -> W j = true -> ∃ e ∈ oj.after, Region.binds .any e = true /\ e.on = i)) →
   (∀ j oj, ops[j]? = some oj -> j ≠ i -> listed.getD j true = false -> (∀ e ∈ oj.after, Region.binds .any e = true -> e.on ≠ i) -> oi.apart ops oj = true) →
   i ∈ Region.ready .any ops listed -> YieldsIf P ops S' oi v a -> S' w -> (S w \/ late' = true) →
   wpN P ops Q S W f late' (listed.setIfInBounds i true) (a.put oi.dst v) w -> wpN P ops Q S W (f + 1) late' listed a w := by
 intro f
 induction f with
 | zero =>
  intro late' listed a w _ _ hr hy hs hsw hw
  refine ⟨fun h0 => absurd hr (by rw [h0]; simp), fun j hj => ?_⟩
  by_cases e : j = i
  ·subst e; rw [hWi, Bool.or_false]; exact hy.wpOp hi hs ⟨hsw, hw⟩
  ·have := ready_mono hj e
   rw [hw.1] at this
   cases this
 | succ f ih =>
  intro late' listed a w hk hfree hr hy hs hsw hw
  refine ⟨fun h0 => absurd hr (by rw [h0]; simp), fun j hj => ?_⟩
  by_cases e : j = i
  ·subst e; rw [hWi, Bool.or_false]; exact hy.wpOp hi hs ⟨hsw, hw⟩
  ·have h1 := hw.2 j (ready_mono hj e)
   obtain ⟨hjun, oj, hoj, hall⟩ := mem_ready.1 hj
   have hnot : ∀ x ∈ oj.after, Region.binds .any x = true -> x.on ≠ i := fun x hx hb heq => by
    have q1 := hall x hx hb
    have q0 := (mem_ready.1 hr).1
    rw [heq] at q1
    rcases Nat.lt_or_ge i listed.size with h' | h'
    ·simp [h'] at q0 q1; rw [q0] at q1; cases q1
    ·simp [Array.getElem?_eq_none h'] at q1
   have h2 := wpOp_putIf hoj (hfree j oj hoj e hjun hnot) (fun cs b => Region.noSelect_spec hsel i oi cs b hi) (fun cs b => Region.noSelect_spec hsel j oj cs b hoj) (fun c a w h => absurd h (hQ c _ w)) hy h1
   refine wpOp_mono (fun a' w' h3 => ⟨h3.2.1, ?_⟩) h2
   have hS : (∀ w, S' w) \/ (S' = S /\ (late' || W j) = false /\ ∀ j oj, ops[j]? = some oj -> W j = true -> ∃ e ∈ oj.after, Region.binds .any e = true /\ e.on = i) := by
    rcases hk with hk | ⟨q1, q2, q3⟩
    ·exact .inl hk
    ·refine .inr ⟨q1, ?_, q3⟩
     cases hw' : W j with
     | false => rw [q2]; rfl
     | true =>
      obtain ⟨x, h4, h5, h6⟩ := q3 j oj hoj hw'
      exact absurd h6 (hnot x h4 h5)
   refine ih (late' || W j) (listed.setIfInBounds j true) a' w' hS ?_ (ready_mono hr (Ne.symm e)) h3.1 ?_ h3.2.1 ?_
   ·intro k ok hk' hki hun hno
    refine hfree k ok hk' hki ?_ hno
    by_cases hjk : j = k
    ·subst hjk; exact hjun
    ·rw [getD_set_ne true hjk] at hun; exact hun
   ·rcases hS with hS | ⟨q1, q2, q3⟩
    ·exact hS w'
    ·rcases h3.2.1 with h4 | h4
     ·rw [q1]; exact h4
     ·rw [q2] at h4; cases h4
   ·rw [Array.setIfInBounds_comm _ _ e]
    exact h3.2.2
end
end Go.Proofs.YtcpchhigiohlnaaDoor.Ev
namespace Go.Proofs.YtcpchhigiohlnaaDoor.Ev
open Go Go.RowKit
def pickA (P : Program) (L : Lore) (ops : Array Oper) (listed : Array Bool) (t : Tm) (H : List Blk) : List Nat -> Option (Nat × Oper × AV)
 | [] => none
 | i :: r =>
  match ops[i]? with
  | some o =>
   if carry o.op then pickA P L ops listed t H r
   else if Region.free .any ops listed i then
    match wantA ops t o with
    | some true => match evRead P L t H o.op with | some v => some (i, o, v) | none => pickA P L ops listed t H r
    | some false => some (i, o, .tup [])
    | none => pickA P L ops listed t H r
   else pickA P L ops listed t H r
  | none => pickA P L ops listed t H r
theorem pickA_ok {P : Program} {L : Lore} {ops : Array Oper} {listed : Array Bool} {t : Tm} {H : List Blk} : ∀ (rd : List Nat) (i : Nat) (o : Oper) (v : AV), pickA P L ops listed t H rd = some (i, o, v) →
  i ∈ rd /\ ops[i]? = some o /\ carry o.op = false /\ Region.free .any ops listed i = true /\ ((wantA ops t o = some true /\ evRead P L t H o.op = some v) \/ (wantA ops t o = some false /\ v = .tup []))
 | [], _, _, _, h => by simp [pickA] at h
 | j :: r, i, o, v, h => by
  have again : pickA P L ops listed t H r = some (i, o, v) -> i ∈ j :: r /\ ops[i]? = some o /\ carry o.op = false /\ Region.free .any ops listed i = true /\ ((wantA ops t o = some true /\ evRead P L t H o.op = some v) \/ (wantA ops t o = some false /\ v = .tup [])) := fun h' => by
   obtain ⟨h1, h2⟩ := pickA_ok r i o v h'
   exact ⟨List.mem_cons_of_mem _ h1, h2⟩
  simp only [pickA] at h
  split at h
  case h_2 => exact again h
  rename_i o' ho
  split at h
  ·exact again h
  rename_i hca
  split at h
  case isFalse => exact again h
  rename_i hfr
  split at h
  ·rename_i hw
   split at h
   ·rename_i v' hr
    simp only [Option.some.injEq, Prod.mk.injEq] at h
    obtain ⟨rfl, rfl, rfl⟩ := h
    exact ⟨List.mem_cons_self, ho, by simpa using hca, hfr, .inl ⟨hw, hr⟩⟩
   ·exact again h
  ·rename_i hw
   simp only [Option.some.injEq, Prod.mk.injEq] at h
   obtain ⟨rfl, rfl, rfl⟩ := h
   exact ⟨List.mem_cons_self, ho, by simpa using hca, hfr, .inr ⟨hw, rfl⟩⟩
  ·exact again h
def loadName (t : Tm) : Op -> Option Nat
 | .load _ x => (gPtr t x).map (·.1)
 | _ => none
def phA (P : Program) (Lo : Lore) (ops : Array Oper) (H : List Blk) : Nat -> Array Bool -> Tm -> List Nat -> List Nat -> Nat × Array Bool × Tm × List Nat × List Nat
 | 0, listed, t, N, L => (0, listed, t, N, L)
 | f + 1, listed, t, N, L =>
  match pickA P Lo ops listed t H (Region.ready .any ops listed) with
  | some (i, o, v) =>
   match loadName t o.op with
   | some n => phA P Lo ops H f (listed.setIfInBounds i true) (putA t o.dst v) (i :: N) (n :: L)
   | none => phA P Lo ops H f (listed.setIfInBounds i true) (putA t o.dst v) N L
  | none => (f + 1, listed, t, N, L)
theorem phA_grows {P : Program} {Lo : Lore} {ops : Array Oper} {H : List Blk} : ∀ (f : Nat) (listed : Array Bool) (t : Tm) (N L : List Nat) (f' : Nat) (l' : Array Bool) (t' : Tm) (N' L' : List Nat), phA P Lo ops H f listed t N L = (f', l', t', N', L') -> (∀ x ∈ N, x ∈ N') /\ (∀ x ∈ L, x ∈ L')
 | 0, listed, t, N, L, f', l', t', N', L', h => by
  simp only [phA, Prod.mk.injEq] at h
  obtain ⟨_, _, _, rfl, rfl⟩ := h
  exact ⟨fun _ h => h, fun _ h => h⟩
 | f + 1, listed, t, N, L, f', l', t', N', L', h => by
  simp only [phA] at h
  split at h
  ·split at h
   ·obtain ⟨h1, h2⟩ := phA_grows f _ _ _ _ _ _ _ _ _ h
    exact ⟨fun x hx => h1 x (List.mem_cons_of_mem _ hx), fun x hx => h2 x (List.mem_cons_of_mem _ hx)⟩
   ·exact phA_grows f _ _ _ _ _ _ _ _ _ h
  ·simp only [Prod.mk.injEq] at h
   obtain ⟨_, _, _, rfl, rfl⟩ := h
   exact ⟨fun _ h => h, fun _ h => h⟩
section
variable {P : Program} {ρ : Env} {Lo : Lore} {ops : Array Oper} {Q : Exit -> Act -> World -> Prop} {B : Nat}
theorem waits_carry {N : List Nat} {i : Nat} {o : Oper} (hi : ops[i]? = some o) (hc : carry o.op = false) : waits ops N i = false := by
 unfold waits; rw [hi]; simp [hc]
theorem pick_yields (hLo : LoreOk ρ Lo) {ms : List Nat} {H : List Blk} {t : Tm} {a : Act} {o : Oper} {v : AV} (hT : RelT ρ ms t a.tmps) (h : (wantA ops t o = some true /\ evRead P Lo t H o.op = some v) \/ (wantA ops t o = some false /\ v = .tup [])) {S : World -> Prop} {w : World}
  (hw : S w) (hS : ∀ w, S w -> ∀ T x n c, o.op = .load T x -> gPtr t x = some (n, c) -> SeesAt ρ ms H w n c (loadLen P T)) : ∃ u, v.inst ρ ms = some u /\ YieldsIf P ops S o u a := by
 rcases h with ⟨h1, h2⟩ | ⟨h1, rfl⟩
 ·obtain ⟨u, e1, _⟩ := evRead_ok hLo hT h2 w (hS w hw)
  refine ⟨u, e1, .inl ⟨wantA_ok hT h1, fun w' hw' => ?_⟩⟩
  obtain ⟨u', e2, e3⟩ := evRead_ok hLo hT h2 w' (hS w' hw')
  rw [e1] at e2
  cases e2
  exact e3
 ·exact ⟨undef, rfl, .inr ⟨wantA_ok hT h1, rfl⟩⟩
theorem phA_ok (hLo : LoreOk ρ Lo) {ms : List Nat} {H : List Blk} (hsel : Region.noSelect ops = true) (hQ : ∀ c a w, ¬ Q (.panic c) a w) {N' L' : List Nat} {w : World} (hSw : ∀ n ∈ L', Sees ρ ms H w n) :
  ∀ (f : Nat) (listed : Array Bool) (t : Tm) (N L : List Nat) (f' : Nat) (l' : Array Bool) (t' : Tm) (a : Act), phA P Lo ops H f listed t N L = (f', l', t', N', L') -> RelT ρ ms t a.tmps →
   (∀ a', RelT ρ ms t' a'.tmps -> a'.defers = a.defers -> wpN P ops Q (fun w => ∀ n ∈ L', Sees ρ ms H w n) (waits ops N') f' false l' a' w) →
   wpN P ops Q (fun w => ∀ n ∈ L', Sees ρ ms H w n) (waits ops N') f false listed a w
 | 0, listed, t, N, L, f', l', t', a, h, hT, hk => by
  simp only [phA, Prod.mk.injEq] at h
  obtain ⟨rfl, rfl, rfl, _, _⟩ := h
  exact hk a hT rfl
 | f + 1, listed, t, N, L, f', l', t', a, h, hT, hk => by
  simp only [phA] at h
  split at h
  ·rename_i i o v hp
   obtain ⟨p1, p2, p3, p4, p5⟩ := pickA_ok _ _ _ _ hp
   have fin : ∀ (N1 L1 : List Nat), phA P Lo ops H f (listed.setIfInBounds i true) (putA t o.dst v) N1 L1 = (f', l', t', N', L') -> ∀ u, v.inst ρ ms = some u →
     wpN P ops Q (fun w => ∀ n ∈ L', Sees ρ ms H w n) (waits ops N') f false (listed.setIfInBounds i true) (a.put o.dst u) w := fun N1 L1 h' u hu =>
    phA_ok hLo hsel hQ hSw f _ _ _ _ _ _ _ _ h' (hT.putA o.dst hu) (fun a' h1 h2 => hk a' h1 (h2.trans (put_defers _ _ _)))
   split at h
   ·rename_i n hn
    obtain ⟨hN, hL⟩ := phA_grows f _ _ _ _ _ _ _ _ _ h
    have hin := hN i List.mem_cons_self
    have hln := hL n List.mem_cons_self
    obtain ⟨u, e1, e2⟩ := pick_yields hLo (P := P) (ops := ops) (S := fun w => ∀ n ∈ L', Sees ρ ms H w n) hT p5 hSw (fun w' hw' T x m c hop hg => by
     rw [hop] at hn
     simp only [loadName, hg, Option.map_some, Option.some.injEq] at hn
     subst hn
     exact (hw' m hln).at _ _)
    exact wpN_take p2 hsel hQ (waits_carry p2 p3) f false listed a w (.inr ⟨rfl, rfl, fun j oj hj hw => waits_edge hj hw hin⟩) (Region.free_spec p2 p4) p1 e2 hSw (.inl hSw) (fin _ _ h u e1)
   ·rename_i hn
    obtain ⟨u, e1, e2⟩ := pick_yields hLo (P := P) (ops := ops) (S := fun _ => True) (w := w) hT p5 trivial (fun w' _ T x m c hop hg => by
     rw [hop] at hn
     simp [loadName, hg] at hn)
    exact wpN_take p2 hsel hQ (waits_carry p2 p3) f false listed a w (.inl fun _ => trivial) (Region.free_spec p2 p4) p1 e2 trivial (.inl hSw) (fin _ _ h u e1)
  ·simp only [Prod.mk.injEq] at h
   obtain ⟨rfl, rfl, rfl, _, _⟩ := h
   exact hk a hT rfl
end
def Tr.meet0 (a b : Tr) : Tr := match a, b with | .one u, .one v => if u = v then .one u else .emp | _, _ => .emp
def Tr.meetS (m : Tr -> Tr -> Tr) (a b : Tr) : Tr := match a with
 | .br a0 a1 a2 a3 a4 a5 a6 a7 => .br (m a0 (b.kid 0)) (m a1 (b.kid 1)) (m a2 (b.kid 2)) (m a3 (b.kid 3)) (m a4 (b.kid 4)) (m a5 (b.kid 5)) (m a6 (b.kid 6)) (m a7 (b.kid 7))
 | _ => .emp
structure Tr.MeetOk (g : Tr -> Nat -> Option AV) (m : Tr -> Tr -> Tr) : Prop where
 emp : ∀ i, g .emp i = none
 ok : ∀ a b i v, g (m a b) i = some v -> g a i = some v /\ g b i = some v
theorem Tr.MeetOk.step {g : Tr -> Nat -> Option AV} {m : Tr -> Tr -> Tr} (h : Tr.MeetOk g m) : Tr.MeetOk (Tr.getS g) (Tr.meetS m) := by
 refine ⟨fun i => h.emp _, fun a b i v hv => ?_⟩
 cases a with
 | emp => exact absurd (hv.symm.trans (h.emp _)) (by simp)
 | one _ => exact absurd (hv.symm.trans (h.emp _)) (by simp)
 | br a0 a1 a2 a3 a4 a5 a6 a7 =>
  unfold Tr.getS at hv ⊢
  have h1 : Nat.mod i 8 < 8 := Nat.mod_lt i (by decide)
  generalize Nat.mod i 8 = j at hv h1
  have h2 : j = 0 \/ j = 1 \/ j = 2 \/ j = 3 \/ j = 4 \/ j = 5 \/ j = 6 \/ j = 7 := by omega
  rcases h2 with rfl | rfl | rfl | rfl | rfl | rfl | rfl | rfl <;> exact h.ok _ _ _ _ hv
theorem Tr.meet0_ok : Tr.MeetOk Tr.get0 Tr.meet0 := by
 refine ⟨fun _ => rfl, fun a b i v hv => ?_⟩
 unfold Tr.meet0 at hv
 split at hv
 ·split at hv
  ·rename_i e
   subst e
   exact ⟨hv, hv⟩
  ·cases hv
 ·cases hv
def Tr.meet3 : Tr -> Tr -> Tr := Tr.meetS (Tr.meetS (Tr.meetS Tr.meet0))
theorem Tr.meet3_ok : Tr.MeetOk Tr.get3 Tr.meet3 := Tr.meet0_ok.step.step.step
def Tm.meet (t t' : Tm) : Tm := ⟨t.n, Tr.meet3 t.tr t'.tr⟩
structure Tm.Le (t t' : Tm) : Prop where
 n : t.n = t'.n
 get : ∀ i v, t.get i = some v -> t'.get i = some v
theorem Tm.Le.refl (t : Tm) : Tm.Le t t := ⟨rfl, fun _ _ h => h⟩
theorem Tm.Le.trans {a b c : Tm} (h : Tm.Le a b) (k : Tm.Le b c) : Tm.Le a c := ⟨h.n.trans k.n, fun i v q => k.get i v (h.get i v q)⟩
theorem Tm.meet_le (t t' : Tm) (hn : t'.n = t.n) : Tm.Le (t.meet t') t /\ Tm.Le (t.meet t') t' := by
 have key : ∀ i v, (t.meet t').get i = some v -> t.get i = some v /\ t'.get i = some v := fun i v h => by
  unfold Tm.get at h
  split at h
  ·rename_i hb
   obtain ⟨h1, h2⟩ := Tr.meet3_ok.ok _ _ _ _ h
   have hb' : Nat.blt i t.n = true := hb
   unfold Tm.get
   rw [hn, hb']
   exact ⟨h1, h2⟩
  ·cases h
 exact ⟨⟨rfl, fun i v h => (key i v h).1⟩, ⟨hn.symm, fun i v h => (key i v h).2⟩⟩
theorem RelT.less {ρ : Env} {ms : List Nat} {t t' : Tm} {tmps : Array Value} (h : RelT ρ ms t' tmps) (k : Tm.Le t t') : RelT ρ ms t tmps :=
 ⟨k.n.trans h.sz, k.n ▸ h.le, fun i x hx => h.val i x (k.get i x hx), h.gl⟩
def meetA (f : Nat -> Option (Tm × List Blk)) : List Nat -> Tm -> List Blk -> Option (Tm × List Blk)
 | [], t, H => some (t, H)
 | i :: rest, t, H =>
  match f i with
  | some (t', H') => if H' = H /\ t'.n = t.n then meetA f rest (if t' = t then t else t.meet t') H else none
  | none => none
theorem meetA_ok {f : Nat -> Option (Tm × List Blk)} : ∀ (l : List Nat) (t : Tm) (H : List Blk) (tF : Tm) (HF : List Blk), meetA f l t H = some (tF, HF) -> Tm.Le tF t /\ HF = H /\ ∀ i ∈ l, ∃ t1, f i = some (t1, HF) /\ Tm.Le tF t1
 | [], t, H, tF, HF, h => by
  simp only [meetA, Option.some.injEq, Prod.mk.injEq] at h
  obtain ⟨rfl, rfl⟩ := h
  exact ⟨Tm.Le.refl _, rfl, fun i hi => by cases hi⟩
 | i :: rest, t, H, tF, HF, h => by
  simp only [meetA] at h
  split at h
  case h_2 => cases h
  rename_i t' H' hf
  split at h
  case isFalse => cases h
  rename_i hc
  obtain ⟨h1, h2, h3⟩ := meetA_ok rest _ H tF HF h
  have hle : Tm.Le tF t /\ Tm.Le tF t' := by
   split at h1
   ·rename_i e
    rw [e]
    exact ⟨h1, h1⟩
   ·exact ⟨h1.trans (Tm.meet_le t t' hc.2).1, h1.trans (Tm.meet_le t t' hc.2).2⟩
  refine ⟨hle.1, h2, fun j hj => ?_⟩
  rcases List.mem_cons.1 hj with rfl | hj
  ·exact ⟨t', by rw [hf, h2, hc.1], hle.2⟩
  ·exact h3 j hj
def phB (call : CallF) (P : Program) (Lo : Lore) (ops : Array Oper) (H0 : List Blk) (N L : List Nat) : Nat -> Bool -> Array Bool -> Tm -> List Blk -> Option (Tm × List Blk)
 | 0, _, listed, t, H => match Region.ready .any ops listed with | [] => some (t, H) | _ => none
 | f + 1, late, listed, t, H =>
  match Region.ready .any ops listed with
  | [] => some (t, H)
  | i0 :: rest =>
   match pickA P Lo ops listed t [] (i0 :: rest) with
   | some (i, o, v) => phB call P Lo ops H0 N L f late (listed.setIfInBounds i true) (putA t o.dst v) H
   | none =>
    let go : Nat -> Option (Tm × List Blk) := fun i =>
     match ops[i]? with
     | some o =>
      match wantA ops t o with
      | some true =>
       match evStep call P Lo t H o with
       | some (v, H') => if late || waits ops N i || L.all (fun n => decide (H'[n]? = H0[n]?)) then phB call P Lo ops H0 N L f (late || waits ops N i) (listed.setIfInBounds i true) (putA t o.dst v) H' else none
       | none => none
      | some false => phB call P Lo ops H0 N L f (late || waits ops N i) (listed.setIfInBounds i true) (putA t o.dst (.tup [])) H
      | none => none
     | none => none
    match go i0 with
    | some (t1, H1) => meetA go rest t1 H1
    | none => none
theorem phB_ok {P : Program} {ρ : Env} {Lo : Lore} (hLo : LoreOk ρ Lo) {call : CallF} (hc : CallOk P ρ call) {ops : Array Oper} {Q : Exit -> Act -> World -> Prop} {B : Nat} {ms : List Nat} {H0 : List Blk} {w0 : World} (hH0 : Holds ρ ms H0 B w0) (hsel : Region.noSelect ops = true) (hQ : ∀ c a w, ¬ Q (.panic c) a w) {N L : List Nat} {tF : Tm} {HF : List Blk} :
  ∀ (f : Nat) (late : Bool) (listed : Array Bool) (t : Tm) (H : List Blk) (tE : Tm) (ms1 : List Nat) (a : Act) (w : World), phB call P Lo ops H0 N L f late listed t H = some (tE, HF) -> Tm.Le tF tE -> RelT ρ ms1 t a.tmps -> Holds ρ ms1 H B w -> ms <+: ms1 →
   ((∀ n ∈ L, Sees ρ ms H0 w n) \/ late = true) →
   (∀ ms2 a' w', ms1 <+: ms2 -> RelT ρ ms2 tF a'.tmps -> a'.defers = a.defers -> Holds ρ ms2 HF B w' -> Bel B w w' -> Q .normal a' w') →
   wpN P ops Q (fun w => ∀ n ∈ L, Sees ρ ms H0 w n) (waits ops N) f late listed a w
 | 0, late, listed, t, H, tE, ms1, a, w, h, hle, hT, hH, hp, hS, hk => by
  simp only [phB] at h
  split at h
  ·rename_i hr
   simp only [Option.some.injEq, Prod.mk.injEq] at h
   obtain ⟨rfl, rfl⟩ := h
   exact ⟨hr, hk ms1 a w (List.prefix_refl _) (hT.less hle) rfl hH (Bel.refl _ _)⟩
  ·cases h
 | f + 1, late, listed, t, H, tE, ms1, a, w, h, hle, hT, hH, hp, hS, hk => by
  simp only [phB] at h
  split at h
  ·rename_i hr
   simp only [Option.some.injEq, Prod.mk.injEq] at h
   obtain ⟨rfl, rfl⟩ := h
   exact ⟨fun _ => hk ms1 a w (List.prefix_refl _) (hT.less hle) rfl hH (Bel.refl _ _), fun i hi => by rw [hr] at hi; cases hi⟩
  ·rename_i i0 rest hr
   split at h
   ·rename_i i o v hpk
    obtain ⟨p1, p2, p3, p4, p5⟩ := pickA_ok _ _ _ _ hpk
    obtain ⟨u, e1, e2⟩ := pick_yields hLo (P := P) (ops := ops) (S := fun _ => True) (w := w) hT p5 trivial (fun w' _ T x m c hop hg b k hb hk => by simp at hk)
    refine wpN_take p2 hsel hQ (waits_carry p2 p3) f late listed a w (.inl fun _ => trivial) (Region.free_spec p2 p4) (by rw [hr]; exact p1) e2 trivial hS ?_
    exact phB_ok hLo hc hH0 hsel hQ f late _ _ H tE ms1 _ w h hle (hT.putA o.dst e1) hH hp hS (fun ms2 a' w' q1 q2 q3 q4 q5 => hk ms2 a' w' q1 q2 (q3.trans (put_defers _ _ _)) q4 q5)
   ·have each : ∀ (i : Nat) (t1 : Tm), Tm.Le tF t1 -> (match ops[i]? with
     | some o =>
      match wantA ops t o with
      | some true =>
       match evStep call P Lo t H o with
       | some (v, H') => if late || waits ops N i || L.all (fun n => decide (H'[n]? = H0[n]?)) then phB call P Lo ops H0 N L f (late || waits ops N i) (listed.setIfInBounds i true) (putA t o.dst v) H' else none
       | none => none
      | some false => phB call P Lo ops H0 N L f (late || waits ops N i) (listed.setIfInBounds i true) (putA t o.dst (.tup [])) H
      | none => none
     | none => none) = some (t1, HF) -> wpOp P ops Q i (fun a' w' => ((∀ n ∈ L, Sees ρ ms H0 w' n) \/ (late || waits ops N i) = true) /\ wpN P ops Q (fun w => ∀ n ∈ L, Sees ρ ms H0 w n) (waits ops N) f (late || waits ops N i) (listed.setIfInBounds i true) a' w') a w := by
     intro i t1 hle1 hgo
     split at hgo
     case h_2 => cases hgo
     rename_i o ho
     refine wpOp_step ho fun K hK => ?_
     split at hgo
     ·rename_i hw
      have hw2 := wantA_ok hT hw
      rw [hw2, if_pos rfl]
      split at hgo
      case h_2 => cases hgo
      rename_i v H1 hs
      split at hgo
      case isFalse => cases hgo
      rename_i hcond
      refine evStep_ok hLo hc hT hH hs fun ms2 u w2 p1 p2 p3 p4 => hK _ _ ?_
      have hS2 : (∀ n ∈ L, Sees ρ ms H0 w2 n) \/ (late || waits ops N i) = true := by
       rw [Bool.or_eq_true] at hcond
       rcases hcond with hcond | hcond
       ·exact .inr hcond
       ·refine .inl fun n hn b k hb hk' j s hs' => ?_
        have e1 : H1[n]? = H0[n]? := by
         have := List.all_eq_true.1 hcond n hn
         simpa using this
        obtain ⟨v0, q1, _, _⟩ := hH0.cell n b k hb hk' j s hs'
        obtain ⟨v1, r1, r2, r3⟩ := p3.cell n b k (pre_get (hp.trans p1) hb) (e1.trans hk') j s hs'
        have := s.inst_mono (hp.trans p1) v0 q1
        rw [r1] at this
        cases this
        exact ⟨_, q1, r2⟩
      refine ⟨hS2, ?_⟩
      exact phB_ok hLo hc hH0 hsel hQ f _ _ _ H1 t1 ms2 _ w2 hgo hle1 ((hT.mono p1).putA o.dst p2) p3 (hp.trans p1) hS2 (fun ms3 a' w' q1 q2 q3 q4 q5 => hk ms3 a' w' (p1.trans q1) q2 (q3.trans (put_defers _ _ _)) q4 (p4.trans q5))
     ·rename_i hw
      have hw2 := wantA_ok hT hw
      rw [hw2, if_neg (by decide)]
      refine hK _ _ ?_
      have hS2 : (∀ n ∈ L, Sees ρ ms H0 w n) \/ (late || waits ops N i) = true := hS.imp id (fun e => by rw [e]; rfl)
      refine ⟨hS2, ?_⟩
      exact phB_ok hLo hc hH0 hsel hQ f _ _ _ H t1 ms1 _ w hgo hle1 (hT.putA o.dst (v := undef) rfl) hH hp hS2 (fun ms3 a' w' q1 q2 q3 q4 q5 => hk ms3 a' w' q1 q2 (q3.trans (put_defers _ _ _)) q4 q5)
     ·cases hgo
    split at h
    case h_2 => cases h
    rename_i t1 H1 hgo
    obtain ⟨m1, m2, m3⟩ := meetA_ok _ _ _ _ _ h
    refine ⟨fun h0 => (by rw [hr] at h0; cases h0), fun i hi => ?_⟩
    rw [hr] at hi
    rcases List.mem_cons.1 hi with rfl | hi
    ·exact each i t1 (hle.trans m1) (by rw [m2]; exact hgo)
    ·obtain ⟨t2, q1, q2⟩ := m3 i hi
     exact each i t2 (hle.trans q2) q1
def evDraw (call : CallF) (P : Program) (Lo : Lore) (ops : Array Oper) (t : Tm) (H : List Blk) : Option (Tm × List Blk) :=
 if Region.noSelect ops then
  match phA P Lo ops H ops.size (Array.replicate ops.size false) t [] [] with
  | (f, l, t', N, L) => phB call P Lo ops H N L f false l t' H
 else none
theorem Holds.drawn {ρ : Env} {ms : List Nat} {H : List Blk} {B : Nat} {w : World} (h : Holds ρ ms H B w) (n : Nat) : Holds ρ ms H B { w with drawn := n } := ⟨h.len, h.gl, h.inj, h.low, h.bnd, h.big, h.plain, h.cell, h.room⟩
theorem evDraw_any {P : Program} {ρ : Env} {Lo : Lore} (hLo : LoreOk ρ Lo) {call : CallF} (hc : CallOk P ρ call) {ops : Array Oper} {Q : Exit -> Act -> World -> Prop} {B : Nat} {ms : List Nat} {t t' : Tm} {H H' : List Blk} {a : Act} {w : World}
  (hT : RelT ρ ms t a.tmps) (hH : Holds ρ ms H B w) (h : evDraw call P Lo ops t H = some (t', H'))
  (hQ : ∀ ms' a' w', ms <+: ms' -> RelT ρ ms' t' a'.tmps -> a'.defers = a.defers -> Holds ρ ms' H' B w' -> Bel B w w' -> Q .normal a' w') : wpAny P .any ops (fun e a w => e = .normal /\ Q .normal a w) ops.size (Array.replicate ops.size false) a { w with drawn := w.drawn + 1 } := by
 unfold evDraw at h
 split at h
 case isFalse => cases h
 rename_i hsel
 split at h
 rename_i f l t1 N L hA
 have hH1 := hH.drawn (w.drawn + 1)
 refine (wpAny_of_N (S := fun w => ∀ n ∈ L, Sees ρ ms H w n) (W := waits ops N) _ false _ _ _ ?_)
 refine phA_ok hLo hsel (fun c a w q => by cases q.1) (fun n _ => hH1.sees n) _ _ _ _ _ _ _ _ a hA hT fun a1 q1 q2 => ?_
 refine phB_ok hLo hc hH1 hsel (fun c a w q => by cases q.1) f false l t1 H _ ms a1 _ h (Tm.Le.refl _) q1 hH1 (List.prefix_refl _) (.inl fun n _ => hH1.sees n) fun ms2 a' w' r1 r2 r3 r4 r5 => ⟨rfl, ?_⟩
 exact hQ ms2 a' w' r1 r2 (r3.trans q2) r4 ((Bel.drawn B w (w.drawn + 1)).trans r5)
end Go.Proofs.YtcpchhigiohlnaaDoor.Ev
