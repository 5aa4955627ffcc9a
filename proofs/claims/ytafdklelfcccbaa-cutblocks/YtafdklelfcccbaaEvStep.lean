/- The evaluator: one operation. -/
import Derived.Test.YtafdklelfcccbaaEvRead
set_option linter.unusedVariables false
namespace Go.Proofs.Ytafdklelfcccbaa.Ev
open Go Go.RowKit

/- Literals of rows and structs. -/
def evZero (P : Program) (T : TypeId) : Option (List SV) :=
  match P.info? T with
  | some i => match i.zero with | some z => seqO (z.cells.toList.map ofScalar) | none => none
  | none => none
theorem evZero_ok {P : Program} {T : TypeId} {l : List SV} (h : evZero P T = some l) : ∃ i z, P.info? T = some i ∧ i.zero = some z ∧ ∀ (ρ : Env) (ms : List Nat), l.map (SV.inst ρ ms) = z.cells.toList.map some := by
  unfold evZero at h
  split at h
  case h_2 => cases h
  rename_i i hi
  split at h
  case h_2 => cases h
  rename_i z hz
  refine ⟨i, z, hi, hz, fun ρ ms => ?_⟩
  rw [seqO_iff] at h
  have key : ∀ (vs : List Value) (l : List SV), vs.map ofScalar = l.map some → l.map (SV.inst ρ ms) = vs.map some := by
    intro vs
    induction vs with
    | nil => intro l hl; cases l <;> simp at hl ⊢
    | cons v vs ih =>
      intro l hl
      cases l with
      | nil => simp at hl
      | cons s l =>
        simp only [List.map_cons, List.cons.injEq] at hl ⊢
        exact ⟨ofScalar_inst hl.1, ih l hl.2⟩
  exact key _ _ h
theorem zeroValue_run {P : Program} {T : TypeId} {i : TypeInfo} {z : Value} (hi : P.info? T = some i) (hz : i.zero = some z) (w : World) : (zeroValue T).run P w = .ok z w := by
  simp [zeroValue, typeInfo, hi, hz]

def fillA (place : Nat → Option (Nat × Nat)) : List SV → List (Nat × List SV) → Option (List SV)
  | cells, [] => some cells
  | cells, (i, l) :: rest =>
    match place i with
    | none => none
    | some (off, size) => if l.length = size ∧ off + l.length ≤ cells.length then fillA place (over cells off l) rest else none

theorem foldl_set (off : Nat) : ∀ (l : List Value) (k : Nat) (c : Array Value) (j : Nat), off + k + l.length ≤ c.size →
    ((l.zipIdx k).foldl (fun cs (p : Value × Nat) => cs.setIfInBounds (off + p.2) p.1) c)[j]? = if off + k ≤ j ∧ j < off + k + l.length then l[j - (off + k)]? else c[j]?
  | [], k, c, j, _ => by simp; intro h1 h2; omega
  | v :: l, k, c, j, h => by
    simp only [List.length_cons] at h
    rw [List.zipIdx_cons, List.foldl_cons, foldl_set off l (k + 1) _ j (by simp; omega)]
    simp only [List.length_cons]
    by_cases h1 : off + (k + 1) ≤ j ∧ j < off + (k + 1) + l.length
    · rw [if_pos h1, if_pos (by omega), show j - (off + k) = (j - (off + (k + 1))) + 1 by omega, List.getElem?_cons_succ]
    · rw [if_neg h1, Array.getElem?_setIfInBounds]
      by_cases h2 : off + k = j
      · rw [if_pos h2, if_pos (by omega), if_pos (by omega), show j - (off + k) = 0 by omega, List.getElem?_cons_zero]
      · rw [if_neg h2, if_neg (by omega)]
theorem fill_ok {ρ : Env} {ms : List Nat} (place : Nat → Option (Nat × Nat)) : ∀ (parts : List (Nat × List SV)) (vparts : List (Nat × Value)) (cells l : List SV) (vs : List Value), cells.map (SV.inst ρ ms) = vs.map some →
    parts.map (fun p => (p.1, p.2.map (SV.inst ρ ms))) = vparts.map (fun p => (p.1, p.2.cells.toList.map some)) → fillA place cells parts = some l →
    ∃ us : List Value, l.map (SV.inst ρ ms) = us.map some ∧ Instr.fill place vs.toArray vparts = some us.toArray
  | [], vparts, cells, l, vs, hc, hp, h => by
    cases vparts <;> simp at hp
    simp only [fillA, Option.some.injEq] at h
    subst h
    exact ⟨vs, hc, rfl⟩
  | (i, p) :: parts, vparts, cells, l, vs, hc, hp, h => by
    cases vparts with
    | nil => simp at hp
    | cons q vparts =>
      obtain ⟨i', v⟩ := q
      simp only [List.map_cons, List.cons.injEq, Prod.mk.injEq] at hp
      obtain ⟨⟨rfl, hv⟩, hp⟩ := hp
      simp only [fillA] at h
      split at h
      case h_1 => cases h
      rename_i off size hpl
      split at h
      case isFalse => cases h
      rename_i hcond
      have hlen : p.length = v.cells.size := by have := congrArg List.length hv; simpa using this
      have hlc : cells.length = vs.length := by have := congrArg List.length hc; simpa using this
      have hov : (over cells off p).map (SV.inst ρ ms) = ((v.cells.zipIdx.foldl (fun cs (c : Value × Nat) => cs.setIfInBounds (off + c.2) c.1) vs.toArray)).toList.map some := by
        apply List.ext_getElem?
        intro j
        have fs := foldl_set off v.cells.toList 0 vs.toArray j (by simp; omega)
        rw [← Array.toList_zipIdx, Array.foldl_toList] at fs
        simp only [Nat.add_zero] at fs
        rw [← Array.getElem?_toList] at fs
        rw [List.getElem?_map, over_get _ _ _ hcond.2, List.getElem?_map, fs]
        have e1 : ∀ j, (p[j]?).map (SV.inst ρ ms) = (v.cells.toList[j]?).map some := fun j => by rw [← List.getElem?_map, ← List.getElem?_map, hv]
        have e2 : ∀ j, (cells[j]?).map (SV.inst ρ ms) = (vs[j]?).map some := fun j => by rw [← List.getElem?_map, ← List.getElem?_map, hc]
        by_cases hin : off ≤ j ∧ j < off + p.length
        · rw [if_pos hin, if_pos (by simp; omega), e1]
        · rw [if_neg hin, if_neg (by simp; omega), e2]; simp
      obtain ⟨us, h1, h2⟩ := fill_ok place parts vparts _ l _ hov hp h
      refine ⟨us, h1, ?_⟩
      simp only [Instr.fill, hpl]
      rw [if_neg (by simp; omega)]
      rw [Array.toArray_toList] at h2
      exact h2

def partsOf (t : Tm) (parts : List (Nat × Operand)) : Option (List (Nat × List SV)) := seqO (parts.map fun p => (gCells t p.2).map fun l => (p.1, l))
theorem partsOf_ok {ρ : Env} {ms : List Nat} {t : Tm} {a : Act} (hT : RelT ρ ms t a.tmps) : ∀ (parts : List (Nat × Operand)) (ps : List (Nat × List SV)), partsOf t parts = some ps →
    ps.map (fun p => (p.1, p.2.map (SV.inst ρ ms))) = (parts.map fun p => (p.1, a.eval p.2)).map (fun p => (p.1, p.2.cells.toList.map some))
  | [], ps, h => by simp [partsOf, seqO] at h; subst h; rfl
  | (i, x) :: parts, ps, h => by
    unfold partsOf at h
    rw [seqO_iff] at h
    cases ps with
    | nil => simp at h
    | cons p ps =>
      simp only [List.map_cons, List.cons.injEq, Option.map_eq_some_iff] at h
      obtain ⟨⟨l, h1, rfl⟩, h2⟩ := h
      obtain ⟨vs, h3, h4⟩ := gCells_ok hT h1
      simp only [List.map_cons, List.cons.injEq, h4, h3, true_and]
      exact partsOf_ok hT parts ps (by unfold partsOf; rw [seqO_iff]; exact h2)

def placesOf (P : Program) (fs : List Field) : Option (List (Nat × Nat)) := seqO (fs.map fun f => (rowOf P f.type).map fun r => (f.offset, r.2))
theorem mapM_run {α β : Type} {P : Program} (w : World) (f : α → Sem β) : ∀ (l : List α) (r : List β), l.length = r.length → (∀ (i : Nat) (x : α) (y : β), l[i]? = some x → r[i]? = some y → (f x).run P w = .ok y w) → (l.mapM f).run P w = .ok r w
  | [], [], _, _ => rfl
  | [], _ :: _, h, _ => by simp at h
  | _ :: _, [], h, _ => by simp at h
  | x :: l, y :: r, h, hf => by
    rw [List.mapM_cons, Sem.run_bind, hf 0 x y rfl rfl, Result.andThen_ok, Sem.run_bind, mapM_run w f l r (by simpa using h) (fun i a b h1 h2 => hf (i + 1) a b (by simpa using h1) (by simpa using h2)), Result.andThen_ok, Sem.run_pure]
def evBuild (P : Program) (t : Tm) (T : TypeId) (parts : List (Nat × Operand)) : Option AV :=
  match evZero P T, partsOf t parts, P.underlying T with
  | some z, some ps, some (.array _ e) =>
    match rowOf P e with
    | some (_, s) => (fillA (fun i => some (i * s, s)) z ps).map fun l => .tv (.agg l)
    | none => none
  | some z, some ps, some (.struct fs) =>
    match placesOf P fs.toList with
    | some pl => (fillA (fun i => pl[i]?) z ps).map fun l => .tv (.agg l)
    | none => none
  | _, _, _ => none
theorem evBuild_ok {P : Program} {ρ : Env} {ms : List Nat} {t : Tm} {a : Act} (hT : RelT ρ ms t a.tmps) {T : TypeId} {parts : Array (Nat × Operand)} {z : AV} (h : evBuild P t T parts.toList = some z) (w : World) :
    ∃ r, z.inst ρ ms = some r ∧ (Instr.build T (parts.map fun p => (p.1, a.eval p.2))).run P w = .ok r w := by
  unfold evBuild at h
  split at h
  · rename_i zl ps n e h1 h2 h3
    obtain ⟨i, z0, hi, hz, hzl⟩ := evZero_ok h1
    split at h
    case h_2 => cases h
    rename_i r s h4
    rw [Option.map_eq_some_iff] at h
    obtain ⟨l, h5, rfl⟩ := h
    obtain ⟨us, h6, h7⟩ := fill_ok (ρ := ρ) (ms := ms) _ ps _ zl l z0.cells.toList (hzl ρ ms) (partsOf_ok hT _ _ h2) h5
    refine ⟨.agg us.toArray, by simp only [AV.inst, TV.inst, (seqO_iff _ _).2 h6, Option.map_some], ?_⟩
    rw [Array.toArray_toList] at h7
    simp only [Instr.build, Sem.run_bind, zeroValue_run hi hz, Result.andThen_ok, run_underlying h3, sizeOf_run h4, Array.toList_map, h7]
    rfl
  · rename_i zl ps fs h1 h2 h3
    obtain ⟨i, z0, hi, hz, hzl⟩ := evZero_ok h1
    split at h
    case h_2 => cases h
    rename_i pl h4
    rw [Option.map_eq_some_iff] at h
    obtain ⟨l, h5, rfl⟩ := h
    obtain ⟨us, h6, h7⟩ := fill_ok (ρ := ρ) (ms := ms) _ ps _ zl l z0.cells.toList (hzl ρ ms) (partsOf_ok hT _ _ h2) h5
    refine ⟨.agg us.toArray, by simp only [AV.inst, TV.inst, (seqO_iff _ _).2 h6, Option.map_some], ?_⟩
    rw [Array.toArray_toList] at h7
    unfold placesOf at h4
    rw [seqO_iff] at h4
    have hpl : (fs.mapM fun f => do pure (f.offset, ← sizeOf f.type) : Sem (Array (Nat × Nat))).run P w = .ok pl.toArray w := by
      rw [Array.mapM_eq_mapM_toList, Sem.run_map, mapM_run w _ fs.toList pl (by have := congrArg List.length h4; simpa using this) (fun i x y hx hy => by
        have e : (fs.toList.map fun f => (rowOf P f.type).map fun r => (f.offset, r.2))[i]? = (pl.map some)[i]? := by rw [h4]
        rw [List.getElem?_map, List.getElem?_map, hx, hy] at e
        simp only [Option.map_some, Option.some.injEq, Option.map_eq_some_iff] at e
        obtain ⟨⟨r, s⟩, e1, e2⟩ := e
        subst e2
        simp [sizeOf_run e1])]
      rfl
    simp only [Instr.build, Sem.run_bind, zeroValue_run hi hz, Result.andThen_ok, run_underlying h3, hpl, Array.toList_map]
    have e9 : (fun x : Nat => pl.toArray[x]?) = (fun i : Nat => pl[i]?) := by funext x; simp
    rw [e9, h7]
    rfl
  · cases h

def ptrs (l : List (Nat × Nat)) : List AV := l.map fun p => .tv (.sc (.ptr p.1 p.2))
/-- A method of an interface value, taken as a function. -/
def evMth (nm : String) : AV → Option AV
  | .tv (.sc (.ifp t n o)) => some (.tv (.sc (.mtp nm t n o)))
  | .tv (.sc (.ife t)) => some (.tv (.sc (.mte nm t)))
  | _ => none
theorem evMth_ok {ρ : Env} {ms : List Nat} {nm : String} {a v : AV} (h : evMth nm a = some v) {u : Value} (hu : a.inst ρ ms = some u) : v.inst ρ ms = some (.func (.method nm) #[u] #[]) := by
  unfold evMth at h
  split at h
  · simp only [Option.some.injEq] at h
    subst h
    simp only [AV.inst, TV.inst, SV.inst, Option.map_eq_some_iff] at hu ⊢
    obtain ⟨x, hx, rfl⟩ := hu
    exact ⟨x, hx, rfl⟩
  · simp only [Option.some.injEq] at h
    subst h
    simp only [AV.inst, TV.inst, SV.inst, Option.some.injEq] at hu
    subst hu
    rfl
  · cases h
/-- It has a receiver, seen off its type alone. -/
def nilF (P : Program) (ty : TypeId) (name : String) : Bool :=
  match P.info? ty with
  | some i =>
    match i.methods.find? (·.name == name) with
    | some m => m.path.isEmpty && (match m.func, P.underlying ty with
      | some (_, true), _ => true
      | some (_, false), some (.struct _) => true
      | _, _ => false)
    | none => false
  | none => false
theorem nilF_ok {P : Program} {ty : TypeId} {name : String} (h : nilF P ty name = true) (v : Value) (k : Nat) (w : World) : (nilAhead (k + 1) ty v name).run P w = .ok (some false) w := by
  unfold nilF at h
  split at h
  case h_2 => cases h
  rename_i i hi
  split at h
  case h_2 => cases h
  rename_i m hm
  rw [Bool.and_eq_true] at h
  have hp2 : m.path.toList = [] := by simpa using h.1
  have h2 := h.2
  split at h2
  · rename_i g _ h3
    simp [nilAhead, typeInfo, hi, hm, hp2, followBlind, h3]
  · rename_i g e h3 h4
    simp [nilAhead, typeInfo, hi, hm, hp2, followBlind, h3, run_underlying h4]
  · cases h2
def evMthNil (P : Program) : AV → Option AV
  | .tv (.sc (.mtp nm t n o)) => if nilF P t nm then some (.tv (.sc (.mtp nm t n o))) else none
  | .tv (.sc (.mte nm t)) => if nilF P t nm then some (.tv (.sc (.mte nm t))) else none
  | _ => none
theorem evMthNil_ok {P : Program} {ρ : Env} {ms : List Nat} {a v : AV} (h : evMthNil P a = some v) {u : Value} (hu : a.inst ρ ms = some u) : v = a ∧ ∃ nm t x, u = .func (.method nm) #[.iface t x] #[] ∧ nilF P t nm = true := by
  unfold evMthNil at h
  split at h
  · split at h <;> cases h
    rename_i hn
    simp only [AV.inst, TV.inst, SV.inst, Option.map_eq_some_iff] at hu
    obtain ⟨x, hx, rfl⟩ := hu
    exact ⟨rfl, _, _, _, rfl, hn⟩
  · split at h <;> cases h
    rename_i hn
    simp only [AV.inst, TV.inst, SV.inst, Option.some.injEq] at hu
    exact ⟨rfl, _, _, _, hu.symm, hn⟩
  · cases h
/-- An interface value of a pointer, or of a struct without fields. -/
def evIface (P : Program) (T : TypeId) (a : AV) : Option AV :=
  match P.underlying T with
  | some (.pointer _) => match a with | .tv (.sc (.ptr n o)) => some (.tv (.sc (.ifp T n o))) | _ => none
  | some (.struct _) => match a with | .tv (.agg []) => some (.tv (.sc (.ife T))) | _ => none
  | _ => none
theorem evIface_ok {P : Program} {ρ : Env} {ms : List Nat} {T : TypeId} {a v : AV} (h : evIface P T a = some v) {u : Value} (hu : a.inst ρ ms = some u) (w : World) : v.inst ρ ms = some (.iface T u) ∧ (Instr.makeInterface T u).run P w = .ok (.iface T u) w := by
  unfold evIface at h
  split at h
  · rename_i e hT
    split at h
    · simp only [Option.some.injEq] at h
      subst h
      refine ⟨?_, by simp [Instr.makeInterface, run_underlying hT]⟩
      simp only [AV.inst, TV.inst, SV.inst] at hu ⊢
      rw [hu]; rfl
    · cases h
  · rename_i e hT
    split at h
    · simp only [Option.some.injEq] at h
      subst h
      refine ⟨?_, by simp [Instr.makeInterface, run_underlying hT]⟩
      simp only [AV.inst, TV.inst, List.map_nil, seqO, Option.map_some, Option.some.injEq] at hu
      subst hu
      rfl
    · cases h
  · cases h
/-- The literal nil held against a nil interface value. -/
def isNilLit : Operand → Bool
  | .const .nilIface => true
  | _ => false
def evNil (P : Program) (op : BinOp) (T : TypeId) (x y : Operand) (a b : AV) : Option AV :=
  match P.underlying T, a, b with
  | some (.interface _), .tv (.sc .nili), .tv (.sc .nili) =>
    if isNilLit x || isNilLit y then
      match op with
      | .eql => some (.tv (.sc (.bool true)))
      | .neq => some (.tv (.sc (.bool false)))
      | _ => none
    else none
  | _, _, _ => none
theorem evNil_ok {P : Program} {ρ : Env} {ms : List Nat} {op : BinOp} {T : TypeId} {x y : Operand} {a b z : AV} (h : evNil P op T x y a b = some z) {u v : Value} (hu : a.inst ρ ms = some u) (hv : b.inst ρ ms = some v) (w : World) :
    ∃ r, z.inst ρ ms = some r ∧ (do eqGuard op T x y u v; binOp op T u v : Sem Value).run P w = .ok r w := by
  unfold evNil at h
  split at h
  case h_2 => cases h
  rename_i e hT
  split at h
  case isFalse => cases h
  rename_i hl
  simp only [AV.inst, TV.inst, SV.inst, Option.some.injEq] at hu hv
  subst hu hv
  have hn : ∀ z : Operand, isNilLit z = true → z = .const .nilIface := fun z hz => by
    unfold isNilLit at hz
    split at hz
    · rfl
    · cases hz
  have hg : ∀ op, (eqGuard op T x y .nilIface .nilIface).run P w = .ok () w := fun op => by
    rw [Bool.or_eq_true] at hl
    rcases hl with h1 | h1
    · rw [hn _ h1]
      unfold eqGuard
      cases op <;> simp
    · rw [hn _ h1]
      unfold eqGuard
      cases op <;> simp
  have ke0 : ∀ D, (Op.equalIn (D + 1) T .nilIface .nilIface).run P w = .ok true w := fun D => by
    simp only [Op.equalIn, Sem.run_bind, run_underlying hT, Result.andThen_ok, Sem.run_pure]
  have ke : (Op.equal T .nilIface .nilIface).run P w = .ok true w := ke0 9999
  split at h
  · simp only [Option.some.injEq] at h
    subst h
    exact ⟨.bool true, rfl, by simp only [Sem.run_bind, hg, Result.andThen_ok, binOp, ke, Sem.run_pure]⟩
  · simp only [Option.some.injEq] at h
    subst h
    exact ⟨.bool false, rfl, by simp only [Sem.run_bind, hg, Result.andThen_ok, binOp, ke, Sem.run_pure]; rfl⟩
  · cases h
def evBinO (P : Program) (L : Lore) (op : BinOp) (T : TypeId) (x y : Operand) (a b : AV) : Option AV :=
  match evBin P L op T a b with
  | some r => some r
  | none => evNil P op T x y a b
def evReadX : Op → Program → Lore → Tm → List Blk → Option AV
  | .move x => fun P L t H => evGet t x
  | .assign x => fun P L t H => evGet t x
  | .pick c a b => fun P L t H =>
    match evGet t c with
    | some (.tv (.sc (.bool true))) => evGet t a
    | some (.tv (.sc (.bool false))) => evGet t b
    | _ => none
  | .load T x => fun P L t H => evLoad P t H T x
  | .nilCheck x => fun P L t H =>
    match evGet t x with
    | some (.tv (.sc (.ptr n o))) => some (.tv (.sc (.ptr n o)))
    | some (.tv (.sc (.clo f c))) => some (.tv (.sc (.clo f c)))
    | some v => evMthNil P v
    | _ => none
  | .binOp op T x y _ => fun P L t H => match evGet t x, evGet t y with | some a, some b => evBinO P L op T x y a b | _, _ => none
  | .unOp op _ x => fun P L t H => match evGet t x with | some a => evUn op a | none => none
  | .convert s d x => fun P L t H => match evGet t x with | some a => evConv P s d a | none => none
  | .sliceToArrayPointer T x => fun P L t H => match evGet t x with | some a => evArr P T a | none => none
  | .slice T x lo hi mx => fun P L t H => evSlice P t T x lo hi mx
  | .fieldAddr S x f => fun P L t H => match evGet t x with | some a => evFieldAddr P S a f | none => none
  | .field S x f => fun P L t H => match evGet t x with | some a => evField P S a f | none => none
  | .indexAddr T x i => fun P L t H => match evGet t x, evGet t i with | some a, some b => evIndexAddr P T a b | _, _ => none
  | .index T x i => fun P L t H => match evGet t x, evGet t i with | some a, some b => evIndex P T a b | _, _ => none
  | .makeFunc (.func f) first caps => fun P L t H =>
    if first.size = 0 then (seqO (caps.toList.map (gPtr t))).map fun l => .tv (.sc (.clo f l)) else none
  | .makeFunc (.method nm) first caps => fun P L t H =>
    match first.toList, caps.toList with
    | [x], [] => (evGet t x).bind (evMth nm)
    | _, _ => none
  | .extract x i => fun P L t H =>
    match evGet t x with
    | some (.tup l) => (l[i]?).map .tv
    | _ => none
  | .build T parts => fun P L t H => evBuild P t T parts.toList
  | .makeInterface T x => fun P L t H => match evGet t x with | some a => evIface P T a | none => none
  | _ => fun _ _ _ _ => none
def evRead (P : Program) (L : Lore) (t : Tm) (H : List Blk) (op : Op) : Option AV := evReadX op P L t H

theorem evRead_ok {P : Program} {ρ : Env} {ms : List Nat} {L : Lore} (hL : LoreOk ρ L) {t : Tm} {H : List Blk} {a : Act} {o : Oper} {v : AV} (hT : RelT ρ ms t a.tmps) (h : evRead P L t H o.op = some v) (w : World) (hH : ∀ T x n c, o.op = .load T x → gPtr t x = some (n, c) → SeesAt ρ ms H w n c (loadLen P T)) :
    ∃ u, v.inst ρ ms = some u ∧ (execOp a.eval o).run P w = .ok (.value u) w := by
  cases hop : o.op <;> rw [hop] at h <;> simp only [evRead, evReadX] at h <;> try (cases h; done)
  case move x => exact ⟨_, evGet_ok hT h, by simp [execOp, hop]⟩
  case assign x => exact ⟨_, evGet_ok hT h, by simp [execOp, hop]⟩
  case pick c x y =>
    split at h
    · rename_i hc
      have := evGet_ok hT hc
      simp only [AV.inst, TV.inst, SV.inst, Option.some.injEq] at this
      exact ⟨_, evGet_ok hT h, by simp [execOp, hop, ← this, asBool]⟩
    · rename_i hc
      have := evGet_ok hT hc
      simp only [AV.inst, TV.inst, SV.inst, Option.some.injEq] at this
      exact ⟨_, evGet_ok hT h, by simp [execOp, hop, ← this, asBool]⟩
    · cases h
  case load T x =>
    obtain ⟨u, h1, h2⟩ := evLoad_ok hT (fun n c => hH T x n c hop) h
    exact ⟨u, h1, by simp [execOp, hop, h2]⟩
  case nilCheck x =>
    split at h
    · rename_i n o2 hc
      simp only [Option.some.injEq] at h
      subst h
      have h1 := evGet_ok hT hc
      refine ⟨_, h1, ?_⟩
      simp only [AV.inst, TV.inst, SV.inst, addr, Option.map_eq_some_iff] at h1
      obtain ⟨b, _, h1⟩ := h1
      simp [execOp, hop, ← h1]
    · rename_i f c hc
      simp only [Option.some.injEq] at h
      subst h
      have h1 := evGet_ok hT hc
      refine ⟨_, h1, ?_⟩
      simp only [AV.inst, TV.inst, SV.inst, Option.map_eq_some_iff] at h1
      obtain ⟨b, _, h1⟩ := h1
      simp [execOp, hop, ← h1]
    · rename_i hc
      obtain ⟨rfl, nm, ty, x', hu, hn⟩ := evMthNil_ok h (evGet_ok hT hc)
      refine ⟨_, evGet_ok hT hc, ?_⟩
      have hd : P.types.size + Made.depth = (P.types.size + (Made.depth - 1)) + 1 := rfl
      have hm := nilF_ok hn x' (P.types.size + (Made.depth - 1)) w
      rw [← hd] at hm
      simp only [execOp, hop, hu]
      simp only [List.getElem?_toArray, List.getElem?_cons_zero, program, Sem.run_bind, Sem.run, hm, Result.andThen_ok]
      rfl
    · cases h
  case binOp op T x y T' =>
    split at h
    case h_2 => cases h
    rename_i p q h1 h2
    obtain ⟨r, h3, h4⟩ : ∃ r, v.inst ρ ms = some r ∧ (do eqGuard op T x y (a.eval x) (a.eval y); Go.binOp op T (a.eval x) (a.eval y) : Sem Value).run P w = .ok r w := by
      unfold evBinO at h
      split at h
      · rename_i hb
        simp only [Option.some.injEq] at h
        subst h
        exact evBin_ok hL hb (evGet_ok hT h1) (evGet_ok hT h2) x y w
      · exact evNil_ok h (evGet_ok hT h1) (evGet_ok hT h2) w
    refine ⟨r, h3, ?_⟩
    simp only [execOp, hop]
    rw [Sem.run_bind, h4]; rfl
  case makeInterface T x =>
    split at h
    case h_2 => cases h
    rename_i p h1
    obtain ⟨h3, h4⟩ := evIface_ok (P := P) h (evGet_ok hT h1) w
    exact ⟨_, h3, by simp [execOp, hop, h4]⟩
  case unOp op T x =>
    split at h
    case h_2 => cases h
    rename_i p h1
    obtain ⟨r, h3, h4⟩ := evUn_ok (P := P) h (evGet_ok hT h1) w
    exact ⟨r, h3, by simp [execOp, hop, h4]⟩
  case convert s d x =>
    split at h
    case h_2 => cases h
    rename_i p h1
    obtain ⟨r, h3, h4⟩ := evConv_ok h (evGet_ok hT h1) w
    exact ⟨r, h3, by simp [execOp, hop, h4]⟩
  case sliceToArrayPointer T x =>
    split at h
    case h_2 => cases h
    rename_i p h1
    obtain ⟨r, h3, h4⟩ := evArr_ok h (evGet_ok hT h1) w
    exact ⟨r, h3, by simp [execOp, hop, h4]⟩
  case slice T x lo hi mx =>
    obtain ⟨r, h3, h4⟩ := evSlice_ok hT h w
    exact ⟨r, h3, by simp [execOp, hop, h4]⟩
  case fieldAddr S x f =>
    split at h
    case h_2 => cases h
    rename_i p h1
    obtain ⟨r, h3, h4⟩ := evFieldAddr_ok h (evGet_ok hT h1) w
    exact ⟨r, h3, by simp [execOp, hop, h4]⟩
  case field S x f =>
    split at h
    case h_2 => cases h
    rename_i p h1
    obtain ⟨r, h3, h4⟩ := evField_ok h (evGet_ok hT h1) w
    exact ⟨r, h3, by simp [execOp, hop, h4]⟩
  case indexAddr T x i =>
    split at h
    case h_2 => cases h
    rename_i p q h1 h2
    obtain ⟨r, h3, h4⟩ := evIndexAddr_ok h (evGet_ok hT h1) (evGet_ok hT h2) w
    exact ⟨r, h3, by simp [execOp, hop, h4]⟩
  case index T x i =>
    split at h
    case h_2 => cases h
    rename_i p q h1 h2
    obtain ⟨r, h3, h4⟩ := evIndex_ok h (evGet_ok hT h1) (evGet_ok hT h2) w
    exact ⟨r, h3, by simp [execOp, hop, h4]⟩
  case makeFunc fn first caps =>
    cases fn <;> simp only at h <;> try (cases h; done)
    case method nm =>
      split at h
      case h_2 => cases h
      rename_i x hf hcp
      rw [Option.bind_eq_some_iff] at h
      obtain ⟨p, h1, h2⟩ := h
      have e1 : first = #[x] := by rw [← Array.toArray_toList (xs := first), hf]
      have e2 : caps = #[] := by rw [← Array.toArray_toList (xs := caps), hcp]
      exact ⟨_, evMth_ok h2 (evGet_ok hT h1), by simp [execOp, hop, Instr.makeFunc, e1, e2]⟩
    rename_i f
    split at h
    case isFalse => cases h
    rename_i hf
    rw [Option.map_eq_some_iff] at h
    obtain ⟨l, h1, rfl⟩ := h
    rw [seqO_iff] at h1
    have hcap : (l.map (addr ms)) = (caps.toList.map a.eval).map some := by
      have key : ∀ (xs : List Operand) (l : List (Nat × Nat)), xs.map (gPtr t) = l.map some → l.map (addr ms) = (xs.map a.eval).map some := by
        intro xs
        induction xs with
        | nil => intro l hl; cases l <;> simp at hl ⊢
        | cons x xs ih =>
          intro l hl
          cases l with
          | nil => simp at hl
          | cons p l =>
            simp only [List.map_cons, List.cons.injEq] at hl ⊢
            obtain ⟨n, o3⟩ := p
            obtain ⟨b, hb, he⟩ := gPtr_ok hT hl.1
            exact ⟨by rw [he]; simp [addr, hb], ih l hl.2⟩
      exact key _ _ h1
    refine ⟨.func (.func f) #[] (caps.toList.map a.eval).toArray, ?_, ?_⟩
    · simp only [AV.inst, TV.inst, SV.inst]
      rw [(seqO_iff _ _).2 hcap]; rfl
    · have e : first.map a.eval = #[] := by simpa using hf
      have e2 : caps.map a.eval = (caps.toList.map a.eval).toArray := by rw [← Array.toList_map, Array.toArray_toList]
      simp [execOp, hop, Instr.makeFunc, e, e2]
  case extract x i =>
    split at h
    case h_2 => cases h
    rename_i l h1
    have h2 := evGet_ok hT h1
    rw [Option.map_eq_some_iff] at h
    obtain ⟨tv, h3, rfl⟩ := h
    simp only [AV.inst, Option.map_eq_some_iff] at h2
    obtain ⟨vs, h4, h5⟩ := h2
    rw [seqO_iff] at h4
    have e : (l.map (TV.inst ρ ms))[i]? = (vs.map some)[i]? := by rw [h4]
    rw [List.getElem?_map, List.getElem?_map, h3] at e
    cases hv : vs[i]? with
    | none => rw [hv] at e; simp at e
    | some u =>
      rw [hv] at e
      simp only [Option.map_some, Option.some.injEq] at e
      exact ⟨u, e, by simp [execOp, hop, ← h5, Instr.extract, hv]⟩
  case build T parts =>
    obtain ⟨r, h3, h4⟩ := evBuild_ok hT h w
    exact ⟨r, h3, by simp [execOp, hop, h4]⟩
end Go.Proofs.Ytafdklelfcccbaa.Ev
