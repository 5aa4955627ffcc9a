/- A small evaluator of Go code over memory of the call's own, told by names: its values, and what it is for a world to hold what it says. No statement of a law lies here, and nothing is assumed. -/
import Derived.WalkKit
import Derived.Deep.MidRow
import Derived.OrdersHeld
import Derived.Below
namespace Go.Proofs.Ytofbhemgbpcpoaa.Ev
open Go

/-- An integer that hangs on what is given: read by the model's own reckoning. -/
inductive Ex where
  | lit (n : Int)
  | var (i : Nat)
  | bit (op : BinOp) (k : IntKind) (a b : Ex)
  | ari (op : BinOp) (k : IntKind) (a b : Ex)
  | shl (k : IntKind) (a : Ex) (n : Nat)
  | shr (a : Ex) (n : Nat)
  | con (k : IntKind) (a : Ex)
  | app (f : Nat) (a b : Ex)
  deriving DecidableEq, Repr, Inhabited

/-- What one cell holds. -/
inductive SV where
  | int (k : IntKind) (e : Ex)
  | bool (b : Bool)
  | nilp
  | nils (len cap : Nat)
  | nilf
  | ptr (n o : Nat)
  | sl (n o len cap : Nat)
  | clo (f : Nat) (caps : List (Nat × Nat))
  | opq (i : Nat)
  deriving DecidableEq, Repr, Inhabited

/-- A value: one cell, or a row of cells. -/
inductive TV where
  | sc (s : SV)
  | agg (l : List SV)
  deriving DecidableEq, Repr, Inhabited

inductive AV where
  | tv (t : TV)
  | tup (l : List TV)
  deriving DecidableEq, Repr, Inhabited

/-- A cell that names no block. -/
def SV.plain : SV → Bool
  | .ptr _ _ => false
  | .sl _ _ _ _ => false
  | .clo _ cs => cs.isEmpty
  | _ => true
/-- A block: may it be written; does it surely name no block; its cells. -/
structure Blk where
  ro : Bool
  pl : Bool
  cells : List SV
  deriving DecidableEq, Repr, Inhabited

/-- What is given: integers, values of one cell, functions of two integers. -/
structure Env where
  int : Nat → Int
  val : Nat → Value
  fn : Nat → Int → Int → Int

def bitsOf (op : BinOp) (k : IntKind) (x y : Int) : Int :=
  let a := BitVec.ofInt k.bits x
  let b := BitVec.ofInt k.bits y
  match op with
  | .and => k.wrap (a &&& b).toNat
  | .or => k.wrap (a ||| b).toNat
  | .xor => k.wrap (a ^^^ b).toNat
  | _ => k.wrap (a &&& ~~~b).toNat
def ariOf (op : BinOp) (k : IntKind) (x y : Int) : Int :=
  match op with
  | .add => k.wrap (x + y)
  | .sub => k.wrap (x - y)
  | .quo => k.wrap (x.tdiv y)
  | .rem => x.tmod y
  | _ => k.wrap (x * y)

def Ex.den (ρ : Env) : Ex → Int
  | .lit n => n
  | .var i => ρ.int i
  | .bit op k a b => bitsOf op k (a.den ρ) (b.den ρ)
  | .ari op k a b => ariOf op k (a.den ρ) (b.den ρ)
  | .shl k a n => k.wrap (a.den ρ * 2 ^ n)
  | .shr a n => (a.den ρ).fdiv (2 ^ n)
  | .con k a => k.wrap (a.den ρ)
  | .app f a b => ρ.fn f (a.den ρ) (b.den ρ)

/-- What is known besides: how two integers that hang on what is given compare; by which name an integer goes. -/
structure Lore where
  fact : BinOp → Ex → Ex → Option Bool
  nm : Ex → Ex
  factA : List SV → List SV → Option Bool
def addr (ms : List Nat) (p : Nat × Nat) : Option Value := (ms[p.1]?).map fun b => .pointer (some ⟨b, p.2, none⟩)

def seqO {α : Type} : List (Option α) → Option (List α)
  | [] => some []
  | none :: _ => none
  | some x :: r => (seqO r).map (x :: ·)
theorem seqO_iff {α : Type} : ∀ (l : List (Option α)) (vs : List α), seqO l = some vs ↔ l = vs.map some
  | [], vs => by cases vs <;> simp [seqO]
  | none :: r, vs => by cases vs <;> simp [seqO]
  | some x :: r, vs => by
    cases vs with
    | nil => simp [seqO]
    | cons y ys =>
      simp only [seqO, List.map_cons, List.cons.injEq, Option.some.injEq, Option.map_eq_some_iff]
      constructor
      · rintro ⟨zs, h1, h2, h3⟩
        exact ⟨h2, (seqO_iff r ys).1 (h3 ▸ h1)⟩
      · rintro ⟨rfl, h2⟩
        exact ⟨ys, (seqO_iff r ys).2 h2, rfl, rfl⟩

def SV.inst (ρ : Env) (ms : List Nat) : SV → Option Value
  | .int k e => some (.int k (e.den ρ))
  | .bool b => some (.bool b)
  | .nilp => some (.pointer none)
  | .nils l c => some (.slice none l c)
  | .nilf => some .nilFunc
  | .ptr n o => addr ms (n, o)
  | .sl n o l c => (ms[n]?).map fun b => .slice (some ⟨b, o, none⟩) l c
  | .clo f cs => (seqO (cs.map (addr ms))).map fun vs => .func (.func f) #[] vs.toArray
  | .opq i => if (ρ.val i).oneCell' then some (ρ.val i) else none

def TV.inst (ρ : Env) (ms : List Nat) : TV → Option Value
  | .sc s => s.inst ρ ms
  | .agg l => (seqO (l.map (SV.inst ρ ms))).map fun vs => .agg vs.toArray
def AV.inst (ρ : Env) (ms : List Nat) : AV → Option Value
  | .tv t => t.inst ρ ms
  | .tup l => (seqO (l.map (TV.inst ρ ms))).map fun vs => .tuple vs.toArray

theorem SV.inst_one {ρ : Env} {ms : List Nat} {s : SV} {v : Value} (h : s.inst ρ ms = some v) : v.oneCell' = true := by
  cases s <;> simp only [SV.inst, addr, Option.map_eq_some_iff, Option.some.injEq] at h
  case opq => split at h <;> simp_all
  all_goals first | (obtain ⟨_, _, rfl⟩ := h; rfl) | (subst h; rfl)

section
variable {ρ : Env} {ms ms' : List Nat}
theorem pre_get (hp : ms <+: ms') {n b : Nat} (h : ms[n]? = some b) : ms'[n]? = some b := by
  obtain ⟨r, rfl⟩ := hp
  rw [List.getElem?_append_left (List.getElem?_eq_some_iff.1 h).1]; exact h
theorem addr_mono (hp : ms <+: ms') {p : Nat × Nat} {v : Value} (h : addr ms p = some v) : addr ms' p = some v := by
  unfold addr at *
  rw [Option.map_eq_some_iff] at *
  obtain ⟨b, hb, rfl⟩ := h
  exact ⟨b, pre_get hp hb, rfl⟩
theorem map_mono {α β : Type} {f g : α → Option β} (hfg : ∀ x y, f x = some y → g x = some y) : ∀ (l : List α) (vs : List β), l.map f = vs.map some → l.map g = vs.map some
  | [], [], _ => rfl
  | [], _ :: _, h => by simp at h
  | _ :: _, [], h => by simp at h
  | x :: l, y :: ys, h => by
    simp only [List.map_cons, List.cons.injEq] at h ⊢
    exact ⟨hfg x y h.1, map_mono hfg l ys h.2⟩
theorem SV.inst_mono (hp : ms <+: ms') (s : SV) (v : Value) (h : s.inst ρ ms = some v) : s.inst ρ ms' = some v := by
  cases s <;> simp only [SV.inst] at h ⊢ <;> try exact h
  case ptr => exact addr_mono hp h
  case sl =>
    rw [Option.map_eq_some_iff] at *
    obtain ⟨b, hb, rfl⟩ := h
    exact ⟨b, pre_get hp hb, rfl⟩
  case clo =>
    rw [Option.map_eq_some_iff] at *
    obtain ⟨vs, hb, rfl⟩ := h
    exact ⟨vs, (seqO_iff _ _).2 (map_mono (fun x y => addr_mono hp) _ _ ((seqO_iff _ _).1 hb)), rfl⟩
theorem TV.inst_mono (hp : ms <+: ms') (s : TV) (v : Value) (h : s.inst ρ ms = some v) : s.inst ρ ms' = some v := by
  cases s with
  | sc s => exact s.inst_mono hp v h
  | agg l =>
    simp only [TV.inst] at h ⊢
    rw [Option.map_eq_some_iff] at *
    obtain ⟨vs, hb, rfl⟩ := h
    exact ⟨vs, (seqO_iff _ _).2 (map_mono (SV.inst_mono hp) _ _ ((seqO_iff _ _).1 hb)), rfl⟩
theorem AV.inst_mono (hp : ms <+: ms') (s : AV) (v : Value) (h : s.inst ρ ms = some v) : s.inst ρ ms' = some v := by
  cases s with
  | tv s => exact s.inst_mono hp v h
  | tup l =>
    simp only [AV.inst] at h ⊢
    rw [Option.map_eq_some_iff] at *
    obtain ⟨vs, hb, rfl⟩ := h
    exact ⟨vs, (seqO_iff _ _).2 (map_mono (TV.inst_mono hp) _ _ ((seqO_iff _ _).1 hb)), rfl⟩
end

/-- The temporaries stand as told. -/
def RelT (ρ : Env) (ms : List Nat) (t : List AV) (tmps : Array Value) : Prop := t.map (AV.inst ρ ms) = tmps.toList.map some

/-- The world holds the blocks as told: ms tells where each lies; nothing below B is among those that are written. -/
structure Holds (ρ : Env) (ms : List Nat) (H : List Blk) (B : Nat) (w : World) : Prop where
  len : ms.length = H.length
  inj : ∀ (i j b : Nat), ms[i]? = some b → ms[j]? = some b → i = j
  low : ∀ (i b : Nat) (k : Blk), ms[i]? = some b → H[i]? = some k → k.ro = false → B ≤ b
  bnd : ∀ (i b : Nat), ms[i]? = some b → b < w.heap.size
  big : B ≤ w.heap.size
  plain : ∀ (i : Nat) (k : Blk), H[i]? = some k → k.pl = true → k.cells.all SV.plain = true
  cell : ∀ (i b : Nat) (k : Blk), ms[i]? = some b → H[i]? = some k → ∀ (j : Nat) (s : SV), k.cells[j]? = some s → ∃ v, s.inst ρ ms = some v ∧ w.cell? ⟨b, j, none⟩ = some v ∧ w.frozen? ⟨b, j, none⟩ = false

theorem RelT.mono {ρ : Env} {ms ms' : List Nat} {t : List AV} {a : Array Value} (h : RelT ρ ms t a) (hp : ms <+: ms') : RelT ρ ms' t a := map_mono (AV.inst_mono hp) _ _ h
theorem RelT.get {ρ : Env} {ms : List Nat} {t : List AV} {a : Array Value} (h : RelT ρ ms t a) {i : Nat} {x : AV} (hx : t[i]? = some x) : ∃ v, a[i]? = some v ∧ x.inst ρ ms = some v := by
  have h1 : (t.map (AV.inst ρ ms))[i]? = (a.toList.map some)[i]? := by rw [h]
  rw [List.getElem?_map, List.getElem?_map, hx] at h1
  simp only [Option.map_some, Array.getElem?_toList] at h1
  cases hv : a[i]? with
  | none => rw [hv] at h1; simp at h1
  | some v => rw [hv] at h1; simp only [Option.map_some, Option.some.injEq] at h1; exact ⟨v, rfl, h1⟩
theorem RelT.put {ρ : Env} {ms : List Nat} {t : List AV} {a : Act} (h : RelT ρ ms t a.tmps) (d : Nat) {x : AV} {v : Value} (hx : x.inst ρ ms = some v) : RelT ρ ms (t.set d x) (a.put (some d) v).tmps := by
  unfold RelT at *
  simp only [Act.put]
  rw [List.map_set, h, Array.toList_setIfInBounds, List.map_set, hx]
theorem Holds.alloc {ρ : Env} {ms : List Nat} {H : List Blk} {B : Nat} {w : World} (h : Holds ρ ms H B w) {l : List SV} {vs : List Value} (hl : l.map (SV.inst ρ ms) = vs.map some) (T : TypeId) :
    Holds ρ (ms ++ [w.heap.size]) (H ++ [⟨false, l.all SV.plain, l⟩]) B (w.alloc (.cells vs.toArray T)) where
  len := by simp [h.len]
  inj := by
    intro i j b hi hj
    rw [List.getElem?_append] at hi hj
    by_cases h1 : i < ms.length <;> by_cases h2 : j < ms.length
    · rw [if_pos h1] at hi; rw [if_pos h2] at hj; exact h.inj i j b hi hj
    · rw [if_pos h1] at hi; rw [if_neg h2] at hj
      have := h.bnd i b hi
      have e : b = w.heap.size := by
        have := List.mem_of_getElem? hj
        simpa using this
      omega
    · rw [if_neg h1] at hi; rw [if_pos h2] at hj
      have := h.bnd j b hj
      have e : b = w.heap.size := by
        have := List.mem_of_getElem? hi
        simpa using this
      omega
    · rw [if_neg h1] at hi; rw [if_neg h2] at hj
      have e1 := (List.getElem?_eq_some_iff.1 hi).1
      have e2 := (List.getElem?_eq_some_iff.1 hj).1
      simp at e1 e2
      omega
  low := by
    intro i b k hi hk hr
    rw [List.getElem?_append] at hi hk
    by_cases h1 : i < ms.length
    · rw [if_pos h1] at hi; rw [if_pos (by rw [← h.len]; exact h1)] at hk; exact h.low i b k hi hk hr
    · rw [if_neg h1] at hi
      have e : b = w.heap.size := by
        have := List.mem_of_getElem? hi
        simpa using this
      rw [e]; exact h.big
  bnd := by
    intro i b hi
    rw [World.size_alloc]
    rw [List.getElem?_append] at hi
    by_cases h1 : i < ms.length
    · rw [if_pos h1] at hi; have := h.bnd i b hi; omega
    · rw [if_neg h1] at hi
      have e : b = w.heap.size := by
        have := List.mem_of_getElem? hi
        simpa using this
      omega
  big := by rw [World.size_alloc]; have := h.big; omega
  plain := by
    intro i k hk hp
    rw [List.getElem?_append] at hk
    by_cases h1 : i < H.length
    · rw [if_pos h1] at hk; exact h.plain i k hk hp
    · rw [if_neg h1] at hk
      have ek : k = ⟨false, l.all SV.plain, l⟩ := by
        have := List.mem_of_getElem? hk
        simpa using this
      subst ek
      exact hp
  cell := by
    intro i b k hi hk j s hs
    rw [List.getElem?_append] at hi hk
    by_cases h1 : i < ms.length
    · rw [if_pos h1] at hi; rw [if_pos (by rw [← h.len]; exact h1)] at hk
      obtain ⟨v, h2, h3, h4⟩ := h.cell i b k hi hk j s hs
      refine ⟨v, s.inst_mono (List.prefix_append _ _) v h2, ?_, ?_⟩
      · rw [World.cell?_alloc_lt _ _ _ (h.bnd i b hi)]; exact h3
      · rw [World.frozen?_alloc_past _ _ _ (h.bnd i b hi)]; exact h4
    · rw [if_neg h1] at hi; rw [if_neg (by rw [← h.len]; exact h1)] at hk
      have e : b = w.heap.size := by
        have := List.mem_of_getElem? hi
        simpa using this
      have ek : k = ⟨false, l.all SV.plain, l⟩ := by
        have := List.mem_of_getElem? hk
        simpa using this
      subst e ek
      have e1 : (l.map (SV.inst ρ ms))[j]? = (vs.map some)[j]? := by rw [hl]
      simp only [List.getElem?_map] at e1
      simp only at hs
      rw [hs] at e1
      cases hv : vs[j]? with
      | none => rw [hv] at e1; simp at e1
      | some v =>
        rw [hv] at e1
        simp only [Option.map_some, Option.some.injEq] at e1
        refine ⟨v, s.inst_mono (List.prefix_append _ _) v e1, ?_, ?_⟩
        · rw [cell_of_row _ _ _ _ _ _ (heap_alloc_new w _)]
          simpa using hv
        · unfold World.frozen?
          rw [heap_alloc_new]
          simp
end Go.Proofs.Ytofbhemgbpcpoaa.Ev
