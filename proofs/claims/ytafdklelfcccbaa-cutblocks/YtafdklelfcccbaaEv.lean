/- A small evaluator of Go code over memory of the call's own, told by names: its values, and what it is for a world to hold what it says. No statement of a law lies here, and nothing is assumed. -/
import Derived.WalkKit
import Derived.Deep.MidRow
import Derived.OrdersHeld
import Derived.Below
import Derived.RangeFuncOwn
namespace Go.Proofs.Ytafdklelfcccbaa.Ev
open Go

open Go.RowKit in
/-- Below, and whatever is no cells lies as it lay. -/
structure Bel (B : Nat) (w w' : World) : Prop extends Below B w w' where
  kept : ∀ (i : Nat) (o : Obj), w.heap[i]? = some o → o.isCells = false → w'.heap[i]? = some o
section
open Go.RowKit
theorem Bel.refl (B : Nat) (w : World) : Bel B w w := ⟨Below.refl B w, fun _ _ h _ => h⟩
theorem Bel.trans {B : Nat} {a b c : World} (h : Bel B a b) (k : Bel B b c) : Bel B a c := ⟨h.toBelow.trans k.toBelow, fun i o hi hc => k.kept i o (h.kept i o hi hc) hc⟩
theorem Bel.mono {B B' : Nat} {w w' : World} (h : Bel B w w') (hB : B' ≤ B) : Bel B' w w' := ⟨h.toBelow.mono hB, h.kept⟩
theorem Bel.drew {B : Nat} {a w : World} (h : Bel B a w) : Bel B a w.drew := ⟨h.toBelow.drew, h.kept⟩
theorem Bel.drawn (B : Nat) (w : World) (n : Nat) : Bel B w { w with drawn := n } := ⟨⟨rfl, rfl, rfl, Nat.le_refl _, fun _ _ => rfl⟩, fun _ _ h _ => h⟩
theorem Bel.alloc {B : Nat} {a w : World} (h : Bel B a w) (hB : B ≤ w.heap.size) (o : Obj) : Bel B a (w.alloc o) :=
  ⟨h.toBelow.alloc hB o, fun i o' hi hc => by rw [Below.heap_alloc _ _ _ (Array.getElem?_eq_some_iff.1 (h.kept i o' hi hc)).1]; exact h.kept i o' hi hc⟩
theorem Bel.setCell {B : Nat} {a w : World} (h : Bel B a w) {p : Addr} (hp : B ≤ p.block) (u : Value) : Bel B a (w.setCell p u) :=
  ⟨h.toBelow.setCell hp u, fun i o hi hc => by
    have h1 := h.kept i o hi hc
    simp only [World.setCell, Array.getElem?_modify, h1]
    split
    · cases o <;> simp_all [Obj.isCells]
    · rfl⟩
theorem Bel.all {w w' : World} (h : Below w.heap.size w w') : Bel w.heap.size w w' :=
  ⟨h, fun i _ hi _ => (h.block i (Array.getElem?_eq_some_iff.1 hi).1).trans hi⟩
end

/-- An integer that hangs on what is given: read by the model's own reckoning. -/
inductive Ex where
  | lit (n : Int)
  | var (i : Nat)
  | bit (op : BinOp) (k : IntKind) (a b : Ex)
  | ari (op : BinOp) (k : IntKind) (a b : Ex)
  | shl (k : IntKind) (a : Ex) (n : Nat)
  | shr (a : Ex) (n : Nat)
  | con (k : IntKind) (a : Ex)
  | app (f : Nat) (a b : Ex)
  deriving DecidableEq, Repr, Inhabited

/-- What one cell holds. -/
inductive SV where
  | int (k : IntKind) (e : Ex)
  | bool (b : Bool)
  | nilp
  | nils (len cap : Nat)
  | nilf
  | ptr (n o : Nat)
  | sl (n o len cap : Nat)
  | slg (n o e len : Nat)
  | str (l : List Nat)
  | clo (f : Nat) (caps : List (Nat × Nat))
  | opq (i : Nat)
  | nili
  | ifp (t n o : Nat)
  | ife (t : Nat)
  | mtp (nm : String) (t n o : Nat)
  | mte (nm : String) (t : Nat)
  | sla (a : Addr) (len cap : Nat)
  | nilm
  deriving DecidableEq, Repr, Inhabited

/-- A value: one cell, or a row of cells. -/
inductive TV where
  | sc (s : SV)
  | agg (l : List SV)
  deriving DecidableEq, Repr, Inhabited

inductive AV where
  | tv (t : TV)
  | tup (l : List TV)
  deriving DecidableEq, Repr, Inhabited

/-- The temporaries: a tree by the bits of their numbers. -/
inductive Tr where
  | emp
  | one (v : AV)
  | br (a b c d e f h k : Tr)
  deriving DecidableEq, Inhabited
def sel8 (a b c d e f h k : Tr) (n : Nat) : Tr := Nat.casesOn (motive := fun _ => Tr) n a (fun n => Nat.casesOn (motive := fun _ => Tr) n b (fun n => Nat.casesOn (motive := fun _ => Tr) n c (fun n => Nat.casesOn (motive := fun _ => Tr) n d (fun n => Nat.casesOn (motive := fun _ => Tr) n e (fun n => Nat.casesOn (motive := fun _ => Tr) n f (fun n => Nat.casesOn (motive := fun _ => Tr) n h (fun _ => k)))))))
def put8 (s : Tr → Tr) (a b c d e f h k : Tr) (n : Nat) : Tr := Nat.casesOn (motive := fun _ => Tr) n (.br (s a) b c d e f h k) (fun n => Nat.casesOn (motive := fun _ => Tr) n (.br a (s b) c d e f h k) (fun n => Nat.casesOn (motive := fun _ => Tr) n (.br a b (s c) d e f h k) (fun n => Nat.casesOn (motive := fun _ => Tr) n (.br a b c (s d) e f h k) (fun n => Nat.casesOn (motive := fun _ => Tr) n (.br a b c d (s e) f h k) (fun n => Nat.casesOn (motive := fun _ => Tr) n (.br a b c d e (s f) h k) (fun n => Nat.casesOn (motive := fun _ => Tr) n (.br a b c d e f (s h) k) (fun _ => .br a b c d e f h (s k))))))))
/-- The n-th of what stands beneath. -/
def Tr.kid (t : Tr) (n : Nat) : Tr := Tr.casesOn (motive := fun _ => Tr) t .emp (fun _ => .emp) (fun a b c d e f h k => sel8 a b c d e f h k n)
def Tr.getS (g : Tr → Nat → Option AV) (t : Tr) (i : Nat) : Option AV := g (t.kid (Nat.mod i 8)) (Nat.div i 8)
def Tr.setS (s : Tr → Nat → AV → Tr) (t : Tr) (i : Nat) (v : AV) : Tr := Tr.casesOn (motive := fun _ => Tr) t (put8 (fun t => s t (Nat.div i 8) v) .emp .emp .emp .emp .emp .emp .emp .emp (Nat.mod i 8)) (fun _ => put8 (fun t => s t (Nat.div i 8) v) .emp .emp .emp .emp .emp .emp .emp .emp (Nat.mod i 8)) (fun a b c d e f h k => put8 (fun t => s t (Nat.div i 8) v) a b c d e f h k (Nat.mod i 8))
def Tr.get0 : Tr → Nat → Option AV := fun t _ => Tr.casesOn (motive := fun _ => Option AV) t none (fun v => some v) (fun _ _ _ _ _ _ _ _ => none)
def Tr.set0 : Tr → Nat → AV → Tr := fun _ _ v => .one v
def Tr.get1 : Tr → Nat → Option AV := Tr.getS Tr.get0
def Tr.get2 : Tr → Nat → Option AV := Tr.getS Tr.get1
def Tr.get3 : Tr → Nat → Option AV := Tr.getS Tr.get2
def Tr.set1 : Tr → Nat → AV → Tr := Tr.setS Tr.set0
def Tr.set2 : Tr → Nat → AV → Tr := Tr.setS Tr.set1
def Tr.set3 : Tr → Nat → AV → Tr := Tr.setS Tr.set2
theorem kid_put8 (s : Tr → Tr) (a b c d e f h k : Tr) (n m : Nat) (hn : n < 8) (hm : m < 8) : (put8 s a b c d e f h k n).kid m = if n = m then s (sel8 a b c d e f h k m) else sel8 a b c d e f h k m := by
  have h1 : n = 0 ∨ n = 1 ∨ n = 2 ∨ n = 3 ∨ n = 4 ∨ n = 5 ∨ n = 6 ∨ n = 7 := by omega
  have h2 : m = 0 ∨ m = 1 ∨ m = 2 ∨ m = 3 ∨ m = 4 ∨ m = 5 ∨ m = 6 ∨ m = 7 := by omega
  rcases h1 with rfl | rfl | rfl | rfl | rfl | rfl | rfl | rfl <;> rcases h2 with rfl | rfl | rfl | rfl | rfl | rfl | rfl | rfl <;> rfl
theorem sel8_emp (m : Nat) (hm : m < 8) : sel8 .emp .emp .emp .emp .emp .emp .emp .emp m = .emp := by
  have h2 : m = 0 ∨ m = 1 ∨ m = 2 ∨ m = 3 ∨ m = 4 ∨ m = 5 ∨ m = 6 ∨ m = 7 := by omega
  rcases h2 with rfl | rfl | rfl | rfl | rfl | rfl | rfl | rfl <;> rfl
theorem kid_setS (s : Tr → Nat → AV → Tr) (t : Tr) (i : Nat) (v : AV) (m : Nat) (hm : m < 8) : (Tr.setS s t i v).kid m = if i % 8 = m then s (t.kid m) (i / 8) v else t.kid m := by
  have hi : i % 8 < 8 := Nat.mod_lt _ (by decide)
  cases t with
  | emp => exact (kid_put8 (fun t => s t (i / 8) v) .emp .emp .emp .emp .emp .emp .emp .emp (i % 8) m hi hm).trans (by rw [sel8_emp m hm]; rfl)
  | one _ => exact (kid_put8 (fun t => s t (i / 8) v) .emp .emp .emp .emp .emp .emp .emp .emp (i % 8) m hi hm).trans (by rw [sel8_emp m hm]; rfl)
  | br a b c d e f h k => exact kid_put8 (fun t => s t (i / 8) v) a b c d e f h k (i % 8) m hi hm
structure Tr.Law (g : Tr → Nat → Option AV) (s : Tr → Nat → AV → Tr) (m : Nat) : Prop where
  emp : ∀ i, g .emp i = none
  put : ∀ t i j v, i < m → j < m → g (s t i v) j = if i = j then some v else g t j
theorem Tr.Law.step {g : Tr → Nat → Option AV} {s : Tr → Nat → AV → Tr} {m : Nat} (h : Tr.Law g s m) : Tr.Law (Tr.getS g) (Tr.setS s) (m * 8) := by
  refine ⟨fun i => h.emp _, fun t i j v hi hj => ?_⟩
  show g ((Tr.setS s t i v).kid (j % 8)) (j / 8) = if i = j then some v else g (t.kid (j % 8)) (j / 8)
  rw [kid_setS s t i v (j % 8) (Nat.mod_lt _ (by decide))]
  by_cases e : i % 8 = j % 8
  · rw [if_pos e, h.put _ _ _ _ (by omega) (by omega)]
    have e2 : (i / 8 = j / 8) = (i = j) := by apply propext; omega
    simp only [e2]
  · rw [if_neg e, if_neg (fun q => e (by rw [q]))]
theorem Tr.law0 : Tr.Law Tr.get0 Tr.set0 1 := ⟨fun _ => rfl, fun t i j v hi hj => by
  have : i = j := by omega
  rw [if_pos this]; rfl⟩
theorem Tr.law3 : Tr.Law Tr.get3 Tr.set3 512 := Tr.law0.step.step.step
structure Tm where
  n : Nat
  tr : Tr
  deriving DecidableEq, Inhabited
def Tm.get (t : Tm) (i : Nat) : Option AV := match Nat.blt i t.n with | true => Tr.get3 t.tr i | false => none
def Tm.set (t : Tm) (i : Nat) (v : AV) : Tm := match Nat.blt i t.n with | true => ⟨t.n, Tr.set3 t.tr i v⟩ | false => t
def Tm.fill : Nat → List AV → Tm → Tm
  | _, [], t => t
  | i, x :: r, t => Tm.fill (i + 1) r (t.set i x)
def Tm.make (n : Nat) (l : List AV) : Tm := Tm.fill 0 l ⟨n, .emp⟩
theorem Tm.get_lt {t : Tm} {i : Nat} {x : AV} (h : t.get i = some x) : i < t.n := by
  unfold Tm.get at h
  split at h
  · rename_i hb
    exact Nat.le_of_ble_eq_true hb
  · cases h
theorem Tm.set_n (t : Tm) (i : Nat) (v : AV) : (t.set i v).n = t.n := by unfold Tm.set; split <;> rfl
theorem Tm.get_set {t : Tm} (hn : t.n ≤ 512) (i j : Nat) (v : AV) : (t.set i v).get j = if i = j ∧ i < t.n then some v else t.get j := by
  by_cases hi : i < t.n
  · have hb : Nat.blt i t.n = true := Nat.ble_eq_true_of_le hi
    have e1 : t.set i v = ⟨t.n, Tr.set3 t.tr i v⟩ := by unfold Tm.set; rw [hb]
    rw [e1]
    by_cases hj : j < t.n
    · have hc : Nat.blt j t.n = true := Nat.ble_eq_true_of_le hj
      simp only [Tm.get, hc]
      rw [Tr.law3.put _ _ _ _ (by omega) (by omega)]
      simp [hi]
    · have hc : Nat.blt j t.n = false := by
        cases hq : Nat.blt j t.n with
        | false => rfl
        | true => exact absurd (Nat.le_of_ble_eq_true hq) hj
      simp only [Tm.get, hc]
      rw [if_neg (by omega)]
  · have hb : Nat.blt i t.n = false := by
      cases hq : Nat.blt i t.n with
      | false => rfl
      | true => exact absurd (Nat.le_of_ble_eq_true hq) hi
    have e1 : t.set i v = t := by unfold Tm.set; rw [hb]
    rw [e1, if_neg (fun h => hi h.2)]
theorem Tm.fill_n : ∀ (l : List AV) (i : Nat) (t : Tm), (Tm.fill i l t).n = t.n
  | [], _, _ => rfl
  | x :: r, i, t => by rw [Tm.fill, Tm.fill_n r, Tm.set_n]
theorem Tm.get_fill : ∀ (l : List AV) (i : Nat) (t : Tm), t.n ≤ 512 → ∀ (j : Nat) (x : AV), (Tm.fill i l t).get j = some x → (i ≤ j ∧ l[j - i]? = some x) ∨ t.get j = some x
  | [], _, _, _, _, _, h => .inr h
  | y :: r, i, t, hn, j, x, h => by
    rw [Tm.fill] at h
    rcases Tm.get_fill r (i + 1) (t.set i y) (by rw [Tm.set_n]; exact hn) j x h with ⟨h1, h2⟩ | h1
    · left
      refine ⟨by omega, ?_⟩
      rw [show j - i = (j - (i + 1)) + 1 by omega, List.getElem?_cons_succ]
      exact h2
    · rw [Tm.get_set hn] at h1
      split at h1
      · rename_i e
        left
        refine ⟨by omega, ?_⟩
        rw [show j - i = 0 by omega]
        simpa using h1
      · exact .inr h1
/-- A cell that names no block. -/
def SV.plain : SV → Bool
  | .ptr _ _ => false
  | .sl _ _ _ _ => false
  | .slg _ _ _ _ => false
  | .clo _ cs => cs.isEmpty
  | .ifp _ _ _ => false
  | .mtp _ _ _ _ => false
  | _ => true
/-- A block: is it barred from writing; does it surely name no block; its cells. Where cap is s, not 0: no block but a number, of how many rows of s cells the block ahead of it has room for. -/
structure Blk where
  ro : Bool
  pl : Bool
  cap : Nat
  cells : List SV
  deriving DecidableEq, Repr, Inhabited
def newBlk (l : List SV) : Blk := ⟨false, l.all SV.plain, 0, l⟩
/-- A block that is spoken of no more. -/
def dead : Blk := ⟨true, true, 0, []⟩
def capBlk (s : Nat) : Blk := ⟨true, true, s, []⟩
/-- The first names are those of the package-level variables. -/
def nGl : Nat := 0
def Gl (ms : List Nat) : Prop := ∀ g, g < nGl → ms[g]? = some g

/-- What is given: integers, values of one cell, functions of two integers. -/
structure Env where
  int : Nat → Int
  val : Nat → Value
  fn : Nat → Int → Int → Int

def bitsOf (op : BinOp) (k : IntKind) (x y : Int) : Int :=
  let a := BitVec.ofInt k.bits x
  let b := BitVec.ofInt k.bits y
  match op with
  | .and => k.wrap (a &&& b).toNat
  | .or => k.wrap (a ||| b).toNat
  | .xor => k.wrap (a ^^^ b).toNat
  | _ => k.wrap (a &&& ~~~b).toNat
def ariOf (op : BinOp) (k : IntKind) (x y : Int) : Int :=
  match op with
  | .add => k.wrap (x + y)
  | .sub => k.wrap (x - y)
  | .quo => k.wrap (x.tdiv y)
  | .rem => x.tmod y
  | _ => k.wrap (x * y)

def Ex.den (ρ : Env) : Ex → Int
  | .lit n => n
  | .var i => ρ.int i
  | .bit op k a b => bitsOf op k (a.den ρ) (b.den ρ)
  | .ari op k a b => ariOf op k (a.den ρ) (b.den ρ)
  | .shl k a n => k.wrap (a.den ρ * 2 ^ n)
  | .shr a n => (a.den ρ).fdiv (2 ^ n)
  | .con k a => k.wrap (a.den ρ)
  | .app f a b => ρ.fn f (a.den ρ) (b.den ρ)

/-- What is known besides: how two integers that hang on what is given compare; by which name an integer goes. -/
structure Lore where
  fact : BinOp → Ex → Ex → Option Bool
  nm : Ex → Ex
  factA : List SV → List SV → Option Bool
def addr (ms : List Nat) (p : Nat × Nat) : Option Value := (ms[p.1]?).map fun b => .pointer (some ⟨b, p.2, none⟩)

def seqO {α : Type} : List (Option α) → Option (List α)
  | [] => some []
  | none :: _ => none
  | some x :: r => (seqO r).map (x :: ·)
theorem seqO_iff {α : Type} : ∀ (l : List (Option α)) (vs : List α), seqO l = some vs ↔ l = vs.map some
  | [], vs => by cases vs <;> simp [seqO]
  | none :: r, vs => by cases vs <;> simp [seqO]
  | some x :: r, vs => by
    cases vs with
    | nil => simp [seqO]
    | cons y ys =>
      simp only [seqO, List.map_cons, List.cons.injEq, Option.some.injEq, Option.map_eq_some_iff]
      constructor
      · rintro ⟨zs, h1, h2, h3⟩
        exact ⟨h2, (seqO_iff r ys).1 (h3 ▸ h1)⟩
      · rintro ⟨rfl, h2⟩
        exact ⟨ys, (seqO_iff r ys).2 h2, rfl, rfl⟩

def bytesOf (l : List Nat) : ByteArray := ⟨(l.map UInt8.ofNat).toArray⟩
/-- A slice whose room is told by the name behind its block's. -/
def grown (ms : List Nat) (n o e len : Nat) : Option Value :=
  match ms[n]?, ms[n + 1]? with
  | some b, some c => if e + len ≤ c then some (.slice (some ⟨b, o, none⟩) len (c - e)) else none
  | _, _ => none
theorem grown_iff {ms : List Nat} {n o e len : Nat} {v : Value} : grown ms n o e len = some v ↔ ∃ b c, ms[n]? = some b ∧ ms[n + 1]? = some c ∧ e + len ≤ c ∧ v = .slice (some ⟨b, o, none⟩) len (c - e) := by
  unfold grown
  constructor
  · intro h
    split at h
    · rename_i b c h1 h2
      split at h
      · rename_i hc
        simp only [Option.some.injEq] at h
        exact ⟨b, c, h1, h2, hc, h.symm⟩
      · cases h
    · cases h
  · rintro ⟨b, c, h1, h2, h3, rfl⟩
    rw [h1, h2]
    simp [h3]
def SV.inst (ρ : Env) (ms : List Nat) : SV → Option Value
  | .int k e => some (.int k (e.den ρ))
  | .bool b => some (.bool b)
  | .nilp => some (.pointer none)
  | .nils l c => some (.slice none l c)
  | .nilf => some .nilFunc
  | .ptr n o => addr ms (n, o)
  | .sl n o l c => (ms[n]?).map fun b => .slice (some ⟨b, o, none⟩) l c
  | .slg n o e l => grown ms n o e l
  | .str l => some (.string (bytesOf l))
  | .clo f cs => (seqO (cs.map (addr ms))).map fun vs => .func (.func f) #[] vs.toArray
  | .opq i => if (ρ.val i).oneCell' then some (ρ.val i) else none
  | .nili => some .nilIface
  | .ifp t n o => (addr ms (n, o)).map fun v => .iface t v
  | .ife t => some (.iface t (.agg #[]))
  | .mtp nm t n o => (addr ms (n, o)).map fun v => .func (.method nm) #[.iface t v] #[]
  | .mte nm t => some (.func (.method nm) #[.iface t (.agg #[])] #[])
  | .sla a l c => some (.slice (some a) l c)
  | .nilm => some (.map none)

def TV.inst (ρ : Env) (ms : List Nat) : TV → Option Value
  | .sc s => s.inst ρ ms
  | .agg l => (seqO (l.map (SV.inst ρ ms))).map fun vs => .agg vs.toArray
def AV.inst (ρ : Env) (ms : List Nat) : AV → Option Value
  | .tv t => t.inst ρ ms
  | .tup l => (seqO (l.map (TV.inst ρ ms))).map fun vs => .tuple vs.toArray

theorem SV.inst_one {ρ : Env} {ms : List Nat} {s : SV} {v : Value} (h : s.inst ρ ms = some v) : v.oneCell' = true := by
  cases s <;> simp only [SV.inst, addr, Option.map_eq_some_iff, Option.some.injEq] at h
  case opq => split at h <;> simp_all
  case slg => obtain ⟨_, _, _, _, _, rfl⟩ := grown_iff.1 h; rfl
  all_goals first | (obtain ⟨_, _, rfl⟩ := h; rfl) | (subst h; rfl)

section
variable {ρ : Env} {ms ms' : List Nat}
theorem pre_get (hp : ms <+: ms') {n b : Nat} (h : ms[n]? = some b) : ms'[n]? = some b := by
  obtain ⟨r, rfl⟩ := hp
  rw [List.getElem?_append_left (List.getElem?_eq_some_iff.1 h).1]; exact h
theorem addr_mono (hp : ms <+: ms') {p : Nat × Nat} {v : Value} (h : addr ms p = some v) : addr ms' p = some v := by
  unfold addr at *
  rw [Option.map_eq_some_iff] at *
  obtain ⟨b, hb, rfl⟩ := h
  exact ⟨b, pre_get hp hb, rfl⟩
theorem map_mono {α β : Type} {f g : α → Option β} (hfg : ∀ x y, f x = some y → g x = some y) : ∀ (l : List α) (vs : List β), l.map f = vs.map some → l.map g = vs.map some
  | [], [], _ => rfl
  | [], _ :: _, h => by simp at h
  | _ :: _, [], h => by simp at h
  | x :: l, y :: ys, h => by
    simp only [List.map_cons, List.cons.injEq] at h ⊢
    exact ⟨hfg x y h.1, map_mono hfg l ys h.2⟩
theorem SV.inst_mono (hp : ms <+: ms') (s : SV) (v : Value) (h : s.inst ρ ms = some v) : s.inst ρ ms' = some v := by
  cases s <;> simp only [SV.inst] at h ⊢ <;> try exact h
  case ptr => exact addr_mono hp h
  case sl =>
    rw [Option.map_eq_some_iff] at *
    obtain ⟨b, hb, rfl⟩ := h
    exact ⟨b, pre_get hp hb, rfl⟩
  case slg =>
    obtain ⟨b, c, h1, h2, h3, rfl⟩ := grown_iff.1 h
    exact grown_iff.2 ⟨b, c, pre_get hp h1, pre_get hp h2, h3, rfl⟩
  case clo =>
    rw [Option.map_eq_some_iff] at *
    obtain ⟨vs, hb, rfl⟩ := h
    exact ⟨vs, (seqO_iff _ _).2 (map_mono (fun x y => addr_mono hp) _ _ ((seqO_iff _ _).1 hb)), rfl⟩
  case ifp =>
    rw [Option.map_eq_some_iff] at *
    obtain ⟨x, hx, rfl⟩ := h
    exact ⟨x, addr_mono hp hx, rfl⟩
  case mtp =>
    rw [Option.map_eq_some_iff] at *
    obtain ⟨x, hx, rfl⟩ := h
    exact ⟨x, addr_mono hp hx, rfl⟩
theorem TV.inst_mono (hp : ms <+: ms') (s : TV) (v : Value) (h : s.inst ρ ms = some v) : s.inst ρ ms' = some v := by
  cases s with
  | sc s => exact s.inst_mono hp v h
  | agg l =>
    simp only [TV.inst] at h ⊢
    rw [Option.map_eq_some_iff] at *
    obtain ⟨vs, hb, rfl⟩ := h
    exact ⟨vs, (seqO_iff _ _).2 (map_mono (SV.inst_mono hp) _ _ ((seqO_iff _ _).1 hb)), rfl⟩
theorem AV.inst_mono (hp : ms <+: ms') (s : AV) (v : Value) (h : s.inst ρ ms = some v) : s.inst ρ ms' = some v := by
  cases s with
  | tv s => exact s.inst_mono hp v h
  | tup l =>
    simp only [AV.inst] at h ⊢
    rw [Option.map_eq_some_iff] at *
    obtain ⟨vs, hb, rfl⟩ := h
    exact ⟨vs, (seqO_iff _ _).2 (map_mono (TV.inst_mono hp) _ _ ((seqO_iff _ _).1 hb)), rfl⟩
end

/-- The temporaries stand as told. -/
structure RelT (ρ : Env) (ms : List Nat) (t : Tm) (tmps : Array Value) : Prop where
  sz : t.n = tmps.size
  le : t.n ≤ 512
  val : ∀ (i : Nat) (x : AV), t.get i = some x → ∃ v, tmps[i]? = some v ∧ x.inst ρ ms = some v
  gl : Gl ms

/-- The world holds the blocks as told: ms tells where each lies; nothing below B is among those that are written. -/
structure Holds (ρ : Env) (ms : List Nat) (H : List Blk) (B : Nat) (w : World) : Prop where
  len : ms.length = H.length
  gl : Gl ms
  inj : ∀ (i j b : Nat) (k k' : Blk), ms[i]? = some b → ms[j]? = some b → H[i]? = some k → H[j]? = some k' → k.cells ≠ [] → k'.cells ≠ [] → i = j
  low : ∀ (i b : Nat) (k : Blk), ms[i]? = some b → H[i]? = some k → k.ro = false → B ≤ b
  bnd : ∀ (i b : Nat) (k : Blk), ms[i]? = some b → H[i]? = some k → k.cells ≠ [] → b < w.heap.size
  big : B ≤ w.heap.size
  plain : ∀ (i : Nat) (k : Blk), H[i]? = some k → k.pl = true → k.cells.all SV.plain = true
  cell : ∀ (i b : Nat) (k : Blk), ms[i]? = some b → H[i]? = some k → ∀ (j : Nat) (s : SV), k.cells[j]? = some s → ∃ v, s.inst ρ ms = some v ∧ w.cell? ⟨b, j, none⟩ = some v ∧ (k.ro = false → w.frozen? ⟨b, j, none⟩ = false)
  room : ∀ (i b c : Nat) (k0 k : Blk), ms[i]? = some b → ms[i + 1]? = some c → H[i]? = some k0 → k0.ro = false → k0.cells ≠ [] → H[i + 1]? = some k → 0 < k.cap → ∀ j, j < c * k.cap → (w.cell? ⟨b, j, none⟩).isSome = true ∧ w.frozen? ⟨b, j, none⟩ = false

theorem Gl.mono {ms ms' : List Nat} (h : Gl ms) (hp : ms <+: ms') : Gl ms' := fun g hg => pre_get hp (h g hg)
theorem RelT.mono {ρ : Env} {ms ms' : List Nat} {t : Tm} {a : Array Value} (h : RelT ρ ms t a) (hp : ms <+: ms') : RelT ρ ms' t a := ⟨h.sz, h.le, fun i x hx => by
  obtain ⟨v, h1, h2⟩ := h.val i x hx
  exact ⟨v, h1, x.inst_mono hp v h2⟩, h.gl.mono hp⟩
theorem RelT.get {ρ : Env} {ms : List Nat} {t : Tm} {a : Array Value} (h : RelT ρ ms t a) {i : Nat} {x : AV} (hx : t.get i = some x) : ∃ v, a[i]? = some v ∧ x.inst ρ ms = some v := h.val i x hx
theorem RelT.put {ρ : Env} {ms : List Nat} {t : Tm} {a : Act} (h : RelT ρ ms t a.tmps) (d : Nat) {x : AV} {v : Value} (hx : x.inst ρ ms = some v) : RelT ρ ms (t.set d x) (a.put (some d) v).tmps := by
  refine ⟨?_, by rw [Tm.set_n]; exact h.le, ?_, h.gl⟩
  · rw [Tm.set_n, h.sz]; simp [Act.put]
  · intro i y hy
    rw [Tm.get_set h.le] at hy
    simp only [Act.put]
    rw [Array.getElem?_setIfInBounds]
    split at hy
    · rename_i e
      cases hy
      rw [if_pos e.1, if_pos (by rw [← h.sz]; omega)]
      exact ⟨v, rfl, hx⟩
    · rename_i e
      have hlt := Tm.get_lt hy
      rw [if_neg (fun e2 => e ⟨e2, by omega⟩)]
      exact h.val i y hy
theorem RelT.make {ρ : Env} {ms : List Nat} {xs : List AV} {args : Array Value} {n : Nat} (h : xs.map (AV.inst ρ ms) = args.toList.map some) (hn : n ≤ 512) (hx : xs.length ≤ n) (hg : Gl ms) : RelT ρ ms (Tm.make n xs) (args ++ Array.replicate (n - args.size) undef) := by
  have hl : xs.length = args.size := by have := congrArg List.length h; simpa using this
  refine ⟨by rw [Tm.make, Tm.fill_n]; simp; omega, by rw [Tm.make, Tm.fill_n]; exact hn, ?_, hg⟩
  intro i x hi
  rcases Tm.get_fill xs 0 ⟨n, .emp⟩ hn i x hi with ⟨_, h1⟩ | h1
  · rw [Nat.sub_zero] at h1
    have hlt := (List.getElem?_eq_some_iff.1 h1).1
    have e1 : (xs.map (AV.inst ρ ms))[i]? = (args.toList.map some)[i]? := by rw [h]
    rw [List.getElem?_map, h1, List.getElem?_map] at e1
    simp only [Option.map_some, Array.getElem?_toList] at e1
    cases hv : args[i]? with
    | none => rw [hv] at e1; simp at e1
    | some v =>
      rw [hv] at e1
      simp only [Option.map_some, Option.some.injEq] at e1
      refine ⟨v, ?_, e1⟩
      rw [Array.getElem?_append, if_pos (by omega)]
      exact hv
  · unfold Tm.get at h1
    split at h1
    · rw [Tr.law3.emp] at h1; cases h1
    · cases h1
theorem mem_nil_of_get {k : Blk} {j : Nat} {s : SV} (h : k.cells[j]? = some s) : k.cells ≠ [] := fun e => by rw [e] at h; simp at h

/-- One name more, of a block that no name has: what is told of it are cells that it has, and none of these is barred. -/
theorem Holds.pushAt {ρ : Env} {ms : List Nat} {H : List Blk} {B : Nat} {w w' : World} (h : Holds ρ ms H B w) {l : List SV} {vs : List Value} (hl : l.map (SV.inst ρ ms) = vs.map some) {b0 : Nat} (hsz : w.heap.size ≤ w'.heap.size) (hB0 : B ≤ b0) (hb0 : b0 < w'.heap.size)
    (hfar : ∀ (i b : Nat) (k : Blk), ms[i]? = some b → H[i]? = some k → k.cells ≠ [] → b ≠ b0)
    (hold : ∀ b j, b ≠ b0 → b < w.heap.size → w'.cell? ⟨b, j, none⟩ = w.cell? ⟨b, j, none⟩ ∧ w'.frozen? ⟨b, j, none⟩ = w.frozen? ⟨b, j, none⟩)
    (hsome : ∀ b j, b < w.heap.size → (w.cell? ⟨b, j, none⟩).isSome = true → w.frozen? ⟨b, j, none⟩ = false → (w'.cell? ⟨b, j, none⟩).isSome = true ∧ w'.frozen? ⟨b, j, none⟩ = false)
    (hnew : ∀ j v, vs[j]? = some v → w'.cell? ⟨b0, j, none⟩ = some v ∧ w'.frozen? ⟨b0, j, none⟩ = false) :
    Holds ρ (ms ++ [b0]) (H ++ [newBlk l]) B w' := by
  have hlast : ∀ (i b : Nat), ¬ i < ms.length → (ms ++ [b0])[i]? = some b → i = ms.length ∧ b = b0 := fun i b hi hb => by
    rw [List.getElem?_append, if_neg hi] at hb
    have e1 := (List.getElem?_eq_some_iff.1 hb).1
    have e2 := List.mem_of_getElem? hb
    simp at e1 e2
    exact ⟨by omega, e2⟩
  have hlastk : ∀ (i : Nat) (k : Blk), ¬ i < H.length → (H ++ [newBlk l])[i]? = some k → i = H.length ∧ k = newBlk l := fun i k hi hk => by
    rw [List.getElem?_append, if_neg hi] at hk
    have e1 := (List.getElem?_eq_some_iff.1 hk).1
    have e2 := List.mem_of_getElem? hk
    simp at e1 e2
    exact ⟨by omega, e2⟩
  have hin : ∀ (i : Nat), i < ms.length → (ms ++ [b0])[i]? = ms[i]? := fun i hi => by rw [List.getElem?_append, if_pos hi]
  have hink : ∀ (i : Nat), i < H.length → (H ++ [newBlk l])[i]? = H[i]? := fun i hi => by rw [List.getElem?_append, if_pos hi]
  have hle := h.len
  refine ⟨by simp [h.len], h.gl.mono (List.prefix_append _ _), ?_, ?_, ?_, ?_, ?_, ?_, ?_⟩
  · intro i j b k k' hi hj hk hk' hne hne'
    by_cases h1 : i < ms.length <;> by_cases h2 : j < ms.length
    · rw [hin i h1] at hi; rw [hin j h2] at hj; rw [hink i (by omega)] at hk; rw [hink j (by omega)] at hk'
      exact h.inj i j b k k' hi hj hk hk' hne hne'
    · rw [hin i h1] at hi; rw [hink i (by omega)] at hk
      exact absurd (hlast j b h2 hj).2 (hfar i b k hi hk hne)
    · rw [hin j h2] at hj; rw [hink j (by omega)] at hk'
      exact absurd (hlast i b h1 hi).2 (hfar j b k' hj hk' hne')
    · have := (hlast i b h1 hi).1
      have := (hlast j b h2 hj).1
      omega
  · intro i b k hi hk hr
    by_cases h1 : i < ms.length
    · rw [hin i h1] at hi; rw [hink i (by omega)] at hk; exact h.low i b k hi hk hr
    · rw [(hlast i b h1 hi).2]; exact hB0
  · intro i b k hi hk hne
    by_cases h1 : i < ms.length
    · rw [hin i h1] at hi; rw [hink i (by omega)] at hk
      have := h.bnd i b k hi hk hne; omega
    · have := (hlast i b h1 hi).2; omega
  · have := h.big; omega
  · intro i k hk hp
    by_cases h1 : i < H.length
    · rw [hink i h1] at hk; exact h.plain i k hk hp
    · obtain ⟨_, rfl⟩ := hlastk i k h1 hk
      exact hp
  · intro i b k hi hk j s hs
    by_cases h1 : i < ms.length
    · rw [hin i h1] at hi; rw [hink i (by omega)] at hk
      obtain ⟨v, h2, h3, h4⟩ := h.cell i b k hi hk j s hs
      obtain ⟨e1, e2⟩ := hold b j (hfar i b k hi hk (mem_nil_of_get hs)) (h.bnd i b k hi hk (mem_nil_of_get hs))
      exact ⟨v, s.inst_mono (List.prefix_append _ _) v h2, by rw [e1]; exact h3, fun hr => by rw [e2]; exact h4 hr⟩
    · obtain ⟨_, rfl⟩ := hlast i b h1 hi
      obtain ⟨_, rfl⟩ := hlastk i k (by omega) hk
      have e1 : (l.map (SV.inst ρ ms))[j]? = (vs.map some)[j]? := by rw [hl]
      simp only [List.getElem?_map] at e1
      simp only [newBlk] at hs
      rw [hs] at e1
      cases hv : vs[j]? with
      | none => rw [hv] at e1; simp at e1
      | some v =>
        rw [hv] at e1
        simp only [Option.map_some, Option.some.injEq] at e1
        obtain ⟨h5, h6⟩ := hnew j v hv
        exact ⟨v, s.inst_mono (List.prefix_append _ _) v e1, h5, fun _ => h6⟩
  · intro i b c k0 k hi hc hk0 hr0 hn0 hk hcap j hj
    by_cases h1 : i + 1 < ms.length
    · rw [hin i (by omega)] at hi; rw [hin _ h1] at hc; rw [hink _ (by omega)] at hk hk0
      obtain ⟨e1, e2⟩ := h.room i b c k0 k hi hc hk0 hr0 hn0 hk hcap j hj
      have hlt : b < w.heap.size := by
        cases hx : w.cell? ⟨b, j, none⟩ with
        | none => rw [hx] at e1; simp at e1
        | some x => exact World.block_lt_of_cell? w _ hx
      exact hsome b j hlt e1 e2
    · obtain ⟨_, rfl⟩ := hlastk (i + 1) k (by omega) hk
      simp [newBlk] at hcap
/-- A new block. -/
theorem Holds.push {ρ : Env} {ms : List Nat} {H : List Blk} {B : Nat} {w w' : World} (h : Holds ρ ms H B w) {l : List SV} {vs : List Value} (hl : l.map (SV.inst ρ ms) = vs.map some)
    (hsz : w'.heap.size = w.heap.size + 1) (hold : ∀ b j, b < w.heap.size → w'.cell? ⟨b, j, none⟩ = w.cell? ⟨b, j, none⟩ ∧ w'.frozen? ⟨b, j, none⟩ = w.frozen? ⟨b, j, none⟩)
    (hnew : ∀ j v, vs[j]? = some v → w'.cell? ⟨w.heap.size, j, none⟩ = some v ∧ w'.frozen? ⟨w.heap.size, j, none⟩ = false) :
    Holds ρ (ms ++ [w.heap.size]) (H ++ [newBlk l]) B w' := by
  refine h.pushAt hl (by omega) h.big (by omega) (fun i b k hi hk hne e => ?_) (fun b j _ hb => hold b j hb) (fun b j hb h1 h2 => ?_) hnew
  · have := h.bnd i b k hi hk hne; omega
  · obtain ⟨e1, e2⟩ := hold b j hb
    rw [e1, e2]; exact ⟨h1, h2⟩
theorem Holds.alloc {ρ : Env} {ms : List Nat} {H : List Blk} {B : Nat} {w : World} (h : Holds ρ ms H B w) {l : List SV} {vs : List Value} (hl : l.map (SV.inst ρ ms) = vs.map some) (T : TypeId) :
    Holds ρ (ms ++ [w.heap.size]) (H ++ [newBlk l]) B (w.alloc (.cells vs.toArray T)) := by
  refine h.push hl (by rw [World.size_alloc]) (fun b j hb => ⟨World.cell?_alloc_lt _ _ _ hb, World.frozen?_alloc_past _ _ _ hb⟩) (fun j v hv => ⟨?_, ?_⟩)
  · rw [cell_of_row _ _ _ _ _ _ (heap_alloc_new w _)]
    simpa using hv
  · unfold World.frozen?
    rw [heap_alloc_new]
    simp
/-- The number of rows that the last block has room for. -/
theorem Holds.pushCap {ρ : Env} {ms : List Nat} {H : List Blk} {B : Nat} {w : World} (h : Holds ρ ms H B w) {b c s : Nat} (hb : ms[ms.length - 1]? = some b)
    (hr : ∀ j, j < c * s → (w.cell? ⟨b, j, none⟩).isSome = true ∧ w.frozen? ⟨b, j, none⟩ = false) : Holds ρ (ms ++ [c]) (H ++ [capBlk s]) B w := by
  have hlastk : ∀ (i : Nat) (k : Blk), ¬ i < H.length → (H ++ [capBlk s])[i]? = some k → i = H.length ∧ k = capBlk s := fun i k hi hk => by
    rw [List.getElem?_append, if_neg hi] at hk
    have e1 := (List.getElem?_eq_some_iff.1 hk).1
    have e2 := List.mem_of_getElem? hk
    simp at e1 e2
    exact ⟨by omega, e2⟩
  have hin : ∀ (i : Nat), i < ms.length → (ms ++ [c])[i]? = ms[i]? := fun i hi => by rw [List.getElem?_append, if_pos hi]
  have hink : ∀ (i : Nat), i < H.length → (H ++ [capBlk s])[i]? = H[i]? := fun i hi => by rw [List.getElem?_append, if_pos hi]
  have hle := h.len
  have hdead : (capBlk s).cells = [] := rfl
  refine ⟨by simp [h.len], h.gl.mono (List.prefix_append _ _), ?_, ?_, ?_, h.big, ?_, ?_, ?_⟩
  · intro i j b k k' hi hj hk hk' hne hne'
    by_cases h1 : i < H.length
    · by_cases h2 : j < H.length
      · rw [hin i (by omega)] at hi; rw [hin j (by omega)] at hj; rw [hink i h1] at hk; rw [hink j h2] at hk'
        exact h.inj i j b k k' hi hj hk hk' hne hne'
      · obtain ⟨_, rfl⟩ := hlastk j k' h2 hk'; exact absurd hdead hne'
    · obtain ⟨_, rfl⟩ := hlastk i k h1 hk; exact absurd hdead hne
  · intro i b k hi hk hr
    by_cases h1 : i < H.length
    · rw [hin i (by omega)] at hi; rw [hink i h1] at hk; exact h.low i b k hi hk hr
    · obtain ⟨_, rfl⟩ := hlastk i k h1 hk; simp [capBlk] at hr
  · intro i b k hi hk hne
    by_cases h1 : i < H.length
    · rw [hin i (by omega)] at hi; rw [hink i h1] at hk; exact h.bnd i b k hi hk hne
    · obtain ⟨_, rfl⟩ := hlastk i k h1 hk; exact absurd hdead hne
  · intro i k hk hp
    by_cases h1 : i < H.length
    · rw [hink i h1] at hk; exact h.plain i k hk hp
    · obtain ⟨_, rfl⟩ := hlastk i k h1 hk; rfl
  · intro i b k hi hk j s' hs
    by_cases h1 : i < H.length
    · rw [hin i (by omega)] at hi; rw [hink i h1] at hk
      obtain ⟨v, h2, h3, h4⟩ := h.cell i b k hi hk j s' hs
      exact ⟨v, s'.inst_mono (List.prefix_append _ _) v h2, h3, h4⟩
    · obtain ⟨_, rfl⟩ := hlastk i k h1 hk; rw [hdead] at hs; simp at hs
  · intro i b' c' k0 k hi hc hk0 hr0 hn0 hk hcap j hj
    by_cases h1 : i + 1 < H.length
    · rw [hin i (by omega)] at hi; rw [hin _ (by omega)] at hc; rw [hink _ h1] at hk; rw [hink _ (by omega)] at hk0
      exact h.room i b' c' k0 k hi hc hk0 hr0 hn0 hk hcap j hj
    · obtain ⟨e1, rfl⟩ := hlastk (i + 1) k h1 hk
      have e2 : i = ms.length - 1 := by omega
      rw [hin i (by omega), e2, hb] at hi
      rw [show i + 1 = ms.length by omega, List.getElem?_append, if_neg (by omega)] at hc
      simp at hi hc
      subst hi hc
      exact hr j hj
/-- A block is spoken of no more. -/
theorem Holds.kill {ρ : Env} {ms : List Nat} {H : List Blk} {B : Nat} {w : World} (h : Holds ρ ms H B w) (m : Nat) : Holds ρ ms (H.set m dead) B w := by
  have key : ∀ (i : Nat) (k : Blk), (H.set m dead)[i]? = some k → k = dead ∨ H[i]? = some k := fun i k hk => by
    rw [List.getElem?_set] at hk
    split at hk
    · split at hk
      · exact .inl (by simpa using hk.symm)
      · cases hk
    · exact .inr hk
  refine ⟨by rw [List.length_set]; exact h.len, h.gl, ?_, ?_, ?_, h.big, ?_, ?_, ?_⟩
  · intro i j b k k' hi hj hk hk' hne hne'
    rcases key i k hk with rfl | hk
    · exact absurd rfl hne
    rcases key j k' hk' with rfl | hk'
    · exact absurd rfl hne'
    exact h.inj i j b k k' hi hj hk hk' hne hne'
  · intro i b k hi hk hr
    rcases key i k hk with rfl | hk
    · simp [dead] at hr
    exact h.low i b k hi hk hr
  · intro i b k hi hk hne
    rcases key i k hk with rfl | hk
    · exact absurd rfl hne
    exact h.bnd i b k hi hk hne
  · intro i k hk hp
    rcases key i k hk with rfl | hk
    · rfl
    exact h.plain i k hk hp
  · intro i b k hi hk j s hs
    rcases key i k hk with rfl | hk
    · simp [dead] at hs
    exact h.cell i b k hi hk j s hs
  · intro i b c k0 k hi hc hk0 hr0 hn0 hk hcap j hj
    rcases key _ k hk with rfl | hk
    · simp [dead] at hcap
    rcases key _ k0 hk0 with rfl | hk0
    · simp [dead] at hr0
    exact h.room i b c k0 k hi hc hk0 hr0 hn0 hk hcap j hj
theorem World.cell?_freeze (w : World) (a x : Addr) (n : Nat) : (w.freeze a n).cell? x = w.cell? x := by
  unfold World.freeze
  split
  · rfl
  · unfold World.cell?
    simp only [Array.getElem?_modify]
    by_cases e : a.block = x.block
    · rw [if_pos e]
      cases hx : w.heap[x.block]? with
      | none => rfl
      | some o => cases o <;> rfl
    · rw [if_neg e]
theorem World.frozen?_freeze_far (w : World) (a x : Addr) (n : Nat) (h : x.block ≠ a.block) : (w.freeze a n).frozen? x = w.frozen? x := by
  unfold World.freeze
  split
  · rfl
  · unfold World.frozen?
    simp only [Array.getElem?_modify]
    rw [if_neg (fun e => h e.symm)]
theorem World.size_freeze (w : World) (a : Addr) (n : Nat) : (w.freeze a n).heap.size = w.heap.size := by
  unfold World.freeze
  split <;> simp
open Go.RowKit in
theorem below_freeze {B : Nat} {w : World} {a : Addr} (n : Nat) (ha : B ≤ a.block) : Bel B w (w.freeze a n) := by
  unfold World.freeze
  split
  · exact Bel.refl _ _
  · refine ⟨⟨rfl, rfl, rfl, by simp, fun k hk => ?_⟩, fun i o hi hc => ?_⟩
    · simp only [Array.getElem?_modify]
      rw [if_neg (by omega)]
    · simp only [Array.getElem?_modify, hi]
      split
      · cases o <;> simp_all [Obj.isCells]
      · rfl
/-- A block is read alone from here on. -/
theorem Holds.mark {ρ : Env} {ms : List Nat} {H : List Blk} {B : Nat} {w : World} (h : Holds ρ ms H B w) {m b : Nat} {k : Blk} (hb : ms[m]? = some b) (hk : H[m]? = some k) (hne : k.cells ≠ []) (a : Addr) (ha : a.block = b) (n : Nat) :
    Holds ρ ms (H.set m ⟨true, k.pl, 0, k.cells⟩) B (w.freeze a n) := by
  have key : ∀ (i : Nat) (k' : Blk), (H.set m ⟨true, k.pl, 0, k.cells⟩)[i]? = some k' → (i = m ∧ k' = ⟨true, k.pl, 0, k.cells⟩) ∨ (i ≠ m ∧ H[i]? = some k') := fun i k' hk' => by
    rw [List.getElem?_set] at hk'
    split at hk'
    · rename_i e
      split at hk'
      · exact .inl ⟨e.symm, by simpa using hk'.symm⟩
      · cases hk'
    · rename_i e
      exact .inr ⟨fun e2 => e e2.symm, hk'⟩
  have old : ∀ (i : Nat) (k' : Blk), (H.set m ⟨true, k.pl, 0, k.cells⟩)[i]? = some k' → k'.cells ≠ [] → ∃ k2, H[i]? = some k2 ∧ k2.cells ≠ [] := fun i k' hk' hn => by
    rcases key i k' hk' with ⟨rfl, rfl⟩ | ⟨_, h2⟩
    · exact ⟨k, hk, hne⟩
    · exact ⟨k', h2, hn⟩
  refine ⟨by rw [List.length_set]; exact h.len, h.gl, ?_, ?_, ?_, by rw [World.size_freeze]; exact h.big, ?_, ?_, ?_⟩
  · intro i j b' k1 k2 hi hj hk1 hk2 hn1 hn2
    obtain ⟨k3, h3, h4⟩ := old i k1 hk1 hn1
    obtain ⟨k5, h5, h6⟩ := old j k2 hk2 hn2
    exact h.inj i j b' k3 k5 hi hj h3 h5 h4 h6
  · intro i b' k' hi hk' hr
    rcases key i k' hk' with ⟨rfl, rfl⟩ | ⟨_, h2⟩
    · simp at hr
    · exact h.low i b' k' hi h2 hr
  · intro i b' k' hi hk' hn
    obtain ⟨k3, h3, h4⟩ := old i k' hk' hn
    rw [World.size_freeze]; exact h.bnd i b' k3 hi h3 h4
  · intro i k' hk' hp
    rcases key i k' hk' with ⟨rfl, rfl⟩ | ⟨_, h2⟩
    · exact h.plain i k hk hp
    · exact h.plain i k' h2 hp
  · intro i b' k' hi hk' j s hs
    rcases key i k' hk' with ⟨rfl, rfl⟩ | ⟨e, h2⟩
    · obtain ⟨v, q1, q2, _⟩ := h.cell i b' k hi hk j s hs
      exact ⟨v, q1, by rw [World.cell?_freeze]; exact q2, fun hr => by simp at hr⟩
    · obtain ⟨v, q1, q2, q3⟩ := h.cell i b' k' hi h2 j s hs
      have hbb : b' ≠ b := fun e2 => by subst e2; exact e (h.inj i m b' k' k hi hb h2 hk (mem_nil_of_get hs) hne)
      exact ⟨v, q1, by rw [World.cell?_freeze]; exact q2, fun hr => by rw [World.frozen?_freeze_far _ _ _ _ (by rw [ha]; exact hbb)]; exact q3 hr⟩
  · intro i b' c k0 k' hi hc hk0 hr0 hn0 hk' hcap j hj
    rcases key i k0 hk0 with ⟨rfl, rfl⟩ | ⟨e, h2⟩
    · simp at hr0
    · rcases key _ k' hk' with ⟨_, rfl⟩ | ⟨_, h3⟩
      · simp at hcap
      · obtain ⟨q1, q2⟩ := h.room i b' c k0 k' hi hc h2 hr0 hn0 h3 hcap j hj
        have hbb : b' ≠ b := fun e2 => by subst e2; exact e (h.inj i m b' k0 k hi hb h2 hk hn0 hne)
        exact ⟨by rw [World.cell?_freeze]; exact q1, by rw [World.frozen?_freeze_far _ _ _ _ (by rw [ha]; exact hbb)]; exact q2⟩
end Go.Proofs.Ytafdklelfcccbaa.Ev
