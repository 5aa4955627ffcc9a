/- Of the road to tagCallsUptoCard_holds: Ev, EvOps, EvPure. -/
import Derived.WalkKit
import Derived.Deep.MidRow
import Derived.OrdersHeld
import Derived.Below
import Derived.RangeFuncOwn
import Derived.Laws.Entries
set_option linter.unusedVariables false
set_option linter.unusedSimpArgs false
set_option maxRecDepth 100000
set_option maxHeartbeats 16000000
namespace Go.Proofs.YtcpchhigiohlnaaDoor.Ev
open Go
open Go.RowKit in
structure Bel (B : Nat) (w w' : World) : Prop extends Below B w w' where
 kept : ∀ (i : Nat) (o : Obj), w.heap[i]? = some o -> o.isCells = false -> w'.heap[i]? = some o
section
open Go.RowKit
theorem Bel.refl (B : Nat) (w : World) : Bel B w w := ⟨Below.refl B w, fun _ _ h _ => h⟩
theorem Bel.trans {B : Nat} {a b c : World} (h : Bel B a b) (k : Bel B b c) : Bel B a c := ⟨h.toBelow.trans k.toBelow, fun i o hi hc => k.kept i o (h.kept i o hi hc) hc⟩
theorem Bel.mono {B B' : Nat} {w w' : World} (h : Bel B w w') (hB : B' <= B) : Bel B' w w' := ⟨h.toBelow.mono hB, h.kept⟩
theorem Bel.drew {B : Nat} {a w : World} (h : Bel B a w) : Bel B a w.drew := ⟨h.toBelow.drew, h.kept⟩
theorem Bel.drawn (B : Nat) (w : World) (n : Nat) : Bel B w { w with drawn := n } := ⟨⟨rfl, rfl, rfl, Nat.le_refl _, fun _ _ => rfl⟩, fun _ _ h _ => h⟩
theorem Bel.alloc {B : Nat} {a w : World} (h : Bel B a w) (hB : B <= w.heap.size) (o : Obj) : Bel B a (w.alloc o) :=
 ⟨h.toBelow.alloc hB o, fun i o' hi hc => by rw [Below.heap_alloc _ _ _ (Array.getElem?_eq_some_iff.1 (h.kept i o' hi hc)).1]; exact h.kept i o' hi hc⟩
theorem Bel.setCell {B : Nat} {a w : World} (h : Bel B a w) {p : Addr} (hp : B <= p.block) (u : Value) : Bel B a (w.setCell p u) :=
 ⟨h.toBelow.setCell hp u, fun i o hi hc => by
  have h1 := h.kept i o hi hc
  simp only [World.setCell, Array.getElem?_modify, h1]
  split
  ·cases o <;> simp_all [Obj.isCells]
  ·rfl⟩
theorem Bel.all {w w' : World} (h : Below w.heap.size w w') : Bel w.heap.size w w' :=
 ⟨h, fun i _ hi _ => (h.block i (Array.getElem?_eq_some_iff.1 hi).1).trans hi⟩
end
inductive Ex where
 | lit (n : Int)
 | var (i : Nat)
 | bit (op : BinOp) (k : IntKind) (a b : Ex)
 | ari (op : BinOp) (k : IntKind) (a b : Ex)
 | shl (k : IntKind) (a : Ex) (n : Nat)
 | shr (a : Ex) (n : Nat)
 | con (k : IntKind) (a : Ex)
 | app (f : Nat) (a b : Ex)
 deriving DecidableEq, Repr, Inhabited
inductive SV where
 | int (k : IntKind) (e : Ex)
 | bool (b : Bool)
 | nilp
 | nils (len cap : Nat)
 | nilf
 | ptr (n o : Nat)
 | sl (n o len cap : Nat)
 | slg (n o e len : Nat)
 | str (l : List Nat)
 | clo (f : Nat) (caps : List (Nat × Nat))
 | opq (i : Nat)
 | nili
 | ifp (t n o : Nat)
 | ife (t : Nat)
 | mtp (nm : String) (t n o : Nat)
 | mte (nm : String) (t : Nat)
 | sla (a : Addr) (len cap : Nat)
 | nilm
 deriving DecidableEq, Repr, Inhabited
inductive TV where
 | sc (s : SV)
 | agg (l : List SV)
 deriving DecidableEq, Repr, Inhabited
inductive AV where
 | tv (t : TV)
 | tup (l : List TV)
 deriving DecidableEq, Repr, Inhabited
inductive Tr where
 | emp
 | one (v : AV)
 | br (a b c d e f h k : Tr)
 deriving DecidableEq, Inhabited
def sel8 (a b c d e f h k : Tr) (n : Nat) : Tr := Nat.casesOn (motive := fun _ => Tr) n a (fun n => Nat.casesOn (motive := fun _ => Tr) n b (fun n => Nat.casesOn (motive := fun _ => Tr) n c (fun n => Nat.casesOn (motive := fun _ => Tr) n d (fun n => Nat.casesOn (motive := fun _ => Tr) n e (fun n => Nat.casesOn (motive := fun _ => Tr) n f (fun n => Nat.casesOn (motive := fun _ => Tr) n h (fun _ => k)))))))
def put8 (s : Tr -> Tr) (a b c d e f h k : Tr) (n : Nat) : Tr := Nat.casesOn (motive := fun _ => Tr) n (.br (s a) b c d e f h k) (fun n => Nat.casesOn (motive := fun _ => Tr) n (.br a (s b) c d e f h k) (fun n => Nat.casesOn (motive := fun _ => Tr) n (.br a b (s c) d e f h k) (fun n => Nat.casesOn (motive := fun _ => Tr) n (.br a b c (s d) e f h k) (fun n => Nat.casesOn (motive := fun _ => Tr) n (.br a b c d (s e) f h k) (fun n => Nat.casesOn (motive := fun _ => Tr) n (.br a b c d e (s f) h k) (fun n => Nat.casesOn (motive := fun _ => Tr) n (.br a b c d e f (s h) k) (fun _ => .br a b c d e f h (s k))))))))
def Tr.kid (t : Tr) (n : Nat) : Tr := Tr.casesOn (motive := fun _ => Tr) t .emp (fun _ => .emp) (fun a b c d e f h k => sel8 a b c d e f h k n)
def Tr.getS (g : Tr -> Nat -> Option AV) (t : Tr) (i : Nat) : Option AV := g (t.kid (Nat.mod i 8)) (Nat.div i 8)
def Tr.setS (s : Tr -> Nat -> AV -> Tr) (t : Tr) (i : Nat) (v : AV) : Tr := Tr.casesOn (motive := fun _ => Tr) t (put8 (fun t => s t (Nat.div i 8) v) .emp .emp .emp .emp .emp .emp .emp .emp (Nat.mod i 8)) (fun _ => put8 (fun t => s t (Nat.div i 8) v) .emp .emp .emp .emp .emp .emp .emp .emp (Nat.mod i 8)) (fun a b c d e f h k => put8 (fun t => s t (Nat.div i 8) v) a b c d e f h k (Nat.mod i 8))
def Tr.get0 : Tr -> Nat -> Option AV := fun t _ => Tr.casesOn (motive := fun _ => Option AV) t none (fun v => some v) (fun _ _ _ _ _ _ _ _ => none)
def Tr.set0 : Tr -> Nat -> AV -> Tr := fun _ _ v => .one v
def Tr.get1 : Tr -> Nat -> Option AV := Tr.getS Tr.get0
def Tr.get2 : Tr -> Nat -> Option AV := Tr.getS Tr.get1
def Tr.get3 : Tr -> Nat -> Option AV := Tr.getS Tr.get2
def Tr.set1 : Tr -> Nat -> AV -> Tr := Tr.setS Tr.set0
def Tr.set2 : Tr -> Nat -> AV -> Tr := Tr.setS Tr.set1
def Tr.set3 : Tr -> Nat -> AV -> Tr := Tr.setS Tr.set2
theorem kid_put8 (s : Tr -> Tr) (a b c d e f h k : Tr) (n m : Nat) (hn : n < 8) (hm : m < 8) : (put8 s a b c d e f h k n).kid m = if n = m then s (sel8 a b c d e f h k m) else sel8 a b c d e f h k m := by
 have h1 : n = 0 \/ n = 1 \/ n = 2 \/ n = 3 \/ n = 4 \/ n = 5 \/ n = 6 \/ n = 7 := by omega
 have h2 : m = 0 \/ m = 1 \/ m = 2 \/ m = 3 \/ m = 4 \/ m = 5 \/ m = 6 \/ m = 7 := by omega
 rcases h1 with rfl | rfl | rfl | rfl | rfl | rfl | rfl | rfl <;> rcases h2 with rfl | rfl | rfl | rfl | rfl | rfl | rfl | rfl <;> rfl
theorem sel8_emp (m : Nat) (hm : m < 8) : sel8 .emp .emp .emp .emp .emp .emp .emp .emp m = .emp := by
 have h2 : m = 0 \/ m = 1 \/ m = 2 \/ m = 3 \/ m = 4 \/ m = 5 \/ m = 6 \/ m = 7 := by omega
 rcases h2 with rfl | rfl | rfl | rfl | rfl | rfl | rfl | rfl <;> rfl
theorem kid_setS (s : Tr -> Nat -> AV -> Tr) (t : Tr) (i : Nat) (v : AV) (m : Nat) (hm : m < 8) : (Tr.setS s t i v).kid m = if i % 8 = m then s (t.kid m) (i / 8) v else t.kid m := by
 have hi : i % 8 < 8 := Nat.mod_lt _ (by decide)
 cases t with
 | emp => exact (kid_put8 (fun t => s t (i / 8) v) .emp .emp .emp .emp .emp .emp .emp .emp (i % 8) m hi hm).trans (by rw [sel8_emp m hm]; rfl)
 | one _ => exact (kid_put8 (fun t => s t (i / 8) v) .emp .emp .emp .emp .emp .emp .emp .emp (i % 8) m hi hm).trans (by rw [sel8_emp m hm]; rfl)
 | br a b c d e f h k => exact kid_put8 (fun t => s t (i / 8) v) a b c d e f h k (i % 8) m hi hm
structure Tr.Law (g : Tr -> Nat -> Option AV) (s : Tr -> Nat -> AV -> Tr) (m : Nat) : Prop where
 emp : ∀ i, g .emp i = none
 put : ∀ t i j v, i < m -> j < m -> g (s t i v) j = if i = j then some v else g t j
theorem Tr.Law.step {g : Tr -> Nat -> Option AV} {s : Tr -> Nat -> AV -> Tr} {m : Nat} (h : Tr.Law g s m) : Tr.Law (Tr.getS g) (Tr.setS s) (m * 8) := by
 refine ⟨fun i => h.emp _, fun t i j v hi hj => ?_⟩
 show g ((Tr.setS s t i v).kid (j % 8)) (j / 8) = if i = j then some v else g (t.kid (j % 8)) (j / 8)
 rw [kid_setS s t i v (j % 8) (Nat.mod_lt _ (by decide))]
 by_cases e : i % 8 = j % 8
 ·rw [if_pos e, h.put _ _ _ _ (by omega) (by omega)]
  have e2 : (i / 8 = j / 8) = (i = j) := by apply propext; omega
  simp only [e2]
 ·rw [if_neg e, if_neg (fun q => e (by rw [q]))]
theorem Tr.law0 : Tr.Law Tr.get0 Tr.set0 1 := ⟨fun _ => rfl, fun t i j v hi hj => by
 have : i = j := by omega
 rw [if_pos this]; rfl⟩
theorem Tr.law3 : Tr.Law Tr.get3 Tr.set3 512 := Tr.law0.step.step.step
structure Tm where
 n : Nat
 tr : Tr
 deriving DecidableEq, Inhabited
def Tm.get (t : Tm) (i : Nat) : Option AV := match Nat.blt i t.n with | true => Tr.get3 t.tr i | false => none
def Tm.set (t : Tm) (i : Nat) (v : AV) : Tm := match Nat.blt i t.n with | true => ⟨t.n, Tr.set3 t.tr i v⟩ | false => t
def Tm.fill : Nat -> List AV -> Tm -> Tm
 | _, [], t => t
 | i, x :: r, t => Tm.fill (i + 1) r (t.set i x)
def Tm.make (n : Nat) (l : List AV) : Tm := Tm.fill 0 l ⟨n, .emp⟩
theorem Tm.get_lt {t : Tm} {i : Nat} {x : AV} (h : t.get i = some x) : i < t.n := by
 unfold Tm.get at h
 split at h
 ·rename_i hb
  exact Nat.le_of_ble_eq_true hb
 ·cases h
theorem Tm.set_n (t : Tm) (i : Nat) (v : AV) : (t.set i v).n = t.n := by unfold Tm.set; split <;> rfl
theorem Tm.get_set {t : Tm} (hn : t.n <= 512) (i j : Nat) (v : AV) : (t.set i v).get j = if i = j /\ i < t.n then some v else t.get j := by
 by_cases hi : i < t.n
 ·have hb : Nat.blt i t.n = true := Nat.ble_eq_true_of_le hi
  have e1 : t.set i v = ⟨t.n, Tr.set3 t.tr i v⟩ := by unfold Tm.set; rw [hb]
  rw [e1]
  by_cases hj : j < t.n
  ·have hc : Nat.blt j t.n = true := Nat.ble_eq_true_of_le hj
   simp only [Tm.get, hc]
   rw [Tr.law3.put _ _ _ _ (by omega) (by omega)]
   simp [hi]
  ·have hc : Nat.blt j t.n = false := by
    cases hq : Nat.blt j t.n with
    | false => rfl
    | true => exact absurd (Nat.le_of_ble_eq_true hq) hj
   simp only [Tm.get, hc]
   rw [if_neg (by omega)]
 ·have hb : Nat.blt i t.n = false := by
   cases hq : Nat.blt i t.n with
   | false => rfl
   | true => exact absurd (Nat.le_of_ble_eq_true hq) hi
  have e1 : t.set i v = t := by unfold Tm.set; rw [hb]
  rw [e1, if_neg (fun h => hi h.2)]
theorem Tm.fill_n : ∀ (l : List AV) (i : Nat) (t : Tm), (Tm.fill i l t).n = t.n
 | [], _, _ => rfl
 | x :: r, i, t => by rw [Tm.fill, Tm.fill_n r, Tm.set_n]
theorem Tm.get_fill : ∀ (l : List AV) (i : Nat) (t : Tm), t.n <= 512 -> ∀ (j : Nat) (x : AV), (Tm.fill i l t).get j = some x -> (i <= j /\ l[j - i]? = some x) \/ t.get j = some x
 | [], _, _, _, _, _, h => .inr h
 | y :: r, i, t, hn, j, x, h => by
  rw [Tm.fill] at h
  rcases Tm.get_fill r (i + 1) (t.set i y) (by rw [Tm.set_n]; exact hn) j x h with ⟨h1, h2⟩ | h1
  ·left
   refine ⟨by omega, ?_⟩
   rw [show j - i = (j - (i + 1)) + 1 by omega, List.getElem?_cons_succ]
   exact h2
  ·rw [Tm.get_set hn] at h1
   split at h1
   ·rename_i e
    left
    refine ⟨by omega, ?_⟩
    rw [show j - i = 0 by omega]
    simpa using h1
   ·exact .inr h1
def SV.plain : SV -> Bool
 | .ptr _ _ => false
 | .sl _ _ _ _ => false
 | .slg _ _ _ _ => false
 | .clo _ cs => cs.isEmpty
 | .ifp _ _ _ => false
 | .mtp _ _ _ _ => false
 | _ => true
structure Blk where
 ro : Bool
 pl : Bool
 cap : Nat
 cells : List SV
 deriving DecidableEq, Repr, Inhabited
def newBlk (l : List SV) : Blk := ⟨false, l.all SV.plain, 0, l⟩
def dead : Blk := ⟨true, true, 0, []⟩
def capBlk (s : Nat) : Blk := ⟨true, true, s, []⟩
def nGl : Nat := 2
def Gl (ms : List Nat) : Prop := ∀ g, g < nGl -> ms[g]? = some g
structure Env where
 int : Nat -> Int
 val : Nat -> Value
 fn : Nat -> Int -> Int -> Int
def bitsOf (op : BinOp) (k : IntKind) (x y : Int) : Int :=
 let a := BitVec.ofInt k.bits x
 let b := BitVec.ofInt k.bits y
 match op with
 | .and => k.wrap (a &&& b).toNat
 | .or => k.wrap (a ||| b).toNat
 | .xor => k.wrap (a ^^^ b).toNat
 | _ => k.wrap (a &&& ~~~b).toNat
def ariOf (op : BinOp) (k : IntKind) (x y : Int) : Int :=
 match op with
 | .add => k.wrap (x + y)
 | .sub => k.wrap (x - y)
 | .quo => k.wrap (x.tdiv y)
 | .rem => x.tmod y
 | _ => k.wrap (x * y)
def Ex.den (ρ : Env) : Ex -> Int
 | .lit n => n
 | .var i => ρ.int i
 | .bit op k a b => bitsOf op k (a.den ρ) (b.den ρ)
 | .ari op k a b => ariOf op k (a.den ρ) (b.den ρ)
 | .shl k a n => k.wrap (a.den ρ * 2 ^ n)
 | .shr a n => (a.den ρ).fdiv (2 ^ n)
 | .con k a => k.wrap (a.den ρ)
 | .app f a b => ρ.fn f (a.den ρ) (b.den ρ)
structure Lore where
 fact : BinOp -> Ex -> Ex -> Option Bool
 nm : Ex -> Ex
 factA : List SV -> List SV -> Option Bool
def addr (ms : List Nat) (p : Nat × Nat) : Option Value := (ms[p.1]?).map fun b => .pointer (some ⟨b, p.2, none⟩)
def seqO {α : Type} : List (Option α) -> Option (List α)
 | [] => some []
 | none :: _ => none
 | some x :: r => (seqO r).map (x :: ·)
theorem seqO_iff {α : Type} : ∀ (l : List (Option α)) (vs : List α), seqO l = some vs ↔ l = vs.map some
 | [], vs => by cases vs <;> simp [seqO]
 | none :: r, vs => by cases vs <;> simp [seqO]
 | some x :: r, vs => by
  cases vs with
  | nil => simp [seqO]
  | cons y ys =>
   simp only [seqO, List.map_cons, List.cons.injEq, Option.some.injEq, Option.map_eq_some_iff]
   constructor
   ·rintro ⟨zs, h1, h2, h3⟩
    exact ⟨h2, (seqO_iff r ys).1 (h3 ▸ h1)⟩
   ·rintro ⟨rfl, h2⟩
    exact ⟨ys, (seqO_iff r ys).2 h2, rfl, rfl⟩
def bytesOf (l : List Nat) : ByteArray := ⟨(l.map UInt8.ofNat).toArray⟩
def grown (ms : List Nat) (n o e len : Nat) : Option Value :=
 match ms[n]?, ms[n + 1]? with
 | some b, some c => if e + len <= c then some (.slice (some ⟨b, o, none⟩) len (c - e)) else none
 | _, _ => none
theorem grown_iff {ms : List Nat} {n o e len : Nat} {v : Value} : grown ms n o e len = some v ↔ ∃ b c, ms[n]? = some b /\ ms[n + 1]? = some c /\ e + len <= c /\ v = .slice (some ⟨b, o, none⟩) len (c - e) := by
 unfold grown
 constructor
 ·intro h
  split at h
  ·rename_i b c h1 h2
   split at h
   ·rename_i hc
    simp only [Option.some.injEq] at h
    exact ⟨b, c, h1, h2, hc, h.symm⟩
   ·cases h
  ·cases h
 ·rintro ⟨b, c, h1, h2, h3, rfl⟩
  rw [h1, h2]
  simp [h3]
def SV.inst (ρ : Env) (ms : List Nat) : SV -> Option Value
 | .int k e => some (.int k (e.den ρ))
 | .bool b => some (.bool b)
 | .nilp => some (.pointer none)
 | .nils l c => some (.slice none l c)
 | .nilf => some .nilFunc
 | .ptr n o => addr ms (n, o)
 | .sl n o l c => (ms[n]?).map fun b => .slice (some ⟨b, o, none⟩) l c
 | .slg n o e l => grown ms n o e l
 | .str l => some (.string (bytesOf l))
 | .clo f cs => (seqO (cs.map (addr ms))).map fun vs => .func (.func f) #[] vs.toArray
 | .opq i => if (ρ.val i).oneCell' then some (ρ.val i) else none
 | .nili => some .nilIface
 | .ifp t n o => (addr ms (n, o)).map fun v => .iface t v
 | .ife t => some (.iface t (.agg #[]))
 | .mtp nm t n o => (addr ms (n, o)).map fun v => .func (.method nm) #[.iface t v] #[]
 | .mte nm t => some (.func (.method nm) #[.iface t (.agg #[])] #[])
 | .sla a l c => some (.slice (some a) l c)
 | .nilm => some (.map none)
def TV.inst (ρ : Env) (ms : List Nat) : TV -> Option Value
 | .sc s => s.inst ρ ms
 | .agg l => (seqO (l.map (SV.inst ρ ms))).map fun vs => .agg vs.toArray
def AV.inst (ρ : Env) (ms : List Nat) : AV -> Option Value
 | .tv t => t.inst ρ ms
 | .tup l => (seqO (l.map (TV.inst ρ ms))).map fun vs => .tuple vs.toArray
theorem SV.inst_one {ρ : Env} {ms : List Nat} {s : SV} {v : Value} (h : s.inst ρ ms = some v) : v.oneCell' = true := by
 cases s <;> simp only [SV.inst, addr, Option.map_eq_some_iff, Option.some.injEq] at h
 case opq => split at h <;> simp_all
 case slg => obtain ⟨_, _, _, _, _, rfl⟩ := grown_iff.1 h; rfl
 all_goals first | (obtain ⟨_, _, rfl⟩ := h; rfl) | (subst h; rfl)
section
variable {ρ : Env} {ms ms' : List Nat}
theorem pre_get (hp : ms <+: ms') {n b : Nat} (h : ms[n]? = some b) : ms'[n]? = some b := by
 obtain ⟨r, rfl⟩ := hp
 rw [List.getElem?_append_left (List.getElem?_eq_some_iff.1 h).1]; exact h
theorem addr_mono (hp : ms <+: ms') {p : Nat × Nat} {v : Value} (h : addr ms p = some v) : addr ms' p = some v := by
 unfold addr at *
 rw [Option.map_eq_some_iff] at *
 obtain ⟨b, hb, rfl⟩ := h
 exact ⟨b, pre_get hp hb, rfl⟩
theorem map_mono {α β : Type} {f g : α -> Option β} (hfg : ∀ x y, f x = some y -> g x = some y) : ∀ (l : List α) (vs : List β), l.map f = vs.map some -> l.map g = vs.map some
 | [], [], _ => rfl
 | [], _ :: _, h => by simp at h
 | _ :: _, [], h => by simp at h
 | x :: l, y :: ys, h => by
  simp only [List.map_cons, List.cons.injEq] at h ⊢
  exact ⟨hfg x y h.1, map_mono hfg l ys h.2⟩
theorem SV.inst_mono (hp : ms <+: ms') (s : SV) (v : Value) (h : s.inst ρ ms = some v) : s.inst ρ ms' = some v := by
 cases s <;> simp only [SV.inst] at h ⊢ <;> try exact h
 case ptr => exact addr_mono hp h
 case sl =>
  rw [Option.map_eq_some_iff] at *
  obtain ⟨b, hb, rfl⟩ := h
  exact ⟨b, pre_get hp hb, rfl⟩
 case slg =>
  obtain ⟨b, c, h1, h2, h3, rfl⟩ := grown_iff.1 h
  exact grown_iff.2 ⟨b, c, pre_get hp h1, pre_get hp h2, h3, rfl⟩
 case clo =>
  rw [Option.map_eq_some_iff] at *
  obtain ⟨vs, hb, rfl⟩ := h
  exact ⟨vs, (seqO_iff _ _).2 (map_mono (fun x y => addr_mono hp) _ _ ((seqO_iff _ _).1 hb)), rfl⟩
 case ifp =>
  rw [Option.map_eq_some_iff] at *
  obtain ⟨x, hx, rfl⟩ := h
  exact ⟨x, addr_mono hp hx, rfl⟩
 case mtp =>
  rw [Option.map_eq_some_iff] at *
  obtain ⟨x, hx, rfl⟩ := h
  exact ⟨x, addr_mono hp hx, rfl⟩
theorem TV.inst_mono (hp : ms <+: ms') (s : TV) (v : Value) (h : s.inst ρ ms = some v) : s.inst ρ ms' = some v := by
 cases s with
 | sc s => exact s.inst_mono hp v h
 | agg l =>
  simp only [TV.inst] at h ⊢
  rw [Option.map_eq_some_iff] at *
  obtain ⟨vs, hb, rfl⟩ := h
  exact ⟨vs, (seqO_iff _ _).2 (map_mono (SV.inst_mono hp) _ _ ((seqO_iff _ _).1 hb)), rfl⟩
theorem AV.inst_mono (hp : ms <+: ms') (s : AV) (v : Value) (h : s.inst ρ ms = some v) : s.inst ρ ms' = some v := by
 cases s with
 | tv s => exact s.inst_mono hp v h
 | tup l =>
  simp only [AV.inst] at h ⊢
  rw [Option.map_eq_some_iff] at *
  obtain ⟨vs, hb, rfl⟩ := h
  exact ⟨vs, (seqO_iff _ _).2 (map_mono (TV.inst_mono hp) _ _ ((seqO_iff _ _).1 hb)), rfl⟩
end
structure RelT (ρ : Env) (ms : List Nat) (t : Tm) (tmps : Array Value) : Prop where
 sz : t.n = tmps.size
 le : t.n <= 512
 val : ∀ (i : Nat) (x : AV), t.get i = some x -> ∃ v, tmps[i]? = some v /\ x.inst ρ ms = some v
 gl : Gl ms
structure Holds (ρ : Env) (ms : List Nat) (H : List Blk) (B : Nat) (w : World) : Prop where
 len : ms.length = H.length
 gl : Gl ms
 inj : ∀ (i j b : Nat) (k k' : Blk), ms[i]? = some b -> ms[j]? = some b -> H[i]? = some k -> H[j]? = some k' -> k.cells ≠ [] -> k'.cells ≠ [] -> i = j
 low : ∀ (i b : Nat) (k : Blk), ms[i]? = some b -> H[i]? = some k -> k.ro = false -> B <= b
 bnd : ∀ (i b : Nat) (k : Blk), ms[i]? = some b -> H[i]? = some k -> k.cells ≠ [] -> b < w.heap.size
 big : B <= w.heap.size
 plain : ∀ (i : Nat) (k : Blk), H[i]? = some k -> k.pl = true -> k.cells.all SV.plain = true
 cell : ∀ (i b : Nat) (k : Blk), ms[i]? = some b -> H[i]? = some k -> ∀ (j : Nat) (s : SV), k.cells[j]? = some s -> ∃ v, s.inst ρ ms = some v /\ w.cell? ⟨b, j, none⟩ = some v /\ (k.ro = false -> w.frozen? ⟨b, j, none⟩ = false)
 room : ∀ (i b c : Nat) (k0 k : Blk), ms[i]? = some b -> ms[i + 1]? = some c -> H[i]? = some k0 -> k0.ro = false -> k0.cells ≠ [] -> H[i + 1]? = some k -> 0 < k.cap -> ∀ j, j < c * k.cap -> (w.cell? ⟨b, j, none⟩).isSome = true /\ w.frozen? ⟨b, j, none⟩ = false
theorem Gl.mono {ms ms' : List Nat} (h : Gl ms) (hp : ms <+: ms') : Gl ms' := fun g hg => pre_get hp (h g hg)
theorem RelT.mono {ρ : Env} {ms ms' : List Nat} {t : Tm} {a : Array Value} (h : RelT ρ ms t a) (hp : ms <+: ms') : RelT ρ ms' t a := ⟨h.sz, h.le, fun i x hx => by
 obtain ⟨v, h1, h2⟩ := h.val i x hx
 exact ⟨v, h1, x.inst_mono hp v h2⟩, h.gl.mono hp⟩
theorem RelT.get {ρ : Env} {ms : List Nat} {t : Tm} {a : Array Value} (h : RelT ρ ms t a) {i : Nat} {x : AV} (hx : t.get i = some x) : ∃ v, a[i]? = some v /\ x.inst ρ ms = some v := h.val i x hx
theorem RelT.put {ρ : Env} {ms : List Nat} {t : Tm} {a : Act} (h : RelT ρ ms t a.tmps) (d : Nat) {x : AV} {v : Value} (hx : x.inst ρ ms = some v) : RelT ρ ms (t.set d x) (a.put (some d) v).tmps := by
 refine ⟨?_, by rw [Tm.set_n]; exact h.le, ?_, h.gl⟩
 ·rw [Tm.set_n, h.sz]; simp [Act.put]
 ·intro i y hy
  rw [Tm.get_set h.le] at hy
  simp only [Act.put]
  rw [Array.getElem?_setIfInBounds]
  split at hy
  ·rename_i e
   cases hy
   rw [if_pos e.1, if_pos (by rw [<- h.sz]; omega)]
   exact ⟨v, rfl, hx⟩
  ·rename_i e
   have hlt := Tm.get_lt hy
   rw [if_neg (fun e2 => e ⟨e2, by omega⟩)]
   exact h.val i y hy
theorem RelT.make {ρ : Env} {ms : List Nat} {xs : List AV} {args : Array Value} {n : Nat} (h : xs.map (AV.inst ρ ms) = args.toList.map some) (hn : n <= 512) (hx : xs.length <= n) (hg : Gl ms) : RelT ρ ms (Tm.make n xs) (args ++ Array.replicate (n - args.size) undef) := by
 have hl : xs.length = args.size := by have := congrArg List.length h; simpa using this
 refine ⟨by rw [Tm.make, Tm.fill_n]; simp; omega, by rw [Tm.make, Tm.fill_n]; exact hn, ?_, hg⟩
 intro i x hi
 rcases Tm.get_fill xs 0 ⟨n, .emp⟩ hn i x hi with ⟨_, h1⟩ | h1
 ·rw [Nat.sub_zero] at h1
  have hlt := (List.getElem?_eq_some_iff.1 h1).1
  have e1 : (xs.map (AV.inst ρ ms))[i]? = (args.toList.map some)[i]? := by rw [h]
  rw [List.getElem?_map, h1, List.getElem?_map] at e1
  simp only [Option.map_some, Array.getElem?_toList] at e1
  cases hv : args[i]? with
  | none => rw [hv] at e1; simp at e1
  | some v =>
   rw [hv] at e1
   simp only [Option.map_some, Option.some.injEq] at e1
   refine ⟨v, ?_, e1⟩
   rw [Array.getElem?_append, if_pos (by omega)]
   exact hv
 ·unfold Tm.get at h1
  split at h1
  ·rw [Tr.law3.emp] at h1; cases h1
  ·cases h1
theorem mem_nil_of_get {k : Blk} {j : Nat} {s : SV} (h : k.cells[j]? = some s) : k.cells ≠ [] := fun e => by rw [e] at h; simp at h
theorem Holds.pushAt {ρ : Env} {ms : List Nat} {H : List Blk} {B : Nat} {w w' : World} (h : Holds ρ ms H B w) {l : List SV} {vs : List Value} (hl : l.map (SV.inst ρ ms) = vs.map some) {b0 : Nat} (hsz : w.heap.size <= w'.heap.size) (hB0 : B <= b0) (hb0 : b0 < w'.heap.size)
  (hfar : ∀ (i b : Nat) (k : Blk), ms[i]? = some b -> H[i]? = some k -> k.cells ≠ [] -> b ≠ b0)
  (hold : ∀ b j, b ≠ b0 -> b < w.heap.size -> w'.cell? ⟨b, j, none⟩ = w.cell? ⟨b, j, none⟩ /\ w'.frozen? ⟨b, j, none⟩ = w.frozen? ⟨b, j, none⟩)
  (hsome : ∀ b j, b < w.heap.size -> (w.cell? ⟨b, j, none⟩).isSome = true -> w.frozen? ⟨b, j, none⟩ = false -> (w'.cell? ⟨b, j, none⟩).isSome = true /\ w'.frozen? ⟨b, j, none⟩ = false)
  (hnew : ∀ j v, vs[j]? = some v -> w'.cell? ⟨b0, j, none⟩ = some v /\ w'.frozen? ⟨b0, j, none⟩ = false) :
  Holds ρ (ms ++ [b0]) (H ++ [newBlk l]) B w' := by
 have hlast : ∀ (i b : Nat), ¬ i < ms.length -> (ms ++ [b0])[i]? = some b -> i = ms.length /\ b = b0 := fun i b hi hb => by
  rw [List.getElem?_append, if_neg hi] at hb
  have e1 := (List.getElem?_eq_some_iff.1 hb).1
  have e2 := List.mem_of_getElem? hb
  simp at e1 e2
  exact ⟨by omega, e2⟩
 have hlastk : ∀ (i : Nat) (k : Blk), ¬ i < H.length -> (H ++ [newBlk l])[i]? = some k -> i = H.length /\ k = newBlk l := fun i k hi hk => by
  rw [List.getElem?_append, if_neg hi] at hk
  have e1 := (List.getElem?_eq_some_iff.1 hk).1
  have e2 := List.mem_of_getElem? hk
  simp at e1 e2
  exact ⟨by omega, e2⟩
 have hin : ∀ (i : Nat), i < ms.length -> (ms ++ [b0])[i]? = ms[i]? := fun i hi => by rw [List.getElem?_append, if_pos hi]
 have hink : ∀ (i : Nat), i < H.length -> (H ++ [newBlk l])[i]? = H[i]? := fun i hi => by rw [List.getElem?_append, if_pos hi]
 have hle := h.len
 refine ⟨by simp [h.len], h.gl.mono (List.prefix_append _ _), ?_, ?_, ?_, ?_, ?_, ?_, ?_⟩
 ·intro i j b k k' hi hj hk hk' hne hne'
  by_cases h1 : i < ms.length <;> by_cases h2 : j < ms.length
  ·rw [hin i h1] at hi; rw [hin j h2] at hj; rw [hink i (by omega)] at hk; rw [hink j (by omega)] at hk'
   exact h.inj i j b k k' hi hj hk hk' hne hne'
  ·rw [hin i h1] at hi; rw [hink i (by omega)] at hk
   exact absurd (hlast j b h2 hj).2 (hfar i b k hi hk hne)
  ·rw [hin j h2] at hj; rw [hink j (by omega)] at hk'
   exact absurd (hlast i b h1 hi).2 (hfar j b k' hj hk' hne')
  ·have := (hlast i b h1 hi).1
   have := (hlast j b h2 hj).1
   omega
 ·intro i b k hi hk hr
  by_cases h1 : i < ms.length
  ·rw [hin i h1] at hi; rw [hink i (by omega)] at hk; exact h.low i b k hi hk hr
  ·rw [(hlast i b h1 hi).2]; exact hB0
 ·intro i b k hi hk hne
  by_cases h1 : i < ms.length
  ·rw [hin i h1] at hi; rw [hink i (by omega)] at hk
   have := h.bnd i b k hi hk hne; omega
  ·have := (hlast i b h1 hi).2; omega
 ·have := h.big; omega
 ·intro i k hk hp
  by_cases h1 : i < H.length
  ·rw [hink i h1] at hk; exact h.plain i k hk hp
  ·obtain ⟨_, rfl⟩ := hlastk i k h1 hk
   exact hp
 ·intro i b k hi hk j s hs
  by_cases h1 : i < ms.length
  ·rw [hin i h1] at hi; rw [hink i (by omega)] at hk
   obtain ⟨v, h2, h3, h4⟩ := h.cell i b k hi hk j s hs
   obtain ⟨e1, e2⟩ := hold b j (hfar i b k hi hk (mem_nil_of_get hs)) (h.bnd i b k hi hk (mem_nil_of_get hs))
   exact ⟨v, s.inst_mono (List.prefix_append _ _) v h2, by rw [e1]; exact h3, fun hr => by rw [e2]; exact h4 hr⟩
  ·obtain ⟨_, rfl⟩ := hlast i b h1 hi
   obtain ⟨_, rfl⟩ := hlastk i k (by omega) hk
   have e1 : (l.map (SV.inst ρ ms))[j]? = (vs.map some)[j]? := by rw [hl]
   simp only [List.getElem?_map] at e1
   simp only [newBlk] at hs
   rw [hs] at e1
   cases hv : vs[j]? with
   | none => rw [hv] at e1; simp at e1
   | some v =>
    rw [hv] at e1
    simp only [Option.map_some, Option.some.injEq] at e1
    obtain ⟨h5, h6⟩ := hnew j v hv
    exact ⟨v, s.inst_mono (List.prefix_append _ _) v e1, h5, fun _ => h6⟩
 ·intro i b c k0 k hi hc hk0 hr0 hn0 hk hcap j hj
  by_cases h1 : i + 1 < ms.length
  ·rw [hin i (by omega)] at hi; rw [hin _ h1] at hc; rw [hink _ (by omega)] at hk hk0
   obtain ⟨e1, e2⟩ := h.room i b c k0 k hi hc hk0 hr0 hn0 hk hcap j hj
   have hlt : b < w.heap.size := by
    cases hx : w.cell? ⟨b, j, none⟩ with
    | none => rw [hx] at e1; simp at e1
    | some x => exact World.block_lt_of_cell? w _ hx
   exact hsome b j hlt e1 e2
  ·obtain ⟨_, rfl⟩ := hlastk (i + 1) k (by omega) hk
   simp [newBlk] at hcap
theorem Holds.push {ρ : Env} {ms : List Nat} {H : List Blk} {B : Nat} {w w' : World} (h : Holds ρ ms H B w) {l : List SV} {vs : List Value} (hl : l.map (SV.inst ρ ms) = vs.map some)
  (hsz : w'.heap.size = w.heap.size + 1) (hold : ∀ b j, b < w.heap.size -> w'.cell? ⟨b, j, none⟩ = w.cell? ⟨b, j, none⟩ /\ w'.frozen? ⟨b, j, none⟩ = w.frozen? ⟨b, j, none⟩)
  (hnew : ∀ j v, vs[j]? = some v -> w'.cell? ⟨w.heap.size, j, none⟩ = some v /\ w'.frozen? ⟨w.heap.size, j, none⟩ = false) :
  Holds ρ (ms ++ [w.heap.size]) (H ++ [newBlk l]) B w' := by
 refine h.pushAt hl (by omega) h.big (by omega) (fun i b k hi hk hne e => ?_) (fun b j _ hb => hold b j hb) (fun b j hb h1 h2 => ?_) hnew
 ·have := h.bnd i b k hi hk hne; omega
 ·obtain ⟨e1, e2⟩ := hold b j hb
  rw [e1, e2]; exact ⟨h1, h2⟩
theorem Holds.alloc {ρ : Env} {ms : List Nat} {H : List Blk} {B : Nat} {w : World} (h : Holds ρ ms H B w) {l : List SV} {vs : List Value} (hl : l.map (SV.inst ρ ms) = vs.map some) (T : TypeId) :
  Holds ρ (ms ++ [w.heap.size]) (H ++ [newBlk l]) B (w.alloc (.cells vs.toArray T)) := by
 refine h.push hl (by rw [World.size_alloc]) (fun b j hb => ⟨World.cell?_alloc_lt _ _ _ hb, World.frozen?_alloc_past _ _ _ hb⟩) (fun j v hv => ⟨?_, ?_⟩)
 ·rw [cell_of_row _ _ _ _ _ _ (heap_alloc_new w _)]
  simpa using hv
 ·unfold World.frozen?
  rw [heap_alloc_new]
  simp
theorem Holds.pushCap {ρ : Env} {ms : List Nat} {H : List Blk} {B : Nat} {w : World} (h : Holds ρ ms H B w) {b c s : Nat} (hb : ms[ms.length - 1]? = some b)
  (hr : ∀ j, j < c * s -> (w.cell? ⟨b, j, none⟩).isSome = true /\ w.frozen? ⟨b, j, none⟩ = false) : Holds ρ (ms ++ [c]) (H ++ [capBlk s]) B w := by
 have hlastk : ∀ (i : Nat) (k : Blk), ¬ i < H.length -> (H ++ [capBlk s])[i]? = some k -> i = H.length /\ k = capBlk s := fun i k hi hk => by
  rw [List.getElem?_append, if_neg hi] at hk
  have e1 := (List.getElem?_eq_some_iff.1 hk).1
  have e2 := List.mem_of_getElem? hk
  simp at e1 e2
  exact ⟨by omega, e2⟩
 have hin : ∀ (i : Nat), i < ms.length -> (ms ++ [c])[i]? = ms[i]? := fun i hi => by rw [List.getElem?_append, if_pos hi]
 have hink : ∀ (i : Nat), i < H.length -> (H ++ [capBlk s])[i]? = H[i]? := fun i hi => by rw [List.getElem?_append, if_pos hi]
 have hle := h.len
 have hdead : (capBlk s).cells = [] := rfl
 refine ⟨by simp [h.len], h.gl.mono (List.prefix_append _ _), ?_, ?_, ?_, h.big, ?_, ?_, ?_⟩
 ·intro i j b k k' hi hj hk hk' hne hne'
  by_cases h1 : i < H.length
  ·by_cases h2 : j < H.length
   ·rw [hin i (by omega)] at hi; rw [hin j (by omega)] at hj; rw [hink i h1] at hk; rw [hink j h2] at hk'
    exact h.inj i j b k k' hi hj hk hk' hne hne'
   ·obtain ⟨_, rfl⟩ := hlastk j k' h2 hk'; exact absurd hdead hne'
  ·obtain ⟨_, rfl⟩ := hlastk i k h1 hk; exact absurd hdead hne
 ·intro i b k hi hk hr
  by_cases h1 : i < H.length
  ·rw [hin i (by omega)] at hi; rw [hink i h1] at hk; exact h.low i b k hi hk hr
  ·obtain ⟨_, rfl⟩ := hlastk i k h1 hk; simp [capBlk] at hr
 ·intro i b k hi hk hne
  by_cases h1 : i < H.length
  ·rw [hin i (by omega)] at hi; rw [hink i h1] at hk; exact h.bnd i b k hi hk hne
  ·obtain ⟨_, rfl⟩ := hlastk i k h1 hk; exact absurd hdead hne
 ·intro i k hk hp
  by_cases h1 : i < H.length
  ·rw [hink i h1] at hk; exact h.plain i k hk hp
  ·obtain ⟨_, rfl⟩ := hlastk i k h1 hk; rfl
 ·intro i b k hi hk j s' hs
  by_cases h1 : i < H.length
  ·rw [hin i (by omega)] at hi; rw [hink i h1] at hk
   obtain ⟨v, h2, h3, h4⟩ := h.cell i b k hi hk j s' hs
   exact ⟨v, s'.inst_mono (List.prefix_append _ _) v h2, h3, h4⟩
  ·obtain ⟨_, rfl⟩ := hlastk i k h1 hk; rw [hdead] at hs; simp at hs
 ·intro i b' c' k0 k hi hc hk0 hr0 hn0 hk hcap j hj
  by_cases h1 : i + 1 < H.length
  ·rw [hin i (by omega)] at hi; rw [hin _ (by omega)] at hc; rw [hink _ h1] at hk; rw [hink _ (by omega)] at hk0
   exact h.room i b' c' k0 k hi hc hk0 hr0 hn0 hk hcap j hj
  ·obtain ⟨e1, rfl⟩ := hlastk (i + 1) k h1 hk
   have e2 : i = ms.length - 1 := by omega
   rw [hin i (by omega), e2, hb] at hi
   rw [show i + 1 = ms.length by omega, List.getElem?_append, if_neg (by omega)] at hc
   simp at hi hc
   subst hi hc
   exact hr j hj
theorem Holds.kill {ρ : Env} {ms : List Nat} {H : List Blk} {B : Nat} {w : World} (h : Holds ρ ms H B w) (m : Nat) : Holds ρ ms (H.set m dead) B w := by
 have key : ∀ (i : Nat) (k : Blk), (H.set m dead)[i]? = some k -> k = dead \/ H[i]? = some k := fun i k hk => by
  rw [List.getElem?_set] at hk
  split at hk
  ·split at hk
   ·exact .inl (by simpa using hk.symm)
   ·cases hk
  ·exact .inr hk
 refine ⟨by rw [List.length_set]; exact h.len, h.gl, ?_, ?_, ?_, h.big, ?_, ?_, ?_⟩
 ·intro i j b k k' hi hj hk hk' hne hne'
  rcases key i k hk with rfl | hk
  ·exact absurd rfl hne
  rcases key j k' hk' with rfl | hk'
  ·exact absurd rfl hne'
  exact h.inj i j b k k' hi hj hk hk' hne hne'
 ·intro i b k hi hk hr
  rcases key i k hk with rfl | hk
  ·simp [dead] at hr
  exact h.low i b k hi hk hr
 ·intro i b k hi hk hne
  rcases key i k hk with rfl | hk
  ·exact absurd rfl hne
  exact h.bnd i b k hi hk hne
 ·intro i k hk hp
  rcases key i k hk with rfl | hk
  ·rfl
  exact h.plain i k hk hp
 ·intro i b k hi hk j s hs
  rcases key i k hk with rfl | hk
  ·simp [dead] at hs
  exact h.cell i b k hi hk j s hs
 ·intro i b c k0 k hi hc hk0 hr0 hn0 hk hcap j hj
  rcases key _ k hk with rfl | hk
  ·simp [dead] at hcap
  rcases key _ k0 hk0 with rfl | hk0
  ·simp [dead] at hr0
  exact h.room i b c k0 k hi hc hk0 hr0 hn0 hk hcap j hj
theorem World.cell?_freeze (w : World) (a x : Addr) (n : Nat) : (w.freeze a n).cell? x = w.cell? x := by
 unfold World.freeze
 split
 ·rfl
 ·unfold World.cell?
  simp only [Array.getElem?_modify]
  by_cases e : a.block = x.block
  ·rw [if_pos e]
   cases hx : w.heap[x.block]? with
   | none => rfl
   | some o => cases o <;> rfl
  ·rw [if_neg e]
theorem World.frozen?_freeze_far (w : World) (a x : Addr) (n : Nat) (h : x.block ≠ a.block) : (w.freeze a n).frozen? x = w.frozen? x := by
 unfold World.freeze
 split
 ·rfl
 ·unfold World.frozen?
  simp only [Array.getElem?_modify]
  rw [if_neg (fun e => h e.symm)]
theorem World.size_freeze (w : World) (a : Addr) (n : Nat) : (w.freeze a n).heap.size = w.heap.size := by
 unfold World.freeze
 split <;> simp
open Go.RowKit in
theorem below_freeze {B : Nat} {w : World} {a : Addr} (n : Nat) (ha : B <= a.block) : Bel B w (w.freeze a n) := by
 unfold World.freeze
 split
 ·exact Bel.refl _ _
 ·refine ⟨⟨rfl, rfl, rfl, by simp, fun k hk => ?_⟩, fun i o hi hc => ?_⟩
  ·simp only [Array.getElem?_modify]
   rw [if_neg (by omega)]
  ·simp only [Array.getElem?_modify, hi]
   split
   ·cases o <;> simp_all [Obj.isCells]
   ·rfl
theorem Holds.mark {ρ : Env} {ms : List Nat} {H : List Blk} {B : Nat} {w : World} (h : Holds ρ ms H B w) {m b : Nat} {k : Blk} (hb : ms[m]? = some b) (hk : H[m]? = some k) (hne : k.cells ≠ []) (a : Addr) (ha : a.block = b) (n : Nat) :
  Holds ρ ms (H.set m ⟨true, k.pl, 0, k.cells⟩) B (w.freeze a n) := by
 have key : ∀ (i : Nat) (k' : Blk), (H.set m ⟨true, k.pl, 0, k.cells⟩)[i]? = some k' -> (i = m /\ k' = ⟨true, k.pl, 0, k.cells⟩) \/ (i ≠ m /\ H[i]? = some k') := fun i k' hk' => by
  rw [List.getElem?_set] at hk'
  split at hk'
  ·rename_i e
   split at hk'
   ·exact .inl ⟨e.symm, by simpa using hk'.symm⟩
   ·cases hk'
  ·rename_i e
   exact .inr ⟨fun e2 => e e2.symm, hk'⟩
 have old : ∀ (i : Nat) (k' : Blk), (H.set m ⟨true, k.pl, 0, k.cells⟩)[i]? = some k' -> k'.cells ≠ [] -> ∃ k2, H[i]? = some k2 /\ k2.cells ≠ [] := fun i k' hk' hn => by
  rcases key i k' hk' with ⟨rfl, rfl⟩ | ⟨_, h2⟩
  ·exact ⟨k, hk, hne⟩
  ·exact ⟨k', h2, hn⟩
 refine ⟨by rw [List.length_set]; exact h.len, h.gl, ?_, ?_, ?_, by rw [World.size_freeze]; exact h.big, ?_, ?_, ?_⟩
 ·intro i j b' k1 k2 hi hj hk1 hk2 hn1 hn2
  obtain ⟨k3, h3, h4⟩ := old i k1 hk1 hn1
  obtain ⟨k5, h5, h6⟩ := old j k2 hk2 hn2
  exact h.inj i j b' k3 k5 hi hj h3 h5 h4 h6
 ·intro i b' k' hi hk' hr
  rcases key i k' hk' with ⟨rfl, rfl⟩ | ⟨_, h2⟩
  ·simp at hr
  ·exact h.low i b' k' hi h2 hr
 ·intro i b' k' hi hk' hn
  obtain ⟨k3, h3, h4⟩ := old i k' hk' hn
  rw [World.size_freeze]; exact h.bnd i b' k3 hi h3 h4
 ·intro i k' hk' hp
  rcases key i k' hk' with ⟨rfl, rfl⟩ | ⟨_, h2⟩
  ·exact h.plain i k hk hp
  ·exact h.plain i k' h2 hp
 ·intro i b' k' hi hk' j s hs
  rcases key i k' hk' with ⟨rfl, rfl⟩ | ⟨e, h2⟩
  ·obtain ⟨v, q1, q2, _⟩ := h.cell i b' k hi hk j s hs
   exact ⟨v, q1, by rw [World.cell?_freeze]; exact q2, fun hr => by simp at hr⟩
  ·obtain ⟨v, q1, q2, q3⟩ := h.cell i b' k' hi h2 j s hs
   have hbb : b' ≠ b := fun e2 => by subst e2; exact e (h.inj i m b' k' k hi hb h2 hk (mem_nil_of_get hs) hne)
   exact ⟨v, q1, by rw [World.cell?_freeze]; exact q2, fun hr => by rw [World.frozen?_freeze_far _ _ _ _ (by rw [ha]; exact hbb)]; exact q3 hr⟩
 ·intro i b' c k0 k' hi hc hk0 hr0 hn0 hk' hcap j hj
  rcases key i k0 hk0 with ⟨rfl, rfl⟩ | ⟨e, h2⟩
  ·simp at hr0
  ·rcases key _ k' hk' with ⟨_, rfl⟩ | ⟨_, h3⟩
   ·simp at hcap
   ·obtain ⟨q1, q2⟩ := h.room i b' c k0 k' hi hc h2 hr0 hn0 h3 hcap j hj
    have hbb : b' ≠ b := fun e2 => by subst e2; exact e (h.inj i m b' k0 k hi hb h2 hk hn0 hne)
    exact ⟨by rw [World.cell?_freeze]; exact q1, by rw [World.frozen?_freeze_far _ _ _ _ (by rw [ha]; exact hbb)]; exact q2⟩
end Go.Proofs.YtcpchhigiohlnaaDoor.Ev
namespace Go.Proofs.YtcpchhigiohlnaaDoor.Ev
open Go Go.RowKit
def ofScalar : Value -> Option SV
 | .int k n => some (.int k (.lit n))
 | .bool b => some (.bool b)
 | .pointer none => some .nilp
 | .slice none l c => some (.nils l c)
 | .nilFunc => some .nilf
 | .map none => some .nilm
 | .nilIface => some .nili
 | .string s => some (.str (s.data.toList.map UInt8.toNat))
 | _ => none
def evGet (t : Tm) : Operand -> Option AV
 | .tmp i => t.get i
 | .const v => (ofScalar v).map fun s => .tv (.sc s)
 | .func f => some (.tv (.sc (.clo f [])))
 | .global g => if g < nGl then some (.tv (.sc (.ptr g 0))) else none
theorem bytesOf_self (s : ByteArray) : bytesOf (s.data.toList.map UInt8.toNat) = s := by
 unfold bytesOf
 obtain ⟨⟨l⟩⟩ := s
 simp only [List.map_map]
 congr 2
 conv => rhs; rw [<- List.map_id l]
 refine List.map_congr_left fun x _ => ?_
 simp
theorem ofScalar_inst {ρ : Env} {ms : List Nat} {v : Value} {s : SV} (h : ofScalar v = some s) : s.inst ρ ms = some v := by
 cases v <;> simp [ofScalar] at h
 case int => subst h; rfl
 case bool => subst h; rfl
 case pointer a => cases a <;> simp at h; subst h; rfl
 case slice a l c => cases a <;> simp at h; subst h; rfl
 case map a => cases a <;> simp at h; subst h; rfl
 case nilFunc => subst h; rfl
 case nilIface => subst h; rfl
 case string s => subst h; simp only [SV.inst, bytesOf_self]
theorem evGet_ok {ρ : Env} {ms : List Nat} {t : Tm} {a : Act} (hT : RelT ρ ms t a.tmps) {x : Operand} {v : AV} (h : evGet t x = some v) : v.inst ρ ms = some (a.eval x) := by
 cases x with
 | tmp i =>
  obtain ⟨u, h1, h2⟩ := hT.get h
  rw [h2]
  simp [Act.eval, Array.getD_eq_getD_getElem?, h1]
 | const c =>
  simp only [evGet, Option.map_eq_some_iff] at h
  obtain ⟨s, h1, rfl⟩ := h
  exact ofScalar_inst h1
 | func f =>
  simp only [evGet, Option.some.injEq] at h
  subst h
  rfl
 | global g =>
  simp only [evGet] at h
  split at h <;> cases h
  rename_i hg
  simp only [AV.inst, TV.inst, SV.inst, addr, hT.gl g hg, Option.map_some]
  rfl
def gPtr (t : Tm) (x : Operand) : Option (Nat × Nat) :=
 match evGet t x with
 | some (.tv (.sc (.ptr n o))) => some (n, o)
 | _ => none
def gInt (t : Tm) (x : Operand) : Option (IntKind × Int) :=
 match evGet t x with
 | some (.tv (.sc (.int k (.lit n)))) => some (k, n)
 | _ => none
def gCells (t : Tm) (x : Operand) : Option (List SV) :=
 match evGet t x with
 | some (.tv (.sc s)) => some [s]
 | some (.tv (.agg l)) => some l
 | _ => none
section
variable {ρ : Env} {ms : List Nat} {t : Tm} {a : Act}
theorem gPtr_ok (hT : RelT ρ ms t a.tmps) {x : Operand} {n o : Nat} (h : gPtr t x = some (n, o)) : ∃ b, ms[n]? = some b /\ a.eval x = .pointer (some ⟨b, o, none⟩) := by
 unfold gPtr at h
 split at h
 ·rename_i n' o' he
  simp only [Option.some.injEq, Prod.mk.injEq] at h
  obtain ⟨rfl, rfl⟩ := h
  have h1 := evGet_ok hT he
  simp only [AV.inst, TV.inst, SV.inst, addr, Option.map_eq_some_iff] at h1
  obtain ⟨b, hb, hv⟩ := h1
  exact ⟨b, hb, hv.symm⟩
 ·cases h
theorem gInt_ok (hT : RelT ρ ms t a.tmps) {x : Operand} {k : IntKind} {n : Int} (h : gInt t x = some (k, n)) : a.eval x = .int k n := by
 unfold gInt at h
 split at h
 ·rename_i k' n' he
  simp only [Option.some.injEq, Prod.mk.injEq] at h
  obtain ⟨rfl, rfl⟩ := h
  have h1 := evGet_ok hT he
  simp only [AV.inst, TV.inst, SV.inst, Ex.den, Option.some.injEq] at h1
  exact h1.symm
 ·cases h
theorem gCells_ok (hT : RelT ρ ms t a.tmps) {x : Operand} {l : List SV} (h : gCells t x = some l) : ∃ vs : List Value, l.map (SV.inst ρ ms) = vs.map some /\ (a.eval x).cells = vs.toArray := by
 unfold gCells at h
 split at h
 ·rename_i s he
  simp only [Option.some.injEq] at h
  subst h
  have h1 := evGet_ok hT he
  simp only [AV.inst, TV.inst] at h1
  have h2 := SV.inst_one h1
  refine ⟨[a.eval x], by simp [h1], ?_⟩
  generalize a.eval x = v at *
  cases v <;> first | rfl | (exfalso; revert h2; simp [Value.oneCell'])
 ·rename_i l' he
  simp only [Option.some.injEq] at h
  subst h
  have h1 := evGet_ok hT he
  simp only [AV.inst, TV.inst, Option.map_eq_some_iff] at h1
  obtain ⟨vs, hb, hv⟩ := h1
  exact ⟨vs, (seqO_iff _ _).1 hb, by rw [<- hv]; rfl⟩
 ·cases h
end
def span (H : List Blk) (i o n : Nat) : Option (List SV) :=
 match H[i]? with
 | some k =>
  let l := (k.cells.drop o).take n
  if l.length = n then some l else none
 | none => none
def Sees (ρ : Env) (ms : List Nat) (H : List Blk) (w : World) (i : Nat) : Prop :=
 ∀ (b : Nat) (k : Blk), ms[i]? = some b -> H[i]? = some k -> ∀ (j : Nat) (s : SV), k.cells[j]? = some s -> ∃ v, s.inst ρ ms = some v /\ w.cell? ⟨b, j, none⟩ = some v
theorem Holds.sees {ρ : Env} {ms : List Nat} {H : List Blk} {B : Nat} {w : World} (h : Holds ρ ms H B w) (i : Nat) : Sees ρ ms H w i := fun b k hb hk j s hs => by
 obtain ⟨v, h1, h2, _⟩ := h.cell i b k hb hk j s hs
 exact ⟨v, h1, h2⟩
def SeesAt (ρ : Env) (ms : List Nat) (H : List Blk) (w : World) (i o n : Nat) : Prop :=
 ∀ (b : Nat) (k : Blk), ms[i]? = some b -> H[i]? = some k -> ∀ (j : Nat) (s : SV), o <= j -> j < o + n -> k.cells[j]? = some s -> ∃ v, s.inst ρ ms = some v /\ w.cell? ⟨b, j, none⟩ = some v
theorem Sees.at {ρ : Env} {ms : List Nat} {H : List Blk} {w : World} {i : Nat} (h : Sees ρ ms H w i) (o n : Nat) : SeesAt ρ ms H w i o n := fun b k hb hk j s _ _ hs => h b k hb hk j s hs
theorem span_ok {ρ : Env} {ms : List Nat} {H : List Blk} {w : World} {i o n b : Nat} (hH : SeesAt ρ ms H w i o n) {l : List SV} (hb : ms[i]? = some b) (h : span H i o n = some l) :
  ∃ vs : List Value, l.map (SV.inst ρ ms) = vs.map some /\ vs.length = n /\ w.rangeAt b o vs := by
 unfold span at h
 split at h
 case h_2 => cases h
 rename_i k hk
 dsimp only at h
 split at h
 case isFalse => cases h
 rename_i hle0
 have hle : n <= k.cells.length - o := by
  rw [List.length_take, List.length_drop] at hle0
  omega
 simp only [Option.some.injEq] at h
 have key : ∀ j, j < n -> ∃ s v, l[j]? = some s /\ s.inst ρ ms = some v /\ w.cell? ⟨b, o + j, none⟩ = some v := fun j hj => by
  have hj2 : o + j < k.cells.length := by omega
  obtain ⟨v, h1, h2⟩ := hH b k hb hk (o + j) _ (by omega) (by omega) (List.getElem?_eq_getElem hj2)
  refine ⟨_, v, ?_, h1, h2⟩
  rw [<- h, List.getElem?_take, if_pos hj, List.getElem?_drop, List.getElem?_eq_getElem hj2]
 have hl : l.length = n := by rw [<- h]; simp; omega
 have hall : ∀ s ∈ l, ∃ v, s.inst ρ ms = some v := fun s hs => by
  obtain ⟨j, hj, rfl⟩ := List.getElem_of_mem hs
  obtain ⟨s', v, h1, h2, _⟩ := key j (by omega)
  rw [List.getElem?_eq_getElem hj] at h1
  cases h1
  exact ⟨v, h2⟩
 refine ⟨l.map fun s => (s.inst ρ ms).getD default, ?_, by simp [hl], ?_⟩
 ·rw [List.map_map]
  refine List.map_congr_left fun s hs => ?_
  obtain ⟨v, hv⟩ := hall s hs
  simp [hv]
 ·intro j v hv
  rw [List.getElem?_map, Option.map_eq_some_iff] at hv
  obtain ⟨s, h1, h2⟩ := hv
  have hj : j < n := by rw [<- hl]; exact (List.getElem?_eq_some_iff.1 h1).1
  obtain ⟨s', v', h3, h4, h5⟩ := key j hj
  rw [h3] at h1
  cases h1
  rw [h4] at h2
  simp only [Option.getD_some] at h2
  rw [<- h2]; exact h5
def rowOf (P : Program) (T : TypeId) : Option (Bool × Nat) :=
 match P.underlying T, P.info? T with
 | some d, some i => some (d.isRow, i.size)
 | _, _ => none
theorem rowOf_ok {P : Program} {T : TypeId} {r : Bool} {n : Nat} (h : rowOf P T = some (r, n)) : ∃ d i, P.underlying T = some d /\ P.info? T = some i /\ d.isRow = r /\ i.size = n := by
 unfold rowOf at h
 split at h
 ·rename_i d i h1 h2
  simp only [Option.some.injEq, Prod.mk.injEq] at h
  exact ⟨d, i, h1, h2, h.1, h.2⟩
 ·cases h
def loadLen (P : Program) (T : TypeId) : Nat := match rowOf P T with | some (true, s) => s | _ => 1
def evLoad (P : Program) (t : Tm) (H : List Blk) (T : TypeId) (x : Operand) : Option AV :=
 match gPtr t x, rowOf P T with
 | some (n, o), some (true, s) => (span H n o s).map fun l => .tv (.agg l)
 | some (n, o), some (false, _) =>
  match span H n o 1 with
  | some [s] => some (.tv (.sc s))
  | _ => none
 | _, _ => none
theorem isAgg_run {P : Program} {T : TypeId} {d : TypeDesc} (h : P.underlying T = some d) (w : World) : (isAgg T).run P w = .ok d.isRow w := by
 unfold isAgg
 rw [Sem.run_bind, run_underlying h w]
 cases d <;> simp
theorem evLoad_ok {P : Program} {ρ : Env} {ms : List Nat} {t : Tm} {H : List Blk} {w : World} {a : Act} {T : TypeId} {x : Operand} {v : AV}
  (hT : RelT ρ ms t a.tmps) (hH : ∀ n o, gPtr t x = some (n, o) -> SeesAt ρ ms H w n o (loadLen P T)) (h : evLoad P t H T x = some v) : ∃ u, v.inst ρ ms = some u /\ (Instr.loadAt T (a.eval x)).run P w = .ok u w := by
 unfold evLoad at h
 split at h
 ·rename_i n o s h1 h2
  obtain ⟨b, hb, he⟩ := gPtr_ok hT h1
  obtain ⟨d, i, hu, hi, hd, hs⟩ := rowOf_ok h2
  rw [Option.map_eq_some_iff] at h
  obtain ⟨l, hl, rfl⟩ := h
  have hS := hH n o h1
  simp only [loadLen, h2] at hS
  obtain ⟨vs, e1, e2, e3⟩ := span_ok hS hb hl
  refine ⟨.agg vs.toArray, ?_, ?_⟩
  ·simp only [AV.inst, TV.inst, (seqO_iff _ _).2 e1, Option.map_some]
  ·rw [he]
   exact run_loadAt_mid w b o T vs d e3 hu hd (by simp [hi, hs, e2])
 ·rename_i n o s h1 h2
  obtain ⟨b, hb, he⟩ := gPtr_ok hT h1
  obtain ⟨d, i, hu, hi, hd, hs⟩ := rowOf_ok h2
  split at h
  case h_2 => cases h
  rename_i s1 hsp
  simp only [Option.some.injEq] at h
  subst h
  have hS := hH n o h1
  simp only [loadLen, h2] at hS
  obtain ⟨vs, e1, e2, e3⟩ := span_ok hS hb hsp
  match vs, e2 with
  | [u], _ =>
   simp only [List.map_cons, List.map_nil, List.cons.injEq, and_true] at e1
   refine ⟨u, e1, ?_⟩
   rw [he]
   have hc := e3 0 u rfl
   simp only [Nat.add_zero] at hc
   have hag := isAgg_run hu w
   rw [hd] at hag
   simp [Instr.loadAt, Instr.sureAddr, loadVar, hag, load, Sem.run, hc]
 ·cases h
def over : List SV -> Nat -> List SV -> List SV
 | [], _, _ => []
 | c :: cs, 0, ns => match ns with | [] => c :: cs | n :: ns => n :: over cs 0 ns
 | c :: cs, o + 1, ns => c :: over cs o ns
def evStore (P : Program) (t : Tm) (H : List Blk) (T : TypeId) (x y : Operand) : Option (List Blk) :=
 match gPtr t x, gCells t y, rowOf P T with
 | some (n, o), some l, some (_, s) =>
  match H[n]? with
  | some k => if k.ro = false /\ l.length = s /\ 0 < s /\ ((k.cells.drop o).take s).length = s then some (H.set n ⟨false, k.pl && l.all SV.plain, 0, over k.cells o l⟩) else none
  | none => none
 | _, _, _ => none
theorem over_get : ∀ (l : List SV) (o : Nat) (n : List SV), o + n.length <= l.length -> ∀ j, (over l o n)[j]? = if o <= j /\ j < o + n.length then n[j - o]? else l[j]?
 | [], o, n, h, j => by
  have : n = [] := List.length_eq_zero_iff.1 (by simp only [List.length_nil] at h; omega)
  subst this
  simp [over]
 | c :: cs, 0, [], _, j => by simp [over]
 | c :: cs, 0, n :: ns, h, j => by
  simp only [over]
  cases j with
  | zero => simp
  | succ j =>
   rw [List.getElem?_cons_succ, over_get cs 0 ns (by simp at h; omega) j]
   simp only [Nat.zero_le, true_and, Nat.zero_add, Nat.sub_zero, List.length_cons, List.getElem?_cons_succ]
   by_cases hj : j < ns.length
   ·rw [if_pos hj, if_pos (by omega)]
   ·rw [if_neg hj, if_neg (by omega)]
 | c :: cs, o + 1, ns, h, j => by
  simp only [over]
  cases j with
  | zero => simp
  | succ j =>
   rw [List.getElem?_cons_succ, over_get cs o ns (by simp at h; omega) j, List.getElem?_cons_succ]
   by_cases hj : o <= j /\ j < o + ns.length
   ·rw [if_pos hj, if_pos (by omega), show j + 1 - (o + 1) = j - o by omega]
   ·rw [if_neg hj, if_neg (by omega)]
theorem over_all {p : SV -> Bool} : ∀ (l : List SV) (o : Nat) (n : List SV), l.all p = true -> n.all p = true -> (over l o n).all p = true
 | [], _, _, _, _ => rfl
 | c :: cs, 0, [], h, _ => h
 | c :: cs, 0, n :: ns, h, h2 => by
  simp only [List.all_cons, Bool.and_eq_true] at h h2
  simp only [over, List.all_cons, Bool.and_eq_true]
  exact ⟨h2.1, over_all cs 0 ns h.2 h2.2⟩
 | c :: cs, o + 1, ns, h, h2 => by
  simp only [List.all_cons, Bool.and_eq_true] at h
  simp only [over, List.all_cons, Bool.and_eq_true]
  exact ⟨h.1, over_all cs o ns h.2 h2⟩
theorem cell_setCells_isSome (b : Nat) (vs : List Value) (o : Nat) (w : World) (x : Addr) (hth : w.there b o vs.length) (h : (w.cell? x).isSome = true) : ((w.setCells b o vs).cell? x).isSome = true := by
 by_cases hx : x.block = b -> x.spot = none -> x.off < o \/ o + vs.length <= x.off
 ·rw [World.cell?_setCells_out b vs o w x hx]; exact h
 ·obtain ⟨xb, xo, xs⟩ := x
  have e1 : xb = b := by
   by_cases e : xb = b
   ·exact e
   ·exact absurd (fun e2 => absurd e2 e) hx
  have e2 : xs = none := by
   by_cases e : xs = none
   ·exact e
   ·exact absurd (fun _ e2 => absurd e2 e) hx
  subst e1 e2
  have e3 : ¬ (xo < o \/ o + vs.length <= xo) := fun e => hx (fun _ _ => e)
  have hj : xo - o < vs.length := by omega
  have := World.rangeAt_setCells_same w xb o vs hth (xo - o) (vs[xo - o]) (List.getElem?_eq_getElem hj)
  rw [show o + (xo - o) = xo by omega] at this
  rw [this]; rfl
theorem Holds.store {ρ : Env} {ms : List Nat} {H : List Blk} {B : Nat} {w : World} (hH : Holds ρ ms H B w) {n b o : Nat} {k : Blk} {l : List SV} {vs : List Value}
  (hb : ms[n]? = some b) (hk : H[n]? = some k) (hl : l.map (SV.inst ρ ms) = vs.map some) (ho : o + l.length <= k.cells.length) (hl0 : 0 < l.length) (hr : k.ro = false) :
  Holds ρ ms (H.set n ⟨false, k.pl && l.all SV.plain, 0, over k.cells o l⟩) B (w.setCells b o vs) := by
 have hlen : l.length = vs.length := by have := congrArg List.length hl; simpa using this
 have hsz : ∀ (vs : List Value) (o : Nat) (w : World), (w.setCells b o vs).heap.size = w.heap.size := by
  intro vs
  induction vs with
  | nil => intro o w; rfl
  | cons v r ih => intro o w; rw [World.setCells, ih]; simp
 have hth : w.there b o vs.length := fun j hj => by
  have hj2 : o + j < k.cells.length := by omega
  obtain ⟨v, _, h2, h3⟩ := hH.cell n b k hb hk (o + j) _ (List.getElem?_eq_getElem hj2)
  exact ⟨by rw [h2]; rfl, h3 hr⟩
 have hkn : k.cells ≠ [] := fun e => by rw [e, List.length_nil] at ho; omega
 have key : ∀ (i : Nat) (k' : Blk), (H.set n ⟨false, k.pl && l.all SV.plain, 0, over k.cells o l⟩)[i]? = some k' -> k'.cells ≠ [] -> ∃ k2, H[i]? = some k2 /\ k2.cells ≠ [] := fun i k' hk' hne => by
  rw [List.getElem?_set] at hk'
  by_cases e : n = i
  ·subst e; exact ⟨k, hk, hkn⟩
  ·rw [if_neg e] at hk'; exact ⟨k', hk', hne⟩
 refine ⟨by rw [List.length_set]; exact hH.len, hH.gl, ?_, ?_, ?_, ?_, ?_, ?_, ?_⟩
 ·intro i j b' k1 k2 hi hj hk1 hk2 hn1 hn2
  obtain ⟨k3, h3, h4⟩ := key i k1 hk1 hn1
  obtain ⟨k5, h5, h6⟩ := key j k2 hk2 hn2
  exact hH.inj i j b' k3 k5 hi hj h3 h5 h4 h6
 ·intro i b' k' hi hk' hr'
  rw [List.getElem?_set] at hk'
  by_cases e : n = i
  ·subst e
   rw [hb] at hi
   cases hi
   exact hH.low n b k hb hk hr
  ·rw [if_neg e] at hk'; exact hH.low i b' k' hi hk' hr'
 ·intro i b' k' hi hk' hne
  obtain ⟨k3, h3, h4⟩ := key i k' hk' hne
  rw [hsz]; exact hH.bnd i b' k3 hi h3 h4
 ·rw [hsz]; exact hH.big
 ·intro i k' hk' hp
  rw [List.getElem?_set] at hk'
  by_cases e : n = i
  ·subst e
   rw [if_pos rfl] at hk'
   split at hk'
   case isFalse => cases hk'
   simp only [Option.some.injEq] at hk'
   subst hk'
   simp only [Bool.and_eq_true] at hp
   have h1 := hH.plain n k hk hp.1
   exact over_all _ _ _ h1 hp.2
  ·rw [if_neg e] at hk'; exact hH.plain i k' hk' hp
 ·intro i b' k' hi hk' j s hs
  rw [World.frozen?_setCells]
  rw [List.getElem?_set] at hk'
  by_cases e : n = i
  ·subst e
   rw [hb] at hi
   cases hi
   rw [if_pos rfl] at hk'
   split at hk'
   case isFalse => cases hk'
   simp only [Option.some.injEq] at hk'
   subst hk'
   simp only at hs
   rw [over_get _ _ _ ho] at hs
   by_cases hin : o <= j /\ j < o + l.length
   ·rw [if_pos hin] at hs
    have e1 : (l.map (SV.inst ρ ms))[j - o]? = (vs.map some)[j - o]? := by rw [hl]
    simp only [List.getElem?_map, hs] at e1
    cases hv : vs[j - o]? with
    | none => rw [hv] at e1; simp at e1
    | some v =>
     rw [hv] at e1
     simp only [Option.map_some, Option.some.injEq] at e1
     refine ⟨v, e1, ?_, ?_⟩
     ·have := World.rangeAt_setCells_same w b o vs hth (j - o) v hv
      rw [show o + (j - o) = j by omega] at this
      exact this
     ·intro _
      have := (hth (j - o) (by omega)).2
      rw [show o + (j - o) = j by omega] at this
      exact this
   ·rw [if_neg hin] at hs
    obtain ⟨v, h1, h2, h3⟩ := hH.cell n b k hb hk j s hs
    refine ⟨v, h1, ?_, fun _ => h3 hr⟩
    rw [World.cell?_setCells_out b vs o w ⟨b, j, none⟩ (fun _ _ => by show j < o \/ o + vs.length <= j; omega)]
    exact h2
  ·rw [if_neg e] at hk'
   obtain ⟨v, h1, h2, h3⟩ := hH.cell i b' k' hi hk' j s hs
   refine ⟨v, h1, ?_, h3⟩
   rw [World.cell?_setCells_out b vs o w ⟨b', j, none⟩ (fun hbb _ => by
    simp only at hbb
    subst hbb
    exact absurd (hH.inj n i b' k k' hb hi hk hk' hkn (mem_nil_of_get hs)) e)]
   exact h2
 ·intro i b' c k0 k' hi hc hk0 hr0 hn0 hk' hcap j hj
  rw [World.frozen?_setCells]
  rw [List.getElem?_set] at hk'
  have hk2 : H[i + 1]? = some k' := by
   by_cases e : n = i + 1
   ·rw [if_pos e] at hk'
    split at hk'
    ·simp only [Option.some.injEq] at hk'; subst hk'; simp at hcap
    ·cases hk'
   ·rw [if_neg e] at hk'; exact hk'
  obtain ⟨k3, h3, h4, h5⟩ : ∃ k3, H[i]? = some k3 /\ k3.ro = false /\ k3.cells ≠ [] := by
   rw [List.getElem?_set] at hk0
   by_cases e : n = i
   ·subst e; exact ⟨k, hk, hr, hkn⟩
   ·rw [if_neg e] at hk0; exact ⟨k0, hk0, hr0, hn0⟩
  obtain ⟨q1, q2⟩ := hH.room i b' c k3 k' hi hc h3 h4 h5 hk2 hcap j hj
  exact ⟨cell_setCells_isSome b vs o w _ hth q1, q2⟩
theorem below_setCells {B b : Nat} (hb : B <= b) : ∀ (vs : List Value) (o : Nat) (a w : World), Bel B a w -> Bel B a (w.setCells b o vs)
 | [], _, _, _, h => h
 | v :: r, o, a, w, h => by rw [World.setCells]; exact below_setCells hb r (o + 1) a _ (h.setCell hb v)
theorem evStore_ok {P : Program} {ρ : Env} {ms : List Nat} {t : Tm} {H H' : List Blk} {B : Nat} {w : World} {a : Act} {T : TypeId} {x y : Operand}
  (hT : RelT ρ ms t a.tmps) (hH : Holds ρ ms H B w) (h : evStore P t H T x y = some H') : ∃ w', (Instr.storeAt T (a.eval x) (a.eval y)).run P w = .ok () w' /\ Holds ρ ms H' B w' /\ Bel B w w' := by
 unfold evStore at h
 split at h
 case h_2 => cases h
 rename_i n o l r s h1 h2 h3
 split at h
 case h_2 => cases h
 rename_i k hk
 split at h
 case isFalse => cases h
 rename_i hc
 obtain ⟨hro, hls, hs0, hle0⟩ := hc
 have hle : o + s <= k.cells.length := by
  rw [List.length_take, List.length_drop] at hle0
  omega
 simp only [Option.some.injEq] at h
 subst h
 obtain ⟨b, hb, he⟩ := gPtr_ok hT h1
 obtain ⟨vs, hv, hcs⟩ := gCells_ok hT h2
 obtain ⟨d, i, hu, hi, hd, hs⟩ := rowOf_ok h3
 have hlen : l.length = vs.length := by have := congrArg List.length hv; simpa using this
 refine ⟨w.setCells b o vs, ?_, hH.store hb hk hv (by omega) (by omega) hro, below_setCells (hH.low n b k hb hk hro) vs o w w (Bel.refl _ _)⟩
 have hth : w.there b o vs.length := fun j hj => by
  have hj2 : o + j < k.cells.length := by omega
  obtain ⟨v, _, h2, h3⟩ := hH.cell n b k hb hk (o + j) _ (List.getElem?_eq_getElem hj2)
  exact ⟨by rw [h2]; rfl, h3 hro⟩
 have hone : ∀ v ∈ vs, v.oneCell' = true := fun v hvv => by
  obtain ⟨j, hj, rfl⟩ := List.getElem_of_mem hvv
  have e1 : (l.map (SV.inst ρ ms))[j]? = (vs.map some)[j]? := by rw [hv]
  simp only [List.getElem?_map, List.getElem?_eq_getElem hj, List.getElem?_eq_getElem (show j < l.length by omega), Option.map_some, Option.some.injEq] at e1
  exact SV.inst_one e1
 have := run_storeCells_cells (P := P) b o vs 0 w (fun j hj => by simpa using (hth j hj).1) (fun j hj => by simpa using (hth j hj).2) hone
 simp only [Nat.add_zero] at this
 rw [he]
 have hsz : vs.length = i.size := by omega
 simp [Instr.storeAt, Instr.sureAddr, storeVar, sizeOf, typeInfo, hi, hcs, hsz, this]
end Go.Proofs.YtcpchhigiohlnaaDoor.Ev
namespace Go.Proofs.YtcpchhigiohlnaaDoor.Ev
open Go Go.RowKit
def mkBit (op : BinOp) (k : IntKind) : Ex -> Ex -> Ex
 | .lit a, .lit b => .lit (bitsOf op k a b)
 | a, b => .bit op k a b
def mkAri (op : BinOp) (k : IntKind) : Ex -> Ex -> Ex
 | .lit a, .lit b => .lit (ariOf op k a b)
 | a, b => .ari op k a b
def mkShl (k : IntKind) (n : Nat) : Ex -> Ex
 | .lit a => .lit (k.wrap (a * 2 ^ n))
 | a => .shl k a n
def mkShr (n : Nat) : Ex -> Ex
 | .lit a => .lit (a.fdiv (2 ^ n))
 | .shr a m => .shr a (m + n)
 | a => if n = 0 then a else .shr a n
def mkCon (k : IntKind) : Ex -> Ex
 | .lit a => .lit (k.wrap a)
 | a => .con k a
theorem mkBit_den (ρ : Env) (op : BinOp) (k : IntKind) (a b : Ex) : (mkBit op k a b).den ρ = bitsOf op k (a.den ρ) (b.den ρ) := by unfold mkBit; split <;> rfl
theorem mkAri_den (ρ : Env) (op : BinOp) (k : IntKind) (a b : Ex) : (mkAri op k a b).den ρ = ariOf op k (a.den ρ) (b.den ρ) := by unfold mkAri; split <;> rfl
theorem mkShl_den (ρ : Env) (k : IntKind) (n : Nat) (a : Ex) : (mkShl k n a).den ρ = k.wrap (a.den ρ * 2 ^ n) := by unfold mkShl; split <;> rfl
theorem mkShr_den (ρ : Env) (n : Nat) (a : Ex) : (mkShr n a).den ρ = (a.den ρ).fdiv (2 ^ n) := by
 have pos : ∀ n : Nat, (0 : Int) <= 2 ^ n := fun n => Int.le_of_lt (Int.pow_pos (by decide))
 unfold mkShr
 split
 ·rfl
 ·rename_i a m
  simp only [Ex.den]
  rw [Int.fdiv_eq_ediv_of_nonneg _ (pos _), Int.fdiv_eq_ediv_of_nonneg _ (pos _), Int.fdiv_eq_ediv_of_nonneg _ (pos _), Int.pow_add, Int.ediv_ediv_of_nonneg (pos m)]
 ·split
  ·rename_i h
   subst h
   rw [Int.pow_zero, Int.fdiv_eq_ediv_of_nonneg _ (by decide), Int.ediv_one]
  ·rfl
theorem mkCon_den (ρ : Env) (k : IntKind) (a : Ex) : (mkCon k a).den ρ = k.wrap (a.den ρ) := by unfold mkCon; split <;> rfl
def cmpOf (op : BinOp) (x y : Int) : Option Bool :=
 match op with
 | .eql => some (x == y)
 | .neq => some (x != y)
 | .lss => some (decide (x < y))
 | .leq => some (decide (x <= y))
 | .gtr => some (decide (x > y))
 | .geq => some (decide (x ≥ y))
 | _ => none
def eqv : Value -> Value -> Bool
 | .int k a, .int k' b => k == k' && a == b
 | .bool a, .bool b => a == b
 | _, _ => false
def alike : Value -> Value -> Bool
 | .int k _, .int k' _ => k == k'
 | _, _ => false
def all2 {α β : Type} (f : α -> β -> Bool) : List α -> List β -> Bool
 | [], [] => true
 | x :: xs, y :: ys => f x y && all2 f xs ys
 | _, _ => false
structure LoreOk (ρ : Env) (L : Lore) : Prop where
 fact : ∀ op a b r, L.fact op a b = some r -> cmpOf op (a.den ρ) (b.den ρ) = some r
 nm : ∀ e, (L.nm e).den ρ = e.den ρ
 factA : ∀ l l' r, L.factA l l' = some r -> ∀ (ms : List Nat) (vs us : List Value), l.map (SV.inst ρ ms) = vs.map some -> l'.map (SV.inst ρ ms) = us.map some -> all2 alike vs us = true /\ all2 eqv vs us = r
def nmOf (L : Lore) : Ex -> Ex
 | .lit n => .lit n
 | e => L.nm e
theorem nmOf_den {ρ : Env} {L : Lore} (hL : LoreOk ρ L) (e : Ex) : (nmOf L e).den ρ = e.den ρ := by
 cases e <;> first | rfl | exact hL.nm _
def evCmp (L : Lore) (op : BinOp) (a b : Ex) : Option SV :=
 match a, b with
 | .lit x, .lit y => (cmpOf op x y).map .bool
 | a, b => if a = b then (match op with | .eql => some (.bool true) | .neq => some (.bool false) | _ => (L.fact op a b).map .bool) else (L.fact op a b).map .bool
def evInt (L : Lore) (op : BinOp) (k : IntKind) (a : Ex) (k' : IntKind) (b : Ex) : Option SV :=
 match op with
 | .shl => match b with | .lit n => if n < 0 then none else some (.int k (mkShl k (min n.toNat k.bits) a)) | _ => none
 | .shr => match b with | .lit n => if n < 0 then none else some (.int k (mkShr (min n.toNat k.bits) a)) | _ => none
 | .add | .sub | .mul => if k = k' then some (.int k (mkAri op k a b)) else none
 | .and | .or | .xor | .andNot => if k = k' then some (.int k (nmOf L (mkBit op k a b))) else none
 | .quo => match b with | .lit y => if k = k' /\ y ≠ 0 then some (.int k (nmOf L (mkAri .quo k a (.lit y)))) else none | b => if k = k' /\ L.fact .neq b (.lit 0) = some true then some (.int k (nmOf L (mkAri .quo k a b))) else none
 | .rem => match b with | .lit y => if k = k' /\ y ≠ 0 then some (.int k (nmOf L (mkAri .rem k a (.lit y)))) else none | b => if k = k' /\ L.fact .neq b (.lit 0) = some true then some (.int k (nmOf L (mkAri .rem k a b))) else none
 | op => if k = k' then evCmp L op a b else none
theorem evCmp_ok {ρ : Env} {ms : List Nat} {L : Lore} (hL : LoreOk ρ L) {op : BinOp} {a b : Ex} {s : SV} (h : evCmp L op a b = some s) : ∃ r, s.inst ρ ms = some (.bool r) /\ cmpOf op (a.den ρ) (b.den ρ) = some r := by
 unfold evCmp at h
 have fin : ∀ a b : Ex, (L.fact op a b).map SV.bool = some s -> ∃ r, s.inst ρ ms = some (.bool r) /\ cmpOf op (a.den ρ) (b.den ρ) = some r := fun a b h => by
  rw [Option.map_eq_some_iff] at h
  obtain ⟨r, h1, rfl⟩ := h
  exact ⟨r, rfl, hL.fact op a b r h1⟩
 split at h
 ·rw [Option.map_eq_some_iff] at h
  obtain ⟨r, h1, rfl⟩ := h
  exact ⟨r, rfl, h1⟩
 ·split at h
  ·rename_i e
   subst e
   split at h
   ·cases h; exact ⟨true, rfl, by simp [cmpOf]⟩
   ·cases h; exact ⟨false, rfl, by simp [cmpOf]⟩
   ·exact fin _ _ h
  ·exact fin _ _ h
theorem intCmp_run {P : Program} {op : BinOp} {x y : Int} {r : Bool} (h : cmpOf op x y = some r) (w : World) : (Op.intCmp op x y).run P w = .ok (.bool r) w := by
 cases op <;> simp only [cmpOf, Option.some.injEq] at h <;> first | (cases h; done) | (subst h; simp only [Op.intCmp, Sem.run_pure]; rfl) | (subst h; simp only [Op.intCmp, Sem.run_pure])
theorem evInt_ok {P : Program} {ρ : Env} {ms : List Nat} {L : Lore} (hL : LoreOk ρ L) {op : BinOp} {k k' : IntKind} {a b : Ex} {s : SV} (h : evInt L op k a k' b = some s) (T : TypeId) (w : World) :
  ∃ v, s.inst ρ ms = some v /\ (binOp op T (.int k (a.den ρ)) (.int k' (b.den ρ))).run P w = .ok v w := by
 cases op <;> simp only [evInt] at h
 case shl =>
  split at h
  ·rename_i n
   split at h
   ·cases h
   ·rename_i hn
    simp only [Option.some.injEq] at h
    subst h
    exact ⟨_, rfl, by simp [binOp, Op.shift, Ex.den, hn, mkShl_den]⟩
  ·cases h
 case shr =>
  split at h
  ·rename_i n
   split at h
   ·cases h
   ·rename_i hn
    simp only [Option.some.injEq] at h
    subst h
    exact ⟨_, rfl, by simp [binOp, Op.shift, Ex.den, hn, mkShr_den]⟩
  ·cases h
 case add => split at h <;> cases h; rename_i e; subst e; exact ⟨_, rfl, by simp [binOp, Op.intArith, mkAri_den, ariOf]⟩
 case sub => split at h <;> cases h; rename_i e; subst e; exact ⟨_, rfl, by simp [binOp, Op.intArith, mkAri_den, ariOf]⟩
 case mul => split at h <;> cases h; rename_i e; subst e; exact ⟨_, rfl, by simp [binOp, Op.intArith, mkAri_den, ariOf]⟩
 case and => split at h <;> cases h; rename_i e; subst e; exact ⟨_, rfl, by simp [binOp, Op.intBits, nmOf_den hL, mkBit_den, bitsOf]⟩
 case or => split at h <;> cases h; rename_i e; subst e; exact ⟨_, rfl, by simp [binOp, Op.intBits, nmOf_den hL, mkBit_den, bitsOf]⟩
 case xor => split at h <;> cases h; rename_i e; subst e; exact ⟨_, rfl, by simp [binOp, Op.intBits, nmOf_den hL, mkBit_den, bitsOf]⟩
 case andNot => split at h <;> cases h; rename_i e; subst e; exact ⟨_, rfl, by simp [binOp, Op.intBits, nmOf_den hL, mkBit_den, bitsOf]⟩
 case quo =>
  split at h
  ·split at h <;> cases h
   rename_i e
   obtain ⟨rfl, e2⟩ := e
   exact ⟨_, rfl, by simp [binOp, Op.intDiv, Ex.den, e2, nmOf_den hL, mkAri_den, ariOf]⟩
  ·split at h <;> cases h
   rename_i e
   obtain ⟨rfl, e2⟩ := e
   have e3 := hL.fact _ _ _ _ e2
   simp only [cmpOf, Ex.den, Option.some.injEq, bne_iff_ne, ne_eq] at e3
   exact ⟨_, rfl, by simp [binOp, Op.intDiv, e3, nmOf_den hL, mkAri_den, ariOf]⟩
 case rem =>
  split at h
  ·split at h <;> cases h
   rename_i e
   obtain ⟨rfl, e2⟩ := e
   exact ⟨_, rfl, by simp [binOp, Op.intDiv, Ex.den, e2, nmOf_den hL, mkAri_den, ariOf]⟩
  ·split at h <;> cases h
   rename_i e
   obtain ⟨rfl, e2⟩ := e
   have e3 := hL.fact _ _ _ _ e2
   simp only [cmpOf, Ex.den, Option.some.injEq, bne_iff_ne, ne_eq] at e3
   exact ⟨_, rfl, by simp [binOp, Op.intDiv, e3, nmOf_den hL, mkAri_den, ariOf]⟩
 all_goals
  split at h
  ·rename_i e
   subst e
   obtain ⟨r, h1, h2⟩ := evCmp_ok (ms := ms) hL h
   refine ⟨_, h1, ?_⟩
   have h3 := intCmp_run (P := P) h2 w
   simpa [binOp] using h3
  ·cases h
def flatF (P : Program) (g : TypeId -> Option Nat) : Nat -> List Field -> Option Nat
 | o, [] => some o
 | o, f :: r => if f.name ≠ "_" /\ f.offset = o /\ rowOf P f.type = some (false, 1) /\ g f.type = some 1 then flatF P g (o + 1) r else none
def flatN (P : Program) : Nat -> TypeId -> Option Nat
 | 0, _ => none
 | d + 1, T =>
  match P.underlying T with
  | some (.int _) => some 1
  | some (.array n e) =>
   match rowOf P e, flatN P d e with
   | some (_, s), some m => if s = m then some (n * m) else none
   | _, _ => none
  | some (.struct fs) => if P.stoodInHeld T = true then none else flatF P (flatN P d) 0 fs.toList
  | _ => none
theorem forIn_all {P : Program} (w : World) (body : Nat -> Option Bool × Unit -> Sem (ForInStep (Option Bool × Unit))) (g : Nat -> Bool) : ∀ (m k : Nat),
  (∀ i s, k <= i -> i < k + m -> (body i s).run P w = .ok (if g i then .yield (none, ()) else .done (some false, ())) w) →
  (forIn (List.range' k m 1) ((none : Option Bool), ()) body).run P w = .ok (if (List.range' k m 1).all g then (none, ()) else (some false, ())) w
 | 0, k, h => by simp
 | m + 1, k, h => by
  rw [List.range'_succ, List.forIn_cons, Sem.run_bind, h k _ (Nat.le_refl _) (by omega), Result.andThen_ok]
  cases hg : g k with
  | true =>
   rw [if_pos rfl]
   simp only [List.all_cons, hg, Bool.true_and]
   exact forIn_all w body g m (k + 1) (fun i s h1 h2 => h i s (by omega) (by omega))
  | false => simp [hg]
theorem forIn_fields {P : Program} (w : World) (body : Field -> Option Bool × Unit -> Sem (ForInStep (Option Bool × Unit))) (g : Field -> Bool) : ∀ (l : List Field),
  (∀ f ∈ l, ∀ s, (body f s).run P w = .ok (if g f then .yield (none, ()) else .done (some false, ())) w) →
  (forIn l ((none : Option Bool), ()) body).run P w = .ok (if l.all g then (none, ()) else (some false, ())) w
 | [], h => by simp
 | f :: l, h => by
  rw [List.forIn_cons, Sem.run_bind, h f (by simp) _, Result.andThen_ok]
  cases hg : g f with
  | true =>
   rw [if_pos rfl]
   simp only [List.all_cons, hg, Bool.true_and]
   exact forIn_fields w body g l (fun f hf s => h f (by simp [hf]) s)
  | false => simp [hg]
theorem all2_append {α β : Type} (f : α -> β -> Bool) : ∀ (a : List α) (c : List β), a.length = c.length -> ∀ (b : List α) (d : List β), all2 f (a ++ b) (c ++ d) = (all2 f a c && all2 f b d)
 | [], [], _, b, d => by simp [all2]
 | [], _ :: _, h, _, _ => by simp at h
 | _ :: _, [], h, _, _ => by simp at h
 | x :: a, y :: c, h, b, d => by simp [all2, all2_append f a c (by simpa using h) b d, Bool.and_assoc]
theorem all2_length {α β : Type} {f : α -> β -> Bool} : ∀ (a : List α) (c : List β), all2 f a c = true -> a.length = c.length
 | [], [], _ => rfl
 | x :: a, y :: c, h => by simp [all2] at h; simp [all2_length a c h.2]
 | [], _ :: _, h => by simp [all2] at h
 | _ :: _, [], h => by simp [all2] at h
theorem all2_sub {α β : Type} {f : α -> β -> Bool} (a : List α) (c : List β) (h : all2 f a c = true) (o n : Nat) : all2 f ((a.drop o).take n) ((c.drop o).take n) = true := by
 have hl := all2_length a c h
 have e1 : a = a.take o ++ a.drop o := (List.take_append_drop o a).symm
 have e2 : c = c.take o ++ c.drop o := (List.take_append_drop o c).symm
 rw [e1, e2, all2_append f _ _ (by simp [hl])] at h
 simp only [Bool.and_eq_true] at h
 have h2 := h.2
 rw [<- List.take_append_drop n (a.drop o), <- List.take_append_drop n (c.drop o), all2_append f _ _ (by simp [hl])] at h2
 simp only [Bool.and_eq_true] at h2
 exact h2.1
theorem all2_rounds {α β : Type} (f : α -> β -> Bool) (m : Nat) : ∀ (n : Nat) (a : List α) (c : List β), a.length = n * m -> c.length = n * m →
  all2 f a c = (List.range' 0 n 1).all fun i => all2 f ((a.drop (i * m)).take m) ((c.drop (i * m)).take m)
 | 0, a, c, ha, hc => by
  have : a = [] := List.length_eq_zero_iff.1 (by omega)
  have : c = [] := List.length_eq_zero_iff.1 (by omega)
  subst a c; simp [all2]
 | n + 1, a, c, ha, hc => by
  rw [Nat.succ_mul] at ha hc
  have hm : ∀ i, i < n -> i * m + m <= n * m := fun i hi => by rw [<- Nat.succ_mul]; exact Nat.mul_le_mul_right m hi
  conv => lhs; rw [<- List.take_append_drop (n * m) a, <- List.take_append_drop (n * m) c]
  rw [all2_append f _ _ (by simp; omega), all2_rounds f m n _ _ (by simp; omega) (by simp; omega)]
  rw [show List.range' 0 (n + 1) 1 = List.range' 0 n 1 ++ [n] by rw [List.range'_concat]; simp, List.all_append]
  congr 1
  ·rw [Bool.eq_iff_iff, List.all_eq_true, List.all_eq_true]
   refine forall_congr' fun i => forall_congr' fun hi => ?_
   have hi2 : i < n := by simpa using hi
   have := hm i hi2
   have q : ∀ {γ : Type} (l : List γ), ((l.take (n * m)).drop (i * m)).take m = (l.drop (i * m)).take m := fun l => by
    rw [List.drop_take, List.take_take, Nat.min_eq_left (by omega)]
   rw [q, q]
  ·simp only [List.all_cons, List.all_nil, Bool.and_true]
   rw [List.take_of_length_le (by simp; omega), List.take_of_length_le (by simp; omega)]
theorem flatF_le {P : Program} {g : TypeId -> Option Nat} : ∀ (l : List Field) (o m : Nat), flatF P g o l = some m -> m = o + l.length
 | [], o, m, h => by simp [flatF] at h; simp [h]
 | f :: r, o, m, h => by
  simp only [flatF] at h
  split at h
  ·have := flatF_le r (o + 1) m h; simp; omega
  ·cases h
theorem flatF_mem {P : Program} {g : TypeId -> Option Nat} : ∀ (l : List Field) (o m : Nat), flatF P g o l = some m -> ∀ f ∈ l, f.name ≠ "_" /\ f.offset < m /\ rowOf P f.type = some (false, 1) /\ g f.type = some 1
 | [], o, m, h, f, hf => by simp at hf
 | f :: r, o, m, h, q, hq => by
  simp only [flatF] at h
  split at h
  ·rename_i hc
   have hm := flatF_le r (o + 1) m h
   rcases List.mem_cons.1 hq with rfl | hq
   ·exact ⟨hc.1, by omega, hc.2.2.1, hc.2.2.2⟩
   ·exact flatF_mem r (o + 1) m h q hq
  ·cases h
theorem flatF_all {P : Program} {g : TypeId -> Option Nat} (e : Value -> Value -> Bool) (vs us : List Value) : ∀ (l : List Field) (o m : Nat), flatF P g o l = some m -> vs.length = m -> us.length = m →
  (l.all fun f => all2 e ((vs.drop f.offset).take 1) ((us.drop f.offset).take 1)) = all2 e (vs.drop o) (us.drop o)
 | [], o, m, h, hv, hu => by
  simp [flatF] at h
  subst h
  simp [List.drop_of_length_le (Nat.le_of_eq hv), List.drop_of_length_le (Nat.le_of_eq hu), all2]
 | f :: r, o, m, h, hv, hu => by
  simp only [flatF] at h
  split at h
  ·rename_i hc
   have hm := flatF_le r (o + 1) m h
   rw [List.all_cons, flatF_all e vs us r (o + 1) m h hv hu, hc.2.1]
   have q1 : o < vs.length := by omega
   have q2 : o < us.length := by omega
   rw [List.drop_eq_getElem_cons q1, List.drop_eq_getElem_cons q2]
   simp only [all2, List.take_succ_cons, List.take_zero, Bool.and_true]
  ·cases h
def valOf (r : Bool) (vs : List Value) : Value := if r then .agg vs.toArray else vs.headD default
theorem part_run {P : Program} {T : TypeId} {r : Bool} {s : Nat} (h : rowOf P T = some (r, s)) (w : World) (vs : List Value) (o : Nat) (hs : r = false -> s = 1) (ho : o + s <= vs.length) :
  (part T vs.toArray o).run P w = .ok (valOf r ((vs.drop o).take s)) w := by
 obtain ⟨d, i, hu, hi, hd, hsz⟩ := rowOf_ok h
 have hag := isAgg_run hu w
 rw [hd] at hag
 cases r with
 | true =>
  simp only [part, Sem.run_bind, hag, Result.andThen_ok, if_true, sizeOf, typeInfo, Sem.run_pure, valOf]
  simp only [program, Sem.run, hi, Result.andThen_ok, Sem.run_pure, hsz, List.extract_toArray, List.extract_eq_take_drop]
  simp
 | false =>
  have hs1 := hs rfl
  subst hs1
  have ho2 : o < vs.length := by omega
  simp only [part, Sem.run_bind, hag, Result.andThen_ok, valOf]
  simp [List.getElem?_eq_getElem ho2, List.take_one, List.head?_drop]
theorem run_equalIn_flat {P : Program} (w : World) : ∀ (d D : Nat) (T : TypeId) (m : Nat), flatN P d T = some m -> d <= D -> ∀ (r : Bool) (s : Nat), rowOf P T = some (r, s) -> ∀ (vs us : List Value), vs.length = m -> us.length = m -> all2 alike vs us = true →
  (Op.equalIn D T (valOf r vs) (valOf r us)).run P w = .ok (all2 eqv vs us) w
 | 0, _, _, _, h, _, _, _, _, _, _, _, _, _ => by simp [flatN] at h
 | d + 1, 0, _, _, _, h, _, _, _, _, _, _, _, _ => by omega
 | d + 1, D + 1, T, m, h, hD, r, s, hr, vs, us, hv, hu, hal => by
  obtain ⟨ds, i, hun, hi, hd, hsz⟩ := rowOf_ok hr
  simp only [flatN, hun] at h
  split at h
  ·-- an integer
   rename_i k hk
   simp only [Option.some.injEq] at hk
   subst hk
   simp only [Option.some.injEq] at h
   subst h
   simp only [TypeDesc.isRow] at hd
   subst hd
   match vs, hv, us, hu, hal with
   | [v], _, [u], _, hal =>
    simp only [all2, Bool.and_true] at hal
    cases v <;> cases u <;> simp only [alike, Bool.false_eq_true, beq_iff_eq] at hal
    subst hal
    simp [valOf, Op.equalIn, run_underlying hun, all2, eqv]
  ·-- a row
   rename_i n e hk
   simp only [Option.some.injEq] at hk
   subst hk
   split at h
   case h_2 => cases h
   rename_i re me me2 h1 h2
   split at h
   case isFalse => cases h
   rename_i hse
   subst hse
   simp only [Option.some.injEq] at h
   subst h
   simp only [TypeDesc.isRow] at hd
   subst hd
   obtain ⟨de, ie, hune, hie, hde, hsze⟩ := rowOf_ok h1
   have hs1 : re = false -> me = 1 := fun hre => by
    cases d with
    | zero => simp [flatN] at h2
    | succ d =>
     subst hre
     simp only [flatN, hune] at h2
     split at h2
     ·simpa using h2.symm
     ·rename_i hk; simp only [Option.some.injEq] at hk; subst hk; simp [TypeDesc.isRow] at hde
     ·rename_i hk; simp only [Option.some.injEq] at hk; subst hk; simp [TypeDesc.isRow] at hde
     ·cases h2
   rw [show valOf true vs = .agg vs.toArray from rfl, show valOf true us = .agg us.toArray from rfl, Op.equalIn]
   have hsizeOf : (sizeOf e).run P w = .ok me w := by simp [sizeOf, typeInfo, hie, hsze]
   simp only [Sem.run_bind, run_underlying hun, Result.andThen_ok, hsizeOf]
   have hm : ∀ i, i < n -> i * me + me <= n * me := fun i hi => by rw [<- Nat.succ_mul]; exact Nat.mul_le_mul_right me hi
   have hr := forIn_all (P := P) w (fun i (_ : Option Bool × Unit) => do
     let a <- part e vs.toArray (i * me)
     let b <- part e us.toArray (i * me)
     let c <- Op.equalIn D e a b
     if (!c) = true then pure (ForInStep.done (some false, ())) else pure (ForInStep.yield (none, ())))
    (fun i => all2 eqv ((vs.drop (i * me)).take me) ((us.drop (i * me)).take me)) n 0 (fun i s _ hi => by
     have hi2 : i < n := by omega
     have hb := hm i hi2
     simp only [Sem.run_bind, part_run h1 w vs (i * me) hs1 (by omega), part_run h1 w us (i * me) hs1 (by omega), Result.andThen_ok]
     rw [run_equalIn_flat w d D e me h2 (by omega) re me h1 _ _ (by simp; omega) (by simp; omega) (all2_sub vs us hal _ _)]
     simp only [Result.andThen_ok]
     cases all2 eqv ((vs.drop (i * me)).take me) ((us.drop (i * me)).take me) <;> simp)
   rw [all2_rounds eqv me n vs us hv hu]
   have ee : (forIn (m := Sem) [:n] ((none : Option Bool), ()) (fun i (_ : Option Bool × Unit) => do
     let a <- part e vs.toArray (i * me)
     let b <- part e us.toArray (i * me)
     let c <- Op.equalIn D e a b
     if (!c) = true then pure (ForInStep.done (some false, ())) else pure (ForInStep.yield (none, ())))) = forIn (List.range' 0 n 1) ((none : Option Bool), ()) (fun i (_ : Option Bool × Unit) => do
     let a <- part e vs.toArray (i * me)
     let b <- part e us.toArray (i * me)
     let c <- Op.equalIn D e a b
     if (!c) = true then pure (ForInStep.done (some false, ())) else pure (ForInStep.yield (none, ()))) := by
    rw [Std.Legacy.Range.forIn_eq_forIn_range']
    simp [Std.Legacy.Range.size]
   rw [<- ee] at hr
   refine (congrArg (fun r => Result.andThen r _) hr).trans ?_
   cases ((List.range' 0 n 1).all fun i => all2 eqv ((vs.drop (i * me)).take me) ((us.drop (i * me)).take me)) <;> simp
  ·-- a struct
   rename_i fs hk
   simp only [Option.some.injEq] at hk
   subst hk
   split at h
   ·cases h
   rename_i hst
   simp only [TypeDesc.isRow] at hd
   subst hd
   have hst' : P.stoodInHeld T = false := by simpa using hst
   rw [show valOf true vs = .agg vs.toArray from rfl, show valOf true us = .agg us.toArray from rfl, Op.equalIn]
   have hpr : (program).run P w = .ok P w := rfl
   simp only [Sem.run_bind, run_underlying hun, Result.andThen_ok, hpr, hst', Bool.false_eq_true, if_false]
   rw [<- Array.forIn_toList]
   refine (congrArg (fun r => Result.andThen r _) (forIn_fields w _ (fun f => all2 eqv ((vs.drop f.offset).take 1) ((us.drop f.offset).take 1)) fs.toList fun f hf st => ?_)).trans ?_
   ·obtain ⟨q1, q2, q3, q4⟩ := flatF_mem _ _ _ h f hf
    simp only [if_pos q1, Sem.run_bind, part_run q3 w vs f.offset (fun _ => rfl) (by omega), part_run q3 w us f.offset (fun _ => rfl) (by omega), Result.andThen_ok]
    rw [run_equalIn_flat w d D f.type 1 q4 (by omega) false 1 q3 _ _ (by simp; omega) (by simp; omega) (all2_sub vs us hal _ _)]
    simp only [Result.andThen_ok]
    cases all2 eqv ((vs.drop f.offset).take 1) ((us.drop f.offset).take 1) <;> simp
   ·rw [flatF_all eqv vs us fs.toList 0 m h hv hu]
    simp only [List.drop_zero]
    cases all2 eqv vs us <;> simp
  ·cases h
end Go.Proofs.YtcpchhigiohlnaaDoor.Ev
