/- Of the road to ctrCiphers_holds: EvFast, AesCipher, EvPart, EvPre, EvIn, CtrBlk, EvKeep, Range, CtrIter, Owns. -/
import Derived.Test.YtmpdmkckjajhiaaG03
import Derived.TacticsIn
import Derived.OrdersIn
import Derived.ControlIn
import Derived.RangeFuncNested
import Derived.RangeFuncBound
import Derived.RangeFuncCalls
import Derived.RangeFuncBox
import Derived.RangeFuncLeaves
import Derived.Shelf.Abstract
import Derived.Shelf.RegionOpen
import Derived.WalkKit
import Derived.OwnWalkIn
import Derived.TacticsInMore
import Derived.LoopNIn
import Derived.LoopIn
import Derived.Test.YtmpdmkckjajhiaaG00
import Derived.Laws.AppendOwnNone
set_option linter.unusedVariables false
set_option linter.unusedSimpArgs false
namespace Go.Proofs.Ytmpdmkckjajhiaa.Ev
open Go Go.RowKit
noncomputable section
def Ex.asLit (e : Ex) : Option Int := Ex.casesOn (motive := fun _ => Option Int) e some (fun _ => none) (fun _ _ _ _ => none) (fun _ _ _ _ => none) (fun _ _ _ => none) (fun _ _ => none) (fun _ _ => none) (fun _ _ _ => none)
theorem Ex.asLit_eq {e : Ex} {n : Int} (h : e.asLit = some n) : e = .lit n := by
  cases e <;> first | (cases h; rfl) | (cases h)
def SV.asInt (s : SV) : Option (IntKind × Ex) := SV.casesOn (motive := fun _ => Option (IntKind × Ex)) s (fun k e => some (k, e)) (fun _ => none) none (fun _ _ => none) none (fun _ _ => none) (fun _ _ _ _ => none) (fun _ _ _ _ => none) (fun _ => none) (fun _ _ => none) (fun _ => none) none (fun _ _ _ => none) (fun _ => none) (fun _ _ _ _ => none) (fun _ _ => none) (fun _ _ _ => none) none
theorem SV.asInt_eq {s : SV} {k : IntKind} {e : Ex} (h : s.asInt = some (k, e)) : s = .int k e := by
  cases s <;> first | (cases h; rfl) | (cases h)
def SV.asPtr (s : SV) : Option (Nat × Nat) := SV.casesOn (motive := fun _ => Option (Nat × Nat)) s (fun _ _ => none) (fun _ => none) none (fun _ _ => none) none (fun n o => some (n, o)) (fun _ _ _ _ => none) (fun _ _ _ _ => none) (fun _ => none) (fun _ _ => none) (fun _ => none) none (fun _ _ _ => none) (fun _ => none) (fun _ _ _ _ => none) (fun _ _ => none) (fun _ _ _ => none) none
def SV.asSl (s : SV) : Option (Nat × Nat × Nat) := SV.casesOn (motive := fun _ => Option (Nat × Nat × Nat)) s (fun _ _ => none) (fun _ => none) none (fun _ _ => none) none (fun _ _ => none) (fun n o l _ => some (n, o, l)) (fun n o _ l => some (n, o, l)) (fun _ => none) (fun _ _ => none) (fun _ => none) none (fun _ _ _ => none) (fun _ => none) (fun _ _ _ _ => none) (fun _ _ => none) (fun _ _ _ => none) none
def SV.asBool (s : SV) : Option Bool := SV.casesOn (motive := fun _ => Option Bool) s (fun _ _ => none) some none (fun _ _ => none) none (fun _ _ => none) (fun _ _ _ _ => none) (fun _ _ _ _ => none) (fun _ => none) (fun _ _ => none) (fun _ => none) none (fun _ _ _ => none) (fun _ => none) (fun _ _ _ _ => none) (fun _ _ => none) (fun _ _ _ => none) none
def AV.asSV (v : AV) : Option SV := AV.casesOn (motive := fun _ => Option SV) v (fun t => TV.casesOn (motive := fun _ => Option SV) t some (fun _ => none)) (fun _ => none)
theorem AV.asSV_eq {v : AV} {s : SV} (h : v.asSV = some s) : v = .tv (.sc s) := by
  rcases v with (x | l) | l <;> first | (cases h; rfl) | (cases h)
def AV.asInt (v : AV) : Option (IntKind × Ex) := v.asSV.bind SV.asInt
theorem AV.asInt_eq {v : AV} {k : IntKind} {e : Ex} (h : v.asInt = some (k, e)) : v = .tv (.sc (.int k e)) := by
  unfold AV.asInt at h
  rw [Option.bind_eq_some_iff] at h
  obtain ⟨s, h1, h2⟩ := h
  rw [AV.asSV_eq h1, SV.asInt_eq h2]
def nthF {α : Type} (l : List α) : Nat → Option α := List.rec (motive := fun _ => Nat → Option α) (fun _ => none) (fun x _ ih i => Nat.casesOn (motive := fun _ => Option α) i (some x) (fun j => ih j)) l
theorem nthF_eq {α : Type} : ∀ (l : List α) (i : Nat), nthF l i = l[i]?
  | [], i => by simp [nthF]
  | x :: l, 0 => rfl
  | x :: l, i + 1 => by rw [List.getElem?_cons_succ, ← nthF_eq l i]; rfl
def setF {α : Type} (l : List α) (v : α) : Nat → List α := List.rec (motive := fun _ => Nat → List α) (fun _ => []) (fun x r ih i => Nat.casesOn (motive := fun _ => List α) i (v :: r) (fun j => x :: ih j)) l
theorem setF_eq {α : Type} (v : α) : ∀ (l : List α) (i : Nat), setF l v i = l.set i v
  | [], i => by simp [setF]
  | x :: l, 0 => rfl
  | x :: l, i + 1 => by rw [List.set_cons_succ, ← setF_eq v l i]; rfl
theorem setF_over (v : SV) : ∀ (l : List SV) (i : Nat), setF l v i = over l i [v]
  | [], i => by simp [setF, over]
  | x :: l, 0 => by cases l <;> rfl
  | x :: l, i + 1 => by rw [over, ← setF_over v l i]; rfl
theorem set_over (v : SV) (l : List SV) (i : Nat) : l.set i v = over l i [v] := by rw [← setF_eq, setF_over]
def ofScalarF (v : Value) : Option SV := Value.casesOn (motive_1 := fun _ => Option SV) v (fun b => some (.bool b)) (fun k n => some (.int k (.lit n))) (fun _ _ => none) (fun _ _ _ => none) (fun s => some (.str (s.data.toList.map UInt8.toNat)))
  (fun a => Option.casesOn (motive := fun _ => Option SV) a (some .nilp) (fun _ => none)) (fun a l c => Option.casesOn (motive := fun _ => Option SV) a (some (.nils l c)) (fun _ => none)) (fun a => Option.casesOn (motive := fun _ => Option SV) a (some .nilm) (fun _ => none)) (fun _ => none) (fun _ _ _ => none) (some .nilf) (fun _ _ => none) (some .nili) (fun _ => none) (fun _ => none)
theorem ofScalarF_eq (v : Value) : ofScalarF v = ofScalar v := by
  cases v <;> first | rfl | (rename_i a; cases a <;> rfl) | (rename_i a l c; cases a <;> rfl)
def evGetF (t : Tm) (x : Operand) : Option AV :=
  match x with
  | .tmp i => t.get i
  | .const v => (ofScalarF v).map fun s => .tv (.sc s)
  | .func f => some (.tv (.sc (.clo f [])))
  | .global g => if g < nGl then some (.tv (.sc (.ptr g 0))) else none
theorem evGetF_eq (t : Tm) (x : Operand) : evGetF t x = evGet t x := by
  cases x <;> simp only [evGetF, evGet, ofScalarF_eq]
def gPtrF (t : Tm) (x : Operand) : Option (Nat × Nat) := (evGetF t x).bind fun v => v.asSV.bind SV.asPtr
theorem gPtrF_eq (t : Tm) (x : Operand) : gPtrF t x = gPtr t x := by
  unfold gPtrF gPtr
  rw [evGetF_eq]
  cases evGet t x with
  | none => rfl
  | some v =>
    rcases v with (s | l) | l
    · cases s <;> rfl
    · rfl
    · rfl
def kIdx (k : IntKind) : Nat := IntKind.casesOn (motive := fun _ => Nat) k 0 1 2 3 4 5 6 7
def kEq (k k' : IntKind) : Bool := Nat.beq (kIdx k) (kIdx k')
theorem kEq_eq (k k' : IntKind) : kEq k k' = decide (k = k') := by cases k <;> cases k' <;> rfl
def wrapF (k : IntKind) (n : Int) : Int := IntKind.casesOn (motive := fun _ => Int) k (IntKind.i8.wrap n) (IntKind.i16.wrap n) (IntKind.i32.wrap n) (IntKind.i64.wrap n) (n % 256) (n % 65536) (n % 4294967296) (n % 18446744073709551616)
theorem wrapF_eq (k : IntKind) (n : Int) : wrapF k n = k.wrap n := by
  cases k <;> first | rfl | (simp [wrapF, IntKind.wrap, IntKind.signed, IntKind.bits])
def ariF (op : BinOp) (k : IntKind) (x y : Int) : Int := BinOp.casesOn (motive := fun _ => Int) op (wrapF k (x + y)) (wrapF k (x - y)) (wrapF k (x * y)) (wrapF k (x.tdiv y)) (x.tmod y) (wrapF k (x * y)) (wrapF k (x * y)) (wrapF k (x * y)) (wrapF k (x * y)) (wrapF k (x * y)) (wrapF k (x * y)) (wrapF k (x * y)) (wrapF k (x * y)) (wrapF k (x * y)) (wrapF k (x * y)) (wrapF k (x * y)) (wrapF k (x * y))
theorem ariF_eq (op : BinOp) (k : IntKind) (x y : Int) : ariF op k x y = ariOf op k x y := by
  cases op <;> simp only [ariF, ariOf, wrapF_eq]
def natOf (k : IntKind) (x : Int) : Nat := (BitVec.ofInt k.bits x).toNat
def bitF (op : BinOp) (k : IntKind) (x y : Int) : Int := BinOp.casesOn (motive := fun _ => Int) op (bitsOf .add k x y) (bitsOf .sub k x y) (bitsOf .mul k x y) (bitsOf .quo k x y) (bitsOf .rem k x y) (wrapF k (Nat.land (natOf k x) (natOf k y) : Nat)) (wrapF k (Nat.lor (natOf k x) (natOf k y) : Nat)) (wrapF k (Nat.xor (natOf k x) (natOf k y) : Nat)) (bitsOf .shl k x y) (bitsOf .shr k x y) (bitsOf .andNot k x y) (bitsOf .eql k x y) (bitsOf .neq k x y) (bitsOf .lss k x y) (bitsOf .leq k x y) (bitsOf .gtr k x y) (bitsOf .geq k x y)
theorem bitF_eq (op : BinOp) (k : IntKind) (x y : Int) : bitF op k x y = bitsOf op k x y := by
  cases op <;> first | rfl | (simp only [bitF, wrapF_eq, natOf, bitsOf]; rfl)
def mkAriF (op : BinOp) (k : IntKind) (a b : Ex) : Ex :=
  match a.asLit with
  | some x => match b.asLit with | some y => .lit (ariF op k x y) | none => .ari op k a b
  | none => .ari op k a b
theorem mkAriF_eq (op : BinOp) (k : IntKind) (a b : Ex) : mkAriF op k a b = mkAri op k a b := by
  cases a <;> first | rfl | (cases b <;> first | rfl | (simp only [mkAriF, Ex.asLit, mkAri, ariF_eq]))
def mkBitF (op : BinOp) (k : IntKind) (a b : Ex) : Ex :=
  match a.asLit with
  | some x => match b.asLit with | some y => .lit (bitF op k x y) | none => .bit op k a b
  | none => .bit op k a b
theorem mkBitF_eq (op : BinOp) (k : IntKind) (a b : Ex) : mkBitF op k a b = mkBit op k a b := by
  cases a <;> first | rfl | (cases b <;> first | rfl | (simp only [mkBitF, Ex.asLit, mkBit, bitF_eq]))
def nmOfF (L : Lore) (e : Ex) : Ex := match e.asLit with | some n => .lit n | none => L.nm e
theorem nmOfF_eq (L : Lore) (e : Ex) : nmOfF L e = nmOf L e := by cases e <;> rfl
def iAri (op : BinOp) (k : IntKind) (a : Ex) (k' : IntKind) (b : Ex) : Option SV := Bool.casesOn (motive := fun _ => Option SV) (kEq k k') none (some (.int k (mkAriF op k a b)))
def iBit (L : Lore) (op : BinOp) (k : IntKind) (a : Ex) (k' : IntKind) (b : Ex) : Option SV := Bool.casesOn (motive := fun _ => Option SV) (kEq k k') none (some (.int k (nmOfF L (mkBitF op k a b))))
def iCmp (L : Lore) (op : BinOp) (k : IntKind) (a : Ex) (k' : IntKind) (b : Ex) : Option SV :=
  match a.asLit with
  | some x =>
    match b.asLit with
    | some y => Bool.casesOn (motive := fun _ => Option SV) (kEq k k') none ((cmpOf op x y).map .bool)
    | none => evInt L op k a k' b
  | none => evInt L op k a k' b
def evIntF (L : Lore) (op : BinOp) (k : IntKind) (a : Ex) (k' : IntKind) (b : Ex) : Option SV := BinOp.casesOn (motive := fun _ => Option SV) op
  (iAri .add k a k' b) (iAri .sub k a k' b) (iAri .mul k a k' b) (evInt L .quo k a k' b) (evInt L .rem k a k' b) (iBit L .and k a k' b) (iBit L .or k a k' b) (iBit L .xor k a k' b) (evInt L .shl k a k' b) (evInt L .shr k a k' b) (iBit L .andNot k a k' b)
  (iCmp L .eql k a k' b) (iCmp L .neq k a k' b) (iCmp L .lss k a k' b) (iCmp L .leq k a k' b) (iCmp L .gtr k a k' b) (iCmp L .geq k a k' b)
theorem boolCase {α : Type} (b : Bool) (x y : α) : (Bool.casesOn (motive := fun _ => α) b x y) = if b = true then y else x := by cases b <;> rfl
theorem iCmp_eq (L : Lore) (op : BinOp) (k : IntKind) (a : Ex) (k' : IntKind) (b : Ex) (h : ∀ x y, evInt L op k (.lit x) k' (.lit y) = if k = k' then (cmpOf op x y).map .bool else none) : iCmp L op k a k' b = evInt L op k a k' b := by
  unfold iCmp
  split
  · rename_i x hx
    split
    · rename_i y hy
      rw [Ex.asLit_eq hx, Ex.asLit_eq hy, h, boolCase, kEq_eq]
      simp
    · rfl
  · rfl
theorem evIntF_eq (L : Lore) (op : BinOp) (k : IntKind) (a : Ex) (k' : IntKind) (b : Ex) : evIntF L op k a k' b = evInt L op k a k' b := by
  cases op
  case add => show iAri .add k a k' b = _; unfold iAri evInt; rw [boolCase, kEq_eq, mkAriF_eq]; simp
  case sub => show iAri .sub k a k' b = _; unfold iAri evInt; rw [boolCase, kEq_eq, mkAriF_eq]; simp
  case mul => show iAri .mul k a k' b = _; unfold iAri evInt; rw [boolCase, kEq_eq, mkAriF_eq]; simp
  case and => show iBit L .and k a k' b = _; unfold iBit evInt; rw [boolCase, kEq_eq, mkBitF_eq, nmOfF_eq]; simp
  case or => show iBit L .or k a k' b = _; unfold iBit evInt; rw [boolCase, kEq_eq, mkBitF_eq, nmOfF_eq]; simp
  case xor => show iBit L .xor k a k' b = _; unfold iBit evInt; rw [boolCase, kEq_eq, mkBitF_eq, nmOfF_eq]; simp
  case andNot => show iBit L .andNot k a k' b = _; unfold iBit evInt; rw [boolCase, kEq_eq, mkBitF_eq, nmOfF_eq]; simp
  case eql => exact iCmp_eq L .eql k a k' b fun x y => rfl
  case neq => exact iCmp_eq L .neq k a k' b fun x y => rfl
  case lss => exact iCmp_eq L .lss k a k' b fun x y => rfl
  case leq => exact iCmp_eq L .leq k a k' b fun x y => rfl
  case gtr => exact iCmp_eq L .gtr k a k' b fun x y => rfl
  case geq => exact iCmp_eq L .geq k a k' b fun x y => rfl
  all_goals rfl
def evBinF (P : Program) (L : Lore) (op : BinOp) (T : TypeId) (x y : AV) : Option AV :=
  match x.asInt with
  | some p => match y.asInt with | some q => (evIntF L op p.1 p.2 q.1 q.2).map fun s => .tv (.sc s) | none => evBin P L op T x y
  | none => evBin P L op T x y
theorem evBinF_eq (P : Program) (L : Lore) (op : BinOp) (T : TypeId) (x y : AV) : evBinF P L op T x y = evBin P L op T x y := by
  unfold evBinF
  split
  · rename_i p hx
    split
    · rename_i q hy
      obtain ⟨k, a⟩ := p
      obtain ⟨k', b⟩ := q
      rw [AV.asInt_eq hx, AV.asInt_eq hy, evIntF_eq]
      rfl
    · rfl
  · rfl
def cell1 (H : List Blk) (p : Nat × Nat) : Option AV := (nthF H p.1).bind fun k => (nthF k.cells p.2).map fun s => .tv (.sc s)
theorem span_one (H : List Blk) (i o : Nat) : span H i o 1 = (H[i]?).bind fun k => (k.cells[o]?).map fun s => [s] := by
  unfold span
  cases hk : H[i]? with
  | none => rfl
  | some k =>
    simp only [Option.bind_some]
    cases hc : k.cells[o]? with
    | none =>
      have : k.cells.length ≤ o := by simpa using hc
      rw [List.drop_eq_nil_of_le this]
      simp
    | some x =>
      have hlt := (List.getElem?_eq_some_iff.1 hc).1
      have e : (k.cells.drop o).take 1 = [x] := by
        rw [List.drop_eq_getElem_cons hlt]
        simp [(List.getElem?_eq_some_iff.1 hc).2]
      rw [e]
      simp
def load1 (H : List Blk) (p : Nat × Nat) (r : Bool) (s : Nat) : Option AV := Bool.casesOn (motive := fun _ => Option AV) r (cell1 H p) ((span H p.1 p.2 s).map fun l => .tv (.agg l))
def evLoadF (P : Program) (t : Tm) (H : List Blk) (T : TypeId) (x : Operand) : Option AV :=
  match gPtrF t x with
  | some p => match rowOf P T with | some (r, s) => load1 H p r s | none => none
  | none => none
theorem evLoadF_eq (P : Program) (t : Tm) (H : List Blk) (T : TypeId) (x : Operand) : evLoadF P t H T x = evLoad P t H T x := by
  unfold evLoadF evLoad
  rw [gPtrF_eq]
  cases gPtr t x with
  | none => cases rowOf P T <;> rfl
  | some p =>
    obtain ⟨n, o⟩ := p
    cases rowOf P T with
    | none => rfl
    | some q =>
      obtain ⟨r, s⟩ := q
      cases r with
      | true => rfl
      | false =>
        show cell1 H (n, o) = _
        unfold cell1
        simp only [nthF_eq, span_one]
        cases H[n]? with
        | none => rfl
        | some k =>
          simp only [Option.bind_some]
          cases k.cells[o]? <;> rfl
def store1 (H : List Blk) (p : Nat × Nat) (v : SV) : Option (List Blk) :=
  match nthF H p.1 with
  | some k => match k.ro with
    | false => match nthF k.cells p.2 with
      | some _ => some (setF H ⟨false, k.pl && v.plain, 0, setF k.cells v p.2⟩ p.1)
      | none => none
    | true => none
  | none => none
def evStoreF (P : Program) (t : Tm) (H : List Blk) (T : TypeId) (x y : Operand) : Option (List Blk) :=
  match (evGetF t y).bind AV.asSV with
  | some v =>
    match gPtrF t x with
    | some p => match rowOf P T with
      | some (_, s) => match Nat.beq s 1 with | true => store1 H p v | false => evStore P t H T x y
      | none => none
    | none => none
  | none => evStore P t H T x y
theorem evStoreF_eq (P : Program) (t : Tm) (H : List Blk) (T : TypeId) (x y : Operand) : evStoreF P t H T x y = evStore P t H T x y := by
  unfold evStoreF
  rw [evGetF_eq, gPtrF_eq]
  split
  case h_2 => rfl
  rename_i v hv
  rw [Option.bind_eq_some_iff] at hv
  obtain ⟨av, hv1, hv2⟩ := hv
  have hc : gCells t y = some [v] := by unfold gCells; rw [hv1, AV.asSV_eq hv2]
  cases hp : gPtr t x with
  | none => unfold evStore; rw [hp]
  | some p =>
    obtain ⟨n, o⟩ := p
    cases hr : rowOf P T with
    | none => unfold evStore; rw [hp, hc, hr]
    | some q =>
      obtain ⟨r, s⟩ := q
      simp only
      cases hb : Nat.beq s 1 with
      | false => rfl
      | true =>
        have hs : s = 1 := Nat.eq_of_beq_eq_true hb
        subst hs
        unfold evStore store1
        rw [hp, hc, hr]
        simp only [nthF_eq, setF_eq]
        cases hk : H[n]? with
        | none => rfl
        | some k =>
          simp only
          cases hro : k.ro with
          | true => simp
          | false =>
            simp only
            cases hcell : k.cells[o]? with
            | none =>
              have : k.cells.length ≤ o := by simpa using hcell
              rw [if_neg]
              rintro ⟨_, _, _, h4⟩
              rw [List.drop_eq_nil_of_le this] at h4
              simp at h4
            | some z =>
              have hlt := (List.getElem?_eq_some_iff.1 hcell).1
              rw [if_pos ⟨by simp, rfl, by decide, by rw [List.length_take, List.length_drop]; omega⟩]
              simp [set_over]
def idx2 (r : Option (Bool × Nat)) (m o n : Nat) (j : Int) : Option AV :=
  match r with
  | some q => Int.casesOn (motive := fun _ => Option AV) j (fun a => match Nat.blt a n with | true => some (.tv (.sc (.ptr m (o + a * q.2)))) | false => none) (fun _ => none)
  | none => none
theorem idx2_eq (r : Option (Bool × Nat)) (m o n : Nat) (j : Int) : idx2 r m o n j = (match r with
    | some (_, s) => if 0 ≤ j ∧ j < n then some (.tv (.sc (.ptr m (o + j.toNat * s)))) else none
    | none => none) := by
  cases r with
  | none => rfl
  | some q =>
    obtain ⟨q1, q2⟩ := q
    cases j with
    | ofNat a =>
      simp only [idx2]
      by_cases h : a < n
      · have hb : Nat.blt a n = true := Nat.ble_eq_true_of_le h
        rw [hb, if_pos ⟨by simp, by simpa using h⟩]
        rfl
      · have hb : Nat.blt a n = false := by
          cases hq : Nat.blt a n with
          | false => rfl
          | true => exact absurd (Nat.le_of_ble_eq_true hq) h
        rw [hb, if_neg (fun q => h (by simpa using q.2))]
    | negSucc a =>
      simp only [idx2]
      rw [if_neg (fun q => by simp at q)]
def descArr (d : TypeDesc) : Option (Nat × TypeId) := TypeDesc.casesOn (motive := fun _ => Option (Nat × TypeId)) d none none (fun _ => none) (fun _ => none) (fun _ => none) none none (fun _ => none) (fun _ => none) (fun n e => some (n, e)) (fun _ _ => none) (fun _ _ => none) (fun _ => none) (fun _ _ _ => none) (fun _ => none) (fun _ => none) (fun _ _ => none)
def descSl (d : TypeDesc) : Option TypeId := TypeDesc.casesOn (motive := fun _ => Option TypeId) d none none (fun _ => none) (fun _ => none) (fun _ => none) none none (fun _ => none) (fun e => some e) (fun _ _ => none) (fun _ _ => none) (fun _ _ => none) (fun _ => none) (fun _ _ _ => none) (fun _ => none) (fun _ => none) (fun _ _ => none)
def descInt (d : TypeDesc) : Option IntKind := TypeDesc.casesOn (motive := fun _ => Option IntKind) d none none (fun k => some k) (fun _ => none) (fun _ => none) none none (fun _ => none) (fun _ => none) (fun _ _ => none) (fun _ _ => none) (fun _ _ => none) (fun _ => none) (fun _ _ _ => none) (fun _ => none) (fun _ => none) (fun _ _ => none)
def idxF (P : Program) (d : TypeDesc) (s : SV) (j : Int) : Option AV :=
  match s.asPtr with
  | some p => match descArr d with | some q => idx2 (rowOf P q.2) p.1 p.2 q.1 j | none => none
  | none => match s.asSl with
    | some p => match descSl d with | some e => idx2 (rowOf P e) p.1 p.2.1 p.2.2 j | none => none
    | none => none
def evIndexAddrF (P : Program) (T : TypeId) (x i : AV) : Option AV :=
  match i.asInt.bind (fun p => p.2.asLit) with
  | some j => match x.asSV with
    | some s => match P.underlying T with | some d => idxF P d s j | none => none
    | none => none
  | none => none
theorem evIndexAddrF_eq (P : Program) (T : TypeId) (x i : AV) : evIndexAddrF P T x i = evIndexAddr P T x i := by
  unfold evIndexAddrF
  cases hj : i.asInt.bind (fun p => p.2.asLit) with
  | none =>
    simp only
    unfold evIndexAddr
    split
    all_goals first | rfl | (exfalso; simp [AV.asInt, AV.asSV, SV.asInt, Ex.asLit] at hj)
  | some j =>
    rw [Option.bind_eq_some_iff] at hj
    obtain ⟨⟨k, e⟩, h1, h2⟩ := hj
    have hi : i = .tv (.sc (.int k (.lit j))) := by rw [AV.asInt_eq h1, Ex.asLit_eq (show e.asLit = some j from h2)]
    subst hi
    simp only
    rcases x with (s | l) | l
    · simp only [AV.asSV]
      cases hd : P.underlying T with
      | none => simp only [evIndexAddr, hd]
      | some d =>
        simp only
        cases d <;> cases s <;> simp only [evIndexAddr, hd, idxF, SV.asPtr, SV.asSl, descArr, descSl, idx2_eq] <;> rfl
    · simp only [AV.asSV, evIndexAddr]
      cases P.underlying T with
      | none => rfl
      | some d => cases d <;> rfl
    · simp only [AV.asSV, evIndexAddr]
      cases P.underlying T with
      | none => rfl
      | some d => cases d <;> rfl
def evConvF (P : Program) (t : Tm) (H : List Blk) (src dst : TypeId) (x : Operand) : Option (AV × List Blk) :=
  match (evGetF t x).bind AV.asInt with
  | some q => match P.underlying src with
    | some _ => match (P.underlying dst).bind descInt with
      | some k => some (.tv (.sc (.int k (mkCon k q.2))), H)
      | none => evConvX P t H src dst x
    | none => evConvX P t H src dst x
  | none => evConvX P t H src dst x
theorem evConvF_eq (P : Program) (t : Tm) (H : List Blk) (src dst : TypeId) (x : Operand) : evConvF P t H src dst x = evConvX P t H src dst x := by
  unfold evConvF
  rw [evGetF_eq]
  split
  case h_2 => rfl
  rename_i q hq
  split
  case h_2 => rfl
  rename_i d hd
  split
  case h_2 => rfl
  rename_i k hk
  rw [Option.bind_eq_some_iff] at hq hk
  obtain ⟨v, h1, h2⟩ := hq
  obtain ⟨k0, e⟩ := q
  have hv := AV.asInt_eq h2
  subst hv
  obtain ⟨d2, h3, h4⟩ := hk
  have hd2 : d2 = .int k := by cases d2 <;> first | (cases h4; rfl) | (cases h4)
  subst hd2
  unfold evConvX
  rw [hd, h3, h1]
  cases d <;> simp only [evConv, hd, h3] <;> rfl
abbrev StepT := CallF → Program → Lore → Tm → List Blk → Option (AV × List Blk)
def rdH (r : Option AV) (H : List Blk) : Option (AV × List Blk) := r.map fun v => (v, H)
def evBinOF (P : Program) (L : Lore) (op : BinOp) (T : TypeId) (x y : Operand) (a b : AV) : Option AV := Option.casesOn (motive := fun _ => Option AV) (evBinF P L op T a b) (evNil P op T x y a b) (fun r => some r)
theorem evBinOF_eq (P : Program) (L : Lore) (op : BinOp) (T : TypeId) (x y : Operand) (a b : AV) : evBinOF P L op T x y a b = evBinO P L op T x y a b := by
  unfold evBinOF evBinO
  rw [evBinF_eq]
  cases evBin P L op T a b <;> rfl
def fBin (P : Program) (L : Lore) (t : Tm) (op : BinOp) (T : TypeId) (x y : Operand) : Option AV := match evGetF t x with | some a => (match evGetF t y with | some b => evBinOF P L op T x y a b | none => none) | none => none
def fIdx (P : Program) (t : Tm) (T : TypeId) (x i : Operand) : Option AV := match evGetF t x with | some a => (match evGetF t i with | some b => evIndexAddrF P T a b | none => none) | none => none
def fStore (P : Program) (t : Tm) (H : List Blk) (T : TypeId) (x y : Operand) : Option (AV × List Blk) := (evStoreF P t H T x y).map fun H' => (.tup [], H')
def fCallV (call : CallF) (P : Program) (t : Tm) (H : List Blk) (f : Operand) (c : Call) : Option (AV × List Blk) :=
  match evGet t f, seqO (c.args.toList.map (evGet t)) with
  | some (.tv (.sc (.clo g caps))), some aas => if canCall P g then call g (aas ++ ptrs caps) H else none
  | _, _ => none
def old (op : Op) : StepT := fun call P L t H => evStepX op call P L t H
def evStepF (op : Op) : StepT := Op.casesOn (motive := fun _ => StepT) op
  (fun x _ _ _ t H => rdH (evGetF t x) H)
  (fun x _ _ _ t H => rdH (evGetF t x) H)
  (fun c a b => old (.pick c a b))
  (fun T => old (.alloc T))
  (fun T x => old (.box T x))
  (fun T ps _ P _ t H => rdH (evBuild P t T ps.toList) H)
  (fun T n ps => old (.buildSlice T n ps))
  (fun a b c d => old (.insert a b c d))
  (fun T x _ P _ t H => rdH (evLoadF P t H T x) H)
  (fun T x y _ P _ t H => fStore P t H T x y)
  (fun g => old (.ready g))
  (fun g => old (.waits g))
  (fun x => old (.nilCheck x))
  (fun op T x y _ _ P L t H => rdH (fBin P L t op T x y) H)
  (fun op T x => old (.unOp op T x))
  (fun s d x _ P _ t H => evConvF P t H s d x)
  (fun T x => old (.sliceToArrayPointer T x))
  (fun T x => old (.makeInterface T x))
  (fun f a c => old (.makeFunc f a c))
  (fun T r => old (.makeMap T r))
  (fun T r => old (.makeChan T r))
  (fun T x y => old (.makeSlice T x y))
  (fun T x l h m _ P _ t H => rdH (evSlice P t T x l h m) H)
  (fun T x f => old (.fieldAddr T x f))
  (fun T x f => old (.field T x f))
  (fun T x i _ P _ t H => rdH (fIdx P t T x i) H)
  (fun T x i => old (.index T x i))
  (fun a b c d => old (.lookup a b c d))
  (fun a b c d => old (.mapUpdate a b c d))
  (fun a b c => old (.mapEntry a b c))
  (fun a b c d => old (.entryStore a b c d))
  (fun a b => old (.range a b))
  (fun a b => old (.next a b))
  (fun a => old (.entry a))
  (fun a b c d => old (.typeAssert a b c d))
  (fun x i => old (.extract x i))
  (fun c => old (.call c))
  (fun c => old (.go c))
  (fun c => old (.defer c))
  (fun x => old (.panic x))
  (fun a b => old (.send a b))
  (fun a b c => old (.recv a b c))
  (fun a b => old (.select a b))
theorem fBin_eq (P : Program) (L : Lore) (t : Tm) (op : BinOp) (T : TypeId) (x y : Operand) : fBin P L t op T x y = match evGet t x, evGet t y with | some a, some b => evBinO P L op T x y a b | _, _ => none := by
  unfold fBin
  rw [evGetF_eq, evGetF_eq]
  cases evGet t x <;> cases evGet t y <;> simp only [evBinOF_eq]
theorem fIdx_eq (P : Program) (t : Tm) (T : TypeId) (x i : Operand) : fIdx P t T x i = match evGet t x, evGet t i with | some a, some b => evIndexAddr P T a b | _, _ => none := by
  unfold fIdx
  rw [evGetF_eq, evGetF_eq]
  cases evGet t x <;> cases evGet t i <;> simp only [evIndexAddrF_eq]
theorem evStepF_eq (op : Op) (call : CallF) (P : Program) (L : Lore) (t : Tm) (H : List Blk) : evStepF op call P L t H = evStepX op call P L t H := by
  cases op
  case move x => show rdH (evGetF t x) H = _; rw [evGetF_eq]; rfl
  case assign x => show rdH (evGetF t x) H = _; rw [evGetF_eq]; rfl
  case load T x => show rdH (evLoadF P t H T x) H = _; rw [evLoadF_eq]; rfl
  case store T x y => show fStore P t H T x y = _; unfold fStore; rw [evStoreF_eq]; rfl
  case binOp op T x y T' => show rdH (fBin P L t op T x y) H = _; rw [fBin_eq]; rfl
  case convert s d x => show evConvF P t H s d x = _; rw [evConvF_eq]; rfl
  case indexAddr T x i => show rdH (fIdx P t T x i) H = _; rw [fIdx_eq]; rfl
  all_goals rfl
abbrev ReadT := Program → Lore → Tm → List Blk → Option AV
def convR (P : Program) (s d : TypeId) (a : AV) : Option AV :=
  match a.asInt with
  | some q => match P.underlying s with
    | some _ => match (P.underlying d).bind descInt with | some k => some (.tv (.sc (.int k (mkCon k q.2)))) | none => evConv P s d a
    | none => evConv P s d a
  | none => evConv P s d a
theorem convR_eq (P : Program) (s d : TypeId) (a : AV) : convR P s d a = evConv P s d a := by
  unfold convR
  split
  case h_2 => rfl
  rename_i q hq
  split
  case h_2 => rfl
  rename_i d1 hd
  split
  case h_2 => rfl
  rename_i k hk
  rw [Option.bind_eq_some_iff] at hk
  obtain ⟨k0, e⟩ := q
  have hv := AV.asInt_eq hq
  subst hv
  obtain ⟨d2, h3, h4⟩ := hk
  have hd2 : d2 = .int k := by cases d2 <;> first | (cases h4; rfl) | (cases h4)
  subst hd2
  simp only [evConv, hd, h3]
def fConvR (P : Program) (t : Tm) (s d : TypeId) (x : Operand) : Option AV := match evGetF t x with | some a => convR P s d a | none => none
def oldR (op : Op) : ReadT := fun P L t H => evReadX op P L t H
def evReadF (op : Op) : ReadT := Op.casesOn (motive := fun _ => ReadT) op
  (fun x _ _ t _ => evGetF t x)
  (fun x _ _ t _ => evGetF t x)
  (fun c a b => oldR (.pick c a b))
  (fun T => oldR (.alloc T))
  (fun T x => oldR (.box T x))
  (fun T ps P _ t _ => evBuild P t T ps.toList)
  (fun T n ps => oldR (.buildSlice T n ps))
  (fun a b c d => oldR (.insert a b c d))
  (fun T x P _ t H => evLoadF P t H T x)
  (fun T x y => oldR (.store T x y))
  (fun g => oldR (.ready g))
  (fun g => oldR (.waits g))
  (fun x => oldR (.nilCheck x))
  (fun op T x y _ P L t _ => fBin P L t op T x y)
  (fun op T x => oldR (.unOp op T x))
  (fun s d x P _ t _ => fConvR P t s d x)
  (fun T x => oldR (.sliceToArrayPointer T x))
  (fun T x => oldR (.makeInterface T x))
  (fun f a c => oldR (.makeFunc f a c))
  (fun T r => oldR (.makeMap T r))
  (fun T r => oldR (.makeChan T r))
  (fun T x y => oldR (.makeSlice T x y))
  (fun T x l h m P _ t _ => evSlice P t T x l h m)
  (fun T x f => oldR (.fieldAddr T x f))
  (fun T x f => oldR (.field T x f))
  (fun T x i P _ t _ => fIdx P t T x i)
  (fun T x i => oldR (.index T x i))
  (fun a b c d => oldR (.lookup a b c d))
  (fun a b c d => oldR (.mapUpdate a b c d))
  (fun a b c => oldR (.mapEntry a b c))
  (fun a b c d => oldR (.entryStore a b c d))
  (fun a b => oldR (.range a b))
  (fun a b => oldR (.next a b))
  (fun a => oldR (.entry a))
  (fun a b c d => oldR (.typeAssert a b c d))
  (fun x i => oldR (.extract x i))
  (fun c => oldR (.call c))
  (fun c => oldR (.go c))
  (fun c => oldR (.defer c))
  (fun x => oldR (.panic x))
  (fun a b => oldR (.send a b))
  (fun a b c => oldR (.recv a b c))
  (fun a b => oldR (.select a b))
theorem evReadF_eq (op : Op) (P : Program) (L : Lore) (t : Tm) (H : List Blk) : evReadF op P L t H = evReadX op P L t H := by
  cases op
  case move x => exact evGetF_eq t x
  case assign x => exact evGetF_eq t x
  case load T x => exact evLoadF_eq P t H T x
  case binOp op T x y T' => exact fBin_eq P L t op T x y
  case convert s d x =>
    show fConvR P t s d x = _
    unfold fConvR
    rw [evGetF_eq]
    cases hx : evGet t x with
    | none => simp only [evReadX, hx]
    | some a => simp only [evReadX, hx, convR_eq]
  case indexAddr T x i => exact fIdx_eq P t T x i
  all_goals rfl
def opF (call : CallF) (P : Program) (L : Lore) (ops : Array Oper) (o : Oper) (ih : Tm → List Blk → Option (Tm × List Blk)) (t : Tm) (H : List Blk) : Option (Tm × List Blk) :=
  match wantA ops t o with
  | some b => Bool.casesOn (motive := fun _ => Option (Tm × List Blk)) b (ih (putA t o.dst (.tup [])) H) (match evStepF o.op call P L t H with | some r => ih (putA t o.dst r.1) r.2 | none => none)
  | none => none
def opsF (call : CallF) (P : Program) (L : Lore) (ops : Array Oper) (l : List Oper) : Tm → List Blk → Option (Tm × List Blk) :=
  List.rec (motive := fun _ => Tm → List Blk → Option (Tm × List Blk)) (fun t H => some (t, H)) (fun o _ ih t H => opF call P L ops o ih t H) l
theorem opsF_eq (call : CallF) (P : Program) (L : Lore) (ops : Array Oper) : ∀ (l : List Oper) (t : Tm) (H : List Blk), opsF call P L ops l t H = evOps call P L ops l t H
  | [], _, _ => rfl
  | o :: r, t, H => by
    show opF call P L ops o (opsF call P L ops r) t H = _
    unfold opF
    simp only [evOps, evStep, evStepF_eq]
    cases wantA ops t o with
    | none => rfl
    | some b =>
      cases b with
      | false => exact opsF_eq call P L ops r _ _
      | true =>
        simp only
        cases evStepX o.op call P L t H with
        | none => rfl
        | some q => exact opsF_eq call P L ops r _ _
abbrev RunA := Tm → List (Nat × Nat × Nat) → Option (Tm × List (Nat × Nat × Nat))
def takeF (P : Program) (Lo : Lore) (ops : Array Oper) (H : List Blk) (o : Oper) (ih : RunA) (t : Tm) (L : List (Nat × Nat × Nat)) : Option (Tm × List (Nat × Nat × Nat)) :=
  match wantA ops t o with
  | some b => Bool.casesOn (motive := fun _ => Option (Tm × List (Nat × Nat × Nat))) b (ih (putA t o.dst (.tup [])) L) (match evReadF o.op P Lo t H with | some v => ih (putA t o.dst v) (addSpan P t o.op L) | none => none)
  | none => none
def runAF (P : Program) (Lo : Lore) (ops : Array Oper) (H : List Blk) (l : List Nat) : RunA :=
  List.rec (motive := fun _ => RunA) (fun t L => some (t, L)) (fun i _ ih t L => match ops[i]? with | some o => takeF P Lo ops H o ih t L | none => none) l
theorem runAF_eq (P : Program) (Lo : Lore) (ops : Array Oper) (H : List Blk) : ∀ (l : List Nat) (t : Tm) (L : List (Nat × Nat × Nat)), runAF P Lo ops H l t L = runA P Lo ops H l t L
  | [], _, _ => rfl
  | i :: r, t, L => by
    show (match ops[i]? with | some o => takeF P Lo ops H o (runAF P Lo ops H r) t L | none => none) = _
    simp only [runA]
    cases ops[i]? with
    | none => rfl
    | some o =>
      simp only [takeF, evRead, evReadF_eq]
      cases wantA ops t o with
      | none => rfl
      | some b =>
        cases b with
        | false => exact runAF_eq P Lo ops H r _ _
        | true =>
          simp only
          cases evReadX o.op P Lo t H with
          | none => rfl
          | some q => exact runAF_eq P Lo ops H r _ _
abbrev RunB := Bool → Tm → List Blk → Option (Tm × List Blk)
def takeB (P : Program) (Lo : Lore) (ops : Array Oper) (o : Oper) (ih : RunB) (late : Bool) (t : Tm) (H : List Blk) : Option (Tm × List Blk) :=
  match wantA ops t o with
  | some b => Bool.casesOn (motive := fun _ => Option (Tm × List Blk)) b (ih late (putA t o.dst (.tup [])) H) (match evReadF o.op P Lo t [] with | some v => ih late (putA t o.dst v) H | none => none)
  | none => none
def doB (call : CallF) (P : Program) (Lo : Lore) (ops : Array Oper) (H0 : List Blk) (L : List (Nat × Nat × Nat)) (wt : Bool) (o : Oper) (ih : RunB) (late : Bool) (t : Tm) (H : List Blk) : Option (Tm × List Blk) :=
  match wantA ops t o with
  | some b => Bool.casesOn (motive := fun _ => Option (Tm × List Blk)) b (ih (late || wt) (putA t o.dst (.tup [])) H)
    (match evStepF o.op call P Lo t H with | some r => Bool.casesOn (motive := fun _ => Option (Tm × List Blk)) (late || wt || keeps L H0 r.2) none (ih (late || wt) (putA t o.dst r.1) r.2) | none => none)
  | none => none
def runBF (call : CallF) (P : Program) (Lo : Lore) (ops : Array Oper) (H0 : List Blk) (N : List Nat) (L : List (Nat × Nat × Nat)) (l : List (Nat × Bool)) : RunB :=
  List.rec (motive := fun _ => RunB) (fun _ t H => some (t, H)) (fun q _ ih late t H => match ops[q.1]? with
    | some o => Bool.casesOn (motive := fun _ => Option (Tm × List Blk)) q.2 (doB call P Lo ops H0 L (waits ops N q.1) o ih late t H) (takeB P Lo ops o ih late t H)
    | none => none) l
theorem runBF_eq (call : CallF) (P : Program) (Lo : Lore) (ops : Array Oper) (H0 : List Blk) (N : List Nat) (L : List (Nat × Nat × Nat)) : ∀ (l : List (Nat × Bool)) (late : Bool) (t : Tm) (H : List Blk), runBF call P Lo ops H0 N L l late t H = runB call P Lo ops H0 N L l late t H
  | [], _, _, _ => rfl
  | (i, true) :: r, late, t, H => by
    show (match ops[i]? with | some o => takeB P Lo ops o (runBF call P Lo ops H0 N L r) late t H | none => none) = _
    simp only [runB]
    cases ops[i]? with
    | none => rfl
    | some o =>
      simp only [takeB, evRead, evReadF_eq]
      cases wantA ops t o with
      | none => rfl
      | some b =>
        cases b with
        | false => exact runBF_eq call P Lo ops H0 N L r _ _ _
        | true =>
          simp only
          cases evReadX o.op P Lo t [] with
          | none => rfl
          | some q => exact runBF_eq call P Lo ops H0 N L r _ _ _
  | (i, false) :: r, late, t, H => by
    show (match ops[i]? with | some o => doB call P Lo ops H0 L (waits ops N i) o (runBF call P Lo ops H0 N L r) late t H | none => none) = _
    simp only [runB]
    cases ops[i]? with
    | none => rfl
    | some o =>
      simp only [doB, evStep, evStepF_eq]
      cases wantA ops t o with
      | none => rfl
      | some b =>
        cases b with
        | false => exact runBF_eq call P Lo ops H0 N L r _ _ _
        | true =>
          simp only
          cases evStepX o.op call P Lo t H with
          | none => rfl
          | some q =>
            simp only [boolCase]
            rw [runBF_eq call P Lo ops H0 N L r _ _ _]
def evPlanF (call : CallF) (P : Program) (Lo : Lore) (ops : Array Oper) (t : Tm) (H : List Blk) : Option (Tm × List Blk) :=
  match planOf P ops with
  | some q => match runAF P Lo ops H q.1 t [] with | some r => runBF call P Lo ops H q.2.1 r.2 q.2.2 false r.1 H | none => none
  | none => evDraw call P Lo ops t H
theorem evPlanF_eq (call : CallF) (P : Program) (Lo : Lore) (ops : Array Oper) (t : Tm) (H : List Blk) : evPlanF call P Lo ops t H = evPlan call P Lo ops t H := by
  unfold evPlanF evPlan
  cases planOf P ops with
  | none => rfl
  | some q =>
    obtain ⟨A, N, bp⟩ := q
    simp only [runAF_eq]
    cases runA P Lo ops H A t [] with
    | none => rfl
    | some r =>
      obtain ⟨t1, L⟩ := r
      simp only [runBF_eq]
abbrev OutT := Option (Out × Tm × List Blk)
def normalOut (r : Option (Tm × List Blk)) : OutT := match r with | some q => some (.normal, q.1, q.2) | none => none
def cSeq (self : CodeF) (a b : Code) (t : Tm) (H : List Blk) : OutT := match self a t H with | some q => Out.casesOn (motive := fun _ => OutT) q.1 (self b q.2.1 q.2.2) (fun i => some (.exit i, q.2.1, q.2.2)) (some (.ret, q.2.1, q.2.2)) | none => none
def cCond (self : CodeF) (c : Operand) (x y : Code) (t : Tm) (H : List Blk) : OutT := match (evGetF t c).bind fun v => v.asSV.bind SV.asBool with | some b => Bool.casesOn (motive := fun _ => OutT) b (self y t H) (self x t H) | none => none
def cBlock (self : CodeF) (id : Nat) (c : Code) (t : Tm) (H : List Blk) : OutT := match self c t H with | some q => Out.casesOn (motive := fun _ => OutT) q.1 (some (.normal, q.2.1, q.2.2)) (fun i => Bool.casesOn (motive := fun _ => OutT) (Nat.beq i id) (some (.exit i, q.2.1, q.2.2)) (some (.normal, q.2.1, q.2.2))) (some (.ret, q.2.1, q.2.2)) | none => none
def cLoop (self : CodeF) (c : Code) (t : Tm) (H : List Blk) : OutT := match self c t H with | some q => Out.casesOn (motive := fun _ => OutT) q.1 (self (.loop c) q.2.1 q.2.2) (fun i => some (.exit i, q.2.1, q.2.2)) (some (.ret, q.2.1, q.2.2)) | none => none
def codeStepF (P : Program) (L : Lore) (call : CallF) (self : CodeF) (c : Code) : Tm → List Blk → OutT := Code.casesOn (motive := fun _ => Tm → List Blk → OutT) c
  (fun t H => some (.normal, t, H))
  (fun _ ops draw t H => Bool.casesOn (motive := fun _ => OutT) draw (normalOut (opsF call P L ops ops.toList t H)) (normalOut (evPlanF call P L ops t H)))
  (fun a b => cSeq self a b)
  (fun c x y => cCond self c x y)
  (fun id c => cBlock self id c)
  (fun c => cLoop self c)
  (fun _ _ _ _ _ _ => none)
  (fun id t H => some (.exit id, t, H))
  (fun c => self c) (fun _ t H => some (.normal, t, H)) (fun _ _ _ => none)
  (fun t H => some (.ret, t, H))
  (fun _ _ _ => none)
theorem codeStepF_eq (P : Program) (L : Lore) (call : CallF) (self : CodeF) (c : Code) (t : Tm) (H : List Blk) : codeStepF P L call self c t H = codeStep P L call self c t H := by
  cases c
  case region id ops draw =>
    cases draw with
    | false =>
      show normalOut (opsF call P L ops ops.toList t H) = _
      rw [opsF_eq]
      simp only [codeStep]
      cases evOps call P L ops ops.toList t H <;> rfl
    | true =>
      show normalOut (evPlanF call P L ops t H) = _
      rw [evPlanF_eq]
      simp only [codeStep]
      cases evPlan call P L ops t H <;> rfl
  case seq a b =>
    show cSeq self a b t H = _
    simp only [cSeq, codeStep]
    cases self a t H with
    | none => rfl
    | some q =>
      obtain ⟨o, t1, H1⟩ := q
      cases o <;> rfl
  case cond c x y =>
    show cCond self c x y t H = _
    simp only [cCond, codeStep, evGetF_eq]
    cases evGet t c with
    | none => rfl
    | some v =>
      rcases v with (s | l) | l
      · cases s <;> first | rfl | (rename_i b; cases b <;> rfl)
      · rfl
      · rfl
  case block id c =>
    show cBlock self id c t H = _
    simp only [cBlock, codeStep]
    cases self c t H with
    | none => rfl
    | some q =>
      obtain ⟨o, t1, H1⟩ := q
      cases o with
      | normal => rfl
      | ret => rfl
      | exit i =>
        simp only [boolCase]
        by_cases e : i = id
        · subst e; simp
        · have : Nat.beq i id = false := by
            cases hq : Nat.beq i id with
            | false => rfl
            | true => exact absurd (Nat.eq_of_beq_eq_true hq) e
          simp [this, e]
  case loop c =>
    show cLoop self c t H = _
    simp only [cLoop, codeStep]
    cases self c t H with
    | none => rfl
    | some q =>
      obtain ⟨o, t1, H1⟩ := q
      cases o <;> rfl
  all_goals rfl
def evGF (P : Program) (L : Lore) (mk : CodeF → CallF) (n : Nat) : CodeF := Nat.rec (motive := fun _ => CodeF) (fun _ _ _ => none) (fun _ ih => codeStepF P L (mk ih) ih) n
theorem evGF_eq (P : Program) (L : Lore) (mk : CodeF → CallF) : ∀ n, evGF P L mk n = evG P L mk n
  | 0 => rfl
  | n + 1 => by
    show codeStepF P L (mk (evGF P L mk n)) (evGF P L mk n) = _
    rw [evGF_eq P L mk n]
    funext c t H
    rw [codeStepF_eq]
    rfl
def evCF (P : Program) (L : Lore) (con : ConF) (n : Nat) : CodeF := evGF P L (callStep P con) n
theorem evCF_eq (P : Program) (L : Lore) (con : ConF) (n : Nat) : evCF P L con n = evC P L con n := evGF_eq P L _ n
def mkT (P : Program) (con : ConF) (tab : CallF) : CodeF → CallF := fun self g xs H => match tab g xs H with | some r => some r | none => callStep P con self g xs H
theorem mkT_ok {P : Program} {ρ : Env} {con : ConF} (hcon : ConOk P ρ con) {tab : CallF} (htab : CallOk P ρ tab) (self : CodeF) (hs : CodeOk P ρ self) : CallOk P ρ (mkT P con tab self) := by
  intro g xs H v H' h
  unfold mkT at h
  split at h
  · rename_i r hr
    cases h
    exact htab g xs H v H' hr
  · exact callStep_ok hcon hs g xs H v H' h
def evCallT (P : Program) (L : Lore) (con : ConF) (tab : CallF) (n : Nat) : CallF := mkT P con tab (evGF P L (mkT P con tab) n)
theorem evCallT_ok {P : Program} {ρ : Env} {L : Lore} (hL : LoreOk ρ L) {con : ConF} (hcon : ConOk P ρ con) {tab : CallF} (htab : CallOk P ρ tab) (hm : P.follows .mixedOrders = true) (n : Nat) : CallOk P ρ (evCallT P L con tab n) := by
  unfold evCallT
  rw [evGF_eq]
  exact mkT_ok hcon htab _ (evG_ok hL (mkT_ok hcon htab) hm n)
def evCallF (P : Program) (L : Lore) (con : ConF) (n : Nat) : CallF := callStep P con (evCF P L con n)
theorem evCallF_eq (P : Program) (L : Lore) (con : ConF) (n : Nat) : evCallF P L con n = evCall P L con n := by
  unfold evCallF evCall
  rw [evCF_eq]
theorem calls_of_evHF {P : Program} {ρ : Env} {L : Lore} (hL : LoreOk ρ L) {con : ConF} (hcon : ConOk P ρ con) (hm : P.follows .mixedOrders = true) (n : Nat) {g : Nat} {xs : List AV} {v : AV} {ms : List Nat} {H H' : List Blk} (h : evCallF P L con n g xs H = some (v, H')) {args : Array Value} (w : World) (ha : xs.map (AV.inst ρ ms) = args.toList.map some) (hH : Holds ρ ms H w.heap.size w) :
    Calls P g args w fun e w' => ∃ ms' u, e = .returned u ∧ ms <+: ms' ∧ v.inst ρ ms' = some u ∧ Holds ρ ms' H' w.heap.size w' ∧ Below w.heap.size w w' :=
  calls_of_evH hL hcon hm n (by rw [← evCallF_eq]; exact h) w ha hH
theorem calls_of_evF {P : Program} {ρ : Env} {L : Lore} (hL : LoreOk ρ L) {con : ConF} (hcon : ConOk P ρ con) (hm : P.follows .mixedOrders = true) (n : Nat) {g : Nat} {xs : List AV} {v : AV} {H' : List Blk} (h : evCallF P L con n g xs [] = some (v, H')) {args : Array Value} (w : World) (ha : xs.map (AV.inst ρ []) = args.toList.map some) :
    Calls P g args w fun e w' => ∃ ms u, e = .returned u ∧ v.inst ρ ms = some u ∧ Holds ρ ms H' w.heap.size w' ∧ Below w.heap.size w w' :=
  calls_of_ev hL hcon hm n (by rw [← evCallF_eq]; exact h) w ha
end
end Go.Proofs.Ytmpdmkckjajhiaa.Ev
namespace Go.Proofs.Ytmpdmkckjajhiaa
open Go Go.RowKit Ev
def HCi (w : World) (g : Nat) (ks : List Nat) : Prop := g < w.heap.size ∧ ∀ j, j < 176 → w.cell? ⟨g, j, none⟩ = some (.int .u8 (at8 ks j : Int))
theorem HCi.below {w w' : World} {g : Nat} {ks : List Nat} (h : HCi w g ks) (hb : Below w.heap.size w w') : HCi w' g ks :=
  ⟨Nat.lt_of_lt_of_le h.1 hb.size, fun j hj => (hb.cell (World.block_lt_of_cell? w _ (h.2 j hj))).trans (h.2 j hj)⟩
def ciBlk : Blk := ⟨true, true, 0, vars 0 176⟩
theorem vars_get (n j : Nat) (h : j < n) : (vars 0 n)[j]? = some (.int .u8 (.var j)) := by simp [vars, h]
theorem vars_plain : (vars 0 176).all SV.plain = true := by decide +kernel
theorem one_get {α : Type} {x y : α} {i : Nat} (h : [x][i]? = some y) : i = 0 ∧ y = x := by
  cases i with
  | zero => simp only [List.getElem?_cons_zero, Option.some.injEq] at h; exact ⟨rfl, h.symm⟩
  | succ i => simp at h
theorem holds_ci {w : World} {g : Nat} {ks : List Nat} (h : HCi w g ks) {f : Nat → Nat} (hf : ∀ j, j < 176 → f j = at8 ks j) : Holds (envB f) [g] [ciBlk] w.heap.size w := by
  refine ⟨rfl, fun i hi => absurd hi (by simp [nGl]), ?_, ?_, ?_, Nat.le_refl _, ?_, ?_, ?_⟩
  · intro i j b k k' hi hj _ _ _ _
    rw [(one_get hi).1, (one_get hj).1]
  · intro i b k hi hk hr
    rw [(one_get hk).2] at hr
    cases hr
  · intro i b k hi hk _
    rw [(one_get hi).2]
    exact h.1
  · intro i k hk _
    rw [(one_get hk).2]
    exact vars_plain
  · intro i b k hi hk j s hs
    obtain ⟨rfl, rfl⟩ := one_get hi
    obtain ⟨_, rfl⟩ := one_get hk
    have hj : j < 176 := by
      have := (List.getElem?_eq_some_iff.1 hs).1
      simpa [ciBlk, vars] using this
    have e : s = .int .u8 (.var j) := by
      have := hs.symm.trans (vars_get 176 j hj)
      exact Option.some.inj this
    subst e
    refine ⟨.int .u8 (at8 ks j : Int), ?_, h.2 j hj, fun hr => by cases hr⟩
    simp only [SV.inst, Ex.den, envB]
    rw [hf j hj]
  · intro i b c k0 k hi hc
    obtain ⟨rfl, rfl⟩ := one_get hi
    simp at hc
def encTab : List (Nat × List AV × AV) := [(37, [V 0 176, V 176 16, N64 10], V 192 16)]
def ciFact : List (List SV × List SV × Bool) := [(vars 0 176, lits (zeros8 176), false)]
def ciLore : Lore := ⟨fun _ _ _ => none, id, tabFact ciFact⟩
theorem enc_ev : evCallF Try.prog ciLore (tabCon encTab) 100 29 [.tv (.sc (.ptr 0 0)), V 176 16] [ciBlk] = some (.tup [.agg (vars 192 16), .sc (.int .i64 (.lit 0))], [ciBlk]) := by kernel_rfl
theorem ci_env {ks b x : List Nat} (s1 : ks.length = 176) (s2 : Byt ks) (hbl : b.length = 16) (hb : Byt b) (hxl : x.length = 16) (hx : Byt x) :
    (∀ i, rowsEnv ks [b, x] i < 256) ∧ named (rowsEnv ks [b, x]) 0 176 = ks ∧ named (rowsEnv ks [b, x]) 176 16 = b ∧ named (rowsEnv ks [b, x]) 192 16 = x := by
  refine ⟨rowsEnv_lt s2 fun r hr => ?_, named_keys s1, named_row 0 rfl hbl, named_row 1 rfl hxl⟩
  simp only [List.mem_cons, List.not_mem_nil, or_false] at hr
  rcases hr with rfl | rfl
  · exact hb
  · exact hx
theorem ci_lore {ks b x : List Nat} (s1 : ks.length = 176) (hlt : ∀ i, rowsEnv ks [b, x] i < 256) (nks : named (rowsEnv ks [b, x]) 0 176 = ks) (hne : ks ≠ zeros8 176) : LoreOk (envB (rowsEnv ks [b, x])) ciLore := by
  refine tabFact_ok (ρ := envB (rowsEnv ks [b, x])) ?_
  intro e he
  simp only [ciFact, List.mem_cons, List.not_mem_nil, or_false] at he
  subst he
  refine ⟨ks, zeros8 176, by rw [s1, zeros8_length], fun ms => ?_, fun ms => lits_map _ _ ms, (decide_eq_false hne).symm⟩
  have := vars_map hlt 0 176 ms
  rw [nks] at this
  exact this
def forthLX (ks b : List Nat) : List Nat := forthL ks b 10
def backLX (ks b : List Nat) : List Nat := backL ks b
theorem enc_call (w : World) (ks b : List Nat) (hk : Byt ks) (hkl : ks.length = 176) (hb : Byt b) (hbl : b.length = 16) : Calls Try.prog 37 #[.agg (cells8 ks), .agg (cells8 b), .int .i64 10] w fun e w' => e = .returned (.agg (cells8 (forthLX ks b))) ∧ Below w.heap.size w w' := forth_any w ks b hk hkl hb hbl 10 (by decide)
theorem enc_any (w : World) (g : Nat) (k b x : List Nat) (hk : Byt k) (hkl : k.length = 16) (hb : Byt b) (hbl : b.length = 16) (h : HCi w g (schedL k)) (hxe : x = forthLX (schedL k) b) :
    Calls Try.prog 29 #[.pointer (some ⟨g, 0, none⟩), .agg (cells8 b)] w fun e w' => e = .returned (.tuple #[.agg (cells8 x), .int .i64 0]) ∧ Below w.heap.size w w' := by
  obtain ⟨s1, s2, _⟩ := schedL_ok hkl hk
  have hne := sched_ne hkl hk
  obtain ⟨ks, hks⟩ : ∃ ks, ks = schedL k := ⟨_, rfl⟩
  rw [← hks] at s1 s2 hne h hxe
  have ox : x.length = 16 ∧ Byt x := by rw [hxe]; exact runSt_ok s2 _ b hbl hb
  obtain ⟨hlt, nks, nb, nx⟩ := ci_env s1 s2 hbl hb ox.1 ox.2
  refine (calls_of_evHF (ci_lore s1 hlt nks hne) (tabCon_ok ?_) mixedOrders 100 enc_ev (args := #[.pointer (some ⟨g, 0, none⟩), .agg (cells8 b)]) w (ms := [g]) ?_ (holds_ci h fun j hj => by unfold rowsEnv; rw [if_pos hj])).mono ?_
  · intro e he
    simp only [encTab, List.mem_cons, List.not_mem_nil, or_false] at he
    subst he
    exact ent3 hlt fun w => by rw [nks, nb, nx, hxe]; exact enc_call w ks b s2 s1 hb hbl
  · have e1 : (AV.tv (.sc (.ptr 0 0))).inst (envB (rowsEnv ks [b, x])) [g] = some (.pointer (some ⟨g, 0, none⟩)) := rfl
    simp only [List.map_cons, List.map_nil, V_inst hlt, nb, e1]
  · rintro e w' ⟨ms, u, rfl, _, h1, h2, h3⟩
    have e1 : (TV.agg (vars 192 16)).inst (envB (rowsEnv ks [b, x])) ms = some (.agg (cells8 x)) := by
      have := V_inst hlt ms 192 16
      rw [nx] at this
      exact this
    have e2 : (TV.sc (.int .i64 (.lit 0))).inst (envB (rowsEnv ks [b, x])) ms = some (.int .i64 0) := rfl
    simp only [AV.inst, List.map_cons, List.map_nil, e1, e2, seqO, Option.map_some, Option.some.injEq] at h1
    rw [← h1]
    exact ⟨rfl, h3⟩
end Go.Proofs.Ytmpdmkckjajhiaa
namespace Go.Proofs.Ytmpdmkckjajhiaa.Ev
open Go Go.RowKit
def tailN : Nat → Code → Code
  | n + 1, .seq _ b => tailN n b
  | _, c => c
def tm2 (n i : Nat) (x : AV) (j : Nat) (y : AV) : Tm := ((⟨n, .emp⟩ : Tm).set i x).set j y
theorem RelT.two {ρ : Env} {ms : List Nat} {n i j : Nat} {x y : AV} {tmps : Array Value} {u v : Value} (hn : n = tmps.size) (h5 : n ≤ 512) (hi : tmps[i]? = some u) (hx : x.inst ρ ms = some u) (hj : tmps[j]? = some v) (hy : y.inst ρ ms = some v) (hg : Gl ms) : RelT ρ ms (tm2 n i x j y) tmps := by
  have e0 : ((⟨n, .emp⟩ : Tm).set i x).n ≤ 512 := by rw [Tm.set_n]; exact h5
  refine ⟨by unfold tm2; rw [Tm.set_n, Tm.set_n]; exact hn, by unfold tm2; rw [Tm.set_n]; exact e0, ?_, hg⟩
  intro k z hz
  unfold tm2 at hz
  rw [Tm.get_set e0] at hz
  split at hz
  · rename_i e
    cases hz
    rw [← e.1]
    exact ⟨v, hj, hy⟩
  · rw [Tm.get_set (show (⟨n, .emp⟩ : Tm).n ≤ 512 from h5)] at hz
    split at hz
    · rename_i e
      cases hz
      rw [← e.1]
      exact ⟨u, hi, hx⟩
    · unfold Tm.get at hz
      split at hz
      · rw [Tr.law3.emp] at hz; cases hz
      · cases hz
theorem part_ret {P : Program} {ρ : Env} (hm : P.follows .mixedOrders = true) {n : Nat} {fn : Func} {c : Code} {t : Tm} {H : List Blk} {x : AV} (h : (evCF P noLore noCon n c t H).map (fun r => (r.1, evResults P fn r.2.1 r.2.2)) = some (.ret, some x)) {ms : List Nat} {B : Nat} {a : Act} {w : World} {post : Ending → World → Prop}
    (hT : RelT ρ ms t a.tmps) (hH : Holds ρ ms H B w) (hd : a.defers = []) (hpost : ∀ (ms' : List Nat) (u : Value) (w' : World), x.inst ρ ms' = some u → Below B w w' → post (.returned u) w') : c.wp P (bodyPost P fn post) a w := by
  rw [evCF_eq, Option.map_eq_some_iff] at h
  obtain ⟨⟨o, t', H'⟩, h1, h2⟩ := h
  simp only [Prod.mk.injEq] at h2
  obtain ⟨rfl, h3⟩ := h2
  refine evC_ok (noLore_ok ρ) (noCon_ok P ρ) hm n c t H .ret t' H' h1 ms B a w _ hT hH fun ms' a' w' q1 q2 q3 q4 q5 => ?_
  obtain ⟨u, e1, e2⟩ := evResults_ok q2 q4 h3
  exact ⟨q3.trans hd, u, e2, hpost ms' u w' e1 q5.toBelow⟩
theorem holds_any (ρ : Env) (w : World) {B : Nat} (hB : B ≤ w.heap.size) : Holds ρ ms0 H0 B w := by
  have h := holds_nil ρ w
  refine ⟨h.len, h.gl, h.inj, ?_, h.bnd, hB, h.plain, h.cell, h.room⟩
  intro i b k hi hk hr
  have := h.low i b k hi hk hr
  omega
theorem Holds.known {ρ : Env} {ms : List Nat} {H : List Blk} {B : Nat} {w : World} (h : Holds ρ ms H B w) {l : List SV} {vs : List Value} (hl : l.map (SV.inst ρ ms) = vs.map some) {b0 : Nat} (hB0 : B ≤ b0) (hb0 : b0 < w.heap.size)
    (hfar : ∀ (i b : Nat) (k : Blk), ms[i]? = some b → H[i]? = some k → k.cells ≠ [] → b ≠ b0) (hnew : ∀ j v, vs[j]? = some v → w.cell? ⟨b0, j, none⟩ = some v ∧ w.frozen? ⟨b0, j, none⟩ = false) : Holds ρ (ms ++ [b0]) (H ++ [newBlk l]) B w :=
  h.pushAt hl (Nat.le_refl _) hB0 hb0 hfar (fun _ _ _ _ => ⟨rfl, rfl⟩) (fun _ _ _ q1 q2 => ⟨q1, q2⟩) hnew
theorem dead0 {i : Nat} {k : Blk} (h : H0[i]? = some k) : k.cells = [] := by
  have := List.mem_of_getElem? h
  unfold H0 at this
  rw [(List.mem_replicate.1 this).2]
  rfl
def evPre (self : CodeF) : Nat → Code → Tm → List Blk → Option (Tm × List Blk)
  | 0, _, t, H => some (t, H)
  | n + 1, .seq a b, t, H =>
    match self a t H with
    | some (.normal, t', H') => evPre self n b t' H'
    | _ => none
  | _ + 1, _, _, _ => none
theorem evPre_ok {P : Program} {ρ : Env} {self : CodeF} (hs : CodeOk P ρ self) {B : Nat} {Q : Exit → Act → World → Prop} : ∀ (n : Nat) (c : Code) (t : Tm) (H : List Blk) (t' : Tm) (H' : List Blk), evPre self n c t H = some (t', H') →
    ∀ (ms : List Nat) (a : Act) (w : World), RelT ρ ms t a.tmps → Holds ρ ms H B w →
    (∀ ms' a' w', ms <+: ms' → RelT ρ ms' t' a'.tmps → a'.defers = a.defers → Holds ρ ms' H' B w' → Bel B w w' → (tailN n c).wp P Q a' w') → c.wp P Q a w
  | 0, c, t, H, t', H', h, ms, a, w, hT, hH, hQ => by
    simp only [evPre, Option.some.injEq, Prod.mk.injEq] at h
    obtain ⟨rfl, rfl⟩ := h
    have := hQ ms a w (List.prefix_refl _) hT rfl hH (Bel.refl _ _)
    cases c <;> exact this
  | n + 1, c, t, H, t', H', h, ms, a, w, hT, hH, hQ => by
    cases c <;> simp only [evPre] at h <;> try (cases h; done)
    rename_i x y
    split at h
    case h_2 => cases h
    rename_i t1 H1 h1
    refine wp_seq (hs x t H .normal t1 H1 h1 ms B a w _ hT hH fun ms1 a1 w1 q1 q2 q3 q4 q5 => ?_)
    exact evPre_ok hs n y t1 H1 t' H' h ms1 a1 w1 q2 q4 fun ms' a' w' r1 r2 r3 r4 r5 => hQ ms' a' w' (q1.trans r1) r2 (r3.trans q3) r4 (q5.trans r5)
def tmL (n : Nat) : List (Nat × AV) → Tm
  | [] => ⟨n, .emp⟩
  | p :: r => (tmL n r).set p.1 p.2
theorem tmL_n (n : Nat) : ∀ l, (tmL n l).n = n
  | [] => rfl
  | p :: r => by rw [tmL, Tm.set_n, tmL_n n r]
theorem RelT.ofL {ρ : Env} {ms : List Nat} {n : Nat} {tmps : Array Value} (hn : n = tmps.size) (h5 : n ≤ 512) (hg : Gl ms) : ∀ (l : List (Nat × AV)), (∀ p ∈ l, ∃ v, tmps[p.1]? = some v ∧ p.2.inst ρ ms = some v) → RelT ρ ms (tmL n l) tmps
  | [], _ => by
    refine ⟨hn, h5, fun i x hx => ?_, hg⟩
    unfold tmL Tm.get at hx
    split at hx
    · rw [Tr.law3.emp] at hx; cases hx
    · cases hx
  | p :: r, h => by
    have ih := RelT.ofL hn h5 hg r fun q hq => h q (List.mem_cons_of_mem _ hq)
    obtain ⟨v, h1, h2⟩ := h p (List.mem_cons_self ..)
    refine ⟨by rw [tmL_n]; exact hn, by rw [tmL_n]; exact h5, fun i x hx => ?_, hg⟩
    rw [tmL, Tm.get_set (by rw [tmL_n]; exact h5)] at hx
    split at hx
    · rename_i e
      cases hx
      rw [← e.1]
      exact ⟨v, h1, h2⟩
    · exact ih.val i x hx
def calmO (o : Oper) : Bool := match o.op with | .defer _ => false | _ => true
theorem calmO_spec {o : Oper} (h : calmO o = true) : ∀ c, o.op ≠ .defer c := fun c e => by simp [calmO, e] at h
def wideR (ro : Option Nat) : Fence := { Fence.wide with round := ro }
def Ys (Y : List Nat) (yv : Value) (tm : Array Value) : Prop := ∀ y ∈ Y, tm[y]? = some yv
def dstFree (Y : List Nat) (o : Oper) : Bool := match o.dst with | some d => !Y.contains d | none => true
theorem Ys.put {Y : List Nat} {yv : Value} {a : Act} (h : Ys Y yv a.tmps) {o : Oper} (hd : dstFree Y o = true) (v : Value) : Ys Y yv (a.put o.dst v).tmps := by
  unfold dstFree at hd
  cases ho : o.dst with
  | none => exact h
  | some d =>
    rw [ho] at hd
    intro y hy
    simp only [Act.put]
    rw [Array.getElem?_setIfInBounds]
    have : d ≠ y := fun e => by subst e; simp [hy] at hd
    rw [if_neg this]
    exact h y hy
theorem op_in {P : Program} {ro : Option Nat} {n : Nat} {o : Oper} {a : Act} {w : World} {K K' : Act → World → Prop} {Q Q' : Exit → Act → World → Prop}
    (h : o.wp P a w K Q) (hd : calmO o = true) (hQ : ∀ e a w, Q e a w → e = .normal) (hK : ∀ a' w', K a' w' → (∃ v, a'.tmps = (a.put o.dst v).tmps) → K' a' w') : o.wpIn (wideR ro) n P a w K' Q' := by
  refine ⟨fun f _ => trivial, ?_⟩
  rw [Oper.semAt_eq _ _ _ (calmO_spec hd)]
  unfold Oper.wp at h
  generalize (execOp a.eval o).run P w = r at h ⊢
  cases r with
  | ok x w' =>
    cases x with
    | value v => exact hK _ _ h ⟨v, rfl⟩
    | skip => exact hK _ _ h ⟨undef, rfl⟩
    | defer d => exact hK _ _ h ⟨undef, by cases o.dst <;> rfl⟩
    | enter f args =>
      refine ⟨(fun e => by cases e), ?_⟩
      show CallsIn Fence.wide (n - 1) P f args w' _
      refine callsIn_wide.2 (Calls.mono h ?_)
      intro e w'' he
      cases e with
      | returned v => exact hK _ _ he ⟨v, rfl⟩
      | panicked ch => cases hQ _ _ _ he
      | outgrown => obtain ⟨a0, w0, q⟩ := he; cases hQ _ _ _ q
    | row row args =>
      refine ⟨(fun e => by cases e), fun c cs _ => ?_⟩
      obtain ⟨v, w2, r, s⟩ := h c cs
      exact ⟨v, w2, hK _ _ r ⟨v, rfl⟩, stepsIn_wide.2 s⟩
    | round => exact h.elim
    | _ => exact h.elim
  | halt x w' =>
    cases x with
    | panic v => cases hQ _ _ _ h
    | _ => exact h.elim
theorem list_in {P : Program} {ro : Option Nat} {n : Nat} {ops : Array Oper} {Q : Exit → Act → World → Prop} (hQ : ∀ e a w, Q e a w → e = .normal) {Y : List Nat} {yv : Value} : ∀ (l : List Oper) (a : Act) (w : World),
    wpList P ops Q l a w → l.all (fun o => calmO o && dstFree Y o) = true → Ys Y yv a.tmps → wpListIn (wideR ro) n P ops (fun e a w => Q e a w ∧ Ys Y yv a.tmps) l a w
  | [], a, w, h, _, hy => ⟨h, hy⟩
  | o :: r, a, w, h, hc, hy => by
    simp only [List.all_cons, Bool.and_eq_true] at hc
    unfold wpList at h
    unfold wpListIn
    split at h
    · rename_i hw
      rw [if_pos hw]
      rcases h with h | ⟨_, a0, w0, q⟩
      · refine op_in h hc.1.1 hQ fun a' w' hk ⟨v, hv⟩ => ?_
        exact list_in hQ r a' w' hk hc.2 (by rw [hv]; exact hy.put hc.1.2 v)
      · cases hQ _ _ _ q
    · rename_i hw
      rw [if_neg hw]
      exact ⟨fun _ _ => trivial, list_in hQ r _ w h hc.2 (hy.put hc.1.2 _)⟩
theorem any_in {P : Program} {ro : Option Nat} {n : Nat} {md : Region.Mode} {ops : Array Oper} {Q : Exit → Act → World → Prop} (hQ : ∀ e a w, Q e a w → e = .normal) {Y : List Nat} {yv : Value} (hc : ops.all (fun o => calmO o && dstFree Y o) = true) : ∀ (fuel : Nat) (listed : Array Bool) (a : Act) (w : World),
    wpAny P md ops Q fuel listed a w → Ys Y yv a.tmps → wpAnyIn (wideR ro) n P md ops (fun e a w => Q e a w ∧ Ys Y yv a.tmps) fuel listed a w
  | 0, listed, a, w, h, hy => ⟨h.1, h.2, hy⟩
  | fuel + 1, listed, a, w, h, hy => by
    refine ⟨fun e => ⟨h.1 e, hy⟩, fun i hi => ?_⟩
    have h1 := h.2 i hi
    unfold wpOp at h1
    unfold wpOpIn
    cases ho : ops[i]? with
    | none =>
      rw [ho] at h1
      exact any_in hQ hc fuel _ a w h1 hy
    | some o =>
      rw [ho] at h1
      have hco : calmO o = true ∧ dstFree Y o = true := by
        obtain ⟨hi2, e⟩ := Array.getElem?_eq_some_iff.1 ho
        have := (Array.all_eq_true.1 hc) i hi2
        rw [e] at this
        simpa using this
      simp only at h1 ⊢
      split at h1
      · rename_i hw
        rw [if_pos hw]
        rcases h1 with h1 | ⟨_, a0, w0, q⟩
        · refine op_in h1 hco.1 hQ fun a' w' hk ⟨v, hv⟩ => ?_
          exact any_in hQ hc fuel _ a' w' hk (by rw [hv]; exact hy.put hco.2 v)
        · cases hQ _ _ _ q
      · rename_i hw
        rw [if_neg hw]
        exact ⟨fun _ _ => trivial, any_in hQ hc fuel _ _ w h1 (hy.put hco.2 _)⟩
def calm : Code → Bool
  | .skip => true
  | .region _ ops _ => ops.all fun o => calmO o && dstFree [] o
  | .seq a b => calm a && calm b
  | .cond _ x y => calm x && calm y
  | .block _ c => calm c
  | .loop c => calm c
  | .exit _ => true
  | .ret => true
  | .label _ => true
  | _ => false
def CodeOkG (P : Program) (ρ : Env) (self : CodeF) : Prop :=
  ∀ c t H o t' H', self c t H = some (o, t', H') → ∀ (ro : Option Nat), (ro = none ∨ calm c = true) → ∀ (n : Nat) (ms : List Nat) (B : Nat) (a : Act) (w : World) (Q : Exit → Act → World → Prop), RelT ρ ms t a.tmps → Holds ρ ms H B w →
    (∀ ms' a' w', ms <+: ms' → RelT ρ ms' t' a'.tmps → a'.defers = a.defers → Holds ρ ms' H' B w' → Bel B w w' → Q o.to a' w') → c.wpIn (wideR ro) n P Q a w
theorem CodeOkG.plain {P : Program} {ρ : Env} {self : CodeF} (h : CodeOkG P ρ self) : CodeOk P ρ self :=
  fun c t H o t' H' hs ms B a w Q hT hH hQ => (wpIn_wide (n := 0)).1 (h c t H o t' H' hs none (.inl rfl) 0 ms B a w Q hT hH hQ)
theorem evG_gen {P : Program} {ρ : Env} {L : Lore} (hL : LoreOk ρ L) {mk : CodeF → CallF} (hm : P.follows .mixedOrders = true) : ∀ n, (∀ k, k < n → CallOk P ρ (mk (evG P L mk k))) → CodeOkG P ρ (evG P L mk n) := by
  intro n
  induction n using Nat.strongRecOn with
  | _ n ih =>
    intro hcalls
    cases n with
    | zero => intro c t H o t' H' h; simp [evG] at h
    | succ n =>
      have ihn := ih n (by omega) (fun k hk => hcalls k (by omega))
      have hcall : CallOk P ρ (mk (evG P L mk n)) := hcalls n (by omega)
      intro c t H o t' H' h ro hro nn ms B a w Q hT hH hQ
      have sub : ∀ {c' : Code}, (calm c = true → calm c' = true) → (ro = none ∨ calm c' = true) := fun f => hro.imp id f
      rw [evG] at h
      unfold codeStep at h
      split at h
      · -- skip
        simp only [Option.some.injEq, Prod.mk.injEq] at h
        obtain ⟨rfl, rfl, rfl⟩ := h
        exact wpIn_skip (hQ ms a w (List.prefix_refl _) hT rfl hH (Bel.refl _ _))
      · -- a region
        rename_i id ops
        rw [Option.map_eq_some_iff] at h
        obtain ⟨r, h1, h2⟩ := h
        simp only [Prod.mk.injEq] at h2
        obtain ⟨rfl, rfl, rfl⟩ := h2
        have key := evOps_ok (Q := fun e a w => e = .normal ∧ Q .normal a w) hL hcall _ ms t H a w r.1 r.2 hT hH h1 fun ms' a' w' q1 q2 q3 q4 q5 => ⟨rfl, hQ ms' a' w' q1 q2 q3 q4 q5⟩
        rcases hro with rfl | hcm
        · exact wpIn_wide.2 (Code.wp_mono (fun e a w q => by rw [q.1]; exact q.2) (wp_region_list (id := id) key))
        · have hl : ops.toList.all (fun o => calmO o && dstFree [] o) = true := by simpa [calm] using hcm
          refine wpIn_mono (wpIn_region_list (list_in (Y := []) (yv := undef) (fun e a w q => q.1) _ a w key hl (fun y hy => by cases hy))) fun e a w q => ?_
          rw [q.1.1]; exact q.1.2
      · -- a region whose order is open
        rename_i id ops
        rw [Option.map_eq_some_iff] at h
        obtain ⟨r, h1, h2⟩ := h
        simp only [Prod.mk.injEq] at h2
        obtain ⟨rfl, rfl, rfl⟩ := h2
        rcases hro with rfl | hcm
        · exact wpIn_wide.2 (evPlan_ok hL hcall hm _ hT hH h1 fun ms' a' w' q1 q2 q3 q4 q5 => hQ ms' a' w' q1 q2 q3 q4 q5)
        · have key := evPlan_any (Q := Q) hL hcall hT hH h1 fun ms' a' w' q1 q2 q3 q4 q5 => hQ ms' a' w' q1 q2 q3 q4 q5
          refine wpIn_mono (wpIn_region_any hm (any_in (Y := []) (yv := undef) (fun e a w q => q.1) (by simpa [calm] using hcm) _ _ a _ key (fun y hy => by cases hy))) fun e a w q => ?_
          rw [q.1.1]; exact q.1.2
      · -- one behind the other
        rename_i x y
        have cx := sub (c' := x) (fun e => by simp only [calm, Bool.and_eq_true] at e; exact e.1)
        have cy := sub (c' := y) (fun e => by simp only [calm, Bool.and_eq_true] at e; exact e.2)
        split at h
        · rename_i t1 H1 h1
          refine wpIn_seq (ihn x t H .normal t1 H1 h1 ro cx nn ms B a w _ hT hH fun ms1 a1 w1 q1 q2 q3 q4 q5 => ?_)
          exact ihn y t1 H1 o t' H' h ro cy nn ms1 B a1 w1 Q q2 q4 fun ms2 a2 w2 r1 r2 r3 r4 r5 => hQ ms2 a2 w2 (q1.trans r1) r2 (r3.trans q3) r4 (q5.trans r5)
        · rename_i hne
          have hno : o ≠ .normal := fun e => by subst e; exact hne t' H' h
          refine wpIn_seq (ihn x t H o t' H' h ro cx nn ms B a w _ hT hH fun ms1 a1 w1 q1 q2 q3 q4 q5 => ?_)
          have := hQ ms1 a1 w1 q1 q2 q3 q4 q5
          cases o with
          | normal => exact absurd rfl hno
          | exit i => exact this
          | ret => exact this
      · -- a choice
        rename_i cc x y
        have cx := sub (c' := x) (fun e => by simp only [calm, Bool.and_eq_true] at e; exact e.1)
        have cy := sub (c' := y) (fun e => by simp only [calm, Bool.and_eq_true] at e; exact e.2)
        split at h
        · rename_i hc
          have e := evGet_ok hT hc
          simp only [AV.inst, TV.inst, SV.inst, Option.some.injEq] at e
          exact wpIn_cond_true e.symm (ihn x t H o t' H' h ro cx nn ms B a w Q hT hH hQ)
        · rename_i hc
          have e := evGet_ok hT hc
          simp only [AV.inst, TV.inst, SV.inst, Option.some.injEq] at e
          exact wpIn_cond_false e.symm (ihn y t H o t' H' h ro cy nn ms B a w Q hT hH hQ)
        · cases h
      · -- a block
        rename_i id x
        have cx := sub (c' := x) (fun e => by simpa only [calm] using e)
        split at h
        · rename_i i t1 H1 h1
          refine wpIn_block (ihn x t H (.exit i) t1 H1 h1 ro cx nn ms B a w _ hT hH fun ms1 a1 w1 q1 q2 q3 q4 q5 => ?_)
          simp only [Out.to, Exit.inBlock]
          split at h
          · rename_i e
            rw [if_pos e]
            simp only [Option.some.injEq, Prod.mk.injEq] at h
            obtain ⟨rfl, rfl, rfl⟩ := h
            exact hQ ms1 a1 w1 q1 q2 q3 q4 q5
          · rename_i e
            rw [if_neg e]
            simp only [Option.some.injEq, Prod.mk.injEq] at h
            obtain ⟨rfl, rfl, rfl⟩ := h
            exact hQ ms1 a1 w1 q1 q2 q3 q4 q5
        · rename_i hne
          refine wpIn_block (ihn x t H o t' H' h ro cx nn ms B a w _ hT hH fun ms1 a1 w1 q1 q2 q3 q4 q5 => ?_)
          have := hQ ms1 a1 w1 q1 q2 q3 q4 q5
          cases o with
          | normal => exact this
          | exit i => exact absurd h (hne i t' H')
          | ret => exact this
      · -- a loop
        rename_i x
        have cx := sub (c' := x) (fun e => by simpa only [calm] using e)
        have start : evG P L mk (n + 1) (.loop x) t H = some (o, t', H') := by rw [evG]; exact h
        let R : Nat → Act → World → Prop := fun k a1 w1 => k ≤ n + 1 ∧ ∃ ms1 t1 H1, evG P L mk k (.loop x) t1 H1 = some (o, t', H') ∧ ms <+: ms1 ∧ RelT ρ ms1 t1 a1.tmps ∧ a1.defers = a.defers ∧ Holds ρ ms1 H1 B w1 ∧ Bel B w w1
        classical
        refine wpIn_loop (fun a1 w1 => ∃ k, R k a1 w1) (fun a1 w1 => if hx : ∃ k, R k a1 w1 then Classical.choose (has_least hx) else 0) ⟨n + 1, Nat.le_refl _, ms, t, H, start, List.prefix_refl _, hT, rfl, hH, Bel.refl _ _⟩ ?_
        intro a1 w1 hI
        have hmin := (Classical.choose_spec (has_least hI)).1
        have hall := (Classical.choose_spec (has_least hI)).2
        generalize hk : Classical.choose (has_least hI) = k at hmin hall
        obtain ⟨hle, ms1, t1, H1, hev, p1, p2, p3, p4, p5⟩ := hmin
        cases k with
        | zero => simp [evG] at hev
        | succ k =>
          have ihk := ih k (by omega) (fun j hj => hcalls j (by omega))
          rw [evG] at hev
          simp only [codeStep] at hev
          split at hev
          · rename_i t2 H2 h2
            refine ihk x t1 H1 .normal t2 H2 h2 ro cx nn ms1 B a1 w1 _ p2 p4 fun ms2 a2 w2 q1 q2 q3 q4 q5 => ?_
            have hR : R k a2 w2 := ⟨by omega, ms2, t2, H2, hev, p1.trans q1, q2, q3.trans p3, q4, p5.trans q5⟩
            have hE : ∃ j, R j a2 w2 := ⟨k, hR⟩
            refine ⟨hE, ?_⟩
            rw [dif_pos hE, dif_pos hI, hk]
            exact Nat.lt_succ_of_le ((Classical.choose_spec (has_least hE)).2 k hR)
          · rename_i hne
            refine ihk x t1 H1 o t' H' hev ro cx nn ms1 B a1 w1 _ p2 p4 fun ms2 a2 w2 q1 q2 q3 q4 q5 => ?_
            have := hQ ms2 a2 w2 (p1.trans q1) q2 (q3.trans p3) q4 (p5.trans q5)
            cases o with
            | normal => exact absurd hev (hne t' H')
            | exit i => exact this
            | ret => exact this
      · simp only [Option.some.injEq, Prod.mk.injEq] at h
        obtain ⟨rfl, rfl, rfl⟩ := h
        exact wpIn_exit (hQ ms a w (List.prefix_refl _) hT rfl hH (Bel.refl _ _))
      · simp only [Option.some.injEq, Prod.mk.injEq] at h
        obtain ⟨rfl, rfl, rfl⟩ := h
        exact wpIn_ret (hQ ms a w (List.prefix_refl _) hT rfl hH (Bel.refl _ _))
      · simp only [Option.some.injEq, Prod.mk.injEq] at h
        obtain ⟨rfl, rfl, rfl⟩ := h
        exact wpIn_label (hQ ms a w (List.prefix_refl _) hT rfl hH (Bel.refl _ _))
      · rename_i x
        rcases hro with rfl | hcm
        · refine wpIn_wide.2 (wp_scope_straight ((wpIn_wide (n := nn)).1 (ihn _ t H o t' H' h none (.inl rfl) nn ms B a w _ hT hH fun ms2 a2 w2 q1 q2 q3 q4 q5 => ?_)))
          have := hQ ms2 a2 w2 q1 q2 q3 q4 q5
          cases o <;> exact this
        · simp [calm] at hcm
      · cases h
theorem evG_both {P : Program} {ρ : Env} {L : Lore} (hL : LoreOk ρ L) {mk : CodeF → CallF} (hmk : ∀ self, CodeOkG P ρ self → CallOk P ρ (mk self)) (hm : P.follows .mixedOrders = true) : ∀ n, CodeOkG P ρ (evG P L mk n) := by
  intro n
  induction n using Nat.strongRecOn with
  | _ n ih => exact evG_gen hL hm n fun k hk => hmk _ (ih k hk)
end Go.Proofs.Ytmpdmkckjajhiaa.Ev
namespace Go.Proofs.Ytmpdmkckjajhiaa
open Go Go.RowKit Ev
def ctrL (n : Nat) : List Nat := [0, 0, 0, 0, 0, 0, 0, 0, n / 72057594037927936 % 256, n / 281474976710656 % 256, n / 1099511627776 % 256, n / 4294967296 % 256, n / 16777216 % 256, n / 65536 % 256, n / 256 % 256, n % 256]
theorem ctrL_length (n : Nat) : (ctrL n).length = 16 := rfl
theorem ctrL_byt (n : Nat) : Byt (ctrL n) := by
  intro x hx
  simp only [ctrL, List.mem_cons, List.not_mem_nil, or_false] at hx
  omega
def ksL (k : List Nat) (n : Nat) : List Nat := forthLX (schedL k) (ctrL n)
theorem ksL_ok {k : List Nat} (hl : k.length = 16) (hk : Byt k) (n : Nat) : (ksL k n).length = 16 ∧ Byt (ksL k n) := runSt_ok (schedL_ok hl hk).2.1 _ _ (ctrL_length n) (ctrL_byt n)
def ctrE : List SV := List.replicate 8 (.int .u8 (.lit 0)) ++ [56, 48, 40, 32, 24, 16, 8].map (fun k => SV.int .u8 (.con .u8 (.shr (.var 0) k))) ++ [.int .u8 (.con .u8 (.var 0))]
theorem counter_ev : evCallF Try.prog noLore noCon 100 30 [.tv (.sc (.int .u64 (.var 0)))] [] = some (.tv (.agg ctrE), []) := by kernel_rfl
theorem counter_any (w : World) (n : Nat) : Calls Try.prog 30 #[.int .u64 (n : Int)] w fun e w' => e = .returned (.agg (cells8 (ctrL n))) ∧ Below w.heap.size w w' := by
  refine (calls_of_evF (noLore_ok ⟨fun _ => (n : Int), fun _ => .tuple #[], fun _ _ _ => 0⟩) (noCon_ok _ _) mixedOrders 100 counter_ev (args := #[.int .u64 (n : Int)]) w ?_).mono ?_
  · simp only [List.map_cons, List.map_nil, AV.inst, TV.inst, SV.inst, Ex.den]
  · rintro e w' ⟨ms, u, rfl, h1, h2, h3⟩
    refine ⟨?_, h3⟩
    have hk : ∀ k : Nat, IntKind.u8.wrap (Int.fdiv (n : Int) (2 ^ k)) = ((n / 2 ^ k % 256 : Nat) : Int) := fun k => by
      rw [IntKind.wrap_u8', Int.fdiv_eq_ediv_of_nonneg _ (by exact_mod_cast Nat.zero_le _)]
      have : ((2 : Int) ^ k) = ((2 ^ k : Nat) : Int) := by simp
      rw [this]
      omega
    have h0 : IntKind.u8.wrap (n : Int) = ((n % 256 : Nat) : Int) := by rw [IntKind.wrap_u8']; omega
    simp only [AV.inst, TV.inst, ctrE, List.replicate, List.map_cons, List.map_nil, List.cons_append, List.nil_append, SV.inst, Ex.den, hk, h0, seqO, Option.map_some, Option.some.injEq] at h1
    rw [← h1]
    rfl
def envC (f : Nat → Nat) (n : Int) : Env := ⟨fun i => if i = 500 then n else (f i : Int), fun _ => .tuple #[], fun _ _ _ => 0⟩
theorem varsC (f : Nat → Nat) (n : Int) (o m : Nat) (h : o + m ≤ 500) (ms : List Nat) : (vars o m).map (SV.inst (envC f n) ms) = ((named f o m).map fun x : Nat => Value.int .u8 (x : Int)).map some := by
  simp only [vars, named, List.map_map]
  refine List.map_congr_left fun i hi => ?_
  have := List.mem_range.1 hi
  simp [SV.inst, Ex.den, envC]
  omega
theorem aggC (f : Nat → Nat) (n : Int) (o m : Nat) (h : o + m ≤ 500) (ms : List Nat) : (TV.agg (vars o m)).inst (envC f n) ms = some (.agg (cells8 (named f o m))) := by
  simp only [TV.inst, (seqO_iff _ _).2 (varsC f n o m h ms), Option.map_some]
  rfl
theorem VC (f : Nat → Nat) (n : Int) (o m : Nat) (h : o + m ≤ 500) (ms : List Nat) : (V o m).inst (envC f n) ms = some (.agg (cells8 (named f o m))) := by
  unfold V
  simp only [AV.inst]
  exact aggC f n o m h ms
def tabS : List (Nat × List AV × AV) := [(35, [V 0 16], V 16 176)]
def hBlk : List Blk := [newBlk (vars 0 16), newBlk [.int .u64 (.var 500)], newBlk (vars 0 16), newBlk (vars 16 176), newBlk [.ptr 3 0]]
theorem blocks_ev : evCallF Try.prog noLore (tabCon tabS) 100 23 [V 0 16, .tv (.sc (.int .u64 (.var 500)))] [] = some (.tv (.sc (.clo 28 [(1, 0), (4, 0)])), hBlk) := by kernel_rfl
structure ItAt (w : World) (b1 b4 g : Nat) (k : List Nat) (n : Nat) : Prop where
  bf : w.cell? ⟨b1, 0, none⟩ = some (.int .u64 (n : Int))
  bc : w.cell? ⟨b4, 0, none⟩ = some (.pointer (some ⟨g, 0, none⟩))
  ci : HCi w g (schedL k)
def itD (b1 b4 g : Nat) (i : Nat) : Prop := i = b1 ∨ i = b4 ∨ i = g
theorem at8_vars {l : List Nat} {m : Nat} (h : l.length = m) {f : Nat → Nat} {o : Nat} (hf : ∀ i, i < m → f (o + i) = at8 l i) : named f o m = l := by
  refine List.ext_getElem (by rw [named_length, h]) fun i h1 h2 => ?_
  have hi : i < m := by simpa [named_length] using h1
  simp only [named, List.getElem_map, List.getElem_range]
  rw [hf i hi]
  simp [at8, List.getD, List.getElem?_eq_getElem h2]
theorem blocks_any (w : World) (k : List Nat) (n : Nat) (hk : Byt k) (hl : k.length = 16) : Calls Try.prog 23 #[.agg (cells8 k), .int .u64 (n : Int)] w fun e w' =>
    ∃ b1 b4 g, e = .returned (.func (.func 28) #[] #[.pointer (some ⟨b1, 0, none⟩), .pointer (some ⟨b4, 0, none⟩)]) ∧ ItAt w' b1 b4 g k n ∧ (∀ i, itD b1 b4 g i → w.heap.size ≤ i ∧ i < w'.heap.size) ∧ Below w.heap.size w w' := by
  obtain ⟨s1, s2, _⟩ := schedL_ok hl hk
  obtain ⟨ks, hks⟩ : ∃ ks, ks = schedL k := ⟨_, rfl⟩
  rw [← hks] at s1 s2
  let f : Nat → Nat := fun i => if i < 16 then at8 k i else at8 ks (i - 16)
  have n1 : named f 0 16 = k := at8_vars hl fun i hi => by simp only [f]; rw [if_pos (by omega)]; congr 1; omega
  have n2 : named f 16 176 = ks := at8_vars s1 fun i hi => by simp only [f]; rw [if_neg (by omega)]; congr 1; omega
  have hcon : ConOk Try.prog (envC f (n : Int)) (tabCon tabS) := by
    refine tabCon_ok ?_
    intro e he
    simp only [tabS, List.mem_cons, List.not_mem_nil, or_false] at he
    subst he
    intro ms W args ha
    have ea : args = #[.agg (cells8 k)] := by
      obtain ⟨l⟩ := args
      have hl1 : l.length = 1 := by have := congrArg List.length ha; simpa using this.symm
      match l, hl1, ha with
      | [u], _, ha =>
        simp only [List.map_cons, List.map_nil, List.cons.injEq, and_true, VC f n 0 16 (by decide), n1, Option.some.injEq] at ha
        subst ha
        rfl
    subst ea
    exact (sched_any W k hk hl).mono fun e w' ⟨q1, q2⟩ => ⟨_, q1, by rw [VC f n 16 176 (by decide), n2, hks], q2⟩
  refine (calls_of_evF (noLore_ok (envC f (n : Int))) hcon mixedOrders 100 blocks_ev (args := #[.agg (cells8 k), .int .u64 (n : Int)]) w ?_).mono ?_
  · have e1 : (AV.tv (.sc (.int .u64 (.var 500)))).inst (envC f (n : Int)) [] = some (.int .u64 (n : Int)) := rfl
    simp only [List.map_cons, List.map_nil, VC f n 0 16 (by decide), n1, e1]
  · rintro e w' ⟨ms, u, rfl, h1, h2, h3⟩
    have hlen : ms.length = 5 := h2.len
    match ms, hlen with
    | [m0, m1, m2, m3, m4], _ =>
      have h1' : some (Value.func (.func 28) #[] #[.pointer (some ⟨m1, 0, none⟩), .pointer (some ⟨m4, 0, none⟩)]) = some u := h1
      cases h1'
      refine ⟨m1, m4, m3, rfl, ⟨?_, ?_, ?_, ?_⟩, ?_, h3⟩
      · obtain ⟨v, q1, q2, _⟩ := h2.cell 1 m1 _ rfl rfl 0 (.int .u64 (.var 500)) rfl
        rw [q2, ← q1]; rfl
      · obtain ⟨v, q1, q2, _⟩ := h2.cell 4 m4 _ rfl rfl 0 (.ptr 3 0) rfl
        rw [q2, ← q1]; rfl
      · exact h2.bnd 3 m3 _ rfl rfl (by simp [newBlk, vars])
      · intro j hj
        obtain ⟨v, q1, q2, _⟩ := h2.cell 3 m3 _ rfl rfl j (.int .u8 (.var (16 + j))) (by simp [newBlk, vars, hj])
        rw [q2, ← q1]
        simp only [SV.inst, Ex.den, envC]
        rw [if_neg (by omega)]
        simp only [f]
        rw [if_neg (by omega), Nat.add_sub_cancel_left, hks]
      · rintro i (rfl | rfl | rfl)
        · exact ⟨h2.low 1 _ _ rfl rfl rfl, h2.bnd 1 _ _ rfl rfl (by simp [newBlk])⟩
        · exact ⟨h2.low 4 _ _ rfl rfl rfl, h2.bnd 4 _ _ rfl rfl (by simp [newBlk])⟩
        · exact ⟨h2.low 3 _ _ rfl rfl rfl, h2.bnd 3 _ _ rfl rfl (by simp [newBlk, vars])⟩
end Go.Proofs.Ytmpdmkckjajhiaa
namespace Go.Proofs.Ytmpdmkckjajhiaa.Ev
open Go Go.RowKit
theorem op_mono {P : Program} {o : Oper} {a : Act} {w : World} {K K' : Act → World → Prop} {Q Q' : Exit → Act → World → Prop} (h : o.wp P a w K Q) (hQ : ∀ e a w, Q e a w → e = .normal)
    (hK : ∀ a' w', K a' w' → (∃ v, a'.tmps = (a.put o.dst v).tmps) → K' a' w') : o.wp P a w K' Q' := by
  unfold Oper.wp at h ⊢
  generalize (execOp a.eval o).run P w = r at h ⊢
  cases r with
  | ok x w' =>
    cases x with
    | value v => exact hK _ _ h ⟨v, rfl⟩
    | skip => exact hK _ _ h ⟨undef, rfl⟩
    | defer d => exact hK _ _ h ⟨undef, by cases o.dst <;> rfl⟩
    | enter f args =>
      refine Calls.mono h ?_
      intro e w'' he
      cases e with
      | returned v => exact hK _ _ he ⟨v, rfl⟩
      | panicked ch => cases hQ _ _ _ he
      | outgrown => obtain ⟨a0, w0, q⟩ := he; cases hQ _ _ _ q
    | row row args => exact Rows.mono h fun v w'' he => hK _ _ he ⟨v, rfl⟩
    | _ => exact h.elim
  | halt x w' =>
    cases x with
    | panic v => cases hQ _ _ _ h
    | _ => exact h.elim
def keepsJ (ops : Array Oper) (j : Nat) : Bool := ops.all fun o => match o.dst with | some d => !(Nat.beq d j) | none => true
theorem put_keep {ops : Array Oper} {j i : Nat} {o : Oper} (ho : ops[i]? = some o) (h : keepsJ ops j = true) (a : Act) (v : Value) : (a.put o.dst v).tmps[j]? = a.tmps[j]? := by
  obtain ⟨hi, e⟩ := Array.getElem?_eq_some_iff.1 ho
  have := (Array.all_eq_true.1 h) i hi
  rw [e] at this
  cases hd : o.dst with
  | none => rfl
  | some d =>
    rw [hd] at this
    simp only [Act.put]
    rw [Array.getElem?_setIfInBounds, if_neg (fun e => by subst e; simp at this)]
theorem any_keep {P : Program} {md : Region.Mode} {ops : Array Oper} {Q : Exit → Act → World → Prop} (hQ : ∀ e a w, Q e a w → e = .normal) {tm : Array Value} : ∀ (fuel : Nat) (listed : Array Bool) (a : Act) (w : World),
    wpAny P md ops Q fuel listed a w → (∀ j, keepsJ ops j = true → a.tmps[j]? = tm[j]?) → wpAny P md ops (fun e a' w' => Q e a' w' ∧ ∀ j, keepsJ ops j = true → a'.tmps[j]? = tm[j]?) fuel listed a w
  | 0, listed, a, w, h, hy => ⟨h.1, h.2, hy⟩
  | fuel + 1, listed, a, w, h, hy => by
    refine ⟨fun e => ⟨h.1 e, hy⟩, fun i hi => ?_⟩
    have h1 := h.2 i hi
    unfold wpOp at h1 ⊢
    cases ho : ops[i]? with
    | none =>
      rw [ho] at h1
      exact any_keep hQ fuel _ a w h1 hy
    | some o =>
      rw [ho] at h1
      simp only at h1 ⊢
      split at h1
      · rename_i hw
        rw [if_pos hw]
        rcases h1 with h1 | ⟨_, a0, w0, q⟩
        · refine .inl (op_mono h1 hQ fun a' w' hk ⟨v, hv⟩ => ?_)
          exact any_keep hQ fuel _ a' w' hk fun j hj => by rw [hv, put_keep ho hj]; exact hy j hj
        · cases hQ _ _ _ q
      · rename_i hw
        rw [if_neg hw]
        exact any_keep hQ fuel _ _ w h1 fun j hj => by rw [put_keep ho hj]; exact hy j hj
theorem plan_keep {P : Program} {ρ : Env} {Lo : Lore} (hLo : LoreOk ρ Lo) {call : CallF} (hc : CallOk P ρ call) (hm : P.follows .mixedOrders = true) {ops : Array Oper} {B : Nat} {ms : List Nat} {t t' : Tm} {H H' : List Blk} {a : Act} {w : World} (id : Nat)
    (hT : RelT ρ ms t a.tmps) (hH : Holds ρ ms H B w) (h : evPlan call P Lo ops t H = some (t', H')) {Q : Exit → Act → World → Prop}
    (hQ : ∀ ms' a' w', ms <+: ms' → RelT ρ ms' t' a'.tmps → a'.defers = a.defers → Holds ρ ms' H' B w' → Bel B w w' → (∀ j, keepsJ ops j = true → a'.tmps[j]? = a.tmps[j]?) → Q .normal a' w') : (Code.region id ops true).wp P Q a w := by
  have key := evPlan_any (Q := fun e a' w' => ∃ ms', ms <+: ms' ∧ RelT ρ ms' t' a'.tmps ∧ a'.defers = a.defers ∧ Holds ρ ms' H' B w' ∧ Bel B w w') hLo hc hT hH h fun ms' a' w' q1 q2 q3 q4 q5 => ⟨ms', q1, q2, q3, q4, q5⟩
  refine Code.wp_mono ?_ (wp_region_any hm (any_keep (tm := a.tmps) (fun e a w q => q.1) _ _ a _ key fun _ _ => rfl))
  rintro e a' w' ⟨⟨rfl, ms', q1, q2, q3, q4, q5⟩, q6⟩
  exact hQ ms' a' w' q1 q2 q3 q4 q5 q6
end Go.Proofs.Ytmpdmkckjajhiaa.Ev
namespace Go.Proofs.Ytmpdmkckjajhiaa
open Go.RowKit Go.Shelf
def KD (D : Nat → Prop) (A C : World) : Prop := A.heap.size ≤ C.heap.size ∧ ∀ i, D i → C.heap[i]? = A.heap[i]?
theorem KD.refl (D : Nat → Prop) (A : World) : KD D A A := ⟨Nat.le_refl _, fun _ _ => rfl⟩
theorem KD.trans {D : Nat → Prop} {A B C : World} (h : KD D A B) (k : KD D B C) : KD D A C := ⟨Nat.le_trans h.1 k.1, fun i hi => (k.2 i hi).trans (h.2 i hi)⟩
theorem KD.put {D : Nat → Prop} {A : World} {l : Nat} (hl : ¬ D l) (o : Obj) : KD D A (A.putObj l o) := ⟨by simp, fun _ hi => World.putObj_heap_other (fun e => hl (e ▸ hi))⟩
def IterF (F : Fence) (n : Nat) (P : Program) (g : Nat) (lb : Array Value) (enc : Nat → Value → Array Value) (Fit : Nat → Value → World → Prop) (D : Nat → Prop) (N : Nat) (w0 : World) : Prop :=
  ∀ (l : Nat) (J : Nat → World → Prop) (Jx : World → Prop) (W : World), KD D w0 W → (∀ k A C, J k A → A.grownBy C none → J k C) →
    (∀ k v W1, J k W1 → Fit k v W1 → k < N → YieldAt F (n - 1) P l (enc k v) W1 fun e W' => (e = .returned (.bool true) ∧ J (k + 1) W' ∧ KD D W1 W') ∨ (e = .returned (.bool false) ∧ Jx W')) →
    J 0 W → CallsIn F n P g (#[.func (.yield l) #[] #[]] ++ lb) W fun e W' => (∃ v, e = .returned v) ∧ (J N W' ∨ Jx W')
def OutF (B : Nat) (D : Nat → Prop) (I : Nat → World → Prop) (Ix : Code → World → Prop) (k : Nat) (W : World) : Exit → Act → World → Prop
  | .normal, _, W' => KeepsFrom B W W' ∧ KD D W W' ∧ I (k + 1) W'
  | .ret, _, W' => KeepsFrom B W W' ∧ Ix .ret W'
  | .exit id, _, W' => KeepsFrom B W W' ∧ Ix (.exit id) W'
  | _, _, _ => False
theorem range_fit {F : Fence} {n : Nat} {P : Program} {g : Operand} {ps : Array Tmp} {assign body : Code} {Q : Exit → Act → World → Prop} {a : Act} {w : World}
    (hro : F.round = none) (h1 : 1 ≤ n) {gf : Nat} {lb : Array Value} (hg : a.eval g = .func (.func gf) #[] lb) (hFg : F.fn gf) (eg : ∀ args w, (callFunc gf args).run P w = .ok (.enter gf args) w)
    {enc : Nat → Value → Array Value} {Fit : Nat → Value → World → Prop} {D : Nat → Prop} {N : Nat} {w0 : World} (hit : IterF F (n - 1) P gf lb enc Fit D N w0) (hw0 : KD D w0 w) (hD : ∀ i, D i → i < w.heap.size) (hps : ∀ k v, (enc k v).size = ps.size)
    (I : Nat → World → Prop) (Ix : Code → World → Prop) (hI : OwnFrom w.heap.size I) (hIx : OwnFrom w.heap.size Ix) (hFit : ∀ k v, OwnFrom w.heap.size (fun (_ : Unit) W => Fit k v W)) (h0 : I 0 w) (a₁ : Nat → Value → Act)
    (hassign : ∀ (l k : Nat) (v : Value) (W : World) (K : Act → World → Prop), K (a₁ k v) W →
      assign.wpIn (F.inRound l) (n - 1 - 1) P (Exit.then K (fun _ _ _ => False)) { tmps := (ps.zip (enc k v)).foldl (fun t (p, v) => t.setIfInBounds p v) a.tmps, defers := [] } W)
    (hbody : ∀ (l k : Nat) (v : Value) (W : World), w.heap.size ≤ l → (∃ r, W.heap[l]? = some (.loop r)) → I k W → Fit k v W → k < N → body.wpIn (F.inRound l) (n - 1 - 1) P (OutF w.heap.size D I Ix k W) (a₁ k v) W)
    (hdone : ∀ (d : Nat) (W : World), w.heap.size ≤ d → I N W → W.heap[d]? = some (.deferred (some [])) → Q .normal { a with defers := { target := .collected d, args := #[] } :: a.defers } W)
    (hstop : ∀ (d : Nat) (c : Code) (W : World), w.heap.size ≤ d → Ix c W → W.heap[d]? = some (.deferred (some [])) → c.wpIn F n P Q { a with defers := { target := .collected d, args := #[] } :: a.defers } W) :
    (Code.rangeFunc g ps assign body).wpIn F n P Q a w := by
  refine wpIn_rangeFunc fun fn hfn => ?_
  rw [hro]
  let R : LoopState → Option Code → Loop := fun st pe => { state := st, pending := pe, fn, tmps := a.tmps, params := ps, assign, body, defers := w.heap.size }
  have hds : ∀ i, D i → i ≠ w.heap.size ∧ i ≠ w.heap.size + 1 := fun i hi => by have := hD i hi; omega
  have hnd : ¬ D (w.heap.size + 1) := fun h => (hds _ h).2 rfl
  -- what of the two blocks of book-keeping: the record at st, pe, and the block for deferred calls
  let BK : LoopState → Option Code → World → Prop := fun st pe W => W.heap[w.heap.size + 1]? = some (.loop (R st pe)) ∧ W.heap[w.heap.size]? = some (.deferred (some []))
  have bk_put : ∀ {st pe W} (st' pe'), BK st pe W → BK st' pe' (W.putObj (w.heap.size + 1) (.loop (R st' pe'))) := fun st' pe' h =>
    ⟨World.putObj_heap_same (Array.getElem?_eq_some_iff.1 h.1).1, (World.putObj_heap_other (by omega)).trans h.2⟩
  have bk_kept : ∀ {st pe A C}, BK st pe A → KeepsFrom w.heap.size A C → BK st pe C := fun h k => ⟨k.same _ _ (by omega) h.1 rfl, k.same _ _ (Nat.le_refl _) h.2 rfl⟩
  have bk_grown : ∀ {st pe A C}, BK st pe A → A.grownBy C none → BK st pe C := fun h k =>
    ⟨(k.block _ (Array.getElem?_eq_some_iff.1 h.1).1 (by simp)).trans h.1, (k.block _ (Array.getElem?_eq_some_iff.1 h.2).1 (by simp)).trans h.2⟩
  obtain ⟨W1, hW1⟩ : ∃ W1, (w.alloc (.deferred (some []))).alloc (.loop (R .ready none)) = W1 := ⟨_, rfl⟩
  have hg1 : w.grownBy W1 none := by
    rw [← hW1]
    exact ⟨rfl, rfl, rfl, by simp; omega, fun i hi _ => (Below.heap_alloc _ _ _ (by simp; omega)).trans (Below.heap_alloc _ _ _ hi)⟩
  have hBK1 : BK .ready none W1 := by
    rw [← hW1]
    refine ⟨?_, (Below.heap_alloc _ _ _ (by simp)).trans (World.alloc_heap_new w _)⟩
    have := World.alloc_heap_new (w.alloc (.deferred (some []))) (.loop (R .ready none))
    rwa [World.size_alloc] at this
  refine ⟨w.heap.size + 1, [{ target := .collected w.heap.size, args := #[] }], W1, { target := .fn (.func gf) lb, args := #[.func (.yield (w.heap.size + 1)) #[] #[]] }, W1, gf, #[.func (.yield (w.heap.size + 1)) #[] #[]] ++ lb, W1, ?_, ?_, ?_, ?_, fun _ => h1, ?_⟩
  · rw [← hW1]; exact run_enterLoop_outer _ _ _ _ _
  · simp only [resolve, hg]; simp [go_sem]
  · intro f' hf'; simp [Target.leads] at hf'; subst hf'; exact hFg
  · simp [invoke, go_sem, eg]
  · refine (hit (w.heap.size + 1) (fun k W => I k W ∧ BK .ready none W) (fun W => ∃ c, Ix c W ∧ BK .done (some c) W) W1 (hw0.trans ⟨hg1.size, fun i hi => hg1.block i (hD i hi) (by simp)⟩)
      (fun k A C h hg' => ⟨hI k A C none h.1 hg' (fun r e => by cases e), bk_grown h.2 hg'⟩) ?_ ⟨hI 0 w W1 none h0 hg1 (fun r e => by cases e), hBK1⟩).mono ?_
    · rintro k v W ⟨hi, hb⟩ hf hk
      refine ⟨fn, _, assign, body, run_yield (P := P) (r := R .ready none) (args := enc k v) hb.1 (hps k v), roundIn_of_wpIn hfn (hassign _ k v W _ ⟨_, run_beginRound hb.1 rfl, ?_⟩)⟩
      have hb2 : BK .busy none (W.putObj (w.heap.size + 1) (.loop (R .busy none))) := bk_put _ _ hb
      refine wpIn_mono (hbody _ k v _ (by omega) ⟨_, hb2.1⟩ (hI.putObj _ hi (by omega) hb.1 rfl) ((hFit k v).putObj (s := ()) _ hf (by omega) hb.1 rfl) hk) ?_
      rintro e a3 W3 hp
      cases e with
      | normal =>
        obtain ⟨k1, k2, k3⟩ := hp
        have hb3 := bk_kept hb2 k1
        exact ⟨_, _, run_endRound (P := P) none hb3.1, .inl ⟨rfl, ⟨hI.putObj _ k3 (by omega) hb3.1 rfl, bk_put .ready none hb3⟩, ((KD.put hnd _).trans k2).trans (KD.put hnd _)⟩⟩
      | ret =>
        have hb3 := bk_kept hb2 hp.1
        exact ⟨_, _, run_endRound (P := P) (some .ret) hb3.1, .inr ⟨rfl, .ret, hIx.putObj _ hp.2 (by omega) hb3.1 rfl, bk_put .done (some .ret) hb3⟩⟩
      | exit id =>
        have hb3 := bk_kept hb2 hp.1
        exact ⟨_, _, run_endRound (P := P) (some (.exit id)) hb3.1, .inr ⟨rfl, .exit id, hIx.putObj _ hp.2 (by omega) hb3.1 rfl, bk_put .done (some (.exit id)) hb3⟩⟩
      | goto t => exact hp.elim
      | panic ch => exact hp.elim
      | outgrown => exact hp.elim
    · rintro e W2 ⟨⟨v, rfl⟩, ⟨hi, hb⟩ | ⟨c, hc, hb⟩⟩
      · exact ⟨none, _, run_endLoop (P := P) hb.1 (by simp [R]), hdone _ _ (Nat.le_refl _) (hI.putObj _ hi (by omega) hb.1 rfl) ((World.putObj_heap_other (by omega)).trans hb.2)⟩
      · exact ⟨some c, _, run_endLoop (P := P) hb.1 (by simp [R]), hstop _ c _ (Nat.le_refl _) (hIx.putObj _ hc (by omega) hb.1 rfl) ((World.putObj_heap_other (by omega)).trans hb.2)⟩
def noDefer (o : Oper) : Bool := match o.op with | .defer _ => false | _ => true
theorem noDefer_spec {ops : Array Oper} (h : ops.all noDefer = true) (i : Nat) (o : Oper) (ho : ops[i]? = some o) : ∀ c, o.op ≠ .defer c := fun c e => by
  obtain ⟨hi, rfl⟩ := Array.getElem?_eq_some_iff.1 ho
  have := (Array.all_eq_true.1 h) i hi
  simp [noDefer, e] at this
theorem any_round {F : Fence} {n : Nat} {P : Program} {ops : Array Oper} {Q : Exit → Act → World → Prop} {md : Region.Mode} {l : Nat} (hro : F.round = none) (hd : ops.all noDefer = true) :
    ∀ (fuel : Nat) (listed : Array Bool) (a : Act) (w : World), wpAnyIn F n P md ops Q fuel listed a w → wpAnyIn (F.inRound l) n P md ops Q fuel listed a w
  | 0, _, _, _, h => h
  | fuel + 1, listed, a, w, h => by
    refine ⟨h.1, fun i hi => ?_⟩
    have h1 := wpOpIn_mono (fun a' w' h' => any_round (l := l) hro hd fuel (listed.setIfInBounds i true) a' w' h') (h.2 i hi)
    unfold wpOpIn at h1 ⊢
    cases ho : ops[i]? with
    | none => simpa only [ho] using h1
    | some o =>
      simp only [ho] at h1 ⊢
      by_cases hw : Region.wanted o (yielded ops a.tmps) = true
      · simp only [hw, if_true] at h1 ⊢
        unfold Oper.wpIn at h1 ⊢
        refine ⟨h1.1, ?_⟩
        have h2 := h1.2
        rw [Oper.semAt_eq _ _ _ (noDefer_spec hd i o ho)] at h2 ⊢
        exact h2
      · simp only [hw] at h1 ⊢
        exact h1
theorem box_from {A C : World} {row : Option Nat} {B n : Nat} {t : TypeId} {v : Value} (h : Boxed A B t v) (hg : A.grownBy C row) (hr : ∀ r, row = some r → n ≤ r ∧ ∃ o : Obj, A.heap[r]? = some o ∧ o.isCells = false) : Boxed C B t v :=
  h.kept hg fun e => by
    obtain ⟨_, o, ho, hc⟩ := hr B e.symm
    rw [show A.heap[B]? = _ from h] at ho
    cases ho
    cases hc
theorem row_from {A C : World} {row : Option Nat} {B n k size : Nat} {e : TypeId} {v : Value} {xs : List Value} (h : A.ownsRow B e size v k xs) (hg : A.grownBy C row) (hr : ∀ r, row = some r → n ≤ r ∧ ∃ o : Obj, A.heap[r]? = some o ∧ o.isCells = false) : C.ownsRow B e size v k xs := by
  refine h.kept hg ?_
  rcases h.2 with ⟨rfl, _⟩ | ⟨g, cap, cur, rfl, _, hgb, _⟩
  · exact .inl rfl
  · refine .inr fun e' => ?_
    obtain ⟨_, o, ho, hc⟩ := hr g (by simpa [Value.ownBlock] using e'.symm)
    rw [hgb] at ho
    cases ho
    cases hc
theorem below_from {w A C : World} {row : Option Nat} {B n : Nat} (h : Below B w A) (hB : B ≤ w.heap.size) (hg : A.grownBy C row) (hr : ∀ r, row = some r → n ≤ r ∧ ∃ o : Obj, A.heap[r]? = some o ∧ o.isCells = false) (hn : B ≤ n) : Below B w C :=
  h.grown hg (Nat.le_trans hB h.size) (fun k e => by have := (hr k e).1; omega)
end Go.Proofs.Ytmpdmkckjajhiaa
namespace Go.Proofs.Ytmpdmkckjajhiaa
open Go Go.RowKit Go.Shelf Ev
attribute [local go_sem] Oper.semAt_some
def regOf (id : Nat) : Code → Option (Array Oper)
  | .region i ops _ => if i = id then some ops else none
  | .seq a b => match regOf id a with | some o => some o | none => regOf id b
  | .cond _ x y => match regOf id x with | some o => some o | none => regOf id y
  | .block _ c => regOf id c
  | .loop c => regOf id c
  | .rangeFunc _ _ a b => match regOf id a with | some o => some o | none => regOf id b
  | _ => none
noncomputable def itOps : Array Oper := ((Try.f28.body).bind (regOf 2)).getD #[]
def tabI : List (Nat × List AV × AV) := [(30, [.tv (.sc (.int .u64 (.var 500)))], V 176 16), (37, [V 0 176, V 176 16, N64 10], V 192 16)]
def tmI : Tm := tmL 26 [(2, .tv (.sc (.ptr 0 0))), (4, .tv (.sc (.int .u64 (.var 500))))]
def hI : List Blk := [⟨true, false, 0, [.ptr 1 0]⟩, ciBlk]
noncomputable def it2 : Tm × List Blk := (evPlan (evCall Try.prog ciLore (tabCon tabI) 100) Try.prog ciLore itOps tmI hI).getD (tmI, [])
theorem it2_H : it2.2 = hI ++ [newBlk (vars 192 16)] := by kernel_rfl
theorem it2_5 : it2.1.get 5 = some (.tv (.sc (.ptr 2 0))) := by kernel_rfl
theorem it2_ld : evLoad Try.prog it2.1 it2.2 53 (.tmp 5) = some (V 192 16) := by kernel_rfl
theorem it2_ev : evPlan (evCall Try.prog ciLore (tabCon tabI) 100) Try.prog ciLore itOps tmI hI = some (it2.1, it2.2) := by kernel_rfl
theorem it2_keep : ([0, 1, 2, 3, 4, 7, 8, 9, 17, 18, 19, 20, 21, 22, 23, 24, 25].all (keepsJ itOps)) = true := by kernel_rfl
def fI (k : List Nat) (n : Nat) : Nat → Nat := fun i => if i < 176 then at8 (schedL k) i else if i < 192 then at8 (ctrL n) (i - 176) else at8 (ksL k n) (i - 192)
theorem fI_0 {k : List Nat} (hk : Byt k) (hl : k.length = 16) (n : Nat) : named (fI k n) 0 176 = schedL k := at8_vars (schedL_ok hl hk).1 fun i hi => by unfold fI; rw [if_pos (by omega), Nat.zero_add]
theorem fI_1 (k : List Nat) (n : Nat) : named (fI k n) 176 16 = ctrL n := at8_vars (ctrL_length n) fun i hi => by unfold fI; rw [if_neg (by omega), if_pos (by omega), Nat.add_sub_cancel_left]
theorem fI_2 {k : List Nat} (hk : Byt k) (hl : k.length = 16) (n : Nat) : named (fI k n) 192 16 = ksL k n := at8_vars (ksL_ok hl hk n).1 fun i hi => by unfold fI; rw [if_neg (by omega), if_neg (by omega), Nat.add_sub_cancel_left]
theorem it_con {k : List Nat} (hk : Byt k) (hl : k.length = 16) (n : Nat) : ConOk Try.prog (envC (fI k n) (n : Int)) (tabCon tabI) := by
  obtain ⟨s1, s2, _⟩ := schedL_ok hl hk
  refine tabCon_ok ?_
  intro e he
  simp only [tabI, List.mem_cons, List.not_mem_nil, or_false] at he
  rcases he with rfl | rfl
  · intro ms W args ha
    have ea : args = #[.int .u64 (n : Int)] := by
      obtain ⟨l⟩ := args
      have hl1 : l.length = 1 := by have := congrArg List.length ha; simpa using this.symm
      match l, hl1, ha with
      | [u], _, ha =>
        have e1 : (AV.tv (.sc (.int .u64 (.var 500)))).inst (envC (fI k n) (n : Int)) ms = some (.int .u64 (n : Int)) := rfl
        simp only [List.map_cons, List.map_nil, List.cons.injEq, and_true, e1, Option.some.injEq] at ha
        subst ha
        rfl
    subst ea
    exact (counter_any W n).mono fun e w' ⟨q1, q2⟩ => ⟨_, q1, by rw [VC _ _ 176 16 (by decide), fI_1], q2⟩
  · intro ms W args ha
    have ea : args = #[.agg (cells8 (schedL k)), .agg (cells8 (ctrL n)), .int .i64 10] := by
      obtain ⟨l⟩ := args
      have hl1 : l.length = 3 := by have := congrArg List.length ha; simpa using this.symm
      match l, hl1, ha with
      | [u, u', u''], _, ha =>
        have e1 : (N64 10).inst (envC (fI k n) (n : Int)) ms = some (.int .i64 10) := rfl
        simp only [List.map_cons, List.map_nil, List.cons.injEq, and_true, VC _ _ 0 176 (by decide), VC _ _ 176 16 (by decide), fI_0 hk hl, fI_1, e1, Option.some.injEq] at ha
        obtain ⟨rfl, rfl, rfl⟩ := ha
        rfl
    subst ea
    exact (enc_call W (schedL k) (ctrL n) s2 s1 (ctrL_byt n) (ctrL_length n)).mono fun e w' ⟨q1, q2⟩ => ⟨_, q1, by rw [VC _ _ 192 16 (by decide), fI_2 hk hl]; rfl, q2⟩
theorem it_lore {k : List Nat} (hk : Byt k) (hl : k.length = 16) (n : Nat) : LoreOk (envC (fI k n) (n : Int)) ciLore := by
  refine tabFact_ok (ρ := envC (fI k n) (n : Int)) ?_
  intro e he
  simp only [ciFact, List.mem_cons, List.not_mem_nil, or_false] at he
  subst he
  refine ⟨schedL k, zeros8 176, by rw [(schedL_ok hl hk).1, zeros8_length], fun ms => ?_, fun ms => lits_map _ _ ms, (decide_eq_false (sched_ne hl hk)).symm⟩
  have := varsC (fI k n) (n : Int) 0 176 (by decide) ms
  rw [fI_0 hk hl] at this
  exact this
theorem it_holds {w : World} {b1 b4 g n m : Nat} {k : List Nat} (h : ItAt w b1 b4 g k m) : Holds (envC (fI k n) (n : Int)) [b4, g] hI w.heap.size w := by
  have h4 : b4 < w.heap.size := World.block_lt_of_cell? w _ h.bc
  have hne : b4 ≠ g := fun e => by
    have h1 := h.bc
    rw [e, h.ci.2 0 (by decide)] at h1
    cases h1
  have two : ∀ {α : Type} {x y z : α} {i : Nat}, [x, y][i]? = some z → (i = 0 ∧ z = x) ∨ (i = 1 ∧ z = y) := fun {α x y z i} h => by
    match i, h with
    | 0, h => simp at h; exact .inl ⟨rfl, h.symm⟩
    | 1, h => simp at h; exact .inr ⟨rfl, h.symm⟩
    | i + 2, h => simp at h
  refine ⟨rfl, fun g hg => absurd hg (Nat.not_lt_zero _), ?_, ?_, ?_, Nat.le_refl _, ?_, ?_, ?_⟩
  · intro i j b kk k' hi hj _ _ _ _
    rcases two hi with ⟨rfl, rfl⟩ | ⟨rfl, rfl⟩ <;> rcases two hj with ⟨rfl, e⟩ | ⟨rfl, e⟩
    · rfl
    · exact absurd e hne
    · exact absurd e.symm hne
    · rfl
  · intro i b kk hi hk hr
    rcases two hk with ⟨rfl, rfl⟩ | ⟨rfl, rfl⟩
    · cases hr
    · cases hr
  · intro i b kk hi hk _
    rcases two hi with ⟨rfl, rfl⟩ | ⟨rfl, rfl⟩
    · exact h4
    · exact h.ci.1
  · intro i kk hk hp
    rcases two hk with ⟨rfl, rfl⟩ | ⟨rfl, rfl⟩
    · cases hp
    · exact vars_plain
  · intro i b kk hi hk j s hs
    rcases two hi with ⟨rfl, rfl⟩ | ⟨rfl, rfl⟩
    · rcases two hk with ⟨_, rfl⟩ | ⟨h0, _⟩
      · match j, hs with
        | 0, hs =>
          simp only [List.getElem?_cons_zero, Option.some.injEq] at hs
          subst hs
          exact ⟨_, rfl, h.bc, fun hr => by cases hr⟩
        | j + 1, hs => simp at hs
      · cases h0
    · rcases two hk with ⟨h0, _⟩ | ⟨_, rfl⟩
      · cases h0
      · have hj : j < 176 := by
          have := (List.getElem?_eq_some_iff.1 hs).1
          simpa [ciBlk, vars] using this
        have : s = .int .u8 (.var j) := by
          rw [show ciBlk.cells = vars 0 176 from rfl, vars_get 176 j hj] at hs
          exact (Option.some.inj hs).symm
        subst this
        refine ⟨_, rfl, ?_, fun hr => by cases hr⟩
        rw [h.ci.2 j hj]
        simp only [Ex.den, envC]
        rw [if_neg (by omega)]
        unfold fI
        rw [if_pos hj]
  · intro i b c k0 kk hi hc hk0 _ _ hk hcap
    rcases two hk with ⟨_, rfl⟩ | ⟨_, rfl⟩ <;> simp [hI, ciBlk] at hcap
theorem arr26 {a : Array Value} (h : a.size = 26) : ∃ x0 x1 x2 x3 x4 x5 x6 x7 x8 x9 x10 x11 x12 x13 x14 x15 x16 x17 x18 x19 x20 x21 x22 x23 x24 x25, a = #[x0, x1, x2, x3, x4, x5, x6, x7, x8, x9, x10, x11, x12, x13, x14, x15, x16, x17, x18, x19, x20, x21, x22, x23, x24, x25] := by
  obtain ⟨l⟩ := a
  match l, h with
  | [x0, x1, x2, x3, x4, x5, x6, x7, x8, x9, x10, x11, x12, x13, x14, x15, x16, x17, x18, x19, x20, x21, x22, x23, x24, x25], _ => exact ⟨_, _, _, _, _, _, _, _, _, _, _, _, _, _, _, _, _, _, _, _, _, _, _, _, _, _, rfl⟩
theorem grown_of {A C : World} (h : Below A.heap.size A C) : A.grownBy C none := ⟨h.os, h.tape, h.output, h.size, fun i hi _ => h.block i hi⟩
theorem ItAt.kept {A C : World} {b1 b4 g n : Nat} {k : List Nat} (h : ItAt A b1 b4 g k n) (hk : KD (itD b1 b4 g) A C) : ItAt C b1 b4 g k n := by
  have e : ∀ i o, itD b1 b4 g i → C.cell? ⟨i, o, none⟩ = A.cell? ⟨i, o, none⟩ := fun i o hi => by simp [World.cell?, hk.2 i hi]
  exact ⟨(e _ _ (.inl rfl)).trans h.bf, (e _ _ (.inr (.inl rfl))).trans h.bc, Nat.lt_of_lt_of_le h.ci.1 hk.1, fun j hj => (e _ _ (.inr (.inr rfl))).trans (h.ci.2 j hj)⟩
set_option maxRecDepth 100000 in
set_option maxHeartbeats 4000000 in
theorem blocks_iter (n : Nat) (w0 : World) (b1 b4 g fr : Nat) (k : List Nat) (hk : Byt k) (hl : k.length = 16) (hfr : fr < 18446744073709551616) (hat : ItAt w0 b1 b4 g k fr) (hD : ∀ i, itD b1 b4 g i → i < w0.heap.size) :
    IterF Fence.wide n Try.prog 28 #[.pointer (some ⟨b1, 0, none⟩), .pointer (some ⟨b4, 0, none⟩)] (fun j v => #[.int .u64 ((fr + j : Nat) : Int), v])
      (fun j v _ => v = .agg (cells8 (ksL k (fr + j)))) (itD b1 b4 g) (18446744073709551616 - fr) w0 := fun l J Jx W hK hJ hY h0 => by
  have HAt := hid (hat.kept hK)
  have HK := hid hK
  have HJ := hid hJ
  have HY := hid hY
  have H0 := hid h0
  have HD := hid hD
  have c1 := HAt.out.bf
  clear hat hK hJ hY h0 hD
  refine callsIn_of_wp Try.func28 rfl trivial ?_ rfl
  simp only [Try.ntmps28, List.size_toArray, List.length_cons, List.length_nil, Nat.reduceAdd, Nat.reduceSub, Array.replicate_succ, Array.replicate_zero, List.push_toArray, List.append_toArray, List.nil_append, List.cons_append]
  gi_wp2
  gi_loopw [4] (fun i wr => ∃ j : Nat, Hid (fr + j < 18446744073709551616) ∧ i = .int .u64 ((fr + j : Nat) : Int) ∧ Hid (J j wr) ∧ Hid (KD (itD b1 b4 g) W wr)) (fun i _ => 18446744073709551616 - (intOf i).toNat)
  case atStart => exact ⟨0, hfr, rfl, H0, KD.refl _ _⟩
  case round =>
    obtain ⟨j, hj, rfl, HJj, HKj⟩ := hrel
    obtain ⟨N, HN⟩ : ∃ N, Hid (fr + j = N) := ⟨_, rfl⟩
    rw [HN.out]
    rw [HN.out] at hj
    have hNlt := hj.out
    have hAt := hid (HAt.out.kept HKj.out)
    gi_wp2
    rename_i K1 hK1 K2 hK2
    refine wpIn_wide.2 (plan_keep (ρ := envC (fI k N) (N : Int)) (call := evCall Try.prog ciLore (tabCon tabI) 100) (ms := [b4, g]) (t := tmI) (H := hI) (t' := it2.1) (H' := it2.2) (it_lore hk hl N) (evCall_ok (it_lore hk hl N) (it_con hk hl N) mixedOrders 100) mixedOrders _ ?rel (it_holds hAt.out) (by kernel_rfl) ?_)
    case rel =>
      refine RelT.ofL (n := 26) rfl (by decide) (fun g hg => absurd hg (Nat.not_lt_zero _)) _ fun p hp => ?_
      simp only [List.mem_cons, List.not_mem_nil, or_false] at hp
      rcases hp with rfl | rfl
      · exact ⟨_, rfl, rfl⟩
      · exact ⟨_, rfl, rfl⟩
    intro ms' a' w1 q1 q2 q3 q4 q5 q6
    refine hK2 _ _ ?_
    clear hK2 K2
    have hsz : a'.tmps.size = 26 := by rw [← q2.sz]; kernel_rfl
    have hlen : ms'.length = 3 := by rw [q4.len, it2_H]; rfl
    obtain ⟨b5, rfl⟩ : ∃ b5, ms' = [b4, g, b5] := by
      obtain ⟨r, rfl⟩ := q1
      match r, hlen with
      | [b5], _ => exact ⟨b5, rfl⟩
    obtain ⟨v5, hv5, hv5'⟩ := q2.get it2_5
    obtain ⟨u, e1, hld⟩ := evLoad_ok q2 (fun n _ _ => (q4.sees n).at _ _) it2_ld
    rw [VC _ _ 192 16 (by decide), fI_2 hk hl] at e1
    obtain ⟨tm, dfs⟩ := a'
    simp only at hsz hv5 hld q3 q6
    obtain ⟨x0, x1, x2, x3, x4, x5, x6, x7, x8, x9, x10, x11, x12, x13, x14, x15, x16, x17, x18, x19, x20, x21, x22, x23, x24, x25, rfl⟩ := arr26 hsz
    subst q3
    have k0 := q6 0 (by kernel_rfl)
    have k1 := q6 1 (by kernel_rfl)
    have k2 := q6 2 (by kernel_rfl)
    have k3 := q6 3 (by kernel_rfl)
    have k4 := q6 4 (by kernel_rfl)
    have k7 := q6 7 (by kernel_rfl)
    simp only [List.getElem?_toArray, List.getElem?_cons_zero, List.getElem?_cons_succ, Option.some.injEq] at k0 k1 k2 k3 k4 k7 hv5
    subst k0 k1 k2 k3 k4 k7
    simp only [AV.inst, TV.inst, SV.inst, addr, List.getElem?_cons_zero, List.getElem?_cons_succ, Option.map_some, Option.some.injEq] at hv5' e1
    subst hv5 hv5' e1
    obtain ⟨z0, z1, z2, z3, z4, z5, z6, z7, z8, z9, z10, z11, z12, z13, z14, z15, hz⟩ := list16 (ksL_ok hl hk N).1
    have hcl : ∀ i, i < 16 → w1.cell? ⟨b5, i, none⟩ = some (.int .u8 ((at8 (ksL k N) i : Nat) : Int)) := fun i hi => by
      obtain ⟨v, r1, r2, _⟩ := q4.cell 2 b5 (newBlk (vars 192 16)) rfl (by rw [it2_H]; rfl) i (.int .u8 (.var (192 + i))) (by simp [newBlk, vars, hi])
      rw [r2, ← r1]
      simp only [SV.inst, Ex.den, envC]
      rw [if_neg (by omega)]
      unfold fI
      rw [if_neg (by omega), if_neg (by omega), Nat.add_sub_cancel_left]
    rw [hz] at hcl
    have hc0 : w1.cell? ⟨b5, 0, none⟩ = some (.int .u8 (z0 : Int)) := hcl 0 (by decide)
    have hc1 : w1.cell? ⟨b5, 1, none⟩ = some (.int .u8 (z1 : Int)) := hcl 1 (by decide)
    have hc2 : w1.cell? ⟨b5, 2, none⟩ = some (.int .u8 (z2 : Int)) := hcl 2 (by decide)
    have hc3 : w1.cell? ⟨b5, 3, none⟩ = some (.int .u8 (z3 : Int)) := hcl 3 (by decide)
    have hc4 : w1.cell? ⟨b5, 4, none⟩ = some (.int .u8 (z4 : Int)) := hcl 4 (by decide)
    have hc5 : w1.cell? ⟨b5, 5, none⟩ = some (.int .u8 (z5 : Int)) := hcl 5 (by decide)
    have hc6 : w1.cell? ⟨b5, 6, none⟩ = some (.int .u8 (z6 : Int)) := hcl 6 (by decide)
    have hc7 : w1.cell? ⟨b5, 7, none⟩ = some (.int .u8 (z7 : Int)) := hcl 7 (by decide)
    have hc8 : w1.cell? ⟨b5, 8, none⟩ = some (.int .u8 (z8 : Int)) := hcl 8 (by decide)
    have hc9 : w1.cell? ⟨b5, 9, none⟩ = some (.int .u8 (z9 : Int)) := hcl 9 (by decide)
    have hc10 : w1.cell? ⟨b5, 10, none⟩ = some (.int .u8 (z10 : Int)) := hcl 10 (by decide)
    have hc11 : w1.cell? ⟨b5, 11, none⟩ = some (.int .u8 (z11 : Int)) := hcl 11 (by decide)
    have hc12 : w1.cell? ⟨b5, 12, none⟩ = some (.int .u8 (z12 : Int)) := hcl 12 (by decide)
    have hc13 : w1.cell? ⟨b5, 13, none⟩ = some (.int .u8 (z13 : Int)) := hcl 13 (by decide)
    have hc14 : w1.cell? ⟨b5, 14, none⟩ = some (.int .u8 (z14 : Int)) := hcl 14 (by decide)
    have hc15 : w1.cell? ⟨b5, 15, none⟩ = some (.int .u8 (z15 : Int)) := hcl 15 (by decide)
    clear hld q6 q2 q4 hsz hlen hcl
    have hB := hid q5.toBelow
    have hjN : j < 18446744073709551616 - fr := by have := HN.out; omega
    obtain ⟨fn, tmps, assign, body, hy, hR⟩ := HY.out j (.agg (cells8 (ksL k (fr + j)))) w1 (HJ.out j wr w1 HJj.out (grown_of hB.out)) rfl hjN
    have HRR := hid hR
    have HKD : Hid (KD (itD b1 b4 g) wr w1) := ⟨hB.out.size, fun i hi => hB.out.block i (Nat.lt_of_lt_of_le (HD.out i hi) (Nat.le_trans HK.out.1 HKj.out.1))⟩
    rw [HN.out, hz] at hy
    simp only [cells8, List.map_cons, List.map_nil] at hy
    clear hz
    clear hR q1 q5
    gi_wp2
    refine ⟨fun h => absurd h (by simp [Fence.wide]), HRR.out.mono ?_⟩
    clear HRR hy hc0 hc1 hc2 hc3 hc4 hc5 hc6 hc7 hc8 hc9 hc10 hc11 hc12 hc13 hc14 hc15
    rintro e W3 (⟨rfl, hJ3, hk3⟩ | ⟨rfl, hJx3⟩)
    · have HF3 := hid (And.intro hk3 hJ3)
      clear hk3 hJ3
      by_cases hmx : N = 18446744073709551615
      · have HE : Hid (j + 1 = 18446744073709551616 - fr) := by
          show _ = _
          have := HN.out
          omega
        have hmi : (N : Int) = 18446744073709551615 := by omega
        gi_wp2
        refine bodyPost_ret (results_none rfl _ _ _) rfl ?_
        exact ⟨⟨_, rfl⟩, .inl (HE.out ▸ HF3.out.2)⟩
      · have hmi : ¬ (N : Int) = 18446744073709551615 := by omega
        have hwr : IntKind.u64.wrap ((N : Int) + 1) = ((N + 1 : Nat) : Int) := by simp [IntKind.wrap, IntKind.bits, IntKind.signed]; omega
        gi_wp2
        go_roundw
        case rel => exact ⟨j + 1, by have := HN.out; show _ < _; omega, by rw [← Nat.add_assoc, HN.out]; go_num, HF3.out.2, HKj.out.trans (HKD.out.trans HF3.out.1)⟩
        case measure => simp [intOf]; omega
    · have HF3 := hid hJx3
      clear hJx3
      gi_wp2
      refine bodyPost_ret (results_none rfl _ _ _) rfl ?_
      exact ⟨⟨_, rfl⟩, .inr HF3.out⟩
end Go.Proofs.Ytmpdmkckjajhiaa
namespace Go.Proofs.Ytmpdmkckjajhiaa
open Go.RowKit
theorem own_mono {w : World} {B B' e n : Nat} {v : Value} {xs : List Value} (h : w.ownsRow B e 1 v n xs) (hb : B' ≤ B) : w.ownsRow B' e 1 v n xs := by
  refine ⟨h.1, ?_⟩
  rcases h.2 with h2 | ⟨g, cap, cur, h1, h2, h3⟩
  · exact .inl h2
  · exact .inr ⟨g, cap, cur, h1, Nat.le_trans hb h2, h3⟩
theorem own_slc {w : World} {B n : Nat} {e : TypeId} {v : Value} {xs : List Value} (h : w.ownsRow B e 1 v n xs) : ∃ p c, v = .slice p n c := by
  rcases h.2 with ⟨rfl, rfl⟩ | ⟨g, cap, cur, rfl, _⟩
  · exact ⟨none, 0, rfl⟩
  · exact ⟨_, _, rfl⟩
theorem none_or (z : Option Nat) : z = none ∨ z ≠ none := by cases z <;> simp
theorem own_below {w w' : World} {B n : Nat} {e : TypeId} {v : Value} {xs : List Value} (h : w.ownsRow B e 1 v n xs) (hb : Below w.heap.size w w') : w'.ownsRow B e 1 v n xs :=
  h.kept ⟨hb.os, hb.tape, hb.output, hb.size, fun k hk _ => hb.block k hk⟩ (none_or _)
theorem own_ne {w w' : World} {B B' n n' : Nat} {e e' : TypeId} {v v' : Value} {xs xs' : List Value} (h : w.ownsRow B e 1 v n xs) (h' : w'.ownsRow B' e' 1 v' n' xs') (hb : w.heap.size ≤ B') :
    (v.ownBlock = none ∨ v.ownBlock ≠ v'.ownBlock) ∧ (v'.ownBlock = none ∨ v'.ownBlock ≠ v.ownBlock) := by
  constructor
  · rcases none_or v.ownBlock with q | q
    · exact .inl q
    · refine .inr fun e => ?_
      obtain ⟨k, hk⟩ := Option.ne_none_iff_exists'.1 q
      have h1 := h.lt k hk
      have h2 := h'.lt k (e ▸ hk)
      omega
  · rcases none_or v'.ownBlock with q | q
    · exact .inl q
    · refine .inr fun e => ?_
      obtain ⟨k, hk⟩ := Option.ne_none_iff_exists'.1 q
      have h1 := h'.lt k hk
      have h2 := h.lt k (e ▸ hk)
      omega
end Go.Proofs.Ytmpdmkckjajhiaa
