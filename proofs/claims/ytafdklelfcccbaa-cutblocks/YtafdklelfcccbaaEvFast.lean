/- The evaluator once more, in a form that the kernel reckons with less: each part is shown to be what it was. -/
import Derived.Test.YtafdklelfcccbaaEvRun
namespace Go.Proofs.Ytafdklelfcccbaa.Ev
open Go Go.RowKit
noncomputable section

/- What a value is, case by case. -/
def Ex.asLit (e : Ex) : Option Int := Ex.casesOn (motive := fun _ => Option Int) e some (fun _ => none) (fun _ _ _ _ => none) (fun _ _ _ _ => none) (fun _ _ _ => none) (fun _ _ => none) (fun _ _ => none) (fun _ _ _ => none)
theorem Ex.asLit_eq {e : Ex} {n : Int} (h : e.asLit = some n) : e = .lit n := by
  cases e <;> first | (cases h; rfl) | (cases h)
def SV.asInt (s : SV) : Option (IntKind × Ex) := SV.casesOn (motive := fun _ => Option (IntKind × Ex)) s (fun k e => some (k, e)) (fun _ => none) none (fun _ _ => none) none (fun _ _ => none) (fun _ _ _ _ => none) (fun _ _ _ _ => none) (fun _ => none) (fun _ _ => none) (fun _ => none) none (fun _ _ _ => none) (fun _ => none) (fun _ _ _ _ => none) (fun _ _ => none) (fun _ _ _ => none) none
theorem SV.asInt_eq {s : SV} {k : IntKind} {e : Ex} (h : s.asInt = some (k, e)) : s = .int k e := by
  cases s <;> first | (cases h; rfl) | (cases h)
def SV.asPtr (s : SV) : Option (Nat × Nat) := SV.casesOn (motive := fun _ => Option (Nat × Nat)) s (fun _ _ => none) (fun _ => none) none (fun _ _ => none) none (fun n o => some (n, o)) (fun _ _ _ _ => none) (fun _ _ _ _ => none) (fun _ => none) (fun _ _ => none) (fun _ => none) none (fun _ _ _ => none) (fun _ => none) (fun _ _ _ _ => none) (fun _ _ => none) (fun _ _ _ => none) none
def SV.asSl (s : SV) : Option (Nat × Nat × Nat) := SV.casesOn (motive := fun _ => Option (Nat × Nat × Nat)) s (fun _ _ => none) (fun _ => none) none (fun _ _ => none) none (fun _ _ => none) (fun n o l _ => some (n, o, l)) (fun n o _ l => some (n, o, l)) (fun _ => none) (fun _ _ => none) (fun _ => none) none (fun _ _ _ => none) (fun _ => none) (fun _ _ _ _ => none) (fun _ _ => none) (fun _ _ _ => none) none
def SV.asBool (s : SV) : Option Bool := SV.casesOn (motive := fun _ => Option Bool) s (fun _ _ => none) some none (fun _ _ => none) none (fun _ _ => none) (fun _ _ _ _ => none) (fun _ _ _ _ => none) (fun _ => none) (fun _ _ => none) (fun _ => none) none (fun _ _ _ => none) (fun _ => none) (fun _ _ _ _ => none) (fun _ _ => none) (fun _ _ _ => none) none
def AV.asSV (v : AV) : Option SV := AV.casesOn (motive := fun _ => Option SV) v (fun t => TV.casesOn (motive := fun _ => Option SV) t some (fun _ => none)) (fun _ => none)
theorem AV.asSV_eq {v : AV} {s : SV} (h : v.asSV = some s) : v = .tv (.sc s) := by
  rcases v with (x | l) | l <;> first | (cases h; rfl) | (cases h)
def AV.asInt (v : AV) : Option (IntKind × Ex) := v.asSV.bind SV.asInt
theorem AV.asInt_eq {v : AV} {k : IntKind} {e : Ex} (h : v.asInt = some (k, e)) : v = .tv (.sc (.int k e)) := by
  unfold AV.asInt at h
  rw [Option.bind_eq_some_iff] at h
  obtain ⟨s, h1, h2⟩ := h
  rw [AV.asSV_eq h1, SV.asInt_eq h2]

/- Lists, by their own recursion. -/
def nthF {α : Type} (l : List α) : Nat → Option α := List.rec (motive := fun _ => Nat → Option α) (fun _ => none) (fun x _ ih i => Nat.casesOn (motive := fun _ => Option α) i (some x) (fun j => ih j)) l
theorem nthF_eq {α : Type} : ∀ (l : List α) (i : Nat), nthF l i = l[i]?
  | [], i => by simp [nthF]
  | x :: l, 0 => rfl
  | x :: l, i + 1 => by rw [List.getElem?_cons_succ, ← nthF_eq l i]; rfl
def setF {α : Type} (l : List α) (v : α) : Nat → List α := List.rec (motive := fun _ => Nat → List α) (fun _ => []) (fun x r ih i => Nat.casesOn (motive := fun _ => List α) i (v :: r) (fun j => x :: ih j)) l
theorem setF_eq {α : Type} (v : α) : ∀ (l : List α) (i : Nat), setF l v i = l.set i v
  | [], i => by simp [setF]
  | x :: l, 0 => rfl
  | x :: l, i + 1 => by rw [List.set_cons_succ, ← setF_eq v l i]; rfl
theorem setF_over (v : SV) : ∀ (l : List SV) (i : Nat), setF l v i = over l i [v]
  | [], i => by simp [setF, over]
  | x :: l, 0 => by cases l <;> rfl
  | x :: l, i + 1 => by rw [over, ← setF_over v l i]; rfl

theorem set_over (v : SV) (l : List SV) (i : Nat) : l.set i v = over l i [v] := by rw [← setF_eq, setF_over]

def ofScalarF (v : Value) : Option SV := Value.casesOn (motive_1 := fun _ => Option SV) v (fun b => some (.bool b)) (fun k n => some (.int k (.lit n))) (fun _ _ => none) (fun _ _ _ => none) (fun s => some (.str (s.data.toList.map UInt8.toNat)))
  (fun a => Option.casesOn (motive := fun _ => Option SV) a (some .nilp) (fun _ => none)) (fun a l c => Option.casesOn (motive := fun _ => Option SV) a (some (.nils l c)) (fun _ => none)) (fun a => Option.casesOn (motive := fun _ => Option SV) a (some .nilm) (fun _ => none)) (fun _ => none) (fun _ _ _ => none) (some .nilf) (fun _ _ => none) (some .nili) (fun _ => none) (fun _ => none)
theorem ofScalarF_eq (v : Value) : ofScalarF v = ofScalar v := by
  cases v <;> first | rfl | (rename_i a; cases a <;> rfl) | (rename_i a l c; cases a <;> rfl)
def evGetF (t : Tm) (x : Operand) : Option AV :=
  match x with
  | .tmp i => t.get i
  | .const v => (ofScalarF v).map fun s => .tv (.sc s)
  | .func f => some (.tv (.sc (.clo f [])))
  | .global g => if g < nGl then some (.tv (.sc (.ptr g 0))) else none
theorem evGetF_eq (t : Tm) (x : Operand) : evGetF t x = evGet t x := by
  cases x <;> simp only [evGetF, evGet, ofScalarF_eq]
def gPtrF (t : Tm) (x : Operand) : Option (Nat × Nat) := (evGetF t x).bind fun v => v.asSV.bind SV.asPtr
theorem gPtrF_eq (t : Tm) (x : Operand) : gPtrF t x = gPtr t x := by
  unfold gPtrF gPtr
  rw [evGetF_eq]
  cases evGet t x with
  | none => rfl
  | some v =>
    rcases v with (s | l) | l
    · cases s <;> rfl
    · rfl
    · rfl

/- Integers. -/
def kIdx (k : IntKind) : Nat := IntKind.casesOn (motive := fun _ => Nat) k 0 1 2 3 4 5 6 7
def kEq (k k' : IntKind) : Bool := Nat.beq (kIdx k) (kIdx k')
theorem kEq_eq (k k' : IntKind) : kEq k k' = decide (k = k') := by cases k <;> cases k' <;> rfl
def wrapF (k : IntKind) (n : Int) : Int := IntKind.casesOn (motive := fun _ => Int) k (IntKind.i8.wrap n) (IntKind.i16.wrap n) (IntKind.i32.wrap n) (IntKind.i64.wrap n) (n % 256) (n % 65536) (n % 4294967296) (n % 18446744073709551616)
theorem wrapF_eq (k : IntKind) (n : Int) : wrapF k n = k.wrap n := by
  cases k <;> first | rfl | (simp [wrapF, IntKind.wrap, IntKind.signed, IntKind.bits])
def ariF (op : BinOp) (k : IntKind) (x y : Int) : Int := BinOp.casesOn (motive := fun _ => Int) op (wrapF k (x + y)) (wrapF k (x - y)) (wrapF k (x * y)) (wrapF k (x.tdiv y)) (x.tmod y) (wrapF k (x * y)) (wrapF k (x * y)) (wrapF k (x * y)) (wrapF k (x * y)) (wrapF k (x * y)) (wrapF k (x * y)) (wrapF k (x * y)) (wrapF k (x * y)) (wrapF k (x * y)) (wrapF k (x * y)) (wrapF k (x * y)) (wrapF k (x * y))
theorem ariF_eq (op : BinOp) (k : IntKind) (x y : Int) : ariF op k x y = ariOf op k x y := by
  cases op <;> simp only [ariF, ariOf, wrapF_eq]
def natOf (k : IntKind) (x : Int) : Nat := (BitVec.ofInt k.bits x).toNat
def bitF (op : BinOp) (k : IntKind) (x y : Int) : Int := BinOp.casesOn (motive := fun _ => Int) op (bitsOf .add k x y) (bitsOf .sub k x y) (bitsOf .mul k x y) (bitsOf .quo k x y) (bitsOf .rem k x y) (wrapF k (Nat.land (natOf k x) (natOf k y) : Nat)) (wrapF k (Nat.lor (natOf k x) (natOf k y) : Nat)) (wrapF k (Nat.xor (natOf k x) (natOf k y) : Nat)) (bitsOf .shl k x y) (bitsOf .shr k x y) (bitsOf .andNot k x y) (bitsOf .eql k x y) (bitsOf .neq k x y) (bitsOf .lss k x y) (bitsOf .leq k x y) (bitsOf .gtr k x y) (bitsOf .geq k x y)
theorem bitF_eq (op : BinOp) (k : IntKind) (x y : Int) : bitF op k x y = bitsOf op k x y := by
  cases op <;> first | rfl | (simp only [bitF, wrapF_eq, natOf, bitsOf]; rfl)
def mkAriF (op : BinOp) (k : IntKind) (a b : Ex) : Ex :=
  match a.asLit with
  | some x => match b.asLit with | some y => .lit (ariF op k x y) | none => .ari op k a b
  | none => .ari op k a b
theorem mkAriF_eq (op : BinOp) (k : IntKind) (a b : Ex) : mkAriF op k a b = mkAri op k a b := by
  cases a <;> first | rfl | (cases b <;> first | rfl | (simp only [mkAriF, Ex.asLit, mkAri, ariF_eq]))
def mkBitF (op : BinOp) (k : IntKind) (a b : Ex) : Ex :=
  match a.asLit with
  | some x => match b.asLit with | some y => .lit (bitF op k x y) | none => .bit op k a b
  | none => .bit op k a b
theorem mkBitF_eq (op : BinOp) (k : IntKind) (a b : Ex) : mkBitF op k a b = mkBit op k a b := by
  cases a <;> first | rfl | (cases b <;> first | rfl | (simp only [mkBitF, Ex.asLit, mkBit, bitF_eq]))
def nmOfF (L : Lore) (e : Ex) : Ex := match e.asLit with | some n => .lit n | none => L.nm e
theorem nmOfF_eq (L : Lore) (e : Ex) : nmOfF L e = nmOf L e := by cases e <;> rfl
def iAri (op : BinOp) (k : IntKind) (a : Ex) (k' : IntKind) (b : Ex) : Option SV := Bool.casesOn (motive := fun _ => Option SV) (kEq k k') none (some (.int k (mkAriF op k a b)))
def iBit (L : Lore) (op : BinOp) (k : IntKind) (a : Ex) (k' : IntKind) (b : Ex) : Option SV := Bool.casesOn (motive := fun _ => Option SV) (kEq k k') none (some (.int k (nmOfF L (mkBitF op k a b))))
def iCmp (L : Lore) (op : BinOp) (k : IntKind) (a : Ex) (k' : IntKind) (b : Ex) : Option SV :=
  match a.asLit with
  | some x =>
    match b.asLit with
    | some y => Bool.casesOn (motive := fun _ => Option SV) (kEq k k') none ((cmpOf op x y).map .bool)
    | none => evInt L op k a k' b
  | none => evInt L op k a k' b
def evIntF (L : Lore) (op : BinOp) (k : IntKind) (a : Ex) (k' : IntKind) (b : Ex) : Option SV := BinOp.casesOn (motive := fun _ => Option SV) op
  (iAri .add k a k' b) (iAri .sub k a k' b) (iAri .mul k a k' b) (evInt L .quo k a k' b) (evInt L .rem k a k' b) (iBit L .and k a k' b) (iBit L .or k a k' b) (iBit L .xor k a k' b) (evInt L .shl k a k' b) (evInt L .shr k a k' b) (iBit L .andNot k a k' b)
  (iCmp L .eql k a k' b) (iCmp L .neq k a k' b) (iCmp L .lss k a k' b) (iCmp L .leq k a k' b) (iCmp L .gtr k a k' b) (iCmp L .geq k a k' b)
theorem boolCase {α : Type} (b : Bool) (x y : α) : (Bool.casesOn (motive := fun _ => α) b x y) = if b = true then y else x := by cases b <;> rfl
theorem iCmp_eq (L : Lore) (op : BinOp) (k : IntKind) (a : Ex) (k' : IntKind) (b : Ex) (h : ∀ x y, evInt L op k (.lit x) k' (.lit y) = if k = k' then (cmpOf op x y).map .bool else none) : iCmp L op k a k' b = evInt L op k a k' b := by
  unfold iCmp
  split
  · rename_i x hx
    split
    · rename_i y hy
      rw [Ex.asLit_eq hx, Ex.asLit_eq hy, h, boolCase, kEq_eq]
      simp
    · rfl
  · rfl
theorem evIntF_eq (L : Lore) (op : BinOp) (k : IntKind) (a : Ex) (k' : IntKind) (b : Ex) : evIntF L op k a k' b = evInt L op k a k' b := by
  cases op
  case add => show iAri .add k a k' b = _; unfold iAri evInt; rw [boolCase, kEq_eq, mkAriF_eq]; simp
  case sub => show iAri .sub k a k' b = _; unfold iAri evInt; rw [boolCase, kEq_eq, mkAriF_eq]; simp
  case mul => show iAri .mul k a k' b = _; unfold iAri evInt; rw [boolCase, kEq_eq, mkAriF_eq]; simp
  case and => show iBit L .and k a k' b = _; unfold iBit evInt; rw [boolCase, kEq_eq, mkBitF_eq, nmOfF_eq]; simp
  case or => show iBit L .or k a k' b = _; unfold iBit evInt; rw [boolCase, kEq_eq, mkBitF_eq, nmOfF_eq]; simp
  case xor => show iBit L .xor k a k' b = _; unfold iBit evInt; rw [boolCase, kEq_eq, mkBitF_eq, nmOfF_eq]; simp
  case andNot => show iBit L .andNot k a k' b = _; unfold iBit evInt; rw [boolCase, kEq_eq, mkBitF_eq, nmOfF_eq]; simp
  case eql => exact iCmp_eq L .eql k a k' b fun x y => rfl
  case neq => exact iCmp_eq L .neq k a k' b fun x y => rfl
  case lss => exact iCmp_eq L .lss k a k' b fun x y => rfl
  case leq => exact iCmp_eq L .leq k a k' b fun x y => rfl
  case gtr => exact iCmp_eq L .gtr k a k' b fun x y => rfl
  case geq => exact iCmp_eq L .geq k a k' b fun x y => rfl
  all_goals rfl
def evBinF (P : Program) (L : Lore) (op : BinOp) (T : TypeId) (x y : AV) : Option AV :=
  match x.asInt with
  | some p => match y.asInt with | some q => (evIntF L op p.1 p.2 q.1 q.2).map fun s => .tv (.sc s) | none => evBin P L op T x y
  | none => evBin P L op T x y
theorem evBinF_eq (P : Program) (L : Lore) (op : BinOp) (T : TypeId) (x y : AV) : evBinF P L op T x y = evBin P L op T x y := by
  unfold evBinF
  split
  · rename_i p hx
    split
    · rename_i q hy
      obtain ⟨k, a⟩ := p
      obtain ⟨k', b⟩ := q
      rw [AV.asInt_eq hx, AV.asInt_eq hy, evIntF_eq]
      rfl
    · rfl
  · rfl

/- Loads and stores. -/
def cell1 (H : List Blk) (p : Nat × Nat) : Option AV := (nthF H p.1).bind fun k => (nthF k.cells p.2).map fun s => .tv (.sc s)
theorem span_one (H : List Blk) (i o : Nat) : span H i o 1 = (H[i]?).bind fun k => (k.cells[o]?).map fun s => [s] := by
  unfold span
  cases hk : H[i]? with
  | none => rfl
  | some k =>
    simp only [Option.bind_some]
    cases hc : k.cells[o]? with
    | none =>
      have : k.cells.length ≤ o := by simpa using hc
      rw [List.drop_eq_nil_of_le this]
      simp
    | some x =>
      have hlt := (List.getElem?_eq_some_iff.1 hc).1
      have e : (k.cells.drop o).take 1 = [x] := by
        rw [List.drop_eq_getElem_cons hlt]
        simp [(List.getElem?_eq_some_iff.1 hc).2]
      rw [e]
      simp
def load1 (H : List Blk) (p : Nat × Nat) (r : Bool) (s : Nat) : Option AV := Bool.casesOn (motive := fun _ => Option AV) r (cell1 H p) ((span H p.1 p.2 s).map fun l => .tv (.agg l))
def evLoadF (P : Program) (t : Tm) (H : List Blk) (T : TypeId) (x : Operand) : Option AV :=
  match gPtrF t x with
  | some p => match rowOf P T with | some (r, s) => load1 H p r s | none => none
  | none => none
theorem evLoadF_eq (P : Program) (t : Tm) (H : List Blk) (T : TypeId) (x : Operand) : evLoadF P t H T x = evLoad P t H T x := by
  unfold evLoadF evLoad
  rw [gPtrF_eq]
  cases gPtr t x with
  | none => cases rowOf P T <;> rfl
  | some p =>
    obtain ⟨n, o⟩ := p
    cases rowOf P T with
    | none => rfl
    | some q =>
      obtain ⟨r, s⟩ := q
      cases r with
      | true => rfl
      | false =>
        show cell1 H (n, o) = _
        unfold cell1
        simp only [nthF_eq, span_one]
        cases H[n]? with
        | none => rfl
        | some k =>
          simp only [Option.bind_some]
          cases k.cells[o]? <;> rfl
def store1 (H : List Blk) (p : Nat × Nat) (v : SV) : Option (List Blk) :=
  match nthF H p.1 with
  | some k => match k.ro with
    | false => match nthF k.cells p.2 with
      | some _ => some (setF H ⟨false, k.pl && v.plain, 0, setF k.cells v p.2⟩ p.1)
      | none => none
    | true => none
  | none => none
def evStoreF (P : Program) (t : Tm) (H : List Blk) (T : TypeId) (x y : Operand) : Option (List Blk) :=
  match (evGetF t y).bind AV.asSV with
  | some v =>
    match gPtrF t x with
    | some p => match rowOf P T with
      | some (_, s) => match Nat.beq s 1 with | true => store1 H p v | false => evStore P t H T x y
      | none => none
    | none => none
  | none => evStore P t H T x y
theorem evStoreF_eq (P : Program) (t : Tm) (H : List Blk) (T : TypeId) (x y : Operand) : evStoreF P t H T x y = evStore P t H T x y := by
  unfold evStoreF
  rw [evGetF_eq, gPtrF_eq]
  split
  case h_2 => rfl
  rename_i v hv
  rw [Option.bind_eq_some_iff] at hv
  obtain ⟨av, hv1, hv2⟩ := hv
  have hc : gCells t y = some [v] := by unfold gCells; rw [hv1, AV.asSV_eq hv2]
  cases hp : gPtr t x with
  | none => unfold evStore; rw [hp]
  | some p =>
    obtain ⟨n, o⟩ := p
    cases hr : rowOf P T with
    | none => unfold evStore; rw [hp, hc, hr]
    | some q =>
      obtain ⟨r, s⟩ := q
      simp only
      cases hb : Nat.beq s 1 with
      | false => rfl
      | true =>
        have hs : s = 1 := Nat.eq_of_beq_eq_true hb
        subst hs
        unfold evStore store1
        rw [hp, hc, hr]
        simp only [nthF_eq, setF_eq]
        cases hk : H[n]? with
        | none => rfl
        | some k =>
          simp only
          cases hro : k.ro with
          | true => simp
          | false =>
            simp only
            cases hcell : k.cells[o]? with
            | none =>
              have : k.cells.length ≤ o := by simpa using hcell
              rw [if_neg]
              rintro ⟨_, _, _, h4⟩
              rw [List.drop_eq_nil_of_le this] at h4
              simp at h4
            | some z =>
              have hlt := (List.getElem?_eq_some_iff.1 hcell).1
              rw [if_pos ⟨by simp, rfl, by decide, by rw [List.length_take, List.length_drop]; omega⟩]
              simp [set_over]

/- Places within rows. -/
def idx2 (r : Option (Bool × Nat)) (m o n : Nat) (j : Int) : Option AV :=
  match r with
  | some q => Int.casesOn (motive := fun _ => Option AV) j (fun a => match Nat.blt a n with | true => some (.tv (.sc (.ptr m (o + a * q.2)))) | false => none) (fun _ => none)
  | none => none
theorem idx2_eq (r : Option (Bool × Nat)) (m o n : Nat) (j : Int) : idx2 r m o n j = (match r with
    | some (_, s) => if 0 ≤ j ∧ j < n then some (.tv (.sc (.ptr m (o + j.toNat * s)))) else none
    | none => none) := by
  cases r with
  | none => rfl
  | some q =>
    obtain ⟨q1, q2⟩ := q
    cases j with
    | ofNat a =>
      simp only [idx2]
      by_cases h : a < n
      · have hb : Nat.blt a n = true := Nat.ble_eq_true_of_le h
        rw [hb, if_pos ⟨by simp, by simpa using h⟩]
        rfl
      · have hb : Nat.blt a n = false := by
          cases hq : Nat.blt a n with
          | false => rfl
          | true => exact absurd (Nat.le_of_ble_eq_true hq) h
        rw [hb, if_neg (fun q => h (by simpa using q.2))]
    | negSucc a =>
      simp only [idx2]
      rw [if_neg (fun q => by simp at q)]
def descArr (d : TypeDesc) : Option (Nat × TypeId) := TypeDesc.casesOn (motive := fun _ => Option (Nat × TypeId)) d none none (fun _ => none) (fun _ => none) (fun _ => none) none none (fun _ => none) (fun _ => none) (fun n e => some (n, e)) (fun _ _ => none) (fun _ _ => none) (fun _ => none) (fun _ _ _ => none) (fun _ => none) (fun _ => none) (fun _ _ => none)
def descSl (d : TypeDesc) : Option TypeId := TypeDesc.casesOn (motive := fun _ => Option TypeId) d none none (fun _ => none) (fun _ => none) (fun _ => none) none none (fun _ => none) (fun e => some e) (fun _ _ => none) (fun _ _ => none) (fun _ _ => none) (fun _ => none) (fun _ _ _ => none) (fun _ => none) (fun _ => none) (fun _ _ => none)
def descInt (d : TypeDesc) : Option IntKind := TypeDesc.casesOn (motive := fun _ => Option IntKind) d none none (fun k => some k) (fun _ => none) (fun _ => none) none none (fun _ => none) (fun _ => none) (fun _ _ => none) (fun _ _ => none) (fun _ _ => none) (fun _ => none) (fun _ _ _ => none) (fun _ => none) (fun _ => none) (fun _ _ => none)
def idxF (P : Program) (d : TypeDesc) (s : SV) (j : Int) : Option AV :=
  match s.asPtr with
  | some p => match descArr d with | some q => idx2 (rowOf P q.2) p.1 p.2 q.1 j | none => none
  | none => match s.asSl with
    | some p => match descSl d with | some e => idx2 (rowOf P e) p.1 p.2.1 p.2.2 j | none => none
    | none => none
def evIndexAddrF (P : Program) (T : TypeId) (x i : AV) : Option AV :=
  match i.asInt.bind (fun p => p.2.asLit) with
  | some j => match x.asSV with
    | some s => match P.underlying T with | some d => idxF P d s j | none => none
    | none => none
  | none => none
theorem evIndexAddrF_eq (P : Program) (T : TypeId) (x i : AV) : evIndexAddrF P T x i = evIndexAddr P T x i := by
  unfold evIndexAddrF
  cases hj : i.asInt.bind (fun p => p.2.asLit) with
  | none =>
    simp only
    unfold evIndexAddr
    split
    all_goals first | rfl | (exfalso; simp [AV.asInt, AV.asSV, SV.asInt, Ex.asLit] at hj)
  | some j =>
    rw [Option.bind_eq_some_iff] at hj
    obtain ⟨⟨k, e⟩, h1, h2⟩ := hj
    have hi : i = .tv (.sc (.int k (.lit j))) := by rw [AV.asInt_eq h1, Ex.asLit_eq (show e.asLit = some j from h2)]
    subst hi
    simp only
    rcases x with (s | l) | l
    · simp only [AV.asSV]
      cases hd : P.underlying T with
      | none => simp only [evIndexAddr, hd]
      | some d =>
        simp only
        cases d <;> cases s <;> simp only [evIndexAddr, hd, idxF, SV.asPtr, SV.asSl, descArr, descSl, idx2_eq] <;> rfl
    · simp only [AV.asSV, evIndexAddr]
      cases P.underlying T with
      | none => rfl
      | some d => cases d <;> rfl
    · simp only [AV.asSV, evIndexAddr]
      cases P.underlying T with
      | none => rfl
      | some d => cases d <;> rfl

/- Conversions. -/
def evConvF (P : Program) (t : Tm) (H : List Blk) (src dst : TypeId) (x : Operand) : Option (AV × List Blk) :=
  match (evGetF t x).bind AV.asInt with
  | some q => match P.underlying src with
    | some _ => match (P.underlying dst).bind descInt with
      | some k => some (.tv (.sc (.int k (mkCon k q.2))), H)
      | none => evConvX P t H src dst x
    | none => evConvX P t H src dst x
  | none => evConvX P t H src dst x
theorem evConvF_eq (P : Program) (t : Tm) (H : List Blk) (src dst : TypeId) (x : Operand) : evConvF P t H src dst x = evConvX P t H src dst x := by
  unfold evConvF
  rw [evGetF_eq]
  split
  case h_2 => rfl
  rename_i q hq
  split
  case h_2 => rfl
  rename_i d hd
  split
  case h_2 => rfl
  rename_i k hk
  rw [Option.bind_eq_some_iff] at hq hk
  obtain ⟨v, h1, h2⟩ := hq
  obtain ⟨k0, e⟩ := q
  have hv := AV.asInt_eq h2
  subst hv
  obtain ⟨d2, h3, h4⟩ := hk
  have hd2 : d2 = .int k := by cases d2 <;> first | (cases h4; rfl) | (cases h4)
  subst hd2
  unfold evConvX
  rw [hd, h3, h1]
  cases d <;> simp only [evConv, hd, h3] <;> rfl

/- One operation. -/
abbrev StepT := CallF → Program → Lore → Tm → List Blk → Option (AV × List Blk)
def rdH (r : Option AV) (H : List Blk) : Option (AV × List Blk) := r.map fun v => (v, H)
def evBinOF (P : Program) (L : Lore) (op : BinOp) (T : TypeId) (x y : Operand) (a b : AV) : Option AV := Option.casesOn (motive := fun _ => Option AV) (evBinF P L op T a b) (evNil P op T x y a b) (fun r => some r)
theorem evBinOF_eq (P : Program) (L : Lore) (op : BinOp) (T : TypeId) (x y : Operand) (a b : AV) : evBinOF P L op T x y a b = evBinO P L op T x y a b := by
  unfold evBinOF evBinO
  rw [evBinF_eq]
  cases evBin P L op T a b <;> rfl
def fBin (P : Program) (L : Lore) (t : Tm) (op : BinOp) (T : TypeId) (x y : Operand) : Option AV := match evGetF t x with | some a => (match evGetF t y with | some b => evBinOF P L op T x y a b | none => none) | none => none
def fIdx (P : Program) (t : Tm) (T : TypeId) (x i : Operand) : Option AV := match evGetF t x with | some a => (match evGetF t i with | some b => evIndexAddrF P T a b | none => none) | none => none
def fStore (P : Program) (t : Tm) (H : List Blk) (T : TypeId) (x y : Operand) : Option (AV × List Blk) := (evStoreF P t H T x y).map fun H' => (.tup [], H')
def fCallV (call : CallF) (P : Program) (t : Tm) (H : List Blk) (f : Operand) (c : Call) : Option (AV × List Blk) :=
  match evGet t f, seqO (c.args.toList.map (evGet t)) with
  | some (.tv (.sc (.clo g caps))), some as => if canCall P g then call g (as ++ ptrs caps) H else none
  | _, _ => none
def old (op : Op) : StepT := fun call P L t H => evStepX op call P L t H
def evStepF (op : Op) : StepT := Op.casesOn (motive := fun _ => StepT) op
  (fun x _ _ _ t H => rdH (evGetF t x) H)
  (fun x _ _ _ t H => rdH (evGetF t x) H)
  (fun c a b => old (.pick c a b))
  (fun T => old (.alloc T))
  (fun T x => old (.box T x))
  (fun T ps _ P _ t H => rdH (evBuild P t T ps.toList) H)
  (fun T n ps => old (.buildSlice T n ps))
  (fun a b c d => old (.insert a b c d))
  (fun T x _ P _ t H => rdH (evLoadF P t H T x) H)
  (fun T x y _ P _ t H => fStore P t H T x y)
  (fun g => old (.ready g))
  (fun g => old (.waits g))
  (fun x => old (.nilCheck x))
  (fun op T x y _ _ P L t H => rdH (fBin P L t op T x y) H)
  (fun op T x => old (.unOp op T x))
  (fun s d x _ P _ t H => evConvF P t H s d x)
  (fun T x => old (.sliceToArrayPointer T x))
  (fun T x => old (.makeInterface T x))
  (fun f a c => old (.makeFunc f a c))
  (fun T r => old (.makeMap T r))
  (fun T r => old (.makeChan T r))
  (fun T x y => old (.makeSlice T x y))
  (fun T x l h m _ P _ t H => rdH (evSlice P t T x l h m) H)
  (fun T x f => old (.fieldAddr T x f))
  (fun T x f => old (.field T x f))
  (fun T x i _ P _ t H => rdH (fIdx P t T x i) H)
  (fun T x i => old (.index T x i))
  (fun a b c d => old (.lookup a b c d))
  (fun a b c d => old (.mapUpdate a b c d))
  (fun a b c => old (.mapEntry a b c))
  (fun a b c d => old (.entryStore a b c d))
  (fun a b => old (.range a b))
  (fun a b => old (.next a b))
  (fun a => old (.entry a))
  (fun a b c d => old (.typeAssert a b c d))
  (fun x i => old (.extract x i))
  (fun c => old (.call c))
  (fun c => old (.go c))
  (fun c => old (.defer c))
  (fun x => old (.panic x))
  (fun a b => old (.send a b))
  (fun a b c => old (.recv a b c))
  (fun a b => old (.select a b))
theorem fBin_eq (P : Program) (L : Lore) (t : Tm) (op : BinOp) (T : TypeId) (x y : Operand) : fBin P L t op T x y = match evGet t x, evGet t y with | some a, some b => evBinO P L op T x y a b | _, _ => none := by
  unfold fBin
  rw [evGetF_eq, evGetF_eq]
  cases evGet t x <;> cases evGet t y <;> simp only [evBinOF_eq]
theorem fIdx_eq (P : Program) (t : Tm) (T : TypeId) (x i : Operand) : fIdx P t T x i = match evGet t x, evGet t i with | some a, some b => evIndexAddr P T a b | _, _ => none := by
  unfold fIdx
  rw [evGetF_eq, evGetF_eq]
  cases evGet t x <;> cases evGet t i <;> simp only [evIndexAddrF_eq]
theorem evStepF_eq (op : Op) (call : CallF) (P : Program) (L : Lore) (t : Tm) (H : List Blk) : evStepF op call P L t H = evStepX op call P L t H := by
  cases op
  case move x => show rdH (evGetF t x) H = _; rw [evGetF_eq]; rfl
  case assign x => show rdH (evGetF t x) H = _; rw [evGetF_eq]; rfl
  case load T x => show rdH (evLoadF P t H T x) H = _; rw [evLoadF_eq]; rfl
  case store T x y => show fStore P t H T x y = _; unfold fStore; rw [evStoreF_eq]; rfl
  case binOp op T x y T' => show rdH (fBin P L t op T x y) H = _; rw [fBin_eq]; rfl
  case convert s d x => show evConvF P t H s d x = _; rw [evConvF_eq]; rfl
  case indexAddr T x i => show rdH (fIdx P t T x i) H = _; rw [fIdx_eq]; rfl
  all_goals rfl

/- Reading alone. -/
abbrev ReadT := Program → Lore → Tm → List Blk → Option AV
def convR (P : Program) (s d : TypeId) (a : AV) : Option AV :=
  match a.asInt with
  | some q => match P.underlying s with
    | some _ => match (P.underlying d).bind descInt with | some k => some (.tv (.sc (.int k (mkCon k q.2)))) | none => evConv P s d a
    | none => evConv P s d a
  | none => evConv P s d a
theorem convR_eq (P : Program) (s d : TypeId) (a : AV) : convR P s d a = evConv P s d a := by
  unfold convR
  split
  case h_2 => rfl
  rename_i q hq
  split
  case h_2 => rfl
  rename_i d1 hd
  split
  case h_2 => rfl
  rename_i k hk
  rw [Option.bind_eq_some_iff] at hk
  obtain ⟨k0, e⟩ := q
  have hv := AV.asInt_eq hq
  subst hv
  obtain ⟨d2, h3, h4⟩ := hk
  have hd2 : d2 = .int k := by cases d2 <;> first | (cases h4; rfl) | (cases h4)
  subst hd2
  simp only [evConv, hd, h3]
def fConvR (P : Program) (t : Tm) (s d : TypeId) (x : Operand) : Option AV := match evGetF t x with | some a => convR P s d a | none => none
def oldR (op : Op) : ReadT := fun P L t H => evReadX op P L t H
def evReadF (op : Op) : ReadT := Op.casesOn (motive := fun _ => ReadT) op
  (fun x _ _ t _ => evGetF t x)
  (fun x _ _ t _ => evGetF t x)
  (fun c a b => oldR (.pick c a b))
  (fun T => oldR (.alloc T))
  (fun T x => oldR (.box T x))
  (fun T ps P _ t _ => evBuild P t T ps.toList)
  (fun T n ps => oldR (.buildSlice T n ps))
  (fun a b c d => oldR (.insert a b c d))
  (fun T x P _ t H => evLoadF P t H T x)
  (fun T x y => oldR (.store T x y))
  (fun g => oldR (.ready g))
  (fun g => oldR (.waits g))
  (fun x => oldR (.nilCheck x))
  (fun op T x y _ P L t _ => fBin P L t op T x y)
  (fun op T x => oldR (.unOp op T x))
  (fun s d x P _ t _ => fConvR P t s d x)
  (fun T x => oldR (.sliceToArrayPointer T x))
  (fun T x => oldR (.makeInterface T x))
  (fun f a c => oldR (.makeFunc f a c))
  (fun T r => oldR (.makeMap T r))
  (fun T r => oldR (.makeChan T r))
  (fun T x y => oldR (.makeSlice T x y))
  (fun T x l h m P _ t _ => evSlice P t T x l h m)
  (fun T x f => oldR (.fieldAddr T x f))
  (fun T x f => oldR (.field T x f))
  (fun T x i P _ t _ => fIdx P t T x i)
  (fun T x i => oldR (.index T x i))
  (fun a b c d => oldR (.lookup a b c d))
  (fun a b c d => oldR (.mapUpdate a b c d))
  (fun a b c => oldR (.mapEntry a b c))
  (fun a b c d => oldR (.entryStore a b c d))
  (fun a b => oldR (.range a b))
  (fun a b => oldR (.next a b))
  (fun a => oldR (.entry a))
  (fun a b c d => oldR (.typeAssert a b c d))
  (fun x i => oldR (.extract x i))
  (fun c => oldR (.call c))
  (fun c => oldR (.go c))
  (fun c => oldR (.defer c))
  (fun x => oldR (.panic x))
  (fun a b => oldR (.send a b))
  (fun a b c => oldR (.recv a b c))
  (fun a b => oldR (.select a b))
theorem evReadF_eq (op : Op) (P : Program) (L : Lore) (t : Tm) (H : List Blk) : evReadF op P L t H = evReadX op P L t H := by
  cases op
  case move x => exact evGetF_eq t x
  case assign x => exact evGetF_eq t x
  case load T x => exact evLoadF_eq P t H T x
  case binOp op T x y T' => exact fBin_eq P L t op T x y
  case convert s d x =>
    show fConvR P t s d x = _
    unfold fConvR
    rw [evGetF_eq]
    cases hx : evGet t x with
    | none => simp only [evReadX, hx]
    | some a => simp only [evReadX, hx, convR_eq]
  case indexAddr T x i => exact fIdx_eq P t T x i
  all_goals rfl

/- Regions. -/
def opF (call : CallF) (P : Program) (L : Lore) (ops : Array Oper) (o : Oper) (ih : Tm → List Blk → Option (Tm × List Blk)) (t : Tm) (H : List Blk) : Option (Tm × List Blk) :=
  match wantA ops t o with
  | some b => Bool.casesOn (motive := fun _ => Option (Tm × List Blk)) b (ih (putA t o.dst (.tup [])) H) (match evStepF o.op call P L t H with | some r => ih (putA t o.dst r.1) r.2 | none => none)
  | none => none
def opsF (call : CallF) (P : Program) (L : Lore) (ops : Array Oper) (l : List Oper) : Tm → List Blk → Option (Tm × List Blk) :=
  List.rec (motive := fun _ => Tm → List Blk → Option (Tm × List Blk)) (fun t H => some (t, H)) (fun o _ ih t H => opF call P L ops o ih t H) l
theorem opsF_eq (call : CallF) (P : Program) (L : Lore) (ops : Array Oper) : ∀ (l : List Oper) (t : Tm) (H : List Blk), opsF call P L ops l t H = evOps call P L ops l t H
  | [], _, _ => rfl
  | o :: r, t, H => by
    show opF call P L ops o (opsF call P L ops r) t H = _
    unfold opF
    simp only [evOps, evStep, evStepF_eq]
    cases wantA ops t o with
    | none => rfl
    | some b =>
      cases b with
      | false => exact opsF_eq call P L ops r _ _
      | true =>
        simp only
        cases evStepX o.op call P L t H with
        | none => rfl
        | some q => exact opsF_eq call P L ops r _ _
abbrev RunA := Tm → List (Nat × Nat × Nat) → Option (Tm × List (Nat × Nat × Nat))
def takeF (P : Program) (Lo : Lore) (ops : Array Oper) (H : List Blk) (o : Oper) (ih : RunA) (t : Tm) (L : List (Nat × Nat × Nat)) : Option (Tm × List (Nat × Nat × Nat)) :=
  match wantA ops t o with
  | some b => Bool.casesOn (motive := fun _ => Option (Tm × List (Nat × Nat × Nat))) b (ih (putA t o.dst (.tup [])) L) (match evReadF o.op P Lo t H with | some v => ih (putA t o.dst v) (addSpan P t o.op L) | none => none)
  | none => none
def runAF (P : Program) (Lo : Lore) (ops : Array Oper) (H : List Blk) (l : List Nat) : RunA :=
  List.rec (motive := fun _ => RunA) (fun t L => some (t, L)) (fun i _ ih t L => match ops[i]? with | some o => takeF P Lo ops H o ih t L | none => none) l
theorem runAF_eq (P : Program) (Lo : Lore) (ops : Array Oper) (H : List Blk) : ∀ (l : List Nat) (t : Tm) (L : List (Nat × Nat × Nat)), runAF P Lo ops H l t L = runA P Lo ops H l t L
  | [], _, _ => rfl
  | i :: r, t, L => by
    show (match ops[i]? with | some o => takeF P Lo ops H o (runAF P Lo ops H r) t L | none => none) = _
    simp only [runA]
    cases ops[i]? with
    | none => rfl
    | some o =>
      simp only [takeF, evRead, evReadF_eq]
      cases wantA ops t o with
      | none => rfl
      | some b =>
        cases b with
        | false => exact runAF_eq P Lo ops H r _ _
        | true =>
          simp only
          cases evReadX o.op P Lo t H with
          | none => rfl
          | some q => exact runAF_eq P Lo ops H r _ _
abbrev RunB := Bool → Tm → List Blk → Option (Tm × List Blk)
def takeB (P : Program) (Lo : Lore) (ops : Array Oper) (o : Oper) (ih : RunB) (late : Bool) (t : Tm) (H : List Blk) : Option (Tm × List Blk) :=
  match wantA ops t o with
  | some b => Bool.casesOn (motive := fun _ => Option (Tm × List Blk)) b (ih late (putA t o.dst (.tup [])) H) (match evReadF o.op P Lo t [] with | some v => ih late (putA t o.dst v) H | none => none)
  | none => none
def doB (call : CallF) (P : Program) (Lo : Lore) (ops : Array Oper) (H0 : List Blk) (L : List (Nat × Nat × Nat)) (wt : Bool) (o : Oper) (ih : RunB) (late : Bool) (t : Tm) (H : List Blk) : Option (Tm × List Blk) :=
  match wantA ops t o with
  | some b => Bool.casesOn (motive := fun _ => Option (Tm × List Blk)) b (ih (late || wt) (putA t o.dst (.tup [])) H)
    (match evStepF o.op call P Lo t H with | some r => Bool.casesOn (motive := fun _ => Option (Tm × List Blk)) (late || wt || keeps L H0 r.2) none (ih (late || wt) (putA t o.dst r.1) r.2) | none => none)
  | none => none
def runBF (call : CallF) (P : Program) (Lo : Lore) (ops : Array Oper) (H0 : List Blk) (N : List Nat) (L : List (Nat × Nat × Nat)) (l : List (Nat × Bool)) : RunB :=
  List.rec (motive := fun _ => RunB) (fun _ t H => some (t, H)) (fun q _ ih late t H => match ops[q.1]? with
    | some o => Bool.casesOn (motive := fun _ => Option (Tm × List Blk)) q.2 (doB call P Lo ops H0 L (waits ops N q.1) o ih late t H) (takeB P Lo ops o ih late t H)
    | none => none) l
theorem runBF_eq (call : CallF) (P : Program) (Lo : Lore) (ops : Array Oper) (H0 : List Blk) (N : List Nat) (L : List (Nat × Nat × Nat)) : ∀ (l : List (Nat × Bool)) (late : Bool) (t : Tm) (H : List Blk), runBF call P Lo ops H0 N L l late t H = runB call P Lo ops H0 N L l late t H
  | [], _, _, _ => rfl
  | (i, true) :: r, late, t, H => by
    show (match ops[i]? with | some o => takeB P Lo ops o (runBF call P Lo ops H0 N L r) late t H | none => none) = _
    simp only [runB]
    cases ops[i]? with
    | none => rfl
    | some o =>
      simp only [takeB, evRead, evReadF_eq]
      cases wantA ops t o with
      | none => rfl
      | some b =>
        cases b with
        | false => exact runBF_eq call P Lo ops H0 N L r _ _ _
        | true =>
          simp only
          cases evReadX o.op P Lo t [] with
          | none => rfl
          | some q => exact runBF_eq call P Lo ops H0 N L r _ _ _
  | (i, false) :: r, late, t, H => by
    show (match ops[i]? with | some o => doB call P Lo ops H0 L (waits ops N i) o (runBF call P Lo ops H0 N L r) late t H | none => none) = _
    simp only [runB]
    cases ops[i]? with
    | none => rfl
    | some o =>
      simp only [doB, evStep, evStepF_eq]
      cases wantA ops t o with
      | none => rfl
      | some b =>
        cases b with
        | false => exact runBF_eq call P Lo ops H0 N L r _ _ _
        | true =>
          simp only
          cases evStepX o.op call P Lo t H with
          | none => rfl
          | some q =>
            simp only [boolCase]
            rw [runBF_eq call P Lo ops H0 N L r _ _ _]
def evPlanF (call : CallF) (P : Program) (Lo : Lore) (ops : Array Oper) (t : Tm) (H : List Blk) : Option (Tm × List Blk) :=
  match planOf P ops with
  | some q => match runAF P Lo ops H q.1 t [] with | some r => runBF call P Lo ops H q.2.1 r.2 q.2.2 false r.1 H | none => none
  | none => evDraw call P Lo ops t H
theorem evPlanF_eq (call : CallF) (P : Program) (Lo : Lore) (ops : Array Oper) (t : Tm) (H : List Blk) : evPlanF call P Lo ops t H = evPlan call P Lo ops t H := by
  unfold evPlanF evPlan
  cases planOf P ops with
  | none => rfl
  | some q =>
    obtain ⟨A, N, bp⟩ := q
    simp only [runAF_eq]
    cases runA P Lo ops H A t [] with
    | none => rfl
    | some r =>
      obtain ⟨t1, L⟩ := r
      simp only [runBF_eq]

/- Code and calls. -/
abbrev OutT := Option (Out × Tm × List Blk)
def normalOut (r : Option (Tm × List Blk)) : OutT := match r with | some q => some (.normal, q.1, q.2) | none => none
def cSeq (self : CodeF) (a b : Code) (t : Tm) (H : List Blk) : OutT := match self a t H with | some q => Out.casesOn (motive := fun _ => OutT) q.1 (self b q.2.1 q.2.2) (fun i => some (.exit i, q.2.1, q.2.2)) (some (.ret, q.2.1, q.2.2)) | none => none
def cCond (self : CodeF) (c : Operand) (x y : Code) (t : Tm) (H : List Blk) : OutT := match (evGetF t c).bind fun v => v.asSV.bind SV.asBool with | some b => Bool.casesOn (motive := fun _ => OutT) b (self y t H) (self x t H) | none => none
def cBlock (self : CodeF) (id : Nat) (c : Code) (t : Tm) (H : List Blk) : OutT := match self c t H with | some q => Out.casesOn (motive := fun _ => OutT) q.1 (some (.normal, q.2.1, q.2.2)) (fun i => Bool.casesOn (motive := fun _ => OutT) (Nat.beq i id) (some (.exit i, q.2.1, q.2.2)) (some (.normal, q.2.1, q.2.2))) (some (.ret, q.2.1, q.2.2)) | none => none
def cLoop (self : CodeF) (c : Code) (t : Tm) (H : List Blk) : OutT := match self c t H with | some q => Out.casesOn (motive := fun _ => OutT) q.1 (self (.loop c) q.2.1 q.2.2) (fun i => some (.exit i, q.2.1, q.2.2)) (some (.ret, q.2.1, q.2.2)) | none => none
def codeStepF (P : Program) (L : Lore) (call : CallF) (self : CodeF) (c : Code) : Tm → List Blk → OutT := Code.casesOn (motive := fun _ => Tm → List Blk → OutT) c
  (fun t H => some (.normal, t, H))
  (fun _ ops draw t H => Bool.casesOn (motive := fun _ => OutT) draw (normalOut (opsF call P L ops ops.toList t H)) (normalOut (evPlanF call P L ops t H)))
  (fun a b => cSeq self a b)
  (fun c x y => cCond self c x y)
  (fun id c => cBlock self id c)
  (fun c => cLoop self c)
  (fun _ _ _ _ _ _ => none)
  (fun id t H => some (.exit id, t, H))
  (fun c => self c) (fun _ t H => some (.normal, t, H)) (fun _ _ _ => none)
  (fun t H => some (.ret, t, H))
  (fun _ _ _ => none)
theorem codeStepF_eq (P : Program) (L : Lore) (call : CallF) (self : CodeF) (c : Code) (t : Tm) (H : List Blk) : codeStepF P L call self c t H = codeStep P L call self c t H := by
  cases c
  case region id ops draw =>
    cases draw with
    | false =>
      show normalOut (opsF call P L ops ops.toList t H) = _
      rw [opsF_eq]
      simp only [codeStep]
      cases evOps call P L ops ops.toList t H <;> rfl
    | true =>
      show normalOut (evPlanF call P L ops t H) = _
      rw [evPlanF_eq]
      simp only [codeStep]
      cases evPlan call P L ops t H <;> rfl
  case seq a b =>
    show cSeq self a b t H = _
    simp only [cSeq, codeStep]
    cases self a t H with
    | none => rfl
    | some q =>
      obtain ⟨o, t1, H1⟩ := q
      cases o <;> rfl
  case cond c x y =>
    show cCond self c x y t H = _
    simp only [cCond, codeStep, evGetF_eq]
    cases evGet t c with
    | none => rfl
    | some v =>
      rcases v with (s | l) | l
      · cases s <;> first | rfl | (rename_i b; cases b <;> rfl)
      · rfl
      · rfl
  case block id c =>
    show cBlock self id c t H = _
    simp only [cBlock, codeStep]
    cases self c t H with
    | none => rfl
    | some q =>
      obtain ⟨o, t1, H1⟩ := q
      cases o with
      | normal => rfl
      | ret => rfl
      | exit i =>
        simp only [boolCase]
        by_cases e : i = id
        · subst e; simp
        · have : Nat.beq i id = false := by
            cases hq : Nat.beq i id with
            | false => rfl
            | true => exact absurd (Nat.eq_of_beq_eq_true hq) e
          simp [this, e]
  case loop c =>
    show cLoop self c t H = _
    simp only [cLoop, codeStep]
    cases self c t H with
    | none => rfl
    | some q =>
      obtain ⟨o, t1, H1⟩ := q
      cases o <;> rfl
  all_goals rfl
def evGF (P : Program) (L : Lore) (mk : CodeF → CallF) (n : Nat) : CodeF := Nat.rec (motive := fun _ => CodeF) (fun _ _ _ => none) (fun _ ih => codeStepF P L (mk ih) ih) n
theorem evGF_eq (P : Program) (L : Lore) (mk : CodeF → CallF) : ∀ n, evGF P L mk n = evG P L mk n
  | 0 => rfl
  | n + 1 => by
    show codeStepF P L (mk (evGF P L mk n)) (evGF P L mk n) = _
    rw [evGF_eq P L mk n]
    funext c t H
    rw [codeStepF_eq]
    rfl
def evCF (P : Program) (L : Lore) (con : ConF) (n : Nat) : CodeF := evGF P L (callStep P con) n
theorem evCF_eq (P : Program) (L : Lore) (con : ConF) (n : Nat) : evCF P L con n = evC P L con n := evGF_eq P L _ n
/-- Contracts that may make and change blocks, ahead of all others. -/
def mkT (P : Program) (con : ConF) (tab : CallF) : CodeF → CallF := fun self g xs H => match tab g xs H with | some r => some r | none => callStep P con self g xs H
theorem mkT_ok {P : Program} {ρ : Env} {con : ConF} (hcon : ConOk P ρ con) {tab : CallF} (htab : CallOk P ρ tab) (self : CodeF) (hs : CodeOk P ρ self) : CallOk P ρ (mkT P con tab self) := by
  intro g xs H v H' h
  unfold mkT at h
  split at h
  · rename_i r hr
    cases h
    exact htab g xs H v H' hr
  · exact callStep_ok hcon hs g xs H v H' h
def evCallT (P : Program) (L : Lore) (con : ConF) (tab : CallF) (n : Nat) : CallF := mkT P con tab (evGF P L (mkT P con tab) n)
theorem evCallT_ok {P : Program} {ρ : Env} {L : Lore} (hL : LoreOk ρ L) {con : ConF} (hcon : ConOk P ρ con) {tab : CallF} (htab : CallOk P ρ tab) (hm : P.follows .mixedOrders = true) (n : Nat) : CallOk P ρ (evCallT P L con tab n) := by
  unfold evCallT
  rw [evGF_eq]
  exact mkT_ok hcon htab _ (evG_ok hL (mkT_ok hcon htab) hm n)
def evCallF (P : Program) (L : Lore) (con : ConF) (n : Nat) : CallF := callStep P con (evCF P L con n)
theorem evCallF_eq (P : Program) (L : Lore) (con : ConF) (n : Nat) : evCallF P L con n = evCall P L con n := by
  unfold evCallF evCall
  rw [evCF_eq]
theorem calls_of_evHF {P : Program} {ρ : Env} {L : Lore} (hL : LoreOk ρ L) {con : ConF} (hcon : ConOk P ρ con) (hm : P.follows .mixedOrders = true) (n : Nat) {g : Nat} {xs : List AV} {v : AV} {ms : List Nat} {H H' : List Blk} (h : evCallF P L con n g xs H = some (v, H')) {args : Array Value} (w : World) (ha : xs.map (AV.inst ρ ms) = args.toList.map some) (hH : Holds ρ ms H w.heap.size w) :
    Calls P g args w fun e w' => ∃ ms' u, e = .returned u ∧ ms <+: ms' ∧ v.inst ρ ms' = some u ∧ Holds ρ ms' H' w.heap.size w' ∧ Below w.heap.size w w' :=
  calls_of_evH hL hcon hm n (by rw [← evCallF_eq]; exact h) w ha hH
theorem calls_of_evF {P : Program} {ρ : Env} {L : Lore} (hL : LoreOk ρ L) {con : ConF} (hcon : ConOk P ρ con) (hm : P.follows .mixedOrders = true) (n : Nat) {g : Nat} {xs : List AV} {v : AV} {H' : List Blk} (h : evCallF P L con n g xs [] = some (v, H')) {args : Array Value} (w : World) (ha : xs.map (AV.inst ρ []) = args.toList.map some) :
    Calls P g args w fun e w' => ∃ ms u, e = .returned u ∧ v.inst ρ ms = some u ∧ Holds ρ ms H' w.heap.size w' ∧ Below w.heap.size w w' :=
  calls_of_ev hL hcon hm n (by rw [← evCallF_eq]; exact h) w ha
end
end Go.Proofs.Ytafdklelfcccbaa.Ev
