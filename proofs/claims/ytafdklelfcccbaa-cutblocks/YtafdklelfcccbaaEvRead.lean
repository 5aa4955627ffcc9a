/- The evaluator's operations that leave the world alone: each of them, and that the model's answer is the same. -/
import Derived.Test.YtafdklelfcccbaaEvPure
import Derived.Laws.Concat
import Derived.Laws.Strings
namespace Go.Proofs.Ytafdklelfcccbaa.Ev
open Go Go.RowKit

def eqS : SV → SV → Option Bool
  | .int k a, .int k' b => if k = k' then (match a, b with | .lit x, .lit y => some (x == y) | _, _ => if a = b then some true else none) else none
  | _, _ => none
def eqL : List SV → List SV → Option Bool
  | [], [] => some true
  | x :: xs, y :: ys => match eqS x y, eqL xs ys with | some b, some c => some (b && c) | _, _ => none
  | _, _ => none
theorem eqS_ok {ρ : Env} {ms : List Nat} {x y : SV} {b : Bool} (h : eqS x y = some b) {u v : Value} (hu : x.inst ρ ms = some u) (hv : y.inst ρ ms = some v) : alike u v = true ∧ eqv u v = b := by
  cases x <;> cases y <;> simp only [eqS] at h <;> try cases h
  rename_i k a k' c
  simp only [SV.inst, Option.some.injEq] at hu hv
  subst hu hv
  split at h
  case isFalse => cases h
  rename_i e
  subst e
  refine ⟨by simp [alike], ?_⟩
  split at h
  · simp only [Option.some.injEq] at h; subst h; simp [eqv, Ex.den]
  · split at h <;> cases h
    rename_i e; subst e; simp [eqv]
theorem eqL_ok {ρ : Env} {ms : List Nat} : ∀ (l l' : List SV) (b : Bool), eqL l l' = some b → ∀ vs us : List Value, l.map (SV.inst ρ ms) = vs.map some → l'.map (SV.inst ρ ms) = us.map some → all2 alike vs us = true ∧ all2 eqv vs us = b
  | [], [], b, h, vs, us, hv, hu => by
    cases vs <;> cases us <;> simp at hv hu
    simp only [eqL, Option.some.injEq] at h; subst h; exact ⟨rfl, rfl⟩
  | x :: l, y :: l', b, h, vs, us, hv, hu => by
    simp only [eqL] at h
    split at h
    case h_2 => cases h
    rename_i b1 b2 h1 h2
    simp only [Option.some.injEq] at h
    subst h
    match vs, us, hv, hu with
    | v :: vs, u :: us, hv, hu =>
      simp only [List.map_cons, List.cons.injEq] at hv hu
      obtain ⟨e1, e2⟩ := eqS_ok h1 hv.1 hu.1
      obtain ⟨e3, e4⟩ := eqL_ok l l' b2 h2 vs us hv.2 hu.2
      simp [all2, e1, e2, e3, e4]
  | [], _ :: _, _, h, _, _, _, _ => by simp [eqL] at h
  | _ :: _, [], _, h, _, _, _, _ => by simp [eqL] at h

def eqA (L : Lore) (l l' : List SV) : Option Bool := match L.factA l l' with | some r => some r | none => eqL l l'
/-- '==' on values that are no single integers. -/
def evEq (P : Program) (L : Lore) (T : TypeId) (x y : AV) : Option Bool :=
  match x, y with
  | .tv (.agg l), .tv (.agg l') =>
    match rowOf P T, flatN P 6 T with
    | some (true, _), some m => if m = l.length ∧ l.length = l'.length ∧ P.eqGuardType P.depth T = false then eqA L l l' else none
    | _, _ => none
  | .tv (.sc x), .tv (.sc y) =>
    match P.underlying T, x, y with
    | some .bool, .bool a, .bool b => some (a == b)
    | some (.pointer _), .nilp, .nilp => some true
    | some (.pointer _), .nilp, .ptr _ _ => some false
    | some (.pointer _), .ptr _ _, .nilp => some false
    | some (.slice _), .nils _ _, .nils _ _ => some true
    | some (.slice _), .nils _ _, .sl _ _ _ _ => some false
    | some (.slice _), .sl _ _ _ _, .nils _ _ => some false
    | some (.slice _), .nils _ _, .slg _ _ _ _ => some false
    | some (.slice _), .slg _ _ _ _, .nils _ _ => some false
    | some (.func _ _ _), .nilf, .nilf => some true
    | some (.func _ _ _), .nilf, .clo _ _ => some false
    | some (.func _ _ _), .clo _ _, .nilf => some false
    | some (.interface _), .nili, .ifp _ _ _ => some false
    | some (.interface _), .ifp _ _ _, .nili => some false
    | some (.interface _), .nili, .ife _ => some false
    | some (.interface _), .ife _, .nili => some false
    | _, _, _ => none
  | _, _ => none
theorem evEq_ok {P : Program} {ρ : Env} {ms : List Nat} {L : Lore} (hL : LoreOk ρ L) {T : TypeId} {x y : AV} {r : Bool} (h : evEq P L T x y = some r) {u v : Value} (hu : x.inst ρ ms = some u) (hv : y.inst ρ ms = some v) (w : World) :
    (Op.equal T u v).run P w = .ok r w ∧ (∀ (op : BinOp) (p q : Operand), (eqGuard op T p q u v).run P w = .ok () w) ∧ (binOp .eql T u v).run P w = .ok (.bool r) w ∧ (binOp .neq T u v).run P w = .ok (.bool (!r)) w := by
  match x, y, h with
  | .tv (.agg l), .tv (.agg l'), h =>
    simp only [evEq] at h
    split at h
    case h_2 => cases h
    rename_i s m h1 h2
    split at h
    case isFalse => cases h
    rename_i hc
    obtain ⟨hm, hll, hg⟩ := hc
    simp only [AV.inst, TV.inst, Option.map_eq_some_iff] at hu hv
    obtain ⟨vs, h3, rfl⟩ := hu
    obtain ⟨us, h4, rfl⟩ := hv
    rw [seqO_iff] at h3 h4
    have hlv : l.length = vs.length := by have := congrArg List.length h3; simpa using this
    have hlu : l'.length = us.length := by have := congrArg List.length h4; simpa using this
    obtain ⟨e1, e2⟩ : all2 alike vs us = true ∧ all2 eqv vs us = r := by
      unfold eqA at h
      split at h
      · rename_i hf
        simp only [Option.some.injEq] at h
        subst h
        exact hL.factA l l' _ hf ms vs us h3 h4
      · exact eqL_ok l l' r h vs us h3 h4
    have key := run_equalIn_flat w 6 10000 T m h2 (by decide) true s h1 vs us (by omega) (by omega) e1
    rw [e2] at key
    have ke : (Op.equal T (.agg vs.toArray) (.agg us.toArray)).run P w = .ok r w := key
    refine ⟨ke, ?_, ?_, ?_⟩
    · intro op p q
      unfold eqGuard
      cases op <;> simp [program, Sem.run, hg]
    · simp only [binOp, Sem.run_bind, ke, Result.andThen_ok, Sem.run_pure]
    · simp only [binOp, Sem.run_bind, ke, Result.andThen_ok, Sem.run_pure]
  | .tv (.sc x), .tv (.sc y), h =>
    simp only [evEq] at h
    simp only [AV.inst, TV.inst] at hu hv
    split at h <;> first | (cases h; done) | skip
    all_goals
      rename_i hun
      have key0 : ∀ D, (Op.equalIn (D + 1) T u v).run P w = .ok r w := fun D => by
        simp only [Option.some.injEq] at h
        subst h
        simp only [SV.inst, addr, grown_iff, Option.some.injEq, Option.map_eq_some_iff] at hu hv
        first | subst hu | (obtain ⟨_, _, rfl⟩ := hu) | (obtain ⟨_, _, _, _, _, rfl⟩ := hu)
        first | subst hv | (obtain ⟨_, _, rfl⟩ := hv) | (obtain ⟨_, _, _, _, _, rfl⟩ := hv)
        simp only [Op.equalIn, Sem.run_bind, run_underlying hun, Result.andThen_ok, Sem.run_pure]
        try rfl
      have key : (Op.equal T u v).run P w = .ok r w := key0 9999
      clear key0
      simp only [SV.inst, addr, grown_iff, Option.some.injEq, Option.map_eq_some_iff] at hu hv
      first | subst hu | (obtain ⟨_, _, rfl⟩ := hu) | (obtain ⟨_, _, _, _, _, rfl⟩ := hu)
      first | subst hv | (obtain ⟨_, _, rfl⟩ := hv) | (obtain ⟨_, _, _, _, _, rfl⟩ := hv)
      refine ⟨key, ?_, by simp only [binOp, Sem.run_bind, key, Result.andThen_ok, Sem.run_pure], by simp only [binOp, Sem.run_bind, key, Result.andThen_ok, Sem.run_pure]⟩
      intro op p q
      unfold eqGuard
      cases op <;> simp
  | .tup _, _, h => simp [evEq] at h
  | .tv (.agg _), .tup _, h => simp [evEq] at h
  | .tv (.agg _), .tv (.sc _), h => simp [evEq] at h
  | .tv (.sc _), .tup _, h => simp [evEq] at h
  | .tv (.sc _), .tv (.agg _), h => simp [evEq] at h

/- Strings. -/
def lessN : List Nat → List Nat → Bool
  | _, [] => false
  | [], _ :: _ => true
  | a :: x, b :: y => decide (a < b) || (a == b && lessN x y)
def low8 (l : List Nat) : List Nat := l.map (· % 256)
def evStr (op : BinOp) (a b : List Nat) : Option SV :=
  let x := low8 a
  let y := low8 b
  match op with
  | .add => if a.length + b.length ≤ 1000000 then some (.str (a ++ b)) else none
  | .eql => some (.bool (x == y))
  | .neq => some (.bool !(x == y))
  | .lss => some (.bool (lessN x y))
  | .leq => some (.bool (lessN x y || x == y))
  | .gtr => some (.bool !(lessN x y || x == y))
  | .geq => some (.bool !(lessN x y))
  | _ => none
theorem bytesOf_toList (l : List Nat) : (bytesOf l).toList = l.map UInt8.ofNat := by
  rw [ByteArray.toList_eq]; rfl
theorem ofNat_beq (a b : Nat) : (UInt8.ofNat a == UInt8.ofNat b) = (a % 256 == b % 256) := by
  rw [Bool.eq_iff_iff, beq_iff_eq, beq_iff_eq, ← UInt8.toNat_inj]
  simp
theorem map_beq : ∀ (a b : List Nat), (a.map UInt8.ofNat == b.map UInt8.ofNat) = (low8 a == low8 b)
  | [], [] => rfl
  | [], _ :: _ => rfl
  | _ :: _, [] => rfl
  | x :: a, y :: b => by
    simp only [low8, List.map_cons]
    show (UInt8.ofNat x == UInt8.ofNat y && a.map UInt8.ofNat == b.map UInt8.ofNat) = (x % 256 == y % 256 && low8 a == low8 b)
    rw [ofNat_beq, map_beq a b]
theorem map_less : ∀ (a b : List Nat), Op.bytesLess (a.map UInt8.ofNat) (b.map UInt8.ofNat) = lessN (low8 a) (low8 b)
  | _, [] => by simp [Op.bytesLess, low8, lessN]
  | [], _ :: _ => by simp [Op.bytesLess, low8, lessN]
  | x :: a, y :: b => by
    simp only [low8, List.map_cons, Op.bytesLess, lessN]
    have e := map_less a b
    simp only [low8] at e
    rw [ofNat_beq, e]
    congr 1
theorem evStr_ok {P : Program} {ρ : Env} {ms : List Nat} {op : BinOp} {a b : List Nat} {z : SV} (h : evStr op a b = some z) (w : World) : ∃ r, z.inst ρ ms = some r ∧ (Op.stringOp op (bytesOf a) (bytesOf b)).run P w = .ok r w := by
  have e1 : ((bytesOf a).toList == (bytesOf b).toList) = (low8 a == low8 b) := by rw [bytesOf_toList, bytesOf_toList, map_beq]
  have e2 : Op.bytesLess (bytesOf a).toList (bytesOf b).toList = lessN (low8 a) (low8 b) := by rw [bytesOf_toList, bytesOf_toList, map_less]
  unfold evStr at h
  cases op <;> simp only [Option.some.injEq] at h <;> try (cases h; done)
  case add =>
    split at h <;> cases h
    refine ⟨_, rfl, ?_⟩
    rw [run_string_add_sum w _ _ (by simp [bytesOf, ByteArray.size]; omega)]
    simp only [bytesOf, List.map_append]
    rw [ByteArray.mk_append_mk]
  all_goals
    subst h
    refine ⟨_, rfl, ?_⟩
    simp only [Op.stringOp, e1, e2]
    rfl

def evBin (P : Program) (L : Lore) (op : BinOp) (T : TypeId) (x y : AV) : Option AV :=
  match x, y with
  | .tv (.sc (.int k a)), .tv (.sc (.int k' b)) => (evInt L op k a k' b).map fun s => .tv (.sc s)
  | .tv (.sc (.str a)), .tv (.sc (.str b)) => (evStr op a b).map fun s => .tv (.sc s)
  | x, y =>
    match op with
    | .eql => (evEq P L T x y).map fun b => .tv (.sc (.bool b))
    | .neq => (evEq P L T x y).map fun b => .tv (.sc (.bool !b))
    | _ => none
theorem evBin_ok {P : Program} {ρ : Env} {ms : List Nat} {L : Lore} (hL : LoreOk ρ L) {op : BinOp} {T : TypeId} {x y z : AV} (h : evBin P L op T x y = some z) {u v : Value} (hu : x.inst ρ ms = some u) (hv : y.inst ρ ms = some v) (p q : Operand) (w : World) :
    ∃ r, z.inst ρ ms = some r ∧ (do eqGuard op T p q u v; binOp op T u v : Sem Value).run P w = .ok r w := by
  unfold evBin at h
  split at h
  · rw [Option.map_eq_some_iff] at h
    obtain ⟨s, h1, rfl⟩ := h
    simp only [AV.inst, TV.inst, SV.inst, Option.some.injEq] at hu hv
    subst hu hv
    obtain ⟨r, h2, h3⟩ := evInt_ok (P := P) (ρ := ρ) (ms := ms) hL h1 T w
    refine ⟨r, h2, ?_⟩
    have : ∀ (k k' : IntKind) (m n : Int), (eqGuard op T p q (.int k m) (.int k' n)).run P w = .ok () w := fun k k' m n => by unfold eqGuard; cases op <;> simp
    rw [Sem.run_bind, this, Result.andThen_ok, h3]
  · rw [Option.map_eq_some_iff] at h
    obtain ⟨s, h1, rfl⟩ := h
    simp only [AV.inst, TV.inst, SV.inst, Option.some.injEq] at hu hv
    subst hu hv
    obtain ⟨r, h2, h3⟩ := evStr_ok (P := P) (ρ := ρ) (ms := ms) h1 w
    refine ⟨r, h2, ?_⟩
    have : ∀ (x y : ByteArray), (eqGuard op T p q (.string x) (.string y)).run P w = .ok () w := fun x y => by unfold eqGuard; cases op <;> simp
    rw [Sem.run_bind, this, Result.andThen_ok]
    have e : ∀ x y : ByteArray, binOp op T (.string x) (.string y) = Op.stringOp op x y := fun x y => by cases op <;> rfl
    rw [e, h3]
  · split at h
    · rw [Option.map_eq_some_iff] at h
      obtain ⟨s, h1, rfl⟩ := h
      obtain ⟨_, h2, h3, _⟩ := evEq_ok hL h1 hu hv w
      exact ⟨_, rfl, by rw [Sem.run_bind, h2, Result.andThen_ok, h3]⟩
    · rw [Option.map_eq_some_iff] at h
      obtain ⟨s, h1, rfl⟩ := h
      obtain ⟨_, h2, _, h3⟩ := evEq_ok hL h1 hu hv w
      exact ⟨_, rfl, by rw [Sem.run_bind, h2, Result.andThen_ok, h3]⟩
    · cases h

def evUn (op : UnOp) : AV → Option AV
  | .tv (.sc (.bool b)) => match op with | .not => some (.tv (.sc (.bool !b))) | _ => none
  | .tv (.sc (.int k a)) =>
    match op with
    | .neg => some (.tv (.sc (.int k (mkAri .sub k (.lit 0) a))))
    | .xor => some (.tv (.sc (.int k (mkBit .xor k (.lit (if k.signed then -1 else k.max)) a))))
    | _ => none
  | _ => none
theorem evUn_ok {P : Program} {ρ : Env} {ms : List Nat} {op : UnOp} {x z : AV} (h : evUn op x = some z) {u : Value} (hu : x.inst ρ ms = some u) (w : World) : ∃ r, z.inst ρ ms = some r ∧ (Op.unary op u).run P w = .ok r w := by
  unfold evUn at h
  split at h
  · split at h <;> cases h
    simp only [AV.inst, TV.inst, SV.inst, Option.some.injEq] at hu
    subst hu
    exact ⟨_, rfl, by simp [Op.unary]⟩
  · split at h <;> cases h
    · simp only [AV.inst, TV.inst, SV.inst, Option.some.injEq] at hu
      subst hu
      exact ⟨_, rfl, by simp [Op.unary, Op.intArith, mkAri_den, ariOf, Ex.den]⟩
    · simp only [AV.inst, TV.inst, SV.inst, Option.some.injEq] at hu
      subst hu
      exact ⟨_, rfl, by simp [Op.unary, Op.intBits, mkBit_den, bitsOf, Ex.den]⟩
  · cases h

def evConv (P : Program) (src dst : TypeId) (x : AV) : Option AV :=
  match P.underlying src, P.underlying dst, x with
  | some _, some (.int k), .tv (.sc (.int _ e)) => some (.tv (.sc (.int k (mkCon k e))))
  | some _, some .string, .tv (.sc (.str l)) => some (.tv (.sc (.str l)))
  | _, _, _ => none
theorem evConv_ok {P : Program} {ρ : Env} {ms : List Nat} {src dst : TypeId} {x z : AV} (h : evConv P src dst x = some z) {u : Value} (hu : x.inst ρ ms = some u) (w : World) : ∃ r, z.inst ρ ms = some r ∧ (convert src dst u).run P w = .ok r w := by
  unfold evConv at h
  split at h
  · rename_i d k k' e h1 h2
    simp only [Option.some.injEq] at h
    subst h
    simp only [AV.inst, TV.inst, SV.inst, Option.some.injEq] at hu
    subst hu
    exact ⟨_, rfl, by simp [convert, run_underlying h1, run_underlying h2, Conv.intToInt, mkCon_den]⟩
  · rename_i d l h1 h2
    simp only [Option.some.injEq] at h
    subst h
    simp only [AV.inst, TV.inst, SV.inst, Option.some.injEq] at hu
    subst hu
    refine ⟨_, rfl, ?_⟩
    cases d <;> simp [convert, run_underlying h1, run_underlying h2]
  · cases h

def optInt (t : Tm) : Option Operand → Option (Option Int)
  | none => some none
  | some x => (gInt t x).map fun p => some p.2
def bounds (len cap : Nat) (lo hi : Option Int) : Option (Nat × Nat) :=
  let h := hi.getD len
  let l := lo.getD 0
  if 0 ≤ h ∧ h ≤ cap ∧ 0 ≤ l ∧ l ≤ h then some (l.toNat, h.toNat) else none
theorem bounds_ok {P : Program} {ρ : Env} {ms : List Nat} {t : Tm} {a : Act} (hT : RelT ρ ms t a.tmps) {lo hi : Option Operand} {x y : Option Int} {len cap l h : Nat} (hl : optInt t lo = some x) (hh : optInt t hi = some y)
    (hb : bounds len cap x y = some (l, h)) (isS : Bool) (w : World) : (Instr.sliceBounds isS len cap (lo.map a.eval) (hi.map a.eval) none).run P w = .ok (l, h, cap) w ∧ l ≤ h ∧ h ≤ cap := by
  have one : ∀ (o : Option Operand) (z : Option Int), optInt t o = some z → (o = none ∧ z = none) ∨ ∃ q k n, o = some q ∧ z = some n ∧ a.eval q = .int k n := by
    intro o z ho
    cases o with
    | none => simp [optInt] at ho; exact .inl ⟨rfl, ho.symm⟩
    | some q =>
      simp only [optInt, Option.map_eq_some_iff] at ho
      obtain ⟨⟨k, n⟩, h1, h2⟩ := ho
      exact .inr ⟨q, k, n, rfl, h2.symm, gInt_ok hT h1⟩
  simp only [bounds] at hb
  split at hb
  case isFalse => cases hb
  rename_i hc
  simp only [Option.some.injEq, Prod.mk.injEq] at hb
  obtain ⟨rfl, rfl⟩ := hb
  refine ⟨?_, by omega, by omega⟩
  have sb : ∀ (k : IntKind) (n : Int) (y : Nat) (c : BoundsCode), 0 ≤ n → n ≤ y → (Instr.sliceBound (.int k n) y c).run P w = .ok n.toNat w := fun k n y c h1 h2 => by
    simp only [Instr.sliceBound, asIntOf, Sem.run_bind, Sem.run_pure, Result.andThen_ok]
    rw [if_pos ⟨h1, h2⟩]; rfl
  rcases one lo x hl with ⟨rfl, rfl⟩ | ⟨q, k, n, rfl, rfl, e1⟩ <;> rcases one hi y hh with ⟨rfl, rfl⟩ | ⟨q', k', n', rfl, rfl, e2⟩ <;> simp only [Option.getD_some, Option.getD_none] at hc ⊢
  · simp only [Instr.sliceBounds, Option.map_none, Sem.run_bind, Sem.run_pure, Result.andThen_ok]
    rfl
  · simp only [Instr.sliceBounds, Option.map_none, Option.map_some, e2, Sem.run_bind, Sem.run_pure, Result.andThen_ok, sb k' n' cap _ (by omega) (by omega)]
    rfl
  · simp only [Instr.sliceBounds, Option.map_none, Option.map_some, e1, Sem.run_bind, Sem.run_pure, Result.andThen_ok, sb k n len _ (by omega) (by omega)]
    rfl
  · simp only [Instr.sliceBounds, Option.map_some, e1, e2, Sem.run_bind, Sem.run_pure, Result.andThen_ok, sb k' n' cap _ (by omega) (by omega), sb k n n'.toNat _ (by omega) (by omega)]

def evSlice (P : Program) (t : Tm) (T : TypeId) (x : Operand) (lo hi mx : Option Operand) : Option AV :=
  match mx, optInt t lo, optInt t hi, P.underlying T, evGet t x with
  | none, some l, some h, some (.array n e), some (.tv (.sc (.ptr m o))) =>
    match bounds n n l h, rowOf P e with
    | some (l, h), some (_, s) => some (.tv (.sc (.sl m (if n = l then o else o + l * s) (h - l) (n - l))))
    | _, _ => none
  | none, some l, some h, some (.slice e), some (.tv (.sc (.sl m o len cap))) =>
    if len ≤ cap then
      match bounds len cap l h, rowOf P e with
      | some (l, h), some (_, s) => some (.tv (.sc (.sl m (if cap = l then o else o + l * s) (h - l) (cap - l))))
      | _, _ => none
    else none
  | none, some l, some h, some (.slice e), some (.tv (.sc (.slg m o e0 len))) =>
    match bounds len len l h, rowOf P e with
    | some (l, h), some (_, s) => if l < len ∨ l = 0 then some (.tv (.sc (.slg m (o + l * s) (e0 + l) (h - l)))) else none
    | _, _ => none
  | none, some l, some h, some .string, some (.tv (.sc (.str b))) =>
    match bounds b.length b.length l h with
    | some (l, h) => some (.tv (.sc (.str ((b.drop l).take (h - l)))))
    | _ => none
  | none, some l, some h, some (.slice e), some (.tv (.sc (.nils len cap))) =>
    if len ≤ cap then
      match bounds len cap l h, rowOf P e with
      | some (l, h), some (_, _) => some (.tv (.sc (.nils (h - l) (cap - l))))
      | _, _ => none
    else none
  | some q, some l, some (some h), some (.slice e), some (.tv (.sc (.sl m o _ cap))) =>
    match gInt t q with
    | some (_, n) =>
      if 0 ≤ n ∧ n ≤ cap then
        match bounds n.toNat n.toNat l (some h), rowOf P e with
        | some (l, h), some (_, s) => some (.tv (.sc (.sl m (if n.toNat = l then o else o + l * s) (h - l) (n.toNat - l))))
        | _, _ => none
      else none
    | none => none
  | _, _, _, _, _ => none
theorem bounds3_ok {P : Program} {ρ : Env} {ms : List Nat} {t : Tm} {a : Act} (hT : RelT ρ ms t a.tmps) {lo hi : Option Operand} {q : Operand} {x : Option Int} {y n : Int} {kk : IntKind} {len cap l h : Nat} (hl : optInt t lo = some x) (hh : optInt t hi = some (some y))
    (hq : gInt t q = some (kk, n)) (h0 : 0 ≤ n) (hn : n ≤ cap) (hb : bounds n.toNat n.toNat x (some y) = some (l, h)) (w : World) : (Instr.sliceBounds true len cap (lo.map a.eval) (hi.map a.eval) (some (a.eval q))).run P w = .ok (l, h, n.toNat) w ∧ l ≤ h ∧ h ≤ n.toNat := by
  have one : ∀ (o : Option Operand) (z : Option Int), optInt t o = some z → (o = none ∧ z = none) ∨ ∃ q k n, o = some q ∧ z = some n ∧ a.eval q = .int k n := by
    intro o z ho
    cases o with
    | none => simp [optInt] at ho; exact .inl ⟨rfl, ho.symm⟩
    | some q =>
      simp only [optInt, Option.map_eq_some_iff] at ho
      obtain ⟨⟨k, n⟩, h1, h2⟩ := ho
      exact .inr ⟨q, k, n, rfl, h2.symm, gInt_ok hT h1⟩
  have e0 := gInt_ok hT hq
  simp only [bounds] at hb
  split at hb
  case isFalse => cases hb
  rename_i hc
  simp only [Option.some.injEq, Prod.mk.injEq] at hb
  obtain ⟨rfl, rfl⟩ := hb
  refine ⟨?_, by omega, by omega⟩
  have sb : ∀ (k : IntKind) (n : Int) (y : Nat) (c : BoundsCode), 0 ≤ n → n ≤ y → (Instr.sliceBound (.int k n) y c).run P w = .ok n.toNat w := fun k n y c h1 h2 => by
    simp only [Instr.sliceBound, asIntOf, Sem.run_bind, Sem.run_pure, Result.andThen_ok]
    rw [if_pos ⟨h1, h2⟩]; rfl
  rcases one hi (some y) hh with ⟨_, e⟩ | ⟨q', k', n', rfl, e, e2⟩
  · cases e
  · cases e
    simp only [Option.getD_some] at hc ⊢
    rcases one lo x hl with ⟨rfl, rfl⟩ | ⟨q2, k2, n2, rfl, rfl, e1⟩ <;> simp only [Option.getD_some, Option.getD_none] at hc ⊢
    · simp only [Instr.sliceBounds, Option.map_none, Option.map_some, e0, e2, Sem.run_bind, Sem.run_pure, Result.andThen_ok, sb kk n cap _ h0 hn, sb k' y n.toNat _ (by omega) (by omega)]
      rfl
    · simp only [Instr.sliceBounds, Option.map_some, e0, e1, e2, Sem.run_bind, Sem.run_pure, Result.andThen_ok, sb kk n cap _ h0 hn, sb k' y n.toNat _ (by omega) (by omega), sb k2 n2 y.toNat _ (by omega) (by omega)]
theorem sizeOf_run {P : Program} {T : TypeId} {r : Bool} {s : Nat} (h : rowOf P T = some (r, s)) (w : World) : (sizeOf T).run P w = .ok s w := by
  obtain ⟨d, i, hu, hi, hd, hsz⟩ := rowOf_ok h
  simp [sizeOf, typeInfo, hi, hsz]
theorem evSlice_ok {P : Program} {ρ : Env} {ms : List Nat} {t : Tm} {a : Act} (hT : RelT ρ ms t a.tmps) {T : TypeId} {x : Operand} {lo hi mx : Option Operand} {z : AV} (h : evSlice P t T x lo hi mx = some z) (w : World) :
    ∃ r, z.inst ρ ms = some r ∧ (Instr.sliceAt T (a.eval x) (lo.map a.eval) (hi.map a.eval) (mx.map a.eval)).run P w = .ok r w := by
  unfold evSlice at h
  split at h
  · rename_i l h' n e m o h1 h2 h3 h4
    have hx := evGet_ok hT h4
    simp only [AV.inst, TV.inst, SV.inst, addr, Option.map_eq_some_iff] at hx
    obtain ⟨b, hb, hx⟩ := hx
    split at h
    case h_2 => cases h
    rename_i lw hg r s h5 h6
    simp only [Option.some.injEq] at h
    subst h
    obtain ⟨q1, q2, q3⟩ := bounds_ok (P := P) hT h1 h2 h5 false w
    refine ⟨_, (by simp only [AV.inst, TV.inst, SV.inst, hb, Option.map_some]; rfl), ?_⟩
    rw [← hx]
    simp [Instr.sliceAt, run_underlying h3, Instr.sureAddr, q1, sizeOf_run h6, Addr.add_mid]
    split <;> rfl
  · rename_i l h' e m o len cap h1 h2 h3 h4
    have hx := evGet_ok hT h4
    simp only [AV.inst, TV.inst, SV.inst, Option.map_eq_some_iff] at hx
    obtain ⟨b, hb, hx⟩ := hx
    split at h
    case isFalse => cases h
    rename_i hlc
    split at h
    case h_2 => cases h
    rename_i lw hg r s h5 h6
    simp only [Option.some.injEq] at h
    subst h
    obtain ⟨q1, q2, q3⟩ := bounds_ok (P := P) hT h1 h2 h5 true w
    refine ⟨_, (by simp only [AV.inst, TV.inst, SV.inst, hb, Option.map_some]; rfl), ?_⟩
    rw [← hx]
    simp [Instr.sliceAt, run_underlying h3, Instr.slice, q1, sizeOf_run h6, Addr.add_mid]
    split <;> rfl
  · rename_i l h' e m o e0 len h1 h2 h3 h4
    have hx := evGet_ok hT h4
    simp only [AV.inst, TV.inst, SV.inst] at hx
    obtain ⟨b, c, hb, hc, hle, hx⟩ := grown_iff.1 hx
    split at h
    case h_2 => cases h
    rename_i lw hg r s h5 h6
    split at h <;> cases h
    rename_i hlw
    have q23 := (bounds_ok (P := P) hT h1 h2 h5 true w).2
    obtain ⟨q2, q3⟩ := q23
    have h5' : bounds len (c - e0) l h' = some (lw, hg) := by
      unfold bounds at h5 ⊢
      simp only at h5 ⊢
      split at h5
      case isFalse => cases h5
      rename_i hcc
      rw [← h5, if_pos ⟨hcc.1, by omega, hcc.2.2⟩]
    obtain ⟨q1, _, _⟩ := bounds_ok (P := P) hT h1 h2 h5' true w
    refine ⟨.slice (some ⟨b, o + lw * s, none⟩) (hg - lw) (c - (e0 + lw)), ?_, ?_⟩
    · simp only [AV.inst, TV.inst, SV.inst]
      exact grown_iff.2 ⟨b, c, hb, hc, by omega, rfl⟩
    · rw [hx]
      simp [Instr.sliceAt, run_underlying h3, Instr.slice, q1, sizeOf_run h6, Addr.add_mid]
      first
      | (refine ⟨?_, by omega⟩; intro e1; have : lw = 0 := (by omega); subst this; simp)
      | skip
  · rename_i l h' bs h1 h2 h3 h4
    have hx := evGet_ok hT h4
    simp only [AV.inst, TV.inst, SV.inst, Option.some.injEq] at hx
    split at h
    case h_2 => cases h
    rename_i lw hg h5
    simp only [Option.some.injEq] at h
    subst h
    have hsz : (bytesOf bs).size = bs.length := by simp [bytesOf, ByteArray.size]
    obtain ⟨q1, q2, q3⟩ := bounds_ok (P := P) hT h1 h2 h5 false w
    refine ⟨_, rfl, ?_⟩
    rw [← hx]
    have e0 : (bytesOf bs).extract lw hg = bytesOf ((bs.drop lw).take (hg - lw)) := by
      apply ByteArray.ext
      simp [bytesOf, List.map_take, List.map_drop]
    simp only [Instr.sliceAt, Instr.slice, Sem.run_bind, run_underlying h3, Result.andThen_ok, hsz, Option.map_none, Option.isSome_none, Bool.false_eq_true, if_false, Sem.run_pure]
    rw [q1]
    simp [e0]
  · rename_i l h' e len cap h1 h2 h3 h4
    have hx := evGet_ok hT h4
    simp only [AV.inst, TV.inst, SV.inst, Option.some.injEq] at hx
    split at h
    case isFalse => cases h
    rename_i hlc
    split at h
    case h_2 => cases h
    rename_i lw hg r s h5 h6
    simp only [Option.some.injEq] at h
    subst h
    obtain ⟨q1, q2, q3⟩ := bounds_ok (P := P) hT h1 h2 h5 true w
    refine ⟨_, rfl, ?_⟩
    rw [← hx]
    simp [Instr.sliceAt, run_underlying h3, Instr.slice, q1, sizeOf_run h6]
  · rename_i q l h' e m o len cap h1 h2 h3 h4
    have hx := evGet_ok hT h4
    simp only [AV.inst, TV.inst, SV.inst, Option.map_eq_some_iff] at hx
    obtain ⟨b, hb, hx⟩ := hx
    split at h
    case h_2 => cases h
    rename_i kk n hq
    split at h
    case isFalse => cases h
    rename_i hn
    split at h
    case h_2 => cases h
    rename_i lw hg r s h5 h6
    simp only [Option.some.injEq] at h
    subst h
    obtain ⟨q1, q2, q3⟩ := bounds3_ok (P := P) (len := len) (cap := cap) hT h1 h2 hq hn.1 hn.2 h5 w
    refine ⟨_, (by simp only [AV.inst, TV.inst, SV.inst, hb, Option.map_some]; rfl), ?_⟩
    rw [← hx]
    simp only [Option.map_some]
    simp [Instr.sliceAt, run_underlying h3, Instr.slice, q1, sizeOf_run h6, Addr.add_mid]
    split <;> rfl
  · cases h

def evArr (P : Program) (T : TypeId) (x : AV) : Option AV :=
  match P.underlying T, x with
  | some (.array n _), .tv (.sc (.sl m o len _)) => if n ≤ len then some (.tv (.sc (.ptr m o))) else none
  | some (.array n _), .tv (.sc (.slg m o _ len)) => if n ≤ len then some (.tv (.sc (.ptr m o))) else none
  | _, _ => none
theorem evArr_ok {P : Program} {ρ : Env} {ms : List Nat} {T : TypeId} {x z : AV} (h : evArr P T x = some z) {u : Value} (hu : x.inst ρ ms = some u) (w : World) : ∃ r, z.inst ρ ms = some r ∧ (Instr.arrayAt T u).run P w = .ok r w := by
  unfold evArr at h
  split at h
  · rename_i n e m o len cap h1
    split at h <;> cases h
    rename_i hle
    simp only [AV.inst, TV.inst, SV.inst, Option.map_eq_some_iff] at hu
    obtain ⟨b, hb, rfl⟩ := hu
    refine ⟨_, (by simp only [AV.inst, TV.inst, SV.inst, addr, hb, Option.map_some]; rfl), ?_⟩
    simp [Instr.arrayAt, run_underlying h1]
    intro hlt; omega
  · rename_i n e m o e0 len h1
    split at h <;> cases h
    rename_i hle
    simp only [AV.inst, TV.inst, SV.inst] at hu
    obtain ⟨b, c, hb, hc, hl, rfl⟩ := grown_iff.1 hu
    refine ⟨_, (by simp only [AV.inst, TV.inst, SV.inst, addr, hb, Option.map_some]; rfl), ?_⟩
    simp [Instr.arrayAt, run_underlying h1]
    intro hlt; omega
  · cases h

def evFieldAddr (P : Program) (S : TypeId) (x : AV) (f : Nat) : Option AV :=
  match P.underlying S, x with
  | some (.struct fs), .tv (.sc (.ptr m o)) =>
    match fs[f]? with
    | some fd => match rowOf P fd.type with
      | some (_, s) => if s = 0 then none else some (.tv (.sc (.ptr m (o + fd.offset))))
      | none => none
    | none => none
  | _, _ => none
theorem evFieldAddr_ok {P : Program} {ρ : Env} {ms : List Nat} {S : TypeId} {f : Nat} {x z : AV} (h : evFieldAddr P S x f = some z) {u : Value} (hu : x.inst ρ ms = some u) (w : World) : ∃ r, z.inst ρ ms = some r ∧ (Instr.fieldAt S u f).run P w = .ok r w := by
  unfold evFieldAddr at h
  split at h
  · rename_i fs m o h1
    split at h
    case h_2 => cases h
    rename_i fd h2
    split at h
    case h_2 => cases h
    rename_i r s h3
    split at h
    · cases h
    rename_i hs
    simp only [Option.some.injEq] at h
    subst h
    simp only [AV.inst, TV.inst, SV.inst, addr, Option.map_eq_some_iff] at hu
    obtain ⟨b, hb, rfl⟩ := hu
    refine ⟨_, (by simp only [AV.inst, TV.inst, SV.inst, addr, hb, Option.map_some]; rfl), ?_⟩
    simp [Instr.fieldAt, run_underlying h1, h2, Instr.sureAddr, fieldPlace, sizeOf_run h3, hs, Addr.add_mid]
  · cases h

def evPart (P : Program) (T : TypeId) (l : List SV) (o : Nat) : Option AV :=
  match rowOf P T with
  | some (true, s) => if o + s ≤ l.length then some (.tv (.agg ((l.drop o).take s))) else none
  | some (false, _) => (l[o]?).map fun s => .tv (.sc s)
  | none => none
theorem evPart_ok {P : Program} {ρ : Env} {ms : List Nat} {T : TypeId} {l : List SV} {o : Nat} {z : AV} (h : evPart P T l o = some z) {vs : List Value} (hv : l.map (SV.inst ρ ms) = vs.map some) (w : World) :
    ∃ r, z.inst ρ ms = some r ∧ (part T vs.toArray o).run P w = .ok r w := by
  have hlen : l.length = vs.length := by have := congrArg List.length hv; simpa using this
  unfold evPart at h
  split at h
  · rename_i s h1
    split at h <;> cases h
    rename_i hle
    refine ⟨.agg ((vs.drop o).take s).toArray, ?_, part_run h1 w vs o (by simp) (by omega)⟩
    simp only [AV.inst, TV.inst]
    rw [(seqO_iff _ ((vs.drop o).take s)).2 (by rw [List.map_take, List.map_drop, hv, ← List.map_drop, ← List.map_take]), Option.map_some]
  · rename_i s h1
    rw [Option.map_eq_some_iff] at h
    obtain ⟨sv, h2, rfl⟩ := h
    have ho : o < vs.length := by rw [← hlen]; exact (List.getElem?_eq_some_iff.1 h2).1
    have e1 : (l.map (SV.inst ρ ms))[o]? = (vs.map some)[o]? := by rw [hv]
    simp only [List.getElem?_map, h2, List.getElem?_eq_getElem ho, Option.map_some, Option.some.injEq] at e1
    refine ⟨_, e1, ?_⟩
    obtain ⟨d, i, hu, hi, hd, hsz⟩ := rowOf_ok h1
    have hag := isAgg_run hu w
    rw [hd] at hag
    simp [part, hag, List.getElem?_eq_getElem ho]
  · cases h

def evField (P : Program) (S : TypeId) (x : AV) (f : Nat) : Option AV :=
  match P.underlying S, x with
  | some (.struct fs), .tv (.agg l) =>
    match fs[f]? with
    | some fd => evPart P fd.type l fd.offset
    | none => none
  | _, _ => none
theorem evField_ok {P : Program} {ρ : Env} {ms : List Nat} {S : TypeId} {f : Nat} {x z : AV} (h : evField P S x f = some z) {u : Value} (hu : x.inst ρ ms = some u) (w : World) : ∃ r, z.inst ρ ms = some r ∧ (Instr.field S u f).run P w = .ok r w := by
  unfold evField at h
  split at h
  · rename_i fs l h1
    split at h
    case h_2 => cases h
    rename_i fd h2
    simp only [AV.inst, TV.inst, Option.map_eq_some_iff] at hu
    obtain ⟨vs, h3, rfl⟩ := hu
    obtain ⟨r, h4, h5⟩ := evPart_ok h ((seqO_iff _ _).1 h3) w
    exact ⟨r, h4, by simp [Instr.field, run_underlying h1, h2, asAgg, h5]⟩
  · cases h

def evIndexAddr (P : Program) (T : TypeId) (x i : AV) : Option AV :=
  match P.underlying T, x, i with
  | some (.array n e), .tv (.sc (.ptr m o)), .tv (.sc (.int _ (.lit j))) =>
    match rowOf P e with
    | some (_, s) => if 0 ≤ j ∧ j < n then some (.tv (.sc (.ptr m (o + j.toNat * s)))) else none
    | none => none
  | some (.slice e), .tv (.sc (.sl m o n _)), .tv (.sc (.int _ (.lit j))) =>
    match rowOf P e with
    | some (_, s) => if 0 ≤ j ∧ j < n then some (.tv (.sc (.ptr m (o + j.toNat * s)))) else none
    | none => none
  | some (.slice e), .tv (.sc (.slg m o _ n)), .tv (.sc (.int _ (.lit j))) =>
    match rowOf P e with
    | some (_, s) => if 0 ≤ j ∧ j < n then some (.tv (.sc (.ptr m (o + j.toNat * s)))) else none
    | none => none
  | _, _, _ => none
theorem evIndexAddr_ok {P : Program} {ρ : Env} {ms : List Nat} {T : TypeId} {x i z : AV} (h : evIndexAddr P T x i = some z) {u v : Value} (hu : x.inst ρ ms = some u) (hv : i.inst ρ ms = some v) (w : World) :
    ∃ r, z.inst ρ ms = some r ∧ (Instr.indexAt T u v).run P w = .ok r w := by
  unfold evIndexAddr at h
  split at h
  · rename_i n e m o k j h1
    split at h
    case h_2 => cases h
    rename_i r s h2
    split at h <;> cases h
    rename_i hj
    simp only [AV.inst, TV.inst, SV.inst, addr, Ex.den, Option.map_eq_some_iff, Option.some.injEq] at hu hv
    obtain ⟨b, hb, rfl⟩ := hu
    subst hv
    refine ⟨_, (by simp only [AV.inst, TV.inst, SV.inst, addr, hb, Option.map_some]; rfl), ?_⟩
    simp [Instr.indexAt, asIntOf, run_underlying h1, Instr.sureAddr, hj, sizeOf_run h2, Addr.add_mid]
  · rename_i e m o n c k j h1
    split at h
    case h_2 => cases h
    rename_i r s h2
    split at h <;> cases h
    rename_i hj
    simp only [AV.inst, TV.inst, SV.inst, Ex.den, Option.map_eq_some_iff, Option.some.injEq] at hu hv
    obtain ⟨b, hb, rfl⟩ := hu
    subst hv
    refine ⟨_, (by simp only [AV.inst, TV.inst, SV.inst, addr, hb, Option.map_some]; rfl), ?_⟩
    simp [Instr.indexAt, asIntOf, run_underlying h1, hj, sizeOf_run h2, Addr.add_mid]
  · rename_i e m o e0 n k j h1
    split at h
    case h_2 => cases h
    rename_i r s h2
    split at h <;> cases h
    rename_i hj
    simp only [AV.inst, TV.inst, SV.inst, Ex.den, Option.some.injEq] at hu hv
    obtain ⟨b, c, hb, hc, hl, rfl⟩ := grown_iff.1 hu
    subst hv
    refine ⟨_, (by simp only [AV.inst, TV.inst, SV.inst, addr, hb, Option.map_some]; rfl), ?_⟩
    simp [Instr.indexAt, asIntOf, run_underlying h1, hj, sizeOf_run h2, Addr.add_mid]
  · cases h

def evIndex (P : Program) (T : TypeId) (x i : AV) : Option AV :=
  match P.underlying T, x, i with
  | some (.array n e), .tv (.agg l), .tv (.sc (.int _ (.lit j))) =>
    match rowOf P e with
    | some (_, s) => if 0 ≤ j ∧ j < n then evPart P e l (j.toNat * s) else none
    | none => none
  | some .string, .tv (.sc (.str l)), .tv (.sc (.int _ (.lit j))) =>
    if 0 ≤ j then (l[j.toNat]?).map fun x => .tv (.sc (.int .u8 (.lit ((x % 256 : Nat) : Int)))) else none
  | _, _, _ => none
theorem evIndex_ok {P : Program} {ρ : Env} {ms : List Nat} {T : TypeId} {x i z : AV} (h : evIndex P T x i = some z) {u v : Value} (hu : x.inst ρ ms = some u) (hv : i.inst ρ ms = some v) (w : World) :
    ∃ r, z.inst ρ ms = some r ∧ (Instr.index T u v).run P w = .ok r w := by
  unfold evIndex at h
  split at h
  · rename_i n e l k j h1
    split at h
    case h_2 => cases h
    rename_i r s h2
    split at h
    case isFalse => cases h
    rename_i hj
    simp only [AV.inst, TV.inst, SV.inst, Ex.den, Option.map_eq_some_iff, Option.some.injEq] at hu hv
    obtain ⟨vs, h3, rfl⟩ := hu
    subst hv
    obtain ⟨r, h4, h5⟩ := evPart_ok h ((seqO_iff _ _).1 h3) w
    exact ⟨r, h4, by simp [Instr.index, asIntOf, run_underlying h1, hj, sizeOf_run h2, h5]⟩
  · rename_i l k j h1
    split at h
    case isFalse => cases h
    rename_i hj
    rw [Option.map_eq_some_iff] at h
    obtain ⟨x, h2, rfl⟩ := h
    simp only [AV.inst, TV.inst, SV.inst, Ex.den, Option.some.injEq] at hu hv
    subst hu hv
    refine ⟨_, rfl, ?_⟩
    have hlt := (List.getElem?_eq_some_iff.1 h2).1
    have hx := (List.getElem?_eq_some_iff.1 h2).2
    have e1 : (bytesOf l)[j.toNat]? = some (UInt8.ofNat x) := by
      have hs : j.toNat < (bytesOf l).size := by simpa [bytesOf, ByteArray.size] using hlt
      rw [getElem?_pos (bytesOf l) j.toNat hs]
      congr 1
      show (bytesOf l).data[j.toNat] = _
      simp [bytesOf, hx]
    simp [Instr.index, asIntOf, run_underlying h1, hj, e1, Ex.den]
  · cases h
end Go.Proofs.Ytafdklelfcccbaa.Ev
