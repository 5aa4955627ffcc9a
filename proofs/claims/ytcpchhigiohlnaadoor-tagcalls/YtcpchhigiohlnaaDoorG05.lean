/- Of the road to tagCallsUptoCard_holds: EvRead, EvStep. -/
import Derived.Test.YtcpchhigiohlnaaDoorG04
import Derived.Laws.Concat
import Derived.Laws.Strings
set_option linter.unusedVariables false
set_option linter.unusedSimpArgs false
set_option maxRecDepth 100000
set_option maxHeartbeats 16000000
namespace Go.Proofs.YtcpchhigiohlnaaDoor.Ev
open Go Go.RowKit
def eqS : SV -> SV -> Option Bool
 | .int k a, .int k' b => if k = k' then (match a, b with | .lit x, .lit y => some (x == y) | _, _ => if a = b then some true else none) else none
 | _, _ => none
def eqL : List SV -> List SV -> Option Bool
 | [], [] => some true
 | x :: xs, y :: ys => match eqS x y, eqL xs ys with | some b, some c => some (b && c) | _, _ => none
 | _, _ => none
theorem eqS_ok {ρ : Env} {ms : List Nat} {x y : SV} {b : Bool} (h : eqS x y = some b) {u v : Value} (hu : x.inst ρ ms = some u) (hv : y.inst ρ ms = some v) : alike u v = true /\ eqv u v = b := by
 cases x <;> cases y <;> simp only [eqS] at h <;> try cases h
 rename_i k a k' c
 simp only [SV.inst, Option.some.injEq] at hu hv
 subst hu hv
 split at h
 case isFalse => cases h
 rename_i e
 subst e
 refine ⟨by simp [alike], ?_⟩
 split at h
 ·simp only [Option.some.injEq] at h; subst h; simp [eqv, Ex.den]
 ·split at h <;> cases h
  rename_i e; subst e; simp [eqv]
theorem eqL_ok {ρ : Env} {ms : List Nat} : ∀ (l l' : List SV) (b : Bool), eqL l l' = some b -> ∀ vs us : List Value, l.map (SV.inst ρ ms) = vs.map some -> l'.map (SV.inst ρ ms) = us.map some -> all2 alike vs us = true /\ all2 eqv vs us = b
 | [], [], b, h, vs, us, hv, hu => by
  cases vs <;> cases us <;> simp at hv hu
  simp only [eqL, Option.some.injEq] at h; subst h; exact ⟨rfl, rfl⟩
 | x :: l, y :: l', b, h, vs, us, hv, hu => by
  simp only [eqL] at h
  split at h
  case h_2 => cases h
  rename_i b1 b2 h1 h2
  simp only [Option.some.injEq] at h
  subst h
  match vs, us, hv, hu with
  | v :: vs, u :: us, hv, hu =>
   simp only [List.map_cons, List.cons.injEq] at hv hu
   obtain ⟨e1, e2⟩ := eqS_ok h1 hv.1 hu.1
   obtain ⟨e3, e4⟩ := eqL_ok l l' b2 h2 vs us hv.2 hu.2
   simp [all2, e1, e2, e3, e4]
 | [], _ :: _, _, h, _, _, _, _ => by simp [eqL] at h
 | _ :: _, [], _, h, _, _, _, _ => by simp [eqL] at h
def eqA (L : Lore) (l l' : List SV) : Option Bool := match L.factA l l' with | some r => some r | none => eqL l l'
def evEq (P : Program) (L : Lore) (T : TypeId) (x y : AV) : Option Bool :=
 match x, y with
 | .tv (.agg l), .tv (.agg l') =>
  match rowOf P T, flatN P 6 T with
  | some (true, _), some m => if m = l.length /\ l.length = l'.length /\ P.eqGuardType P.depth T = false then eqA L l l' else none
  | _, _ => none
 | .tv (.sc x), .tv (.sc y) =>
  match P.underlying T, x, y with
  | some .bool, .bool a, .bool b => some (a == b)
  | some (.pointer _), .nilp, .nilp => some true
  | some (.pointer _), .nilp, .ptr _ _ => some false
  | some (.pointer _), .ptr _ _, .nilp => some false
  | some (.slice _), .nils _ _, .nils _ _ => some true
  | some (.slice _), .nils _ _, .sl _ _ _ _ => some false
  | some (.slice _), .sl _ _ _ _, .nils _ _ => some false
  | some (.slice _), .nils _ _, .slg _ _ _ _ => some false
  | some (.slice _), .slg _ _ _ _, .nils _ _ => some false
  | some (.func _ _ _), .nilf, .nilf => some true
  | some (.func _ _ _), .nilf, .clo _ _ => some false
  | some (.func _ _ _), .clo _ _, .nilf => some false
  | some (.interface _), .nili, .ifp _ _ _ => some false
  | some (.interface _), .ifp _ _ _, .nili => some false
  | some (.interface _), .nili, .ife _ => some false
  | some (.interface _), .ife _, .nili => some false
  | _, _, _ => none
 | _, _ => none
theorem evEq_ok {P : Program} {ρ : Env} {ms : List Nat} {L : Lore} (hL : LoreOk ρ L) {T : TypeId} {x y : AV} {r : Bool} (h : evEq P L T x y = some r) {u v : Value} (hu : x.inst ρ ms = some u) (hv : y.inst ρ ms = some v) (w : World) :
  (Op.equal T u v).run P w = .ok r w /\ (∀ (op : BinOp) (p q : Operand), (eqGuard op T p q u v).run P w = .ok () w) /\ (binOp .eql T u v).run P w = .ok (.bool r) w /\ (binOp .neq T u v).run P w = .ok (.bool (!r)) w := by
 match x, y, h with
 | .tv (.agg l), .tv (.agg l'), h =>
  simp only [evEq] at h
  split at h
  case h_2 => cases h
  rename_i s m h1 h2
  split at h
  case isFalse => cases h
  rename_i hc
  obtain ⟨hm, hll, hg⟩ := hc
  simp only [AV.inst, TV.inst, Option.map_eq_some_iff] at hu hv
  obtain ⟨vs, h3, rfl⟩ := hu
  obtain ⟨us, h4, rfl⟩ := hv
  rw [seqO_iff] at h3 h4
  have hlv : l.length = vs.length := by have := congrArg List.length h3; simpa using this
  have hlu : l'.length = us.length := by have := congrArg List.length h4; simpa using this
  obtain ⟨e1, e2⟩ : all2 alike vs us = true /\ all2 eqv vs us = r := by
   unfold eqA at h
   split at h
   ·rename_i hf
    simp only [Option.some.injEq] at h
    subst h
    exact hL.factA l l' _ hf ms vs us h3 h4
   ·exact eqL_ok l l' r h vs us h3 h4
  have key := run_equalIn_flat w 6 10000 T m h2 (by decide) true s h1 vs us (by omega) (by omega) e1
  rw [e2] at key
  have ke : (Op.equal T (.agg vs.toArray) (.agg us.toArray)).run P w = .ok r w := key
  refine ⟨ke, ?_, ?_, ?_⟩
  ·intro op p q
   unfold eqGuard
   cases op <;> simp [program, Sem.run, hg]
  ·simp only [binOp, Sem.run_bind, ke, Result.andThen_ok, Sem.run_pure]
  ·simp only [binOp, Sem.run_bind, ke, Result.andThen_ok, Sem.run_pure]
 | .tv (.sc x), .tv (.sc y), h =>
  simp only [evEq] at h
  simp only [AV.inst, TV.inst] at hu hv
  split at h <;> first | (cases h; done) | skip
  all_goals
   rename_i hun
   have key0 : ∀ D, (Op.equalIn (D + 1) T u v).run P w = .ok r w := fun D => by
    simp only [Option.some.injEq] at h
    subst h
    simp only [SV.inst, addr, grown_iff, Option.some.injEq, Option.map_eq_some_iff] at hu hv
    first | subst hu | (obtain ⟨_, _, rfl⟩ := hu) | (obtain ⟨_, _, _, _, _, rfl⟩ := hu)
    first | subst hv | (obtain ⟨_, _, rfl⟩ := hv) | (obtain ⟨_, _, _, _, _, rfl⟩ := hv)
    simp only [Op.equalIn, Sem.run_bind, run_underlying hun, Result.andThen_ok, Sem.run_pure]
    try rfl
   have key : (Op.equal T u v).run P w = .ok r w := key0 9999
   clear key0
   simp only [SV.inst, addr, grown_iff, Option.some.injEq, Option.map_eq_some_iff] at hu hv
   first | subst hu | (obtain ⟨_, _, rfl⟩ := hu) | (obtain ⟨_, _, _, _, _, rfl⟩ := hu)
   first | subst hv | (obtain ⟨_, _, rfl⟩ := hv) | (obtain ⟨_, _, _, _, _, rfl⟩ := hv)
   refine ⟨key, ?_, by simp only [binOp, Sem.run_bind, key, Result.andThen_ok, Sem.run_pure], by simp only [binOp, Sem.run_bind, key, Result.andThen_ok, Sem.run_pure]⟩
   intro op p q
   unfold eqGuard
   cases op <;> simp
 | .tup _, _, h => simp [evEq] at h
 | .tv (.agg _), .tup _, h => simp [evEq] at h
 | .tv (.agg _), .tv (.sc _), h => simp [evEq] at h
 | .tv (.sc _), .tup _, h => simp [evEq] at h
 | .tv (.sc _), .tv (.agg _), h => simp [evEq] at h
def lessN : List Nat -> List Nat -> Bool
 | _, [] => false
 | [], _ :: _ => true
 | a :: x, b :: y => decide (a < b) || (a == b && lessN x y)
def low8 (l : List Nat) : List Nat := l.map (· % 256)
def evStr (op : BinOp) (a b : List Nat) : Option SV :=
 let x := low8 a
 let y := low8 b
 match op with
 | .add => if a.length + b.length <= 1000000 then some (.str (a ++ b)) else none
 | .eql => some (.bool (x == y))
 | .neq => some (.bool !(x == y))
 | .lss => some (.bool (lessN x y))
 | .leq => some (.bool (lessN x y || x == y))
 | .gtr => some (.bool !(lessN x y || x == y))
 | .geq => some (.bool !(lessN x y))
 | _ => none
theorem bytesOf_toList (l : List Nat) : (bytesOf l).toList = l.map UInt8.ofNat := by
 rw [ByteArray.toList_eq]; rfl
theorem ofNat_beq (a b : Nat) : (UInt8.ofNat a == UInt8.ofNat b) = (a % 256 == b % 256) := by
 rw [Bool.eq_iff_iff, beq_iff_eq, beq_iff_eq, <- UInt8.toNat_inj]
 simp
theorem map_beq : ∀ (a b : List Nat), (a.map UInt8.ofNat == b.map UInt8.ofNat) = (low8 a == low8 b)
 | [], [] => rfl
 | [], _ :: _ => rfl
 | _ :: _, [] => rfl
 | x :: a, y :: b => by
  simp only [low8, List.map_cons]
  show (UInt8.ofNat x == UInt8.ofNat y && a.map UInt8.ofNat == b.map UInt8.ofNat) = (x % 256 == y % 256 && low8 a == low8 b)
  rw [ofNat_beq, map_beq a b]
theorem map_less : ∀ (a b : List Nat), Op.bytesLess (a.map UInt8.ofNat) (b.map UInt8.ofNat) = lessN (low8 a) (low8 b)
 | _, [] => by simp [Op.bytesLess, low8, lessN]
 | [], _ :: _ => by simp [Op.bytesLess, low8, lessN]
 | x :: a, y :: b => by
  simp only [low8, List.map_cons, Op.bytesLess, lessN]
  have e := map_less a b
  simp only [low8] at e
  rw [ofNat_beq, e]
  congr 1
theorem evStr_ok {P : Program} {ρ : Env} {ms : List Nat} {op : BinOp} {a b : List Nat} {z : SV} (h : evStr op a b = some z) (w : World) : ∃ r, z.inst ρ ms = some r /\ (Op.stringOp op (bytesOf a) (bytesOf b)).run P w = .ok r w := by
 have e1 : ((bytesOf a).toList == (bytesOf b).toList) = (low8 a == low8 b) := by rw [bytesOf_toList, bytesOf_toList, map_beq]
 have e2 : Op.bytesLess (bytesOf a).toList (bytesOf b).toList = lessN (low8 a) (low8 b) := by rw [bytesOf_toList, bytesOf_toList, map_less]
 unfold evStr at h
 cases op <;> simp only [Option.some.injEq] at h <;> try (cases h; done)
 case add =>
  split at h <;> cases h
  refine ⟨_, rfl, ?_⟩
  rw [run_string_add_sum w _ _ (by simp [bytesOf, ByteArray.size]; omega)]
  simp only [bytesOf, List.map_append]
  rw [ByteArray.mk_append_mk]
 all_goals
  subst h
  refine ⟨_, rfl, ?_⟩
  simp only [Op.stringOp, e1, e2]
  rfl
def evBin (P : Program) (L : Lore) (op : BinOp) (T : TypeId) (x y : AV) : Option AV :=
 match x, y with
 | .tv (.sc (.int k a)), .tv (.sc (.int k' b)) => (evInt L op k a k' b).map fun s => .tv (.sc s)
 | .tv (.sc (.str a)), .tv (.sc (.str b)) => (evStr op a b).map fun s => .tv (.sc s)
 | x, y =>
  match op with
  | .eql => (evEq P L T x y).map fun b => .tv (.sc (.bool b))
  | .neq => (evEq P L T x y).map fun b => .tv (.sc (.bool !b))
  | _ => none
theorem evBin_ok {P : Program} {ρ : Env} {ms : List Nat} {L : Lore} (hL : LoreOk ρ L) {op : BinOp} {T : TypeId} {x y z : AV} (h : evBin P L op T x y = some z) {u v : Value} (hu : x.inst ρ ms = some u) (hv : y.inst ρ ms = some v) (p q : Operand) (w : World) :
  ∃ r, z.inst ρ ms = some r /\ (do eqGuard op T p q u v; binOp op T u v : Sem Value).run P w = .ok r w := by
 unfold evBin at h
 split at h
 ·rw [Option.map_eq_some_iff] at h
  obtain ⟨s, h1, rfl⟩ := h
  simp only [AV.inst, TV.inst, SV.inst, Option.some.injEq] at hu hv
  subst hu hv
  obtain ⟨r, h2, h3⟩ := evInt_ok (P := P) (ρ := ρ) (ms := ms) hL h1 T w
  refine ⟨r, h2, ?_⟩
  have : ∀ (k k' : IntKind) (m n : Int), (eqGuard op T p q (.int k m) (.int k' n)).run P w = .ok () w := fun k k' m n => by unfold eqGuard; cases op <;> simp
  rw [Sem.run_bind, this, Result.andThen_ok, h3]
 ·rw [Option.map_eq_some_iff] at h
  obtain ⟨s, h1, rfl⟩ := h
  simp only [AV.inst, TV.inst, SV.inst, Option.some.injEq] at hu hv
  subst hu hv
  obtain ⟨r, h2, h3⟩ := evStr_ok (P := P) (ρ := ρ) (ms := ms) h1 w
  refine ⟨r, h2, ?_⟩
  have : ∀ (x y : ByteArray), (eqGuard op T p q (.string x) (.string y)).run P w = .ok () w := fun x y => by unfold eqGuard; cases op <;> simp
  rw [Sem.run_bind, this, Result.andThen_ok]
  have e : ∀ x y : ByteArray, binOp op T (.string x) (.string y) = Op.stringOp op x y := fun x y => by cases op <;> rfl
  rw [e, h3]
 ·split at h
  ·rw [Option.map_eq_some_iff] at h
   obtain ⟨s, h1, rfl⟩ := h
   obtain ⟨_, h2, h3, _⟩ := evEq_ok hL h1 hu hv w
   exact ⟨_, rfl, by rw [Sem.run_bind, h2, Result.andThen_ok, h3]⟩
  ·rw [Option.map_eq_some_iff] at h
   obtain ⟨s, h1, rfl⟩ := h
   obtain ⟨_, h2, _, h3⟩ := evEq_ok hL h1 hu hv w
   exact ⟨_, rfl, by rw [Sem.run_bind, h2, Result.andThen_ok, h3]⟩
  ·cases h
def evUn (op : UnOp) : AV -> Option AV
 | .tv (.sc (.bool b)) => match op with | .not => some (.tv (.sc (.bool !b))) | _ => none
 | .tv (.sc (.int k a)) =>
  match op with
  | .neg => some (.tv (.sc (.int k (mkAri .sub k (.lit 0) a))))
  | .xor => some (.tv (.sc (.int k (mkBit .xor k (.lit (if k.signed then -1 else k.max)) a))))
  | _ => none
 | _ => none
theorem evUn_ok {P : Program} {ρ : Env} {ms : List Nat} {op : UnOp} {x z : AV} (h : evUn op x = some z) {u : Value} (hu : x.inst ρ ms = some u) (w : World) : ∃ r, z.inst ρ ms = some r /\ (Op.unary op u).run P w = .ok r w := by
 unfold evUn at h
 split at h
 ·split at h <;> cases h
  simp only [AV.inst, TV.inst, SV.inst, Option.some.injEq] at hu
  subst hu
  exact ⟨_, rfl, by simp [Op.unary]⟩
 ·split at h <;> cases h
  ·simp only [AV.inst, TV.inst, SV.inst, Option.some.injEq] at hu
   subst hu
   exact ⟨_, rfl, by simp [Op.unary, Op.intArith, mkAri_den, ariOf, Ex.den]⟩
  ·simp only [AV.inst, TV.inst, SV.inst, Option.some.injEq] at hu
   subst hu
   exact ⟨_, rfl, by simp [Op.unary, Op.intBits, mkBit_den, bitsOf, Ex.den]⟩
 ·cases h
def evConv (P : Program) (src dst : TypeId) (x : AV) : Option AV :=
 match P.underlying src, P.underlying dst, x with
 | some _, some (.int k), .tv (.sc (.int _ e)) => some (.tv (.sc (.int k (mkCon k e))))
 | some _, some .string, .tv (.sc (.str l)) => some (.tv (.sc (.str l)))
 | _, _, _ => none
theorem evConv_ok {P : Program} {ρ : Env} {ms : List Nat} {src dst : TypeId} {x z : AV} (h : evConv P src dst x = some z) {u : Value} (hu : x.inst ρ ms = some u) (w : World) : ∃ r, z.inst ρ ms = some r /\ (convert src dst u).run P w = .ok r w := by
 unfold evConv at h
 split at h
 ·rename_i d k k' e h1 h2
  simp only [Option.some.injEq] at h
  subst h
  simp only [AV.inst, TV.inst, SV.inst, Option.some.injEq] at hu
  subst hu
  exact ⟨_, rfl, by simp [convert, run_underlying h1, run_underlying h2, Conv.intToInt, mkCon_den]⟩
 ·rename_i d l h1 h2
  simp only [Option.some.injEq] at h
  subst h
  simp only [AV.inst, TV.inst, SV.inst, Option.some.injEq] at hu
  subst hu
  refine ⟨_, rfl, ?_⟩
  cases d <;> simp [convert, run_underlying h1, run_underlying h2]
 ·cases h
def optInt (t : Tm) : Option Operand -> Option (Option Int)
 | none => some none
 | some x => (gInt t x).map fun p => some p.2
def bounds (len cap : Nat) (lo hi : Option Int) : Option (Nat × Nat) :=
 let h := hi.getD len
 let l := lo.getD 0
 if 0 <= h /\ h <= cap /\ 0 <= l /\ l <= h then some (l.toNat, h.toNat) else none
theorem bounds_ok {P : Program} {ρ : Env} {ms : List Nat} {t : Tm} {a : Act} (hT : RelT ρ ms t a.tmps) {lo hi : Option Operand} {x y : Option Int} {len cap l h : Nat} (hl : optInt t lo = some x) (hh : optInt t hi = some y)
  (hb : bounds len cap x y = some (l, h)) (isS : Bool) (w : World) : (Instr.sliceBounds isS len cap (lo.map a.eval) (hi.map a.eval) none).run P w = .ok (l, h, cap) w /\ l <= h /\ h <= cap := by
 have one : ∀ (o : Option Operand) (z : Option Int), optInt t o = some z -> (o = none /\ z = none) \/ ∃ q k n, o = some q /\ z = some n /\ a.eval q = .int k n := by
  intro o z ho
  cases o with
  | none => simp [optInt] at ho; exact .inl ⟨rfl, ho.symm⟩
  | some q =>
   simp only [optInt, Option.map_eq_some_iff] at ho
   obtain ⟨⟨k, n⟩, h1, h2⟩ := ho
   exact .inr ⟨q, k, n, rfl, h2.symm, gInt_ok hT h1⟩
 simp only [bounds] at hb
 split at hb
 case isFalse => cases hb
 rename_i hc
 simp only [Option.some.injEq, Prod.mk.injEq] at hb
 obtain ⟨rfl, rfl⟩ := hb
 refine ⟨?_, by omega, by omega⟩
 have sb : ∀ (k : IntKind) (n : Int) (y : Nat) (c : BoundsCode), 0 <= n -> n <= y -> (Instr.sliceBound (.int k n) y c).run P w = .ok n.toNat w := fun k n y c h1 h2 => by
  simp only [Instr.sliceBound, asIntOf, Sem.run_bind, Sem.run_pure, Result.andThen_ok]
  rw [if_pos ⟨h1, h2⟩]; rfl
 rcases one lo x hl with ⟨rfl, rfl⟩ | ⟨q, k, n, rfl, rfl, e1⟩ <;> rcases one hi y hh with ⟨rfl, rfl⟩ | ⟨q', k', n', rfl, rfl, e2⟩ <;> simp only [Option.getD_some, Option.getD_none] at hc ⊢
 ·simp only [Instr.sliceBounds, Option.map_none, Sem.run_bind, Sem.run_pure, Result.andThen_ok]
  rfl
 ·simp only [Instr.sliceBounds, Option.map_none, Option.map_some, e2, Sem.run_bind, Sem.run_pure, Result.andThen_ok, sb k' n' cap _ (by omega) (by omega)]
  rfl
 ·simp only [Instr.sliceBounds, Option.map_none, Option.map_some, e1, Sem.run_bind, Sem.run_pure, Result.andThen_ok, sb k n len _ (by omega) (by omega)]
  rfl
 ·simp only [Instr.sliceBounds, Option.map_some, e1, e2, Sem.run_bind, Sem.run_pure, Result.andThen_ok, sb k' n' cap _ (by omega) (by omega), sb k n n'.toNat _ (by omega) (by omega)]
def evSlice (P : Program) (t : Tm) (T : TypeId) (x : Operand) (lo hi mx : Option Operand) : Option AV :=
 match mx, optInt t lo, optInt t hi, P.underlying T, evGet t x with
 | none, some l, some h, some (.array n e), some (.tv (.sc (.ptr m o))) =>
  match bounds n n l h, rowOf P e with
  | some (l, h), some (_, s) => some (.tv (.sc (.sl m (if n = l then o else o + l * s) (h - l) (n - l))))
  | _, _ => none
 | none, some l, some h, some (.slice e), some (.tv (.sc (.sl m o len cap))) =>
  if len <= cap then
   match bounds len cap l h, rowOf P e with
   | some (l, h), some (_, s) => some (.tv (.sc (.sl m (if cap = l then o else o + l * s) (h - l) (cap - l))))
   | _, _ => none
  else none
 | none, some l, some h, some (.slice e), some (.tv (.sc (.slg m o e0 len))) =>
  match bounds len len l h, rowOf P e with
  | some (l, h), some (_, s) => if l < len \/ l = 0 then some (.tv (.sc (.slg m (o + l * s) (e0 + l) (h - l)))) else none
  | _, _ => none
 | none, some l, some h, some .string, some (.tv (.sc (.str b))) =>
  match bounds b.length b.length l h with
  | some (l, h) => some (.tv (.sc (.str ((b.drop l).take (h - l)))))
  | _ => none
 | none, some l, some h, some (.slice e), some (.tv (.sc (.nils len cap))) =>
  if len <= cap then
   match bounds len cap l h, rowOf P e with
   | some (l, h), some (_, _) => some (.tv (.sc (.nils (h - l) (cap - l))))
   | _, _ => none
  else none
 | some q, some l, some (some h), some (.slice e), some (.tv (.sc (.sl m o _ cap))) =>
  match gInt t q with
  | some (_, n) =>
   if 0 <= n /\ n <= cap then
    match bounds n.toNat n.toNat l (some h), rowOf P e with
    | some (l, h), some (_, s) => some (.tv (.sc (.sl m (if n.toNat = l then o else o + l * s) (h - l) (n.toNat - l))))
    | _, _ => none
   else none
  | none => none
 | _, _, _, _, _ => none
theorem bounds3_ok {P : Program} {ρ : Env} {ms : List Nat} {t : Tm} {a : Act} (hT : RelT ρ ms t a.tmps) {lo hi : Option Operand} {q : Operand} {x : Option Int} {y n : Int} {kk : IntKind} {len cap l h : Nat} (hl : optInt t lo = some x) (hh : optInt t hi = some (some y))
  (hq : gInt t q = some (kk, n)) (h0 : 0 <= n) (hn : n <= cap) (hb : bounds n.toNat n.toNat x (some y) = some (l, h)) (w : World) : (Instr.sliceBounds true len cap (lo.map a.eval) (hi.map a.eval) (some (a.eval q))).run P w = .ok (l, h, n.toNat) w /\ l <= h /\ h <= n.toNat := by
 have one : ∀ (o : Option Operand) (z : Option Int), optInt t o = some z -> (o = none /\ z = none) \/ ∃ q k n, o = some q /\ z = some n /\ a.eval q = .int k n := by
  intro o z ho
  cases o with
  | none => simp [optInt] at ho; exact .inl ⟨rfl, ho.symm⟩
  | some q =>
   simp only [optInt, Option.map_eq_some_iff] at ho
   obtain ⟨⟨k, n⟩, h1, h2⟩ := ho
   exact .inr ⟨q, k, n, rfl, h2.symm, gInt_ok hT h1⟩
 have e0 := gInt_ok hT hq
 simp only [bounds] at hb
 split at hb
 case isFalse => cases hb
 rename_i hc
 simp only [Option.some.injEq, Prod.mk.injEq] at hb
 obtain ⟨rfl, rfl⟩ := hb
 refine ⟨?_, by omega, by omega⟩
 have sb : ∀ (k : IntKind) (n : Int) (y : Nat) (c : BoundsCode), 0 <= n -> n <= y -> (Instr.sliceBound (.int k n) y c).run P w = .ok n.toNat w := fun k n y c h1 h2 => by
  simp only [Instr.sliceBound, asIntOf, Sem.run_bind, Sem.run_pure, Result.andThen_ok]
  rw [if_pos ⟨h1, h2⟩]; rfl
 rcases one hi (some y) hh with ⟨_, e⟩ | ⟨q', k', n', rfl, e, e2⟩
 ·cases e
 ·cases e
  simp only [Option.getD_some] at hc ⊢
  rcases one lo x hl with ⟨rfl, rfl⟩ | ⟨q2, k2, n2, rfl, rfl, e1⟩ <;> simp only [Option.getD_some, Option.getD_none] at hc ⊢
  ·simp only [Instr.sliceBounds, Option.map_none, Option.map_some, e0, e2, Sem.run_bind, Sem.run_pure, Result.andThen_ok, sb kk n cap _ h0 hn, sb k' y n.toNat _ (by omega) (by omega)]
   rfl
  ·simp only [Instr.sliceBounds, Option.map_some, e0, e1, e2, Sem.run_bind, Sem.run_pure, Result.andThen_ok, sb kk n cap _ h0 hn, sb k' y n.toNat _ (by omega) (by omega), sb k2 n2 y.toNat _ (by omega) (by omega)]
theorem sizeOf_run {P : Program} {T : TypeId} {r : Bool} {s : Nat} (h : rowOf P T = some (r, s)) (w : World) : (sizeOf T).run P w = .ok s w := by
 obtain ⟨d, i, hu, hi, hd, hsz⟩ := rowOf_ok h
 simp [sizeOf, typeInfo, hi, hsz]
theorem evSlice_ok {P : Program} {ρ : Env} {ms : List Nat} {t : Tm} {a : Act} (hT : RelT ρ ms t a.tmps) {T : TypeId} {x : Operand} {lo hi mx : Option Operand} {z : AV} (h : evSlice P t T x lo hi mx = some z) (w : World) :
  ∃ r, z.inst ρ ms = some r /\ (Instr.sliceAt T (a.eval x) (lo.map a.eval) (hi.map a.eval) (mx.map a.eval)).run P w = .ok r w := by
 unfold evSlice at h
 split at h
 ·rename_i l h' n e m o h1 h2 h3 h4
  have hx := evGet_ok hT h4
  simp only [AV.inst, TV.inst, SV.inst, addr, Option.map_eq_some_iff] at hx
  obtain ⟨b, hb, hx⟩ := hx
  split at h
  case h_2 => cases h
  rename_i lw hg r s h5 h6
  simp only [Option.some.injEq] at h
  subst h
  obtain ⟨q1, q2, q3⟩ := bounds_ok (P := P) hT h1 h2 h5 false w
  refine ⟨_, (by simp only [AV.inst, TV.inst, SV.inst, hb, Option.map_some]; rfl), ?_⟩
  rw [<- hx]
  simp [Instr.sliceAt, run_underlying h3, Instr.sureAddr, q1, sizeOf_run h6, Addr.add_mid]
  split <;> rfl
 ·rename_i l h' e m o len cap h1 h2 h3 h4
  have hx := evGet_ok hT h4
  simp only [AV.inst, TV.inst, SV.inst, Option.map_eq_some_iff] at hx
  obtain ⟨b, hb, hx⟩ := hx
  split at h
  case isFalse => cases h
  rename_i hlc
  split at h
  case h_2 => cases h
  rename_i lw hg r s h5 h6
  simp only [Option.some.injEq] at h
  subst h
  obtain ⟨q1, q2, q3⟩ := bounds_ok (P := P) hT h1 h2 h5 true w
  refine ⟨_, (by simp only [AV.inst, TV.inst, SV.inst, hb, Option.map_some]; rfl), ?_⟩
  rw [<- hx]
  simp [Instr.sliceAt, run_underlying h3, Instr.slice, q1, sizeOf_run h6, Addr.add_mid]
  split <;> rfl
 ·rename_i l h' e m o e0 len h1 h2 h3 h4
  have hx := evGet_ok hT h4
  simp only [AV.inst, TV.inst, SV.inst] at hx
  obtain ⟨b, c, hb, hc, hle, hx⟩ := grown_iff.1 hx
  split at h
  case h_2 => cases h
  rename_i lw hg r s h5 h6
  split at h <;> cases h
  rename_i hlw
  have q23 := (bounds_ok (P := P) hT h1 h2 h5 true w).2
  obtain ⟨q2, q3⟩ := q23
  have h5' : bounds len (c - e0) l h' = some (lw, hg) := by
   unfold bounds at h5 ⊢
   simp only at h5 ⊢
   split at h5
   case isFalse => cases h5
   rename_i hcc
   rw [<- h5, if_pos ⟨hcc.1, by omega, hcc.2.2⟩]
  obtain ⟨q1, _, _⟩ := bounds_ok (P := P) hT h1 h2 h5' true w
  refine ⟨.slice (some ⟨b, o + lw * s, none⟩) (hg - lw) (c - (e0 + lw)), ?_, ?_⟩
  ·simp only [AV.inst, TV.inst, SV.inst]
   exact grown_iff.2 ⟨b, c, hb, hc, by omega, rfl⟩
  ·rw [hx]
   simp [Instr.sliceAt, run_underlying h3, Instr.slice, q1, sizeOf_run h6, Addr.add_mid]
   first
   | (refine ⟨?_, by omega⟩; intro e1; have : lw = 0 := (by omega); subst this; simp)
   | skip
 ·rename_i l h' bs h1 h2 h3 h4
  have hx := evGet_ok hT h4
  simp only [AV.inst, TV.inst, SV.inst, Option.some.injEq] at hx
  split at h
  case h_2 => cases h
  rename_i lw hg h5
  simp only [Option.some.injEq] at h
  subst h
  have hsz : (bytesOf bs).size = bs.length := by simp [bytesOf, ByteArray.size]
  obtain ⟨q1, q2, q3⟩ := bounds_ok (P := P) hT h1 h2 h5 false w
  refine ⟨_, rfl, ?_⟩
  rw [<- hx]
  have e0 : (bytesOf bs).extract lw hg = bytesOf ((bs.drop lw).take (hg - lw)) := by
   apply ByteArray.ext
   simp [bytesOf, List.map_take, List.map_drop]
  simp only [Instr.sliceAt, Instr.slice, Sem.run_bind, run_underlying h3, Result.andThen_ok, hsz, Option.map_none, Option.isSome_none, Bool.false_eq_true, if_false, Sem.run_pure]
  rw [q1]
  simp [e0]
 ·rename_i l h' e len cap h1 h2 h3 h4
  have hx := evGet_ok hT h4
  simp only [AV.inst, TV.inst, SV.inst, Option.some.injEq] at hx
  split at h
  case isFalse => cases h
  rename_i hlc
  split at h
  case h_2 => cases h
  rename_i lw hg r s h5 h6
  simp only [Option.some.injEq] at h
  subst h
  obtain ⟨q1, q2, q3⟩ := bounds_ok (P := P) hT h1 h2 h5 true w
  refine ⟨_, rfl, ?_⟩
  rw [<- hx]
  simp [Instr.sliceAt, run_underlying h3, Instr.slice, q1, sizeOf_run h6]
 ·rename_i q l h' e m o len cap h1 h2 h3 h4
  have hx := evGet_ok hT h4
  simp only [AV.inst, TV.inst, SV.inst, Option.map_eq_some_iff] at hx
  obtain ⟨b, hb, hx⟩ := hx
  split at h
  case h_2 => cases h
  rename_i kk n hq
  split at h
  case isFalse => cases h
  rename_i hn
  split at h
  case h_2 => cases h
  rename_i lw hg r s h5 h6
  simp only [Option.some.injEq] at h
  subst h
  obtain ⟨q1, q2, q3⟩ := bounds3_ok (P := P) (len := len) (cap := cap) hT h1 h2 hq hn.1 hn.2 h5 w
  refine ⟨_, (by simp only [AV.inst, TV.inst, SV.inst, hb, Option.map_some]; rfl), ?_⟩
  rw [<- hx]
  simp only [Option.map_some]
  simp [Instr.sliceAt, run_underlying h3, Instr.slice, q1, sizeOf_run h6, Addr.add_mid]
  split <;> rfl
 ·cases h
def evArr (P : Program) (T : TypeId) (x : AV) : Option AV :=
 match P.underlying T, x with
 | some (.array n _), .tv (.sc (.sl m o len _)) => if n <= len then some (.tv (.sc (.ptr m o))) else none
 | some (.array n _), .tv (.sc (.slg m o _ len)) => if n <= len then some (.tv (.sc (.ptr m o))) else none
 | _, _ => none
theorem evArr_ok {P : Program} {ρ : Env} {ms : List Nat} {T : TypeId} {x z : AV} (h : evArr P T x = some z) {u : Value} (hu : x.inst ρ ms = some u) (w : World) : ∃ r, z.inst ρ ms = some r /\ (Instr.arrayAt T u).run P w = .ok r w := by
 unfold evArr at h
 split at h
 ·rename_i n e m o len cap h1
  split at h <;> cases h
  rename_i hle
  simp only [AV.inst, TV.inst, SV.inst, Option.map_eq_some_iff] at hu
  obtain ⟨b, hb, rfl⟩ := hu
  refine ⟨_, (by simp only [AV.inst, TV.inst, SV.inst, addr, hb, Option.map_some]; rfl), ?_⟩
  simp [Instr.arrayAt, run_underlying h1]
  intro hlt; omega
 ·rename_i n e m o e0 len h1
  split at h <;> cases h
  rename_i hle
  simp only [AV.inst, TV.inst, SV.inst] at hu
  obtain ⟨b, c, hb, hc, hl, rfl⟩ := grown_iff.1 hu
  refine ⟨_, (by simp only [AV.inst, TV.inst, SV.inst, addr, hb, Option.map_some]; rfl), ?_⟩
  simp [Instr.arrayAt, run_underlying h1]
  intro hlt; omega
 ·cases h
def evFieldAddr (P : Program) (S : TypeId) (x : AV) (f : Nat) : Option AV :=
 match P.underlying S, x with
 | some (.struct fs), .tv (.sc (.ptr m o)) =>
  match fs[f]? with
  | some fd => match rowOf P fd.type with
   | some (_, s) => if s = 0 then none else some (.tv (.sc (.ptr m (o + fd.offset))))
   | none => none
  | none => none
 | _, _ => none
theorem evFieldAddr_ok {P : Program} {ρ : Env} {ms : List Nat} {S : TypeId} {f : Nat} {x z : AV} (h : evFieldAddr P S x f = some z) {u : Value} (hu : x.inst ρ ms = some u) (w : World) : ∃ r, z.inst ρ ms = some r /\ (Instr.fieldAt S u f).run P w = .ok r w := by
 unfold evFieldAddr at h
 split at h
 ·rename_i fs m o h1
  split at h
  case h_2 => cases h
  rename_i fd h2
  split at h
  case h_2 => cases h
  rename_i r s h3
  split at h
  ·cases h
  rename_i hs
  simp only [Option.some.injEq] at h
  subst h
  simp only [AV.inst, TV.inst, SV.inst, addr, Option.map_eq_some_iff] at hu
  obtain ⟨b, hb, rfl⟩ := hu
  refine ⟨_, (by simp only [AV.inst, TV.inst, SV.inst, addr, hb, Option.map_some]; rfl), ?_⟩
  simp [Instr.fieldAt, run_underlying h1, h2, Instr.sureAddr, fieldPlace, sizeOf_run h3, hs, Addr.add_mid]
 ·cases h
def evPart (P : Program) (T : TypeId) (l : List SV) (o : Nat) : Option AV :=
 match rowOf P T with
 | some (true, s) => if o + s <= l.length then some (.tv (.agg ((l.drop o).take s))) else none
 | some (false, _) => (l[o]?).map fun s => .tv (.sc s)
 | none => none
theorem evPart_ok {P : Program} {ρ : Env} {ms : List Nat} {T : TypeId} {l : List SV} {o : Nat} {z : AV} (h : evPart P T l o = some z) {vs : List Value} (hv : l.map (SV.inst ρ ms) = vs.map some) (w : World) :
  ∃ r, z.inst ρ ms = some r /\ (part T vs.toArray o).run P w = .ok r w := by
 have hlen : l.length = vs.length := by have := congrArg List.length hv; simpa using this
 unfold evPart at h
 split at h
 ·rename_i s h1
  split at h <;> cases h
  rename_i hle
  refine ⟨.agg ((vs.drop o).take s).toArray, ?_, part_run h1 w vs o (by simp) (by omega)⟩
  simp only [AV.inst, TV.inst]
  rw [(seqO_iff _ ((vs.drop o).take s)).2 (by rw [List.map_take, List.map_drop, hv, <- List.map_drop, <- List.map_take]), Option.map_some]
 ·rename_i s h1
  rw [Option.map_eq_some_iff] at h
  obtain ⟨sv, h2, rfl⟩ := h
  have ho : o < vs.length := by rw [<- hlen]; exact (List.getElem?_eq_some_iff.1 h2).1
  have e1 : (l.map (SV.inst ρ ms))[o]? = (vs.map some)[o]? := by rw [hv]
  simp only [List.getElem?_map, h2, List.getElem?_eq_getElem ho, Option.map_some, Option.some.injEq] at e1
  refine ⟨_, e1, ?_⟩
  obtain ⟨d, i, hu, hi, hd, hsz⟩ := rowOf_ok h1
  have hag := isAgg_run hu w
  rw [hd] at hag
  simp [part, hag, List.getElem?_eq_getElem ho]
 ·cases h
def evField (P : Program) (S : TypeId) (x : AV) (f : Nat) : Option AV :=
 match P.underlying S, x with
 | some (.struct fs), .tv (.agg l) =>
  match fs[f]? with
  | some fd => evPart P fd.type l fd.offset
  | none => none
 | _, _ => none
theorem evField_ok {P : Program} {ρ : Env} {ms : List Nat} {S : TypeId} {f : Nat} {x z : AV} (h : evField P S x f = some z) {u : Value} (hu : x.inst ρ ms = some u) (w : World) : ∃ r, z.inst ρ ms = some r /\ (Instr.field S u f).run P w = .ok r w := by
 unfold evField at h
 split at h
 ·rename_i fs l h1
  split at h
  case h_2 => cases h
  rename_i fd h2
  simp only [AV.inst, TV.inst, Option.map_eq_some_iff] at hu
  obtain ⟨vs, h3, rfl⟩ := hu
  obtain ⟨r, h4, h5⟩ := evPart_ok h ((seqO_iff _ _).1 h3) w
  exact ⟨r, h4, by simp [Instr.field, run_underlying h1, h2, asAgg, h5]⟩
 ·cases h
def evIndexAddr (P : Program) (T : TypeId) (x i : AV) : Option AV :=
 match P.underlying T, x, i with
 | some (.array n e), .tv (.sc (.ptr m o)), .tv (.sc (.int _ (.lit j))) =>
  match rowOf P e with
  | some (_, s) => if 0 <= j /\ j < n then some (.tv (.sc (.ptr m (o + j.toNat * s)))) else none
  | none => none
 | some (.slice e), .tv (.sc (.sl m o n _)), .tv (.sc (.int _ (.lit j))) =>
  match rowOf P e with
  | some (_, s) => if 0 <= j /\ j < n then some (.tv (.sc (.ptr m (o + j.toNat * s)))) else none
  | none => none
 | some (.slice e), .tv (.sc (.slg m o _ n)), .tv (.sc (.int _ (.lit j))) =>
  match rowOf P e with
  | some (_, s) => if 0 <= j /\ j < n then some (.tv (.sc (.ptr m (o + j.toNat * s)))) else none
  | none => none
 | _, _, _ => none
theorem evIndexAddr_ok {P : Program} {ρ : Env} {ms : List Nat} {T : TypeId} {x i z : AV} (h : evIndexAddr P T x i = some z) {u v : Value} (hu : x.inst ρ ms = some u) (hv : i.inst ρ ms = some v) (w : World) :
  ∃ r, z.inst ρ ms = some r /\ (Instr.indexAt T u v).run P w = .ok r w := by
 unfold evIndexAddr at h
 split at h
 ·rename_i n e m o k j h1
  split at h
  case h_2 => cases h
  rename_i r s h2
  split at h <;> cases h
  rename_i hj
  simp only [AV.inst, TV.inst, SV.inst, addr, Ex.den, Option.map_eq_some_iff, Option.some.injEq] at hu hv
  obtain ⟨b, hb, rfl⟩ := hu
  subst hv
  refine ⟨_, (by simp only [AV.inst, TV.inst, SV.inst, addr, hb, Option.map_some]; rfl), ?_⟩
  simp [Instr.indexAt, asIntOf, run_underlying h1, Instr.sureAddr, hj, sizeOf_run h2, Addr.add_mid]
 ·rename_i e m o n c k j h1
  split at h
  case h_2 => cases h
  rename_i r s h2
  split at h <;> cases h
  rename_i hj
  simp only [AV.inst, TV.inst, SV.inst, Ex.den, Option.map_eq_some_iff, Option.some.injEq] at hu hv
  obtain ⟨b, hb, rfl⟩ := hu
  subst hv
  refine ⟨_, (by simp only [AV.inst, TV.inst, SV.inst, addr, hb, Option.map_some]; rfl), ?_⟩
  simp [Instr.indexAt, asIntOf, run_underlying h1, hj, sizeOf_run h2, Addr.add_mid]
 ·rename_i e m o e0 n k j h1
  split at h
  case h_2 => cases h
  rename_i r s h2
  split at h <;> cases h
  rename_i hj
  simp only [AV.inst, TV.inst, SV.inst, Ex.den, Option.some.injEq] at hu hv
  obtain ⟨b, c, hb, hc, hl, rfl⟩ := grown_iff.1 hu
  subst hv
  refine ⟨_, (by simp only [AV.inst, TV.inst, SV.inst, addr, hb, Option.map_some]; rfl), ?_⟩
  simp [Instr.indexAt, asIntOf, run_underlying h1, hj, sizeOf_run h2, Addr.add_mid]
 ·cases h
def evIndex (P : Program) (T : TypeId) (x i : AV) : Option AV :=
 match P.underlying T, x, i with
 | some (.array n e), .tv (.agg l), .tv (.sc (.int _ (.lit j))) =>
  match rowOf P e with
  | some (_, s) => if 0 <= j /\ j < n then evPart P e l (j.toNat * s) else none
  | none => none
 | some .string, .tv (.sc (.str l)), .tv (.sc (.int _ (.lit j))) =>
  if 0 <= j then (l[j.toNat]?).map fun x => .tv (.sc (.int .u8 (.lit ((x % 256 : Nat) : Int)))) else none
 | _, _, _ => none
theorem evIndex_ok {P : Program} {ρ : Env} {ms : List Nat} {T : TypeId} {x i z : AV} (h : evIndex P T x i = some z) {u v : Value} (hu : x.inst ρ ms = some u) (hv : i.inst ρ ms = some v) (w : World) :
  ∃ r, z.inst ρ ms = some r /\ (Instr.index T u v).run P w = .ok r w := by
 unfold evIndex at h
 split at h
 ·rename_i n e l k j h1
  split at h
  case h_2 => cases h
  rename_i r s h2
  split at h
  case isFalse => cases h
  rename_i hj
  simp only [AV.inst, TV.inst, SV.inst, Ex.den, Option.map_eq_some_iff, Option.some.injEq] at hu hv
  obtain ⟨vs, h3, rfl⟩ := hu
  subst hv
  obtain ⟨r, h4, h5⟩ := evPart_ok h ((seqO_iff _ _).1 h3) w
  exact ⟨r, h4, by simp [Instr.index, asIntOf, run_underlying h1, hj, sizeOf_run h2, h5]⟩
 ·rename_i l k j h1
  split at h
  case isFalse => cases h
  rename_i hj
  rw [Option.map_eq_some_iff] at h
  obtain ⟨x, h2, rfl⟩ := h
  simp only [AV.inst, TV.inst, SV.inst, Ex.den, Option.some.injEq] at hu hv
  subst hu hv
  refine ⟨_, rfl, ?_⟩
  have hlt := (List.getElem?_eq_some_iff.1 h2).1
  have hx := (List.getElem?_eq_some_iff.1 h2).2
  have e1 : (bytesOf l)[j.toNat]? = some (UInt8.ofNat x) := by
   have hs : j.toNat < (bytesOf l).size := by simpa [bytesOf, ByteArray.size] using hlt
   rw [getElem?_pos (bytesOf l) j.toNat hs]
   congr 1
   show (bytesOf l).data[j.toNat] = _
   simp [bytesOf, hx]
  simp [Instr.index, asIntOf, run_underlying h1, hj, e1, Ex.den]
 ·cases h
def evZero (P : Program) (T : TypeId) : Option (List SV) :=
 match P.info? T with
 | some i => match i.zero with | some z => seqO (z.cells.toList.map ofScalar) | none => none
 | none => none
theorem evZero_ok {P : Program} {T : TypeId} {l : List SV} (h : evZero P T = some l) : ∃ i z, P.info? T = some i /\ i.zero = some z /\ ∀ (ρ : Env) (ms : List Nat), l.map (SV.inst ρ ms) = z.cells.toList.map some := by
 unfold evZero at h
 split at h
 case h_2 => cases h
 rename_i i hi
 split at h
 case h_2 => cases h
 rename_i z hz
 refine ⟨i, z, hi, hz, fun ρ ms => ?_⟩
 rw [seqO_iff] at h
 have key : ∀ (vs : List Value) (l : List SV), vs.map ofScalar = l.map some -> l.map (SV.inst ρ ms) = vs.map some := by
  intro vs
  induction vs with
  | nil => intro l hl; cases l <;> simp at hl ⊢
  | cons v vs ih =>
   intro l hl
   cases l with
   | nil => simp at hl
   | cons s l =>
    simp only [List.map_cons, List.cons.injEq] at hl ⊢
    exact ⟨ofScalar_inst hl.1, ih l hl.2⟩
 exact key _ _ h
theorem zeroValue_run {P : Program} {T : TypeId} {i : TypeInfo} {z : Value} (hi : P.info? T = some i) (hz : i.zero = some z) (w : World) : (zeroValue T).run P w = .ok z w := by
 simp [zeroValue, typeInfo, hi, hz]
def fillA (place : Nat -> Option (Nat × Nat)) : List SV -> List (Nat × List SV) -> Option (List SV)
 | cells, [] => some cells
 | cells, (i, l) :: rest =>
  match place i with
  | none => none
  | some (off, size) => if l.length = size /\ off + l.length <= cells.length then fillA place (over cells off l) rest else none
theorem foldl_set (off : Nat) : ∀ (l : List Value) (k : Nat) (c : Array Value) (j : Nat), off + k + l.length <= c.size →
  ((l.zipIdx k).foldl (fun cs (p : Value × Nat) => cs.setIfInBounds (off + p.2) p.1) c)[j]? = if off + k <= j /\ j < off + k + l.length then l[j - (off + k)]? else c[j]?
 | [], k, c, j, _ => by simp; intro h1 h2; omega
 | v :: l, k, c, j, h => by
  simp only [List.length_cons] at h
  rw [List.zipIdx_cons, List.foldl_cons, foldl_set off l (k + 1) _ j (by simp; omega)]
  simp only [List.length_cons]
  by_cases h1 : off + (k + 1) <= j /\ j < off + (k + 1) + l.length
  ·rw [if_pos h1, if_pos (by omega), show j - (off + k) = (j - (off + (k + 1))) + 1 by omega, List.getElem?_cons_succ]
  ·rw [if_neg h1, Array.getElem?_setIfInBounds]
   by_cases h2 : off + k = j
   ·rw [if_pos h2, if_pos (by omega), if_pos (by omega), show j - (off + k) = 0 by omega, List.getElem?_cons_zero]
   ·rw [if_neg h2, if_neg (by omega)]
theorem fill_ok {ρ : Env} {ms : List Nat} (place : Nat -> Option (Nat × Nat)) : ∀ (parts : List (Nat × List SV)) (vparts : List (Nat × Value)) (cells l : List SV) (vs : List Value), cells.map (SV.inst ρ ms) = vs.map some →
  parts.map (fun p => (p.1, p.2.map (SV.inst ρ ms))) = vparts.map (fun p => (p.1, p.2.cells.toList.map some)) -> fillA place cells parts = some l →
  ∃ us : List Value, l.map (SV.inst ρ ms) = us.map some /\ Instr.fill place vs.toArray vparts = some us.toArray
 | [], vparts, cells, l, vs, hc, hp, h => by
  cases vparts <;> simp at hp
  simp only [fillA, Option.some.injEq] at h
  subst h
  exact ⟨vs, hc, rfl⟩
 | (i, p) :: parts, vparts, cells, l, vs, hc, hp, h => by
  cases vparts with
  | nil => simp at hp
  | cons q vparts =>
   obtain ⟨i', v⟩ := q
   simp only [List.map_cons, List.cons.injEq, Prod.mk.injEq] at hp
   obtain ⟨⟨rfl, hv⟩, hp⟩ := hp
   simp only [fillA] at h
   split at h
   case h_1 => cases h
   rename_i off size hpl
   split at h
   case isFalse => cases h
   rename_i hcond
   have hlen : p.length = v.cells.size := by have := congrArg List.length hv; simpa using this
   have hlc : cells.length = vs.length := by have := congrArg List.length hc; simpa using this
   have hov : (over cells off p).map (SV.inst ρ ms) = ((v.cells.zipIdx.foldl (fun cs (c : Value × Nat) => cs.setIfInBounds (off + c.2) c.1) vs.toArray)).toList.map some := by
    apply List.ext_getElem?
    intro j
    have fs := foldl_set off v.cells.toList 0 vs.toArray j (by simp; omega)
    rw [<- Array.toList_zipIdx, Array.foldl_toList] at fs
    simp only [Nat.add_zero] at fs
    rw [<- Array.getElem?_toList] at fs
    rw [List.getElem?_map, over_get _ _ _ hcond.2, List.getElem?_map, fs]
    have e1 : ∀ j, (p[j]?).map (SV.inst ρ ms) = (v.cells.toList[j]?).map some := fun j => by rw [<- List.getElem?_map, <- List.getElem?_map, hv]
    have e2 : ∀ j, (cells[j]?).map (SV.inst ρ ms) = (vs[j]?).map some := fun j => by rw [<- List.getElem?_map, <- List.getElem?_map, hc]
    by_cases hin : off <= j /\ j < off + p.length
    ·rw [if_pos hin, if_pos (by simp; omega), e1]
    ·rw [if_neg hin, if_neg (by simp; omega), e2]; simp
   obtain ⟨us, h1, h2⟩ := fill_ok place parts vparts _ l _ hov hp h
   refine ⟨us, h1, ?_⟩
   simp only [Instr.fill, hpl]
   rw [if_neg (by simp; omega)]
   rw [Array.toArray_toList] at h2
   exact h2
def partsOf (t : Tm) (parts : List (Nat × Operand)) : Option (List (Nat × List SV)) := seqO (parts.map fun p => (gCells t p.2).map fun l => (p.1, l))
theorem partsOf_ok {ρ : Env} {ms : List Nat} {t : Tm} {a : Act} (hT : RelT ρ ms t a.tmps) : ∀ (parts : List (Nat × Operand)) (ps : List (Nat × List SV)), partsOf t parts = some ps →
  ps.map (fun p => (p.1, p.2.map (SV.inst ρ ms))) = (parts.map fun p => (p.1, a.eval p.2)).map (fun p => (p.1, p.2.cells.toList.map some))
 | [], ps, h => by simp [partsOf, seqO] at h; subst h; rfl
 | (i, x) :: parts, ps, h => by
  unfold partsOf at h
  rw [seqO_iff] at h
  cases ps with
  | nil => simp at h
  | cons p ps =>
   simp only [List.map_cons, List.cons.injEq, Option.map_eq_some_iff] at h
   obtain ⟨⟨l, h1, rfl⟩, h2⟩ := h
   obtain ⟨vs, h3, h4⟩ := gCells_ok hT h1
   simp only [List.map_cons, List.cons.injEq, h4, h3, true_and]
   exact partsOf_ok hT parts ps (by unfold partsOf; rw [seqO_iff]; exact h2)
def placesOf (P : Program) (fs : List Field) : Option (List (Nat × Nat)) := seqO (fs.map fun f => (rowOf P f.type).map fun r => (f.offset, r.2))
theorem mapM_run {α β : Type} {P : Program} (w : World) (f : α -> Sem β) : ∀ (l : List α) (r : List β), l.length = r.length -> (∀ (i : Nat) (x : α) (y : β), l[i]? = some x -> r[i]? = some y -> (f x).run P w = .ok y w) -> (l.mapM f).run P w = .ok r w
 | [], [], _, _ => rfl
 | [], _ :: _, h, _ => by simp at h
 | _ :: _, [], h, _ => by simp at h
 | x :: l, y :: r, h, hf => by
  rw [List.mapM_cons, Sem.run_bind, hf 0 x y rfl rfl, Result.andThen_ok, Sem.run_bind, mapM_run w f l r (by simpa using h) (fun i a b h1 h2 => hf (i + 1) a b (by simpa using h1) (by simpa using h2)), Result.andThen_ok, Sem.run_pure]
def evBuild (P : Program) (t : Tm) (T : TypeId) (parts : List (Nat × Operand)) : Option AV :=
 match evZero P T, partsOf t parts, P.underlying T with
 | some z, some ps, some (.array _ e) =>
  match rowOf P e with
  | some (_, s) => (fillA (fun i => some (i * s, s)) z ps).map fun l => .tv (.agg l)
  | none => none
 | some z, some ps, some (.struct fs) =>
  match placesOf P fs.toList with
  | some pl => (fillA (fun i => pl[i]?) z ps).map fun l => .tv (.agg l)
  | none => none
 | _, _, _ => none
theorem evBuild_ok {P : Program} {ρ : Env} {ms : List Nat} {t : Tm} {a : Act} (hT : RelT ρ ms t a.tmps) {T : TypeId} {parts : Array (Nat × Operand)} {z : AV} (h : evBuild P t T parts.toList = some z) (w : World) :
  ∃ r, z.inst ρ ms = some r /\ (Instr.build T (parts.map fun p => (p.1, a.eval p.2))).run P w = .ok r w := by
 unfold evBuild at h
 split at h
 ·rename_i zl ps n e h1 h2 h3
  obtain ⟨i, z0, hi, hz, hzl⟩ := evZero_ok h1
  split at h
  case h_2 => cases h
  rename_i r s h4
  rw [Option.map_eq_some_iff] at h
  obtain ⟨l, h5, rfl⟩ := h
  obtain ⟨us, h6, h7⟩ := fill_ok (ρ := ρ) (ms := ms) _ ps _ zl l z0.cells.toList (hzl ρ ms) (partsOf_ok hT _ _ h2) h5
  refine ⟨.agg us.toArray, by simp only [AV.inst, TV.inst, (seqO_iff _ _).2 h6, Option.map_some], ?_⟩
  rw [Array.toArray_toList] at h7
  simp only [Instr.build, Sem.run_bind, zeroValue_run hi hz, Result.andThen_ok, run_underlying h3, sizeOf_run h4, Array.toList_map, h7]
  rfl
 ·rename_i zl ps fs h1 h2 h3
  obtain ⟨i, z0, hi, hz, hzl⟩ := evZero_ok h1
  split at h
  case h_2 => cases h
  rename_i pl h4
  rw [Option.map_eq_some_iff] at h
  obtain ⟨l, h5, rfl⟩ := h
  obtain ⟨us, h6, h7⟩ := fill_ok (ρ := ρ) (ms := ms) _ ps _ zl l z0.cells.toList (hzl ρ ms) (partsOf_ok hT _ _ h2) h5
  refine ⟨.agg us.toArray, by simp only [AV.inst, TV.inst, (seqO_iff _ _).2 h6, Option.map_some], ?_⟩
  rw [Array.toArray_toList] at h7
  unfold placesOf at h4
  rw [seqO_iff] at h4
  have hpl : (fs.mapM fun f => do pure (f.offset, <- sizeOf f.type) : Sem (Array (Nat × Nat))).run P w = .ok pl.toArray w := by
   rw [Array.mapM_eq_mapM_toList, Sem.run_map, mapM_run w _ fs.toList pl (by have := congrArg List.length h4; simpa using this) (fun i x y hx hy => by
    have e : (fs.toList.map fun f => (rowOf P f.type).map fun r => (f.offset, r.2))[i]? = (pl.map some)[i]? := by rw [h4]
    rw [List.getElem?_map, List.getElem?_map, hx, hy] at e
    simp only [Option.map_some, Option.some.injEq, Option.map_eq_some_iff] at e
    obtain ⟨⟨r, s⟩, e1, e2⟩ := e
    subst e2
    simp [sizeOf_run e1])]
   rfl
  simp only [Instr.build, Sem.run_bind, zeroValue_run hi hz, Result.andThen_ok, run_underlying h3, hpl, Array.toList_map]
  have e9 : (fun x : Nat => pl.toArray[x]?) = (fun i : Nat => pl[i]?) := by funext x; simp
  rw [e9, h7]
  rfl
 ·cases h
def ptrs (l : List (Nat × Nat)) : List AV := l.map fun p => .tv (.sc (.ptr p.1 p.2))
def evMth (nm : String) : AV -> Option AV
 | .tv (.sc (.ifp t n o)) => some (.tv (.sc (.mtp nm t n o)))
 | .tv (.sc (.ife t)) => some (.tv (.sc (.mte nm t)))
 | _ => none
theorem evMth_ok {ρ : Env} {ms : List Nat} {nm : String} {a v : AV} (h : evMth nm a = some v) {u : Value} (hu : a.inst ρ ms = some u) : v.inst ρ ms = some (.func (.method nm) #[u] #[]) := by
 unfold evMth at h
 split at h
 ·simp only [Option.some.injEq] at h
  subst h
  simp only [AV.inst, TV.inst, SV.inst, Option.map_eq_some_iff] at hu ⊢
  obtain ⟨x, hx, rfl⟩ := hu
  exact ⟨x, hx, rfl⟩
 ·simp only [Option.some.injEq] at h
  subst h
  simp only [AV.inst, TV.inst, SV.inst, Option.some.injEq] at hu
  subst hu
  rfl
 ·cases h
def nilF (P : Program) (ty : TypeId) (name : String) : Bool :=
 match P.info? ty with
 | some i =>
  match i.methods.find? (·.name == name) with
  | some m => m.path.isEmpty && (match m.func, P.underlying ty with
   | some (_, true), _ => true
   | some (_, false), some (.struct _) => true
   | _, _ => false)
  | none => false
 | none => false
theorem nilF_ok {P : Program} {ty : TypeId} {name : String} (h : nilF P ty name = true) (v : Value) (k : Nat) (w : World) : (nilAhead (k + 1) ty v name).run P w = .ok (some false) w := by
 unfold nilF at h
 split at h
 case h_2 => cases h
 rename_i i hi
 split at h
 case h_2 => cases h
 rename_i m hm
 rw [Bool.and_eq_true] at h
 have hp2 : m.path.toList = [] := by simpa using h.1
 have h2 := h.2
 split at h2
 ·rename_i g _ h3
  simp [nilAhead, typeInfo, hi, hm, hp2, followBlind, h3]
 ·rename_i g e h3 h4
  simp [nilAhead, typeInfo, hi, hm, hp2, followBlind, h3, run_underlying h4]
 ·cases h2
def evMthNil (P : Program) : AV -> Option AV
 | .tv (.sc (.mtp nm t n o)) => if nilF P t nm then some (.tv (.sc (.mtp nm t n o))) else none
 | .tv (.sc (.mte nm t)) => if nilF P t nm then some (.tv (.sc (.mte nm t))) else none
 | _ => none
theorem evMthNil_ok {P : Program} {ρ : Env} {ms : List Nat} {a v : AV} (h : evMthNil P a = some v) {u : Value} (hu : a.inst ρ ms = some u) : v = a /\ ∃ nm t x, u = .func (.method nm) #[.iface t x] #[] /\ nilF P t nm = true := by
 unfold evMthNil at h
 split at h
 ·split at h <;> cases h
  rename_i hn
  simp only [AV.inst, TV.inst, SV.inst, Option.map_eq_some_iff] at hu
  obtain ⟨x, hx, rfl⟩ := hu
  exact ⟨rfl, _, _, _, rfl, hn⟩
 ·split at h <;> cases h
  rename_i hn
  simp only [AV.inst, TV.inst, SV.inst, Option.some.injEq] at hu
  exact ⟨rfl, _, _, _, hu.symm, hn⟩
 ·cases h
def evIface (P : Program) (T : TypeId) (a : AV) : Option AV :=
 match P.underlying T with
 | some (.pointer _) => match a with | .tv (.sc (.ptr n o)) => some (.tv (.sc (.ifp T n o))) | _ => none
 | some (.struct _) => match a with | .tv (.agg []) => some (.tv (.sc (.ife T))) | _ => none
 | _ => none
theorem evIface_ok {P : Program} {ρ : Env} {ms : List Nat} {T : TypeId} {a v : AV} (h : evIface P T a = some v) {u : Value} (hu : a.inst ρ ms = some u) (w : World) : v.inst ρ ms = some (.iface T u) /\ (Instr.makeInterface T u).run P w = .ok (.iface T u) w := by
 unfold evIface at h
 split at h
 ·rename_i e hT
  split at h
  ·simp only [Option.some.injEq] at h
   subst h
   refine ⟨?_, by simp [Instr.makeInterface, run_underlying hT]⟩
   simp only [AV.inst, TV.inst, SV.inst] at hu ⊢
   rw [hu]; rfl
  ·cases h
 ·rename_i e hT
  split at h
  ·simp only [Option.some.injEq] at h
   subst h
   refine ⟨?_, by simp [Instr.makeInterface, run_underlying hT]⟩
   simp only [AV.inst, TV.inst, List.map_nil, seqO, Option.map_some, Option.some.injEq] at hu
   subst hu
   rfl
  ·cases h
 ·cases h
def isNilLit : Operand -> Bool
 | .const .nilIface => true
 | _ => false
def evNil (P : Program) (op : BinOp) (T : TypeId) (x y : Operand) (a b : AV) : Option AV :=
 match P.underlying T, a, b with
 | some (.interface _), .tv (.sc .nili), .tv (.sc .nili) =>
  if isNilLit x || isNilLit y then
   match op with
   | .eql => some (.tv (.sc (.bool true)))
   | .neq => some (.tv (.sc (.bool false)))
   | _ => none
  else none
 | _, _, _ => none
theorem evNil_ok {P : Program} {ρ : Env} {ms : List Nat} {op : BinOp} {T : TypeId} {x y : Operand} {a b z : AV} (h : evNil P op T x y a b = some z) {u v : Value} (hu : a.inst ρ ms = some u) (hv : b.inst ρ ms = some v) (w : World) :
  ∃ r, z.inst ρ ms = some r /\ (do eqGuard op T x y u v; binOp op T u v : Sem Value).run P w = .ok r w := by
 unfold evNil at h
 split at h
 case h_2 => cases h
 rename_i e hT
 split at h
 case isFalse => cases h
 rename_i hl
 simp only [AV.inst, TV.inst, SV.inst, Option.some.injEq] at hu hv
 subst hu hv
 have hn : ∀ z : Operand, isNilLit z = true -> z = .const .nilIface := fun z hz => by
  unfold isNilLit at hz
  split at hz
  ·rfl
  ·cases hz
 have hg : ∀ op, (eqGuard op T x y .nilIface .nilIface).run P w = .ok () w := fun op => by
  rw [Bool.or_eq_true] at hl
  rcases hl with h1 | h1
  ·rw [hn _ h1]
   unfold eqGuard
   cases op <;> simp
  ·rw [hn _ h1]
   unfold eqGuard
   cases op <;> simp
 have ke0 : ∀ D, (Op.equalIn (D + 1) T .nilIface .nilIface).run P w = .ok true w := fun D => by
  simp only [Op.equalIn, Sem.run_bind, run_underlying hT, Result.andThen_ok, Sem.run_pure]
 have ke : (Op.equal T .nilIface .nilIface).run P w = .ok true w := ke0 9999
 split at h
 ·simp only [Option.some.injEq] at h
  subst h
  exact ⟨.bool true, rfl, by simp only [Sem.run_bind, hg, Result.andThen_ok, binOp, ke, Sem.run_pure]⟩
 ·simp only [Option.some.injEq] at h
  subst h
  exact ⟨.bool false, rfl, by simp only [Sem.run_bind, hg, Result.andThen_ok, binOp, ke, Sem.run_pure]; rfl⟩
 ·cases h
def evBinO (P : Program) (L : Lore) (op : BinOp) (T : TypeId) (x y : Operand) (a b : AV) : Option AV :=
 match evBin P L op T a b with
 | some r => some r
 | none => evNil P op T x y a b
def evReadX : Op -> Program -> Lore -> Tm -> List Blk -> Option AV
 | .move x => fun P L t H => evGet t x
 | .assign x => fun P L t H => evGet t x
 | .pick c a b => fun P L t H =>
  match evGet t c with
  | some (.tv (.sc (.bool true))) => evGet t a
  | some (.tv (.sc (.bool false))) => evGet t b
  | _ => none
 | .load T x => fun P L t H => evLoad P t H T x
 | .nilCheck x => fun P L t H =>
  match evGet t x with
  | some (.tv (.sc (.ptr n o))) => some (.tv (.sc (.ptr n o)))
  | some (.tv (.sc (.clo f c))) => some (.tv (.sc (.clo f c)))
  | some v => evMthNil P v
  | _ => none
 | .binOp op T x y _ => fun P L t H => match evGet t x, evGet t y with | some a, some b => evBinO P L op T x y a b | _, _ => none
 | .unOp op _ x => fun P L t H => match evGet t x with | some a => evUn op a | none => none
 | .convert s d x => fun P L t H => match evGet t x with | some a => evConv P s d a | none => none
 | .sliceToArrayPointer T x => fun P L t H => match evGet t x with | some a => evArr P T a | none => none
 | .slice T x lo hi mx => fun P L t H => evSlice P t T x lo hi mx
 | .fieldAddr S x f => fun P L t H => match evGet t x with | some a => evFieldAddr P S a f | none => none
 | .field S x f => fun P L t H => match evGet t x with | some a => evField P S a f | none => none
 | .indexAddr T x i => fun P L t H => match evGet t x, evGet t i with | some a, some b => evIndexAddr P T a b | _, _ => none
 | .index T x i => fun P L t H => match evGet t x, evGet t i with | some a, some b => evIndex P T a b | _, _ => none
 | .makeFunc (.func f) first caps => fun P L t H =>
  if first.size = 0 then (seqO (caps.toList.map (gPtr t))).map fun l => .tv (.sc (.clo f l)) else none
 | .makeFunc (.method nm) first caps => fun P L t H =>
  match first.toList, caps.toList with
  | [x], [] => (evGet t x).bind (evMth nm)
  | _, _ => none
 | .extract x i => fun P L t H =>
  match evGet t x with
  | some (.tup l) => (l[i]?).map .tv
  | _ => none
 | .build T parts => fun P L t H => evBuild P t T parts.toList
 | .makeInterface T x => fun P L t H => match evGet t x with | some a => evIface P T a | none => none
 | _ => fun _ _ _ _ => none
def evRead (P : Program) (L : Lore) (t : Tm) (H : List Blk) (op : Op) : Option AV := evReadX op P L t H
theorem evRead_ok {P : Program} {ρ : Env} {ms : List Nat} {L : Lore} (hL : LoreOk ρ L) {t : Tm} {H : List Blk} {a : Act} {o : Oper} {v : AV} (hT : RelT ρ ms t a.tmps) (h : evRead P L t H o.op = some v) (w : World) (hH : ∀ T x n c, o.op = .load T x -> gPtr t x = some (n, c) -> SeesAt ρ ms H w n c (loadLen P T)) :
  ∃ u, v.inst ρ ms = some u /\ (execOp a.eval o).run P w = .ok (.value u) w := by
 cases hop : o.op <;> rw [hop] at h <;> simp only [evRead, evReadX] at h <;> try (cases h; done)
 case move x => exact ⟨_, evGet_ok hT h, by simp [execOp, hop]⟩
 case assign x => exact ⟨_, evGet_ok hT h, by simp [execOp, hop]⟩
 case pick c x y =>
  split at h
  ·rename_i hc
   have := evGet_ok hT hc
   simp only [AV.inst, TV.inst, SV.inst, Option.some.injEq] at this
   exact ⟨_, evGet_ok hT h, by simp [execOp, hop, <- this, asBool]⟩
  ·rename_i hc
   have := evGet_ok hT hc
   simp only [AV.inst, TV.inst, SV.inst, Option.some.injEq] at this
   exact ⟨_, evGet_ok hT h, by simp [execOp, hop, <- this, asBool]⟩
  ·cases h
 case load T x =>
  obtain ⟨u, h1, h2⟩ := evLoad_ok hT (fun n c => hH T x n c hop) h
  exact ⟨u, h1, by simp [execOp, hop, h2]⟩
 case nilCheck x =>
  split at h
  ·rename_i n o2 hc
   simp only [Option.some.injEq] at h
   subst h
   have h1 := evGet_ok hT hc
   refine ⟨_, h1, ?_⟩
   simp only [AV.inst, TV.inst, SV.inst, addr, Option.map_eq_some_iff] at h1
   obtain ⟨b, _, h1⟩ := h1
   simp [execOp, hop, <- h1]
  ·rename_i f c hc
   simp only [Option.some.injEq] at h
   subst h
   have h1 := evGet_ok hT hc
   refine ⟨_, h1, ?_⟩
   simp only [AV.inst, TV.inst, SV.inst, Option.map_eq_some_iff] at h1
   obtain ⟨b, _, h1⟩ := h1
   simp [execOp, hop, <- h1]
  ·rename_i hc
   obtain ⟨rfl, nm, ty, x', hu, hn⟩ := evMthNil_ok h (evGet_ok hT hc)
   refine ⟨_, evGet_ok hT hc, ?_⟩
   have hd : P.types.size + Made.depth = (P.types.size + (Made.depth - 1)) + 1 := rfl
   have hm := nilF_ok hn x' (P.types.size + (Made.depth - 1)) w
   rw [<- hd] at hm
   simp only [execOp, hop, hu]
   simp only [List.getElem?_toArray, List.getElem?_cons_zero, program, Sem.run_bind, Sem.run, hm, Result.andThen_ok]
   rfl
  ·cases h
 case binOp op T x y T' =>
  split at h
  case h_2 => cases h
  rename_i p q h1 h2
  obtain ⟨r, h3, h4⟩ : ∃ r, v.inst ρ ms = some r /\ (do eqGuard op T x y (a.eval x) (a.eval y); Go.binOp op T (a.eval x) (a.eval y) : Sem Value).run P w = .ok r w := by
   unfold evBinO at h
   split at h
   ·rename_i hb
    simp only [Option.some.injEq] at h
    subst h
    exact evBin_ok hL hb (evGet_ok hT h1) (evGet_ok hT h2) x y w
   ·exact evNil_ok h (evGet_ok hT h1) (evGet_ok hT h2) w
  refine ⟨r, h3, ?_⟩
  simp only [execOp, hop]
  rw [Sem.run_bind, h4]; rfl
 case makeInterface T x =>
  split at h
  case h_2 => cases h
  rename_i p h1
  obtain ⟨h3, h4⟩ := evIface_ok (P := P) h (evGet_ok hT h1) w
  exact ⟨_, h3, by simp [execOp, hop, h4]⟩
 case unOp op T x =>
  split at h
  case h_2 => cases h
  rename_i p h1
  obtain ⟨r, h3, h4⟩ := evUn_ok (P := P) h (evGet_ok hT h1) w
  exact ⟨r, h3, by simp [execOp, hop, h4]⟩
 case convert s d x =>
  split at h
  case h_2 => cases h
  rename_i p h1
  obtain ⟨r, h3, h4⟩ := evConv_ok h (evGet_ok hT h1) w
  exact ⟨r, h3, by simp [execOp, hop, h4]⟩
 case sliceToArrayPointer T x =>
  split at h
  case h_2 => cases h
  rename_i p h1
  obtain ⟨r, h3, h4⟩ := evArr_ok h (evGet_ok hT h1) w
  exact ⟨r, h3, by simp [execOp, hop, h4]⟩
 case slice T x lo hi mx =>
  obtain ⟨r, h3, h4⟩ := evSlice_ok hT h w
  exact ⟨r, h3, by simp [execOp, hop, h4]⟩
 case fieldAddr S x f =>
  split at h
  case h_2 => cases h
  rename_i p h1
  obtain ⟨r, h3, h4⟩ := evFieldAddr_ok h (evGet_ok hT h1) w
  exact ⟨r, h3, by simp [execOp, hop, h4]⟩
 case field S x f =>
  split at h
  case h_2 => cases h
  rename_i p h1
  obtain ⟨r, h3, h4⟩ := evField_ok h (evGet_ok hT h1) w
  exact ⟨r, h3, by simp [execOp, hop, h4]⟩
 case indexAddr T x i =>
  split at h
  case h_2 => cases h
  rename_i p q h1 h2
  obtain ⟨r, h3, h4⟩ := evIndexAddr_ok h (evGet_ok hT h1) (evGet_ok hT h2) w
  exact ⟨r, h3, by simp [execOp, hop, h4]⟩
 case index T x i =>
  split at h
  case h_2 => cases h
  rename_i p q h1 h2
  obtain ⟨r, h3, h4⟩ := evIndex_ok h (evGet_ok hT h1) (evGet_ok hT h2) w
  exact ⟨r, h3, by simp [execOp, hop, h4]⟩
 case makeFunc fn first caps =>
  cases fn <;> simp only at h <;> try (cases h; done)
  case method nm =>
   split at h
   case h_2 => cases h
   rename_i x hf hcp
   rw [Option.bind_eq_some_iff] at h
   obtain ⟨p, h1, h2⟩ := h
   have e1 : first = #[x] := by rw [<- Array.toArray_toList (xs := first), hf]
   have e2 : caps = #[] := by rw [<- Array.toArray_toList (xs := caps), hcp]
   exact ⟨_, evMth_ok h2 (evGet_ok hT h1), by simp [execOp, hop, Instr.makeFunc, e1, e2]⟩
  rename_i f
  split at h
  case isFalse => cases h
  rename_i hf
  rw [Option.map_eq_some_iff] at h
  obtain ⟨l, h1, rfl⟩ := h
  rw [seqO_iff] at h1
  have hcap : (l.map (addr ms)) = (caps.toList.map a.eval).map some := by
   have key : ∀ (xs : List Operand) (l : List (Nat × Nat)), xs.map (gPtr t) = l.map some -> l.map (addr ms) = (xs.map a.eval).map some := by
    intro xs
    induction xs with
    | nil => intro l hl; cases l <;> simp at hl ⊢
    | cons x xs ih =>
     intro l hl
     cases l with
     | nil => simp at hl
     | cons p l =>
      simp only [List.map_cons, List.cons.injEq] at hl ⊢
      obtain ⟨n, o3⟩ := p
      obtain ⟨b, hb, he⟩ := gPtr_ok hT hl.1
      exact ⟨by rw [he]; simp [addr, hb], ih l hl.2⟩
   exact key _ _ h1
  refine ⟨.func (.func f) #[] (caps.toList.map a.eval).toArray, ?_, ?_⟩
  ·simp only [AV.inst, TV.inst, SV.inst]
   rw [(seqO_iff _ _).2 hcap]; rfl
  ·have e : first.map a.eval = #[] := by simpa using hf
   have e2 : caps.map a.eval = (caps.toList.map a.eval).toArray := by rw [<- Array.toList_map, Array.toArray_toList]
   simp [execOp, hop, Instr.makeFunc, e, e2]
 case extract x i =>
  split at h
  case h_2 => cases h
  rename_i l h1
  have h2 := evGet_ok hT h1
  rw [Option.map_eq_some_iff] at h
  obtain ⟨tv, h3, rfl⟩ := h
  simp only [AV.inst, Option.map_eq_some_iff] at h2
  obtain ⟨vs, h4, h5⟩ := h2
  rw [seqO_iff] at h4
  have e : (l.map (TV.inst ρ ms))[i]? = (vs.map some)[i]? := by rw [h4]
  rw [List.getElem?_map, List.getElem?_map, h3] at e
  cases hv : vs[i]? with
  | none => rw [hv] at e; simp at e
  | some u =>
   rw [hv] at e
   simp only [Option.map_some, Option.some.injEq] at e
   exact ⟨u, e, by simp [execOp, hop, <- h5, Instr.extract, hv]⟩
 case build T parts =>
  obtain ⟨r, h3, h4⟩ := evBuild_ok hT h w
  exact ⟨r, h3, by simp [execOp, hop, h4]⟩
end Go.Proofs.YtcpchhigiohlnaaDoor.Ev
