/- The evaluator's operations that leave the world alone. -/
import Derived.Test.YtafdklelfcccbaaEvOps
namespace Go.Proofs.Ytafdklelfcccbaa.Ev
open Go Go.RowKit

/- Integers. -/
def mkBit (op : BinOp) (k : IntKind) : Ex → Ex → Ex
  | .lit a, .lit b => .lit (bitsOf op k a b)
  | a, b => .bit op k a b
def mkAri (op : BinOp) (k : IntKind) : Ex → Ex → Ex
  | .lit a, .lit b => .lit (ariOf op k a b)
  | a, b => .ari op k a b
def mkShl (k : IntKind) (n : Nat) : Ex → Ex
  | .lit a => .lit (k.wrap (a * 2 ^ n))
  | a => .shl k a n
def mkShr (n : Nat) : Ex → Ex
  | .lit a => .lit (a.fdiv (2 ^ n))
  | .shr a m => .shr a (m + n)
  | a => if n = 0 then a else .shr a n
def mkCon (k : IntKind) : Ex → Ex
  | .lit a => .lit (k.wrap a)
  | a => .con k a
theorem mkBit_den (ρ : Env) (op : BinOp) (k : IntKind) (a b : Ex) : (mkBit op k a b).den ρ = bitsOf op k (a.den ρ) (b.den ρ) := by unfold mkBit; split <;> rfl
theorem mkAri_den (ρ : Env) (op : BinOp) (k : IntKind) (a b : Ex) : (mkAri op k a b).den ρ = ariOf op k (a.den ρ) (b.den ρ) := by unfold mkAri; split <;> rfl
theorem mkShl_den (ρ : Env) (k : IntKind) (n : Nat) (a : Ex) : (mkShl k n a).den ρ = k.wrap (a.den ρ * 2 ^ n) := by unfold mkShl; split <;> rfl
theorem mkShr_den (ρ : Env) (n : Nat) (a : Ex) : (mkShr n a).den ρ = (a.den ρ).fdiv (2 ^ n) := by
  have pos : ∀ n : Nat, (0 : Int) ≤ 2 ^ n := fun n => Int.le_of_lt (Int.pow_pos (by decide))
  unfold mkShr
  split
  · rfl
  · rename_i a m
    simp only [Ex.den]
    rw [Int.fdiv_eq_ediv_of_nonneg _ (pos _), Int.fdiv_eq_ediv_of_nonneg _ (pos _), Int.fdiv_eq_ediv_of_nonneg _ (pos _), Int.pow_add, Int.ediv_ediv_of_nonneg (pos m)]
  · split
    · rename_i h
      subst h
      rw [Int.pow_zero, Int.fdiv_eq_ediv_of_nonneg _ (by decide), Int.ediv_one]
    · rfl
theorem mkCon_den (ρ : Env) (k : IntKind) (a : Ex) : (mkCon k a).den ρ = k.wrap (a.den ρ) := by unfold mkCon; split <;> rfl

def cmpOf (op : BinOp) (x y : Int) : Option Bool :=
  match op with
  | .eql => some (x == y)
  | .neq => some (x != y)
  | .lss => some (decide (x < y))
  | .leq => some (decide (x ≤ y))
  | .gtr => some (decide (x > y))
  | .geq => some (decide (x ≥ y))
  | _ => none
/- Rows of integers, held against each other. -/
def eqv : Value → Value → Bool
  | .int k a, .int k' b => k == k' && a == b
  | .bool a, .bool b => a == b
  | _, _ => false
def alike : Value → Value → Bool
  | .int k _, .int k' _ => k == k'
  | _, _ => false
def all2 {α β : Type} (f : α → β → Bool) : List α → List β → Bool
  | [], [] => true
  | x :: xs, y :: ys => f x y && all2 f xs ys
  | _, _ => false
structure LoreOk (ρ : Env) (L : Lore) : Prop where
  fact : ∀ op a b r, L.fact op a b = some r → cmpOf op (a.den ρ) (b.den ρ) = some r
  nm : ∀ e, (L.nm e).den ρ = e.den ρ
  factA : ∀ l l' r, L.factA l l' = some r → ∀ (ms : List Nat) (vs us : List Value), l.map (SV.inst ρ ms) = vs.map some → l'.map (SV.inst ρ ms) = us.map some → all2 alike vs us = true ∧ all2 eqv vs us = r
def nmOf (L : Lore) : Ex → Ex
  | .lit n => .lit n
  | e => L.nm e
theorem nmOf_den {ρ : Env} {L : Lore} (hL : LoreOk ρ L) (e : Ex) : (nmOf L e).den ρ = e.den ρ := by
  cases e <;> first | rfl | exact hL.nm _
def evCmp (L : Lore) (op : BinOp) (a b : Ex) : Option SV :=
  match a, b with
  | .lit x, .lit y => (cmpOf op x y).map .bool
  | a, b => if a = b then (match op with | .eql => some (.bool true) | .neq => some (.bool false) | _ => (L.fact op a b).map .bool) else (L.fact op a b).map .bool
def evInt (L : Lore) (op : BinOp) (k : IntKind) (a : Ex) (k' : IntKind) (b : Ex) : Option SV :=
  match op with
  | .shl => match b with | .lit n => if n < 0 then none else some (.int k (mkShl k (min n.toNat k.bits) a)) | _ => none
  | .shr => match b with | .lit n => if n < 0 then none else some (.int k (mkShr (min n.toNat k.bits) a)) | _ => none
  | .add | .sub | .mul => if k = k' then some (.int k (mkAri op k a b)) else none
  | .and | .or | .xor | .andNot => if k = k' then some (.int k (nmOf L (mkBit op k a b))) else none
  | .quo => match b with | .lit y => if k = k' ∧ y ≠ 0 then some (.int k (nmOf L (mkAri .quo k a (.lit y)))) else none | b => if k = k' ∧ L.fact .neq b (.lit 0) = some true then some (.int k (nmOf L (mkAri .quo k a b))) else none
  | .rem => match b with | .lit y => if k = k' ∧ y ≠ 0 then some (.int k (nmOf L (mkAri .rem k a (.lit y)))) else none | b => if k = k' ∧ L.fact .neq b (.lit 0) = some true then some (.int k (nmOf L (mkAri .rem k a b))) else none
  | op => if k = k' then evCmp L op a b else none

theorem evCmp_ok {ρ : Env} {ms : List Nat} {L : Lore} (hL : LoreOk ρ L) {op : BinOp} {a b : Ex} {s : SV} (h : evCmp L op a b = some s) : ∃ r, s.inst ρ ms = some (.bool r) ∧ cmpOf op (a.den ρ) (b.den ρ) = some r := by
  unfold evCmp at h
  have fin : ∀ a b : Ex, (L.fact op a b).map SV.bool = some s → ∃ r, s.inst ρ ms = some (.bool r) ∧ cmpOf op (a.den ρ) (b.den ρ) = some r := fun a b h => by
    rw [Option.map_eq_some_iff] at h
    obtain ⟨r, h1, rfl⟩ := h
    exact ⟨r, rfl, hL.fact op a b r h1⟩
  split at h
  · rw [Option.map_eq_some_iff] at h
    obtain ⟨r, h1, rfl⟩ := h
    exact ⟨r, rfl, h1⟩
  · split at h
    · rename_i e
      subst e
      split at h
      · cases h; exact ⟨true, rfl, by simp [cmpOf]⟩
      · cases h; exact ⟨false, rfl, by simp [cmpOf]⟩
      · exact fin _ _ h
    · exact fin _ _ h
theorem intCmp_run {P : Program} {op : BinOp} {x y : Int} {r : Bool} (h : cmpOf op x y = some r) (w : World) : (Op.intCmp op x y).run P w = .ok (.bool r) w := by
  cases op <;> simp only [cmpOf, Option.some.injEq] at h <;> first | (cases h; done) | (subst h; simp only [Op.intCmp, Sem.run_pure]; rfl) | (subst h; simp only [Op.intCmp, Sem.run_pure])

theorem evInt_ok {P : Program} {ρ : Env} {ms : List Nat} {L : Lore} (hL : LoreOk ρ L) {op : BinOp} {k k' : IntKind} {a b : Ex} {s : SV} (h : evInt L op k a k' b = some s) (T : TypeId) (w : World) :
    ∃ v, s.inst ρ ms = some v ∧ (binOp op T (.int k (a.den ρ)) (.int k' (b.den ρ))).run P w = .ok v w := by
  cases op <;> simp only [evInt] at h
  case shl =>
    split at h
    · rename_i n
      split at h
      · cases h
      · rename_i hn
        simp only [Option.some.injEq] at h
        subst h
        exact ⟨_, rfl, by simp [binOp, Op.shift, Ex.den, hn, mkShl_den]⟩
    · cases h
  case shr =>
    split at h
    · rename_i n
      split at h
      · cases h
      · rename_i hn
        simp only [Option.some.injEq] at h
        subst h
        exact ⟨_, rfl, by simp [binOp, Op.shift, Ex.den, hn, mkShr_den]⟩
    · cases h
  case add => split at h <;> cases h; rename_i e; subst e; exact ⟨_, rfl, by simp [binOp, Op.intArith, mkAri_den, ariOf]⟩
  case sub => split at h <;> cases h; rename_i e; subst e; exact ⟨_, rfl, by simp [binOp, Op.intArith, mkAri_den, ariOf]⟩
  case mul => split at h <;> cases h; rename_i e; subst e; exact ⟨_, rfl, by simp [binOp, Op.intArith, mkAri_den, ariOf]⟩
  case and => split at h <;> cases h; rename_i e; subst e; exact ⟨_, rfl, by simp [binOp, Op.intBits, nmOf_den hL, mkBit_den, bitsOf]⟩
  case or => split at h <;> cases h; rename_i e; subst e; exact ⟨_, rfl, by simp [binOp, Op.intBits, nmOf_den hL, mkBit_den, bitsOf]⟩
  case xor => split at h <;> cases h; rename_i e; subst e; exact ⟨_, rfl, by simp [binOp, Op.intBits, nmOf_den hL, mkBit_den, bitsOf]⟩
  case andNot => split at h <;> cases h; rename_i e; subst e; exact ⟨_, rfl, by simp [binOp, Op.intBits, nmOf_den hL, mkBit_den, bitsOf]⟩
  case quo =>
    split at h
    · split at h <;> cases h
      rename_i e
      obtain ⟨rfl, e2⟩ := e
      exact ⟨_, rfl, by simp [binOp, Op.intDiv, Ex.den, e2, nmOf_den hL, mkAri_den, ariOf]⟩
    · split at h <;> cases h
      rename_i e
      obtain ⟨rfl, e2⟩ := e
      have e3 := hL.fact _ _ _ _ e2
      simp only [cmpOf, Ex.den, Option.some.injEq, bne_iff_ne, ne_eq] at e3
      exact ⟨_, rfl, by simp [binOp, Op.intDiv, e3, nmOf_den hL, mkAri_den, ariOf]⟩
  case rem =>
    split at h
    · split at h <;> cases h
      rename_i e
      obtain ⟨rfl, e2⟩ := e
      exact ⟨_, rfl, by simp [binOp, Op.intDiv, Ex.den, e2, nmOf_den hL, mkAri_den, ariOf]⟩
    · split at h <;> cases h
      rename_i e
      obtain ⟨rfl, e2⟩ := e
      have e3 := hL.fact _ _ _ _ e2
      simp only [cmpOf, Ex.den, Option.some.injEq, bne_iff_ne, ne_eq] at e3
      exact ⟨_, rfl, by simp [binOp, Op.intDiv, e3, nmOf_den hL, mkAri_den, ariOf]⟩
  all_goals
    split at h
    · rename_i e
      subst e
      obtain ⟨r, h1, h2⟩ := evCmp_ok (ms := ms) hL h
      refine ⟨_, h1, ?_⟩
      have h3 := intCmp_run (P := P) h2 w
      simpa [binOp] using h3
    · cases h

/-- Fields that each are one cell, one behind the other: how many. -/
def flatF (P : Program) (g : TypeId → Option Nat) : Nat → List Field → Option Nat
  | o, [] => some o
  | o, f :: r => if f.name ≠ "_" ∧ f.offset = o ∧ rowOf P f.type = some (false, 1) ∧ g f.type = some 1 then flatF P g (o + 1) r else none
/-- A type that is integers all through: how many. -/
def flatN (P : Program) : Nat → TypeId → Option Nat
  | 0, _ => none
  | d + 1, T =>
    match P.underlying T with
    | some (.int _) => some 1
    | some (.array n e) =>
      match rowOf P e, flatN P d e with
      | some (_, s), some m => if s = m then some (n * m) else none
      | _, _ => none
    | some (.struct fs) => if P.stoodInHeld T = true then none else flatF P (flatN P d) 0 fs.toList
    | _ => none

theorem forIn_all {P : Program} (w : World) (body : Nat → Option Bool × Unit → Sem (ForInStep (Option Bool × Unit))) (g : Nat → Bool) : ∀ (m k : Nat),
    (∀ i s, k ≤ i → i < k + m → (body i s).run P w = .ok (if g i then .yield (none, ()) else .done (some false, ())) w) →
    (forIn (List.range' k m 1) ((none : Option Bool), ()) body).run P w = .ok (if (List.range' k m 1).all g then (none, ()) else (some false, ())) w
  | 0, k, h => by simp
  | m + 1, k, h => by
    rw [List.range'_succ, List.forIn_cons, Sem.run_bind, h k _ (Nat.le_refl _) (by omega), Result.andThen_ok]
    cases hg : g k with
    | true =>
      rw [if_pos rfl]
      simp only [List.all_cons, hg, Bool.true_and]
      exact forIn_all w body g m (k + 1) (fun i s h1 h2 => h i s (by omega) (by omega))
    | false => simp [hg]

theorem forIn_fields {P : Program} (w : World) (body : Field → Option Bool × Unit → Sem (ForInStep (Option Bool × Unit))) (g : Field → Bool) : ∀ (l : List Field),
    (∀ f ∈ l, ∀ s, (body f s).run P w = .ok (if g f then .yield (none, ()) else .done (some false, ())) w) →
    (forIn l ((none : Option Bool), ()) body).run P w = .ok (if l.all g then (none, ()) else (some false, ())) w
  | [], h => by simp
  | f :: l, h => by
    rw [List.forIn_cons, Sem.run_bind, h f (by simp) _, Result.andThen_ok]
    cases hg : g f with
    | true =>
      rw [if_pos rfl]
      simp only [List.all_cons, hg, Bool.true_and]
      exact forIn_fields w body g l (fun f hf s => h f (by simp [hf]) s)
    | false => simp [hg]
theorem all2_append {α β : Type} (f : α → β → Bool) : ∀ (a : List α) (c : List β), a.length = c.length → ∀ (b : List α) (d : List β), all2 f (a ++ b) (c ++ d) = (all2 f a c && all2 f b d)
  | [], [], _, b, d => by simp [all2]
  | [], _ :: _, h, _, _ => by simp at h
  | _ :: _, [], h, _, _ => by simp at h
  | x :: a, y :: c, h, b, d => by simp [all2, all2_append f a c (by simpa using h) b d, Bool.and_assoc]
theorem all2_mono {α β : Type} {f : α → β → Bool} : ∀ (a : List α) (c : List β) (i : Nat), all2 f a c = true → ∀ x y, a[i]? = some x → c[i]? = some y → f x y = true
  | [], [], i, _, _, _, h, _ => by simp at h
  | x :: a, y :: c, 0, h, _, _, h1, h2 => by simp at h1 h2; subst h1 h2; simp [all2] at h; exact h.1
  | x :: a, y :: c, i + 1, h, _, _, h1, h2 => by simp [all2] at h h1 h2; exact all2_mono a c i h.2 _ _ h1 h2
  | [], _ :: _, _, h, _, _, _, _ => by simp [all2] at h
  | _ :: _, [], _, h, _, _, _, _ => by simp [all2] at h
theorem all2_length {α β : Type} {f : α → β → Bool} : ∀ (a : List α) (c : List β), all2 f a c = true → a.length = c.length
  | [], [], _ => rfl
  | x :: a, y :: c, h => by simp [all2] at h; simp [all2_length a c h.2]
  | [], _ :: _, h => by simp [all2] at h
  | _ :: _, [], h => by simp [all2] at h
theorem all2_sub {α β : Type} {f : α → β → Bool} (a : List α) (c : List β) (h : all2 f a c = true) (o n : Nat) : all2 f ((a.drop o).take n) ((c.drop o).take n) = true := by
  have hl := all2_length a c h
  have e1 : a = a.take o ++ a.drop o := (List.take_append_drop o a).symm
  have e2 : c = c.take o ++ c.drop o := (List.take_append_drop o c).symm
  rw [e1, e2, all2_append f _ _ (by simp [hl])] at h
  simp only [Bool.and_eq_true] at h
  have h2 := h.2
  rw [← List.take_append_drop n (a.drop o), ← List.take_append_drop n (c.drop o), all2_append f _ _ (by simp [hl])] at h2
  simp only [Bool.and_eq_true] at h2
  exact h2.1
/-- A row of n times m, round by round. -/
theorem all2_rounds {α β : Type} (f : α → β → Bool) (m : Nat) : ∀ (n : Nat) (a : List α) (c : List β), a.length = n * m → c.length = n * m →
    all2 f a c = (List.range' 0 n 1).all fun i => all2 f ((a.drop (i * m)).take m) ((c.drop (i * m)).take m)
  | 0, a, c, ha, hc => by
    have : a = [] := List.length_eq_zero_iff.1 (by omega)
    have : c = [] := List.length_eq_zero_iff.1 (by omega)
    subst a c; simp [all2]
  | n + 1, a, c, ha, hc => by
    rw [Nat.succ_mul] at ha hc
    have hm : ∀ i, i < n → i * m + m ≤ n * m := fun i hi => by rw [← Nat.succ_mul]; exact Nat.mul_le_mul_right m hi
    conv => lhs; rw [← List.take_append_drop (n * m) a, ← List.take_append_drop (n * m) c]
    rw [all2_append f _ _ (by simp; omega), all2_rounds f m n _ _ (by simp; omega) (by simp; omega)]
    rw [show List.range' 0 (n + 1) 1 = List.range' 0 n 1 ++ [n] by rw [List.range'_concat]; simp, List.all_append]
    congr 1
    · rw [Bool.eq_iff_iff, List.all_eq_true, List.all_eq_true]
      refine forall_congr' fun i => forall_congr' fun hi => ?_
      have hi2 : i < n := by simpa using hi
      have := hm i hi2
      have q : ∀ {γ : Type} (l : List γ), ((l.take (n * m)).drop (i * m)).take m = (l.drop (i * m)).take m := fun l => by
        rw [List.drop_take, List.take_take, Nat.min_eq_left (by omega)]
      rw [q, q]
    · simp only [List.all_cons, List.all_nil, Bool.and_true]
      rw [List.take_of_length_le (by simp; omega), List.take_of_length_le (by simp; omega)]

theorem flatF_le {P : Program} {g : TypeId → Option Nat} : ∀ (l : List Field) (o m : Nat), flatF P g o l = some m → m = o + l.length
  | [], o, m, h => by simp [flatF] at h; simp [h]
  | f :: r, o, m, h => by
    simp only [flatF] at h
    split at h
    · have := flatF_le r (o + 1) m h; simp; omega
    · cases h
theorem flatF_mem {P : Program} {g : TypeId → Option Nat} : ∀ (l : List Field) (o m : Nat), flatF P g o l = some m → ∀ f ∈ l, f.name ≠ "_" ∧ f.offset < m ∧ rowOf P f.type = some (false, 1) ∧ g f.type = some 1
  | [], o, m, h, f, hf => by simp at hf
  | f :: r, o, m, h, q, hq => by
    simp only [flatF] at h
    split at h
    · rename_i hc
      have hm := flatF_le r (o + 1) m h
      rcases List.mem_cons.1 hq with rfl | hq
      · exact ⟨hc.1, by omega, hc.2.2.1, hc.2.2.2⟩
      · exact flatF_mem r (o + 1) m h q hq
    · cases h
theorem flatF_all {P : Program} {g : TypeId → Option Nat} (e : Value → Value → Bool) (vs us : List Value) : ∀ (l : List Field) (o m : Nat), flatF P g o l = some m → vs.length = m → us.length = m →
    (l.all fun f => all2 e ((vs.drop f.offset).take 1) ((us.drop f.offset).take 1)) = all2 e (vs.drop o) (us.drop o)
  | [], o, m, h, hv, hu => by
    simp [flatF] at h
    subst h
    simp [List.drop_of_length_le (Nat.le_of_eq hv), List.drop_of_length_le (Nat.le_of_eq hu), all2]
  | f :: r, o, m, h, hv, hu => by
    simp only [flatF] at h
    split at h
    · rename_i hc
      have hm := flatF_le r (o + 1) m h
      rw [List.all_cons, flatF_all e vs us r (o + 1) m h hv hu, hc.2.1]
      have q1 : o < vs.length := by omega
      have q2 : o < us.length := by omega
      rw [List.drop_eq_getElem_cons q1, List.drop_eq_getElem_cons q2]
      simp only [all2, List.take_succ_cons, List.take_zero, Bool.and_true]
    · cases h

/-- The value of cells: the one cell, or the row. -/
def valOf (r : Bool) (vs : List Value) : Value := if r then .agg vs.toArray else vs.headD default
theorem part_run {P : Program} {T : TypeId} {r : Bool} {s : Nat} (h : rowOf P T = some (r, s)) (w : World) (vs : List Value) (o : Nat) (hs : r = false → s = 1) (ho : o + s ≤ vs.length) :
    (part T vs.toArray o).run P w = .ok (valOf r ((vs.drop o).take s)) w := by
  obtain ⟨d, i, hu, hi, hd, hsz⟩ := rowOf_ok h
  have hag := isAgg_run hu w
  rw [hd] at hag
  cases r with
  | true =>
    simp only [part, Sem.run_bind, hag, Result.andThen_ok, if_true, sizeOf, typeInfo, Sem.run_pure, valOf]
    simp only [program, Sem.run, hi, Result.andThen_ok, Sem.run_pure, hsz, List.extract_toArray, List.extract_eq_take_drop]
    simp
  | false =>
    have hs1 := hs rfl
    subst hs1
    have ho2 : o < vs.length := by omega
    simp only [part, Sem.run_bind, hag, Result.andThen_ok, valOf]
    simp [List.getElem?_eq_getElem ho2, List.take_one, List.head?_drop]

theorem run_equalIn_flat {P : Program} (w : World) : ∀ (d D : Nat) (T : TypeId) (m : Nat), flatN P d T = some m → d ≤ D → ∀ (r : Bool) (s : Nat), rowOf P T = some (r, s) → ∀ (vs us : List Value), vs.length = m → us.length = m → all2 alike vs us = true →
    (Op.equalIn D T (valOf r vs) (valOf r us)).run P w = .ok (all2 eqv vs us) w
  | 0, _, _, _, h, _, _, _, _, _, _, _, _, _ => by simp [flatN] at h
  | d + 1, 0, _, _, _, h, _, _, _, _, _, _, _, _ => by omega
  | d + 1, D + 1, T, m, h, hD, r, s, hr, vs, us, hv, hu, hal => by
    obtain ⟨ds, i, hun, hi, hd, hsz⟩ := rowOf_ok hr
    simp only [flatN, hun] at h
    split at h
    · -- an integer
      rename_i k hk
      simp only [Option.some.injEq] at hk
      subst hk
      simp only [Option.some.injEq] at h
      subst h
      simp only [TypeDesc.isRow] at hd
      subst hd
      match vs, hv, us, hu, hal with
      | [v], _, [u], _, hal =>
        simp only [all2, Bool.and_true] at hal
        cases v <;> cases u <;> simp only [alike, Bool.false_eq_true, beq_iff_eq] at hal
        subst hal
        simp [valOf, Op.equalIn, run_underlying hun, all2, eqv]
    · -- a row
      rename_i n e hk
      simp only [Option.some.injEq] at hk
      subst hk
      split at h
      case h_2 => cases h
      rename_i re me me2 h1 h2
      split at h
      case isFalse => cases h
      rename_i hse
      subst hse
      simp only [Option.some.injEq] at h
      subst h
      simp only [TypeDesc.isRow] at hd
      subst hd
      obtain ⟨de, ie, hune, hie, hde, hsze⟩ := rowOf_ok h1
      have hs1 : re = false → me = 1 := fun hre => by
        cases d with
        | zero => simp [flatN] at h2
        | succ d =>
          subst hre
          simp only [flatN, hune] at h2
          split at h2
          · simpa using h2.symm
          · rename_i hk; simp only [Option.some.injEq] at hk; subst hk; simp [TypeDesc.isRow] at hde
          · rename_i hk; simp only [Option.some.injEq] at hk; subst hk; simp [TypeDesc.isRow] at hde
          · cases h2
      rw [show valOf true vs = .agg vs.toArray from rfl, show valOf true us = .agg us.toArray from rfl, Op.equalIn]
      have hsizeOf : (sizeOf e).run P w = .ok me w := by simp [sizeOf, typeInfo, hie, hsze]
      simp only [Sem.run_bind, run_underlying hun, Result.andThen_ok, hsizeOf]
      have hm : ∀ i, i < n → i * me + me ≤ n * me := fun i hi => by rw [← Nat.succ_mul]; exact Nat.mul_le_mul_right me hi
      have hr := forIn_all (P := P) w (fun i (_ : Option Bool × Unit) => do
          let a ← part e vs.toArray (i * me)
          let b ← part e us.toArray (i * me)
          let c ← Op.equalIn D e a b
          if (!c) = true then pure (ForInStep.done (some false, ())) else pure (ForInStep.yield (none, ())))
        (fun i => all2 eqv ((vs.drop (i * me)).take me) ((us.drop (i * me)).take me)) n 0 (fun i s _ hi => by
          have hi2 : i < n := by omega
          have hb := hm i hi2
          simp only [Sem.run_bind, part_run h1 w vs (i * me) hs1 (by omega), part_run h1 w us (i * me) hs1 (by omega), Result.andThen_ok]
          rw [run_equalIn_flat w d D e me h2 (by omega) re me h1 _ _ (by simp; omega) (by simp; omega) (all2_sub vs us hal _ _)]
          simp only [Result.andThen_ok]
          cases all2 eqv ((vs.drop (i * me)).take me) ((us.drop (i * me)).take me) <;> simp)
      rw [all2_rounds eqv me n vs us hv hu]
      have ee : (forIn (m := Sem) [:n] ((none : Option Bool), ()) (fun i (_ : Option Bool × Unit) => do
          let a ← part e vs.toArray (i * me)
          let b ← part e us.toArray (i * me)
          let c ← Op.equalIn D e a b
          if (!c) = true then pure (ForInStep.done (some false, ())) else pure (ForInStep.yield (none, ())))) = forIn (List.range' 0 n 1) ((none : Option Bool), ()) (fun i (_ : Option Bool × Unit) => do
          let a ← part e vs.toArray (i * me)
          let b ← part e us.toArray (i * me)
          let c ← Op.equalIn D e a b
          if (!c) = true then pure (ForInStep.done (some false, ())) else pure (ForInStep.yield (none, ()))) := by
        rw [Std.Legacy.Range.forIn_eq_forIn_range']
        simp [Std.Legacy.Range.size]
      rw [← ee] at hr
      refine (congrArg (fun r => Result.andThen r _) hr).trans ?_
      cases ((List.range' 0 n 1).all fun i => all2 eqv ((vs.drop (i * me)).take me) ((us.drop (i * me)).take me)) <;> simp
    · -- a struct
      rename_i fs hk
      simp only [Option.some.injEq] at hk
      subst hk
      split at h
      · cases h
      rename_i hst
      simp only [TypeDesc.isRow] at hd
      subst hd
      have hst' : P.stoodInHeld T = false := by simpa using hst
      rw [show valOf true vs = .agg vs.toArray from rfl, show valOf true us = .agg us.toArray from rfl, Op.equalIn]
      have hpr : (program).run P w = .ok P w := rfl
      simp only [Sem.run_bind, run_underlying hun, Result.andThen_ok, hpr, hst', Bool.false_eq_true, if_false]
      rw [← Array.forIn_toList]
      refine (congrArg (fun r => Result.andThen r _) (forIn_fields w _ (fun f => all2 eqv ((vs.drop f.offset).take 1) ((us.drop f.offset).take 1)) fs.toList fun f hf st => ?_)).trans ?_
      · obtain ⟨q1, q2, q3, q4⟩ := flatF_mem _ _ _ h f hf
        simp only [if_pos q1, Sem.run_bind, part_run q3 w vs f.offset (fun _ => rfl) (by omega), part_run q3 w us f.offset (fun _ => rfl) (by omega), Result.andThen_ok]
        rw [run_equalIn_flat w d D f.type 1 q4 (by omega) false 1 q3 _ _ (by simp; omega) (by simp; omega) (all2_sub vs us hal _ _)]
        simp only [Result.andThen_ok]
        cases all2 eqv ((vs.drop f.offset).take 1) ((us.drop f.offset).take 1) <;> simp
      · rw [flatF_all eqv vs us fs.toList 0 m h hv hu]
        simp only [List.drop_zero]
        cases all2 eqv vs us <;> simp
    · cases h
end Go.Proofs.Ytafdklelfcccbaa.Ev
