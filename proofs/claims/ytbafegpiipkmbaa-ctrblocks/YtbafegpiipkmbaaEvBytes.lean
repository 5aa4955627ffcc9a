/- The evaluator on bytes: what an answer of symbols is when the bytes are told. -/
import Derived.Test.YtbafegpiipkmbaaAesSub
import Derived.Test.YtbafegpiipkmbaaEvRun
namespace Go.Proofs.Ytbafegpiipkmbaa
open Go Go.RowKit Ev

/-- The functions of bytes that have names. -/
def nfn (f a b : Nat) : Nat :=
  match f with
  | 0 => prod a b
  | 1 => sub a
  | 2 => unsub a
  | _ => inv a
theorem nfn_lt (f a b : Nat) (ha : a < 256) : nfn f a b < 256 := by
  unfold nfn
  split
  · exact prod_lt b ha
  · exact sub_lt a
  · exact unsub_lt a
  · exact inv_lt a
/-- What is given: the bytes s. -/
def envB (s : Nat → Nat) : Env := ⟨fun i => ((s i : Nat) : Int), fun _ => .tuple #[], fun f a b => ((nfn f a.toNat b.toNat : Nat) : Int)⟩
/-- The symbol, reckoned. -/
def nden (s : Nat → Nat) : Ex → Nat
  | .lit n => n.toNat
  | .var i => s i
  | .bit .xor _ a b => nden s a ^^^ nden s b
  | .bit .or _ a b => nden s a ||| nden s b
  | .bit _ _ a b => nden s a &&& nden s b
  | .ari .mul _ a b => nden s a * nden s b % 256
  | .ari _ _ a b => (nden s a + nden s b) % 256
  | .shl _ a n => nden s a * 2 ^ n % 256
  | .shr a n => nden s a / 2 ^ n
  | .con _ a => nden s a % 256
  | .app f a b => nfn f (nden s a) (nden s b)
/-- A symbol of bytes all through. -/
def okB : Ex → Bool
  | .lit n => decide (0 ≤ n ∧ n < 256)
  | .var _ => true
  | .bit .xor k a b => decide (k = .u8) && okB a && okB b
  | .bit .or k a b => decide (k = .u8) && okB a && okB b
  | .bit .and k a b => decide (k = .u8) && okB a && okB b
  | .bit _ _ _ _ => false
  | .ari .mul k a b => decide (k = .u8) && okB a && okB b
  | .ari .add k a b => decide (k = .u8) && okB a && okB b
  | .ari _ _ _ _ => false
  | .shl k a _ => decide (k = .u8) && okB a
  | .shr a _ => okB a
  | .con k a => decide (k = .u8) && okB a
  | .app _ a b => okB a && okB b
theorem wrap8 (n : Nat) : IntKind.u8.wrap (n : Int) = ((n % 256 : Nat) : Int) := by rw [IntKind.wrap_u8]; rfl
theorem bits8 (op : BinOp) (a b : Nat) : bitsOf op .u8 (a : Int) (b : Int) = bits op .u8 (a : Int) (b : Int) := by
  cases op <;> rfl
theorem nden_ok {s : Nat → Nat} (hs : ∀ i, s i < 256) : ∀ e : Ex, okB e = true → e.den (envB s) = ((nden s e : Nat) : Int) ∧ nden s e < 256
  | .lit n, h => by
    simp only [okB, decide_eq_true_eq] at h
    simp only [Ex.den, nden]
    omega
  | .var i, _ => ⟨rfl, hs i⟩
  | .bit op k a b, h => by
    have key : (op = .xor ∨ op = .or ∨ op = .and) ∧ k = .u8 ∧ okB a = true ∧ okB b = true := by
      cases op <;> simp [okB] at h <;> simp [h]
    obtain ⟨hop, rfl, h1, h2⟩ := key
    obtain ⟨e1, l1⟩ := nden_ok hs a h1
    obtain ⟨e2, l2⟩ := nden_ok hs b h2
    simp only [Ex.den, e1, e2, bits8]
    rcases hop with rfl | rfl | rfl
    · exact ⟨u8_xor_nat _ _ l1 l2, xor8 l1 l2⟩
    · exact ⟨u8_or_nat _ _ l1 l2, or8 l1 l2⟩
    · exact ⟨u8_and_nat _ _ l1 l2, Nat.lt_of_le_of_lt Nat.and_le_left l1⟩
  | .ari op k a b, h => by
    have key : (op = .mul ∨ op = .add) ∧ k = .u8 ∧ okB a = true ∧ okB b = true := by
      cases op <;> simp [okB] at h <;> simp [h]
    obtain ⟨hop, rfl, h1, h2⟩ := key
    obtain ⟨e1, l1⟩ := nden_ok hs a h1
    obtain ⟨e2, l2⟩ := nden_ok hs b h2
    simp only [Ex.den, e1, e2]
    rcases hop with rfl | rfl
    · refine ⟨?_, Nat.mod_lt _ (by decide)⟩
      show IntKind.u8.wrap _ = _
      rw [← Int.natCast_mul, wrap8]; rfl
    · refine ⟨?_, Nat.mod_lt _ (by decide)⟩
      show IntKind.u8.wrap _ = _
      rw [← Int.natCast_add, wrap8]; rfl
  | .shl k a n, h => by
    simp only [okB, Bool.and_eq_true, decide_eq_true_eq] at h
    obtain ⟨rfl, h1⟩ := h
    obtain ⟨e1, l1⟩ := nden_ok hs a h1
    refine ⟨?_, Nat.mod_lt _ (by decide)⟩
    simp only [Ex.den, e1]
    rw [show ((nden s a : Nat) : Int) * 2 ^ n = ((nden s a * 2 ^ n : Nat) : Int) by simp, wrap8]; rfl
  | .shr a n, h => by
    obtain ⟨e1, l1⟩ := nden_ok hs a h
    refine ⟨?_, Nat.lt_of_le_of_lt (Nat.div_le_self _ _) l1⟩
    simp only [Ex.den, e1, nden]
    rw [show (2 : Int) ^ n = ((2 ^ n : Nat) : Int) by simp, Int.ofNat_fdiv]
  | .con k a, h => by
    simp only [okB, Bool.and_eq_true, decide_eq_true_eq] at h
    obtain ⟨rfl, h1⟩ := h
    obtain ⟨e1, l1⟩ := nden_ok hs a h1
    refine ⟨?_, Nat.mod_lt _ (by decide)⟩
    simp only [Ex.den, e1, wrap8]; rfl
  | .app f a b, h => by
    simp only [okB, Bool.and_eq_true] at h
    obtain ⟨e1, l1⟩ := nden_ok hs a h.1
    obtain ⟨e2, l2⟩ := nden_ok hs b h.2
    refine ⟨?_, nfn_lt _ _ _ l1⟩
    simp only [Ex.den, e1, e2, nden]
    simp [envB]

/-- Bytes that are told. -/
def lits (l : List Nat) : List SV := l.map fun x : Nat => .int .u8 (.lit (x : Int))
/-- Bytes o to o + n - 1 of what is given. -/
def vars (o n : Nat) : List SV := (List.range n).map fun i => .int .u8 (.var (o + i))
def bytesE (l : List Ex) : List SV := l.map (.int .u8)
theorem lits_inst (ρ : Env) (ms : List Nat) (l : List Nat) : (TV.agg (lits l)).inst ρ ms = some (.agg (cells8 l)) := by
  simp only [TV.inst]
  rw [(seqO_iff _ (l.map fun x : Nat => Value.int .u8 (x : Int))).2 (by simp [lits, SV.inst, Ex.den])]
  rfl
theorem bytesE_inst {s : Nat → Nat} (hs : ∀ i, s i < 256) (ms : List Nat) {l : List Ex} (hl : l.all okB = true) : (TV.agg (bytesE l)).inst (envB s) ms = some (.agg (cells8 (l.map (nden s)))) := by
  simp only [TV.inst]
  rw [(seqO_iff _ ((l.map (nden s)).map fun x : Nat => Value.int .u8 (x : Int))).2 ?_]
  · rfl
  · simp only [bytesE, List.map_map]
    refine List.map_congr_left fun e he => ?_
    simp only [Function.comp, SV.inst, (nden_ok hs e (List.all_eq_true.1 hl e he)).1]
theorem vars_inst {s : Nat → Nat} (hs : ∀ i, s i < 256) (ms : List Nat) (o n : Nat) (t : List Nat) (ht : t.length = n) (h : ∀ i, i < n → s (o + i) = t.getD i 0) : (TV.agg (vars o n)).inst (envB s) ms = some (.agg (cells8 t)) := by
  have e : vars o n = bytesE ((List.range n).map fun i => .var (o + i)) := by simp [vars, bytesE]
  rw [e, bytesE_inst hs ms (by simp [okB])]
  congr 3
  rw [List.map_map]
  refine List.ext_getElem (by simp [ht]) fun i h1 h2 => ?_
  have hi : i < n := by simpa using h1
  simp only [List.getElem_map, List.getElem_range, Function.comp, nden]
  rw [h i hi]
  simp [List.getD, List.getElem?_eq_getElem h2]
/-- The bytes of a list, by their places. -/
def at8 (s : List Nat) : Nat → Nat := fun i => s.getD i 0
theorem byt_get {s : List Nat} (h : Byt s) : ∀ i, at8 s i < 256 := h.get
end Go.Proofs.Ytbafegpiipkmbaa
