/- CtrBlocks, by the evaluator: m rounds, left or ended. -/
import Derived.Test.YtbafegpiipkmbaaCtrKnownLaw
import Derived.Test.YtbafegpiipkmbaaAesDecRef
import Derived.Test.YtbafegpiipkmbaaCtrBlk
set_option linter.unusedVariables false
set_option linter.unusedSimpArgs false
namespace Go.Proofs.Ytbafegpiipkmbaa
open Go Go.RowKit Ev

/-- The number from + j, as the code reckons it; and back. -/
def eN : Nat → Ex
  | 0 => .var 900
  | j + 1 => .ari .add .u64 (eN j) (.lit 1)
def eIx : Ex → Option Nat
  | .var i => if i = 900 then some 0 else none
  | .ari op k e r => if op = .add ∧ k = .u64 ∧ r = .lit 1 then (eIx e).map (· + 1) else none
  | _ => none
def tabC : List (Nat × List AV × AV) :=
  [(9, [.tv (.sc (.int .i64 (.var 902))), N64 20], .tv (.sc (.int .i64 (.var 901)))), (39, [V 0 16], V 16 176)] ++
  (List.range 20).flatMap fun j => [(32, [.tv (.sc (.int .u64 (eN j)))], V (200 + 32 * j) 16), (41, [V 16 176, V (200 + 32 * j) 16, N64 10], V (216 + 32 * j) 16),
    (11, [V 0 16, .tv (.sc (.int .u64 (eN j)))], V (216 + 32 * j) 16)]
/-- What is known: is from + m - 1 the greatest number; is m one more than what was picked. -/
def factC (m : Nat) (mx brk : Bool) : BinOp → Ex → Ex → Option Bool := fun op a b =>
  match op with
  | .eql => if b = .lit 18446744073709551615 then (eIx a).bind fun j => if j < m then some (decide (j + 1 = m) && mx) else none else none
  | .gtr => if b = .var 901 then (match a with | .lit (.ofNat k) => if k ≤ m then some (decide (k = m) && brk) else none | _ => none) else none
  | .leq => if b = .var 901 then (match a with | .lit (.ofNat k) => if k = m then some (!brk) else none | _ => none) else none
  | _ => none
def cbFact : List (List SV × List SV × Bool) := [(vars 16 176, lits (zeros8 176), false)]
def loreC (m : Nat) (mx brk : Bool) : Lore := ⟨factC m mx brk, id, tabFact cbFact⟩
noncomputable def evCb (m : Nat) (mx brk : Bool) : Option (AV × List Blk) :=
  evCallR Try.prog (loreC m mx brk) (callStep Try.prog (tabCon tabC)) 1000 1000 3 [V 0 16, .tv (.sc (.int .u64 (.var 900))), .tv (.sc (.int .i64 (.var 902)))] []

theorem rcounter_ev : (evCallF Try.prog noLore noCon 100 34 [.tv (.sc (.int .u64 (.var 0)))] []).map (·.1) = some (.tv (.agg ctrE)) := by kernel_rfl
theorem ctrE_inst (n : Nat) (ms : List Nat) : (AV.tv (.agg ctrE)).inst ⟨fun _ => (n : Int), fun _ => .tuple #[], fun _ _ _ => 0⟩ ms = some (.agg (cells8 (ctrL n))) := by
  have hk : ∀ k : Nat, IntKind.u8.wrap (Int.fdiv (n : Int) (2 ^ k)) = ((n / 2 ^ k % 256 : Nat) : Int) := fun k => by
    rw [IntKind.wrap_u8', Int.fdiv_eq_ediv_of_nonneg _ (by exact_mod_cast Nat.zero_le _)]
    have : ((2 : Int) ^ k) = ((2 ^ k : Nat) : Int) := by simp
    rw [this]
    omega
  have h0 : IntKind.u8.wrap (n : Int) = ((n % 256 : Nat) : Int) := by rw [IntKind.wrap_u8']; omega
  simp only [AV.inst, TV.inst, ctrE, List.replicate, List.map_cons, List.map_nil, List.cons_append, List.nil_append, SV.inst, Ex.den, hk, h0, seqO, Option.map_some]
  rfl
theorem some_fst {v : AV} {r : Option (AV × List Blk)} (h : r.map (·.1) = some v) : ∃ H, r = some (v, H) := by
  cases r with
  | none => cases h
  | some p => simp only [Option.map_some, Option.some.injEq] at h; exact ⟨p.2, by rw [← h]⟩
theorem rcounter_any (w : World) (n : Nat) : Calls Try.prog 34 #[.int .u64 (n : Int)] w fun e w' => e = .returned (.agg (cells8 (ctrL n))) ∧ Below w.heap.size w w' := by
  obtain ⟨H, h⟩ := some_fst rcounter_ev
  refine (calls_of_evF (noLore_ok ⟨fun _ => (n : Int), fun _ => .tuple #[], fun _ _ _ => 0⟩) (noCon_ok _ _) mixedOrders 100 h (args := #[.int .u64 (n : Int)]) w ?_).mono ?_
  · simp only [List.map_cons, List.map_nil, AV.inst, TV.inst, SV.inst, Ex.den]
  · rintro e w' ⟨ms, u, rfl, h1, h2, h3⟩
    rw [ctrE_inst] at h1
    exact ⟨by rw [Option.some.inj h1], h3⟩
def tabR : List (Nat × List AV × AV) := [(34, [.tv (.sc (.int .u64 (.var 500)))], V 16 16), (33, [V 0 16, V 16 16], V 32 16)]
theorem rblock_ev : (evCallF Try.prog noLore (tabCon tabR) 100 11 [V 0 16, .tv (.sc (.int .u64 (.var 500)))] []).map (·.1) = some (V 32 16) := by kernel_rfl
theorem rblock_any (w : World) (k : List Nat) (n : Nat) (hk : Byt k) (hl : k.length = 16) : Calls Try.prog 11 #[.agg (cells8 k), .int .u64 (n : Int)] w fun e w' => e = .returned (.agg (cells8 (ksL k n))) ∧ Below w.heap.size w w' := by
  obtain ⟨H, h⟩ := some_fst rblock_ev
  let f : Nat → Nat := fun i => if i < 16 then at8 k i else if i < 32 then at8 (ctrL n) (i - 16) else at8 (ksL k n) (i - 32)
  have n1 : named f 0 16 = k := at8_vars hl fun i hi => by simp only [f]; rw [if_pos (by omega), Nat.zero_add]
  have n2 : named f 16 16 = ctrL n := at8_vars (ctrL_length n) fun i hi => by simp only [f]; rw [if_neg (by omega), if_pos (by omega), Nat.add_sub_cancel_left]
  have n3 : named f 32 16 = ksL k n := at8_vars (ksL_ok hl hk n).1 fun i hi => by simp only [f]; rw [if_neg (by omega), if_neg (by omega), Nat.add_sub_cancel_left]
  have e1 : ∀ ms, (AV.tv (.sc (.int .u64 (.var 500)))).inst (envC f (n : Int)) ms = some (.int .u64 (n : Int)) := fun ms => rfl
  have hcon : ConOk Try.prog (envC f (n : Int)) (tabCon tabR) := by
    refine tabCon_ok ?_
    intro e he
    simp only [tabR, List.mem_cons, List.not_mem_nil, or_false] at he
    rcases he with rfl | rfl
    · intro ms W args ha
      have ea : args = #[.int .u64 (n : Int)] := by
        obtain ⟨l⟩ := args
        have hl1 : l.length = 1 := by have := congrArg List.length ha; simpa using this.symm
        match l, hl1, ha with
        | [u], _, ha =>
          simp only [List.map_cons, List.map_nil, List.cons.injEq, and_true, e1, Option.some.injEq] at ha
          subst ha
          rfl
      subst ea
      exact (rcounter_any W n).mono fun e w' ⟨q1, q2⟩ => ⟨_, q1, by rw [VC _ _ 16 16 (by decide), n2], q2⟩
    · intro ms W args ha
      have ea : args = #[.agg (cells8 k), .agg (cells8 (ctrL n))] := by
        obtain ⟨l⟩ := args
        have hl1 : l.length = 2 := by have := congrArg List.length ha; simpa using this.symm
        match l, hl1, ha with
        | [u, u'], _, ha =>
          simp only [List.map_cons, List.map_nil, List.cons.injEq, and_true, VC _ _ 0 16 (by decide), VC _ _ 16 16 (by decide), n1, n2, Option.some.injEq] at ha
          obtain ⟨rfl, rfl⟩ := ha
          rfl
      subst ea
      exact (rencrypt_any W k (ctrL n) hk hl (ctrL_byt n) (ctrL_length n)).mono fun e w' ⟨q1, q2⟩ => ⟨_, q1, by rw [VC _ _ 32 16 (by decide), n3]; rfl, q2⟩
  refine (calls_of_evF (noLore_ok (envC f (n : Int))) hcon mixedOrders 100 h (args := #[.agg (cells8 k), .int .u64 (n : Int)]) w ?_).mono ?_
  · simp only [List.map_cons, List.map_nil, VC _ _ 0 16 (by decide), n1, e1]
  · rintro e w' ⟨ms, u, rfl, h1, h2, h3⟩
    rw [VC _ _ 32 16 (by decide), n3] at h1
    exact ⟨by rw [Option.some.inj h1], h3⟩
end Go.Proofs.Ytbafegpiipkmbaa
