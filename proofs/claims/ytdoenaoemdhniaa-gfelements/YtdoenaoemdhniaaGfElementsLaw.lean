/- GfElements: the law, walked by the evaluator. -/
import Derived.Test.YtdoenaoemdhniaaGfEnv
import Derived.Test.YtdoenaoemdhniaaGfRef
set_option linter.unusedVariables false
set_option linter.unusedSimpArgs false
namespace Go.Proofs.Ytdoenaoemdhniaa
open Go Go.RowKit Ev

def elTab : List (Nat × List AV × AV) := [
  (15, [B8 0, B8 1], B8 2),
  (14, [B8 0, B8 1], B8 2),
  (17, [B8 0], .tup [e8 (.var 3), e64 (.var 4)]),
  (19, [B8 0], .tup [e8 (.var 3), e64 (.var 4)]),
  (18, [B8 0, B8 1], .tup [e8 (.var 5), e64 (.var 6)]),
  (20, [B8 0, B8 1], .tup [e8 (.var 5), e64 (.var 6)])]
def elCmp (q : Bool) : List (BinOp × Ex × Ex × Bool) := [(.eql, .var 4, .lit 0, !q), (.neq, .var 0, .lit 0, !q)]
theorem el_ev : ([true, false].all fun q => decide (evCallF Try.prog (tabLore (elCmp q)) (tabCon elTab) 100 3 [B8 0, B8 1] [] = some (.tv (.sc (.bool true)), []))) = true := by kernel_rfl
/-- What Inv answers, and Div. -/
def invV (a : Nat) : Nat × Int := if a = 0 then (0, 60) else (inv a, 0)
def divV (b a : Nat) : Nat × Int := if a = 0 then (0, 60) else (prod b (inv a), 0)
theorem inv_v (w : World) (a : Nat) (ha : a < 256) : Calls Try.prog 17 #[.int .u8 (a : Int)] w fun e w' => e = .returned (.tuple #[.int .u8 (((invV a).1 : Nat) : Int), .int .i64 (invV a).2]) ∧ Below w.heap.size w w' := by
  unfold invV
  split
  · rename_i h; subst h; exact inv_none w
  · rename_i h; exact inv_any w a ha h
theorem rinv_v (w : World) (a : Nat) (ha : a < 256) : Calls Try.prog 19 #[.int .u8 (a : Int)] w fun e w' => e = .returned (.tuple #[.int .u8 (((invV a).1 : Nat) : Int), .int .i64 (invV a).2]) ∧ Below w.heap.size w w' := by
  unfold invV
  split
  · rename_i h; subst h; exact still (rinv_none w)
  · rename_i h; exact still (rinv_any w a ha h)
theorem div_v (w : World) (b a : Nat) (hb : b < 256) (ha : a < 256) : Calls Try.prog 18 #[.int .u8 (b : Int), .int .u8 (a : Int)] w fun e w' => e = .returned (.tuple #[.int .u8 (((divV b a).1 : Nat) : Int), .int .i64 (divV b a).2]) ∧ Below w.heap.size w w' := by
  unfold divV
  split
  · rename_i h; subst h; exact div_none w b hb
  · rename_i h; exact div_any w b a hb ha h
theorem rdiv_v (w : World) (b a : Nat) (hb : b < 256) (ha : a < 256) : Calls Try.prog 20 #[.int .u8 (b : Int), .int .u8 (a : Int)] w fun e w' => e = .returned (.tuple #[.int .u8 (((divV b a).1 : Nat) : Int), .int .i64 (divV b a).2]) ∧ Below w.heap.size w w' := by
  unfold divV
  split
  · rename_i h; subst h; exact still (rdiv_none w b hb)
  · rename_i h; exact still (rdiv_any w b a hb ha h)
theorem elements_walk (w : World) (a b : Nat) (ha : a < 256) (hb : b < 256) :
    Calls Try.prog 3 #[.int .u8 (a : Int), .int .u8 (b : Int)] w fun e w' => e = .returned (.bool true) ∧ Below w.heap.size w w' := by
  have hev := List.all_eq_true.1 el_ev (decide (a = 0)) (by cases decide (a = 0) <;> simp)
  rw [decide_eq_true_eq] at hev
  have h4 : (decide (a = 0) = true ∧ (invV a).2 = 60 ∧ a = 0) ∨ (decide (a = 0) = false ∧ (invV a).2 = 0 ∧ a ≠ 0) := by
    unfold invV
    by_cases h : a = 0
    · left; simp [h]
    · right; simp [h]
  refine ret_true (calls_of_evF (tabLore_ok (ρ := envI [(a : Int), (b : Int), ((prod a b : Nat) : Int), (((invV a).1 : Nat) : Int), (invV a).2, (((divV a b).1 : Nat) : Int), (divV a b).2]) ?_) (tabCon_ok ?_) mixedOrders 100 hev (args := #[.int .u8 (a : Int), .int .u8 (b : Int)]) w rfl)
  · intro e he
    simp only [elCmp, List.mem_cons, List.not_mem_nil, or_false] at he
    rcases he with rfl | rfl
    · show some ((invV a).2 == 0) = _
      rcases h4 with ⟨q1, q2, q3⟩ | ⟨q1, q2, q3⟩ <;> rw [q1, q2] <;> rfl
    · show some ((a : Int) != 0) = _
      rcases h4 with ⟨q1, q2, q3⟩ | ⟨q1, q2, q3⟩ <;> rw [q1]
      · rw [q3]; rfl
      · simp; omega
  · intro e he
    simp only [elTab, List.mem_cons, List.not_mem_nil, or_false] at he
    rcases he with rfl | rfl | rfl | rfl | rfl | rfl
    · exact ent [.int .u8 (a : Int), .int .u8 (b : Int)] _ (fun _ => rfl) (fun _ => rfl) fun w => still (mul_any w a b ha hb)
    · exact ent [.int .u8 (a : Int), .int .u8 (b : Int)] _ (fun _ => rfl) (fun _ => rfl) fun w => still (rmul_any w a b ha hb)
    · exact ent [.int .u8 (a : Int)] _ (fun _ => rfl) (fun _ => rfl) fun w => inv_v w a ha
    · exact ent [.int .u8 (a : Int)] _ (fun _ => rfl) (fun _ => rfl) fun w => rinv_v w a ha
    · exact ent [.int .u8 (a : Int), .int .u8 (b : Int)] _ (fun _ => rfl) (fun _ => rfl) fun w => div_v w a b ha hb
    · exact ent [.int .u8 (a : Int), .int .u8 (b : Int)] _ (fun _ => rfl) (fun _ => rfl) fun w => rdiv_v w a b ha hb
end Go.Proofs.Ytdoenaoemdhniaa
