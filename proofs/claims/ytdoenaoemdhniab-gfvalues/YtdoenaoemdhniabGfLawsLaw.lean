/- GfLaws: the laws of a field, walked by the evaluator. -/
import Derived.Test.YtdoenaoemdhniabGfAwake
import Derived.Test.YtdoenaoemdhniabGfFun
set_option linter.unusedVariables false
set_option linter.unusedSimpArgs false
namespace Go.Proofs.Ytdoenaoemdhniab
open Go Go.RowKit Ev

set_option maxHeartbeats 1000000 in
theorem add_any (w : World) (a b : Nat) (ha : a < 256) (hb : b < 256) : Calls Try.prog 7 #[.int .u8 (a : Int), .int .u8 (b : Int)] w fun e w' => e = .returned (.int .u8 ((a ^^^ b : Nat) : Int)) ∧ w' = w := by
  have hx := u8_xor_nat a b ha hb
  go_enter Try.func7, Try.ntmps7
  go_wp2
  go_ret
  exact ⟨rfl, rfl⟩
def lwTab (q : Bool) : List (Nat × List AV × AV) := (if q then [
  (9, [B8 0], .tup [e8 (.lit 0), e64 (.lit 60)]),
  (10, [B8 1, B8 0], .tup [e8 (.lit 0), e64 (.lit 60)])] else [
  (9, [B8 0], .tup [e8 (.var 7), e64 (.lit 0)]),
  (10, [B8 1, B8 0], .tup [e8 (.var 8), e64 (.lit 0)]),
  (8, [B8 0, B8 7], E8 (.lit 1)),
  (8, [B8 8, B8 0], B8 1)]) ++ [
  (11, [], .tv (.sc (.bool true))),
  (7, [B8 0, B8 1], B8 9),
  (7, [B8 1, B8 0], B8 9),
  (7, [B8 1, B8 2], B8 10),
  (7, [B8 0, B8 10], B8 11),
  (7, [B8 9, B8 2], B8 11),
  (7, [B8 0, B8 0], E8 (.lit 0)),
  (7, [B8 0, E8 (.lit 0)], B8 0),
  (8, [B8 0, B8 1], B8 3),
  (8, [B8 1, B8 0], B8 3),
  (8, [B8 1, B8 2], B8 4),
  (8, [B8 0, B8 4], B8 5),
  (8, [B8 3, B8 2], B8 5),
  (8, [B8 0, E8 (.lit 1)], B8 0),
  (8, [B8 0, B8 10], B8 12),
  (8, [B8 0, B8 2], B8 6),
  (7, [B8 3, B8 6], B8 12)]
def lwCmp (q r : Bool) : List (BinOp × Ex × Ex × Bool) := [(.eql, .var 0, .lit 0, q), (.eql, .var 1, .lit 0, r), (.eql, .var 3, .lit 0, q || r)]
theorem lw_ev : ([true, false].all fun q => [true, false].all fun r => decide (evCallF Try.prog (tabLore (lwCmp q r)) (tabCon (lwTab q)) 100 3 [B8 0, B8 1, B8 2] [] = some (.tv (.sc (.bool true)), []))) = true := by kernel_rfl
theorem bool_mem (b : Bool) : b ∈ [true, false] := by cases b <;> simp
theorem eq_nat (a : Nat) : ((a : Int) == 0) = decide (a = 0) := by
  by_cases h : a = 0
  · subst h; rfl
  · rw [decide_eq_false h]; simpa using h
theorem laws_walk (w : World) (a b c : Nat) (ha : a < 256) (hb : b < 256) (hc : c < 256) :
    Calls Try.prog 3 #[.int .u8 (a : Int), .int .u8 (b : Int), .int .u8 (c : Int)] w fun e w' => e = .returned (.bool true) ∧ Below w.heap.size w w' := by
  have hev := List.all_eq_true.1 (List.all_eq_true.1 lw_ev (decide (a = 0)) (bool_mem _)) (decide (b = 0)) (bool_mem _)
  rw [decide_eq_true_eq] at hev
  have lab := prod_lt b ha
  have lbc := prod_lt c hb
  have lac := prod_lt c ha
  have li := inv_lt a
  have ld := prod_lt (inv a) hb
  have xab := xor8 ha hb
  have xbc := xor8 hb hc
  refine ret_true (calls_of_evF (tabLore_ok (ρ := envI [(a : Int), (b : Int), (c : Int), ((prod a b : Nat) : Int), ((prod b c : Nat) : Int), ((prod a (prod b c) : Nat) : Int), ((prod a c : Nat) : Int), ((inv a : Nat) : Int), ((prod b (inv a) : Nat) : Int), ((a ^^^ b : Nat) : Int), ((b ^^^ c : Nat) : Int), ((a ^^^ (b ^^^ c) : Nat) : Int), ((prod a (b ^^^ c) : Nat) : Int)]) ?_) (tabCon_ok ?_) mixedOrders 100 hev (args := #[.int .u8 (a : Int), .int .u8 (b : Int), .int .u8 (c : Int)]) w rfl)
  · intro e he
    simp only [lwCmp, List.mem_cons, List.not_mem_nil, or_false] at he
    rcases he with rfl | rfl | rfl
    · show some ((a : Int) == 0) = _
      rw [eq_nat]
    · show some ((b : Int) == 0) = _
      rw [eq_nat]
    · show some (((prod a b : Nat) : Int) == 0) = _
      rw [eq_nat, ← Bool.decide_or]
      simp only [prod_nought a b ha hb]
  · intro e he
    simp only [lwTab] at he
    have A : ∀ (w : World) (x y z : Nat), x < 256 → y < 256 → x ^^^ y = z → Calls Try.prog 7 #[.int .u8 (x : Int), .int .u8 (y : Int)] w fun e w' => e = .returned (.int .u8 (z : Int)) ∧ Below w.heap.size w w' := fun w x y z hx hy hz => by
      rw [← hz]
      exact still (add_any w x y hx hy)
    have P : ∀ (w : World) (x y z : Nat), x < 256 → y < 256 → prod x y = z → Calls Try.prog 8 #[.int .u8 (x : Int), .int .u8 (y : Int)] w fun e w' => e = .returned (.int .u8 (z : Int)) ∧ Below w.heap.size w w' := fun w x y z hx hy hz => by
      rw [← hz]
      exact still (mul_any w x y hx hy)
    have two : ∀ {f : Nat} {x y z : Nat} {ex ey ez : Ex} {ρ : Env}, (∀ w, Calls Try.prog f #[.int .u8 (x : Int), .int .u8 (y : Int)] w fun e w' => e = .returned (.int .u8 (z : Int)) ∧ Below w.heap.size w w') → ex.den ρ = x → ey.den ρ = y → ez.den ρ = z → EntOk ρ (f, [E8 ex, E8 ey], E8 ez) := fun h h1 h2 h3 =>
      ent [.int .u8 _, .int .u8 _] _ (fun ms => by simp only [E8, e8, List.map_cons, List.map_nil, AV.inst, TV.inst, SV.inst, h1, h2]) (fun ms => by simp only [E8, e8, AV.inst, TV.inst, SV.inst, h3]) h
    rw [List.mem_append] at he
    rcases he with he | he
    · by_cases h0 : a = 0
      · rw [decide_eq_true h0, if_pos rfl] at he
        simp only [List.mem_cons, List.not_mem_nil, or_false] at he
        subst h0
        rcases he with rfl | rfl
        · exact ent [.int .u8 0] _ (fun _ => rfl) (fun _ => rfl) fun w => inv_none w
        · exact ent [.int .u8 (b : Int), .int .u8 0] _ (fun _ => rfl) (fun _ => rfl) fun w => div_none w b hb
      · rw [decide_eq_false h0, if_neg (by decide)] at he
        simp only [List.mem_cons, List.not_mem_nil, or_false] at he
        rcases he with rfl | rfl | rfl | rfl
        · exact ent [.int .u8 (a : Int)] _ (fun _ => rfl) (fun _ => rfl) fun w => inv_any w a ha h0
        · exact ent [.int .u8 (b : Int), .int .u8 (a : Int)] _ (fun _ => rfl) (fun _ => rfl) fun w => div_any w b a hb ha h0
        · exact two (fun w => P w a (inv a) 1 ha li (prod_inv a ha h0)) rfl rfl rfl
        · exact two (fun w => P w (prod b (inv a)) a b ld ha (prod_div a b ha hb h0)) rfl rfl rfl
    · simp only [List.mem_cons, List.not_mem_nil, or_false] at he
      rcases he with rfl | rfl | rfl | rfl | rfl | rfl | rfl | rfl | rfl | rfl | rfl | rfl | rfl | rfl | rfl | rfl | rfl
      · exact ent [] _ (fun _ => rfl) (fun _ => rfl) fun w => awake_any w
      · exact two (fun w => A w a b (a ^^^ b) ha hb rfl) rfl rfl rfl
      · exact two (fun w => A w b a (a ^^^ b) hb ha (Nat.xor_comm _ _)) rfl rfl rfl
      · exact two (fun w => A w b c (b ^^^ c) hb hc rfl) rfl rfl rfl
      · exact two (fun w => A w a (b ^^^ c) (a ^^^ (b ^^^ c)) ha xbc rfl) rfl rfl rfl
      · exact two (fun w => A w (a ^^^ b) c (a ^^^ (b ^^^ c)) xab hc (Nat.xor_assoc _ _ _)) rfl rfl rfl
      · exact two (fun w => A w a a 0 ha ha (Nat.xor_self _)) rfl rfl rfl
      · exact two (fun w => A w a 0 a ha (by decide) (Nat.xor_zero _)) rfl rfl rfl
      · exact two (fun w => P w a b (prod a b) ha hb rfl) rfl rfl rfl
      · exact two (fun w => P w b a (prod a b) hb ha (prod_comm b a hb ha)) rfl rfl rfl
      · exact two (fun w => P w b c (prod b c) hb hc rfl) rfl rfl rfl
      · exact two (fun w => P w a (prod b c) (prod a (prod b c)) ha lbc rfl) rfl rfl rfl
      · exact two (fun w => P w (prod a b) c (prod a (prod b c)) lab hc (prod_assoc a b c ha hb hc).symm) rfl rfl rfl
      · exact two (fun w => P w a 1 a ha (by decide) (prod_one a ha)) rfl rfl rfl
      · exact two (fun w => P w a (b ^^^ c) (prod a (b ^^^ c)) ha xbc rfl) rfl rfl rfl
      · exact two (fun w => P w a c (prod a c) ha hc rfl) rfl rfl rfl
      · exact two (fun w => A w (prod a b) (prod a c) (prod a (b ^^^ c)) lab lac (prod_right a b c).symm) rfl rfl rfl
end Go.Proofs.Ytdoenaoemdhniab
