/- AesRounds, walked by the evaluator. -/
import Derived.Test.YtefbicnaopcbhaaAesRoundsRef
import Derived.Test.YtefbicnaopcbhaaEvRows
set_option linter.unusedVariables false
namespace Go.Proofs.Ytefbicnaopcbhaa
open Go Go.RowKit Ev

def R0 : AV := V 176 16
def R1 : AV := V 192 16
def roundsTab (r : Nat) : List (Nat × List AV × AV) := [(33, [V 0 16], V 0 176), (59, [V 0 176, R0, N64 (r : Int)], R1), (37, [V 0 16, R0, N64 (r : Int)], R1)]
theorem rounds_ev : (List.range 11).all (fun r => decide (evCallF Try.prog noLore (tabCon (roundsTab r)) 100 6 [V 0 16, R0, N64 (r : Int)] [] = some (.tv (.sc (.bool true)), []))) = true := by kernel_rfl
theorem rounds_good (w : World) (k b : List Nat) (hl : k.length = 16) (hk : Byt k) (hbl : b.length = 16) (hb : Byt b) (r : Nat) (hr : r ≤ 10) : Calls Try.prog 6 #[.agg (cells8 k), .agg (cells8 b), .int .i64 (r : Int)] w fun e w' => e = .returned (.bool true) ∧ Below w.heap.size w w' := by
  obtain ⟨s1, s2, s3⟩ := schedL_ok hl hk
  have hf := runSt_ok s2 (forthSt r) b hbl hb
  have hev := List.all_eq_true.1 rounds_ev r (List.mem_range.2 (by omega))
  rw [decide_eq_true_eq] at hev
  have hlt : ∀ i, rowsEnv (schedL k) [b, forthL (schedL k) b r] i < 256 := rowsEnv_lt s2 (fun x hx => by
    simp only [List.mem_cons, List.not_mem_nil, or_false] at hx
    rcases hx with rfl | rfl
    · exact hb
    · exact hf.2)
  have m0 : named (rowsEnv (schedL k) [b, forthL (schedL k) b r]) 176 16 = b := named_row 0 rfl hbl
  have m1 : named (rowsEnv (schedL k) [b, forthL (schedL k) b r]) 192 16 = forthL (schedL k) b r := named_row 1 rfl hf.1
  have n1 : named (rowsEnv (schedL k) [b, forthL (schedL k) b r]) 0 16 = k := by
    refine Eq.trans (List.map_congr_left fun i hi => ?_) (sched_named hl hk).1
    have hi2 : i < 16 := by simpa using hi
    rw [Nat.zero_add, named_low (by omega), ← s3 i (by omega)]
  have n2 : named (rowsEnv (schedL k) [b, forthL (schedL k) b r]) 0 176 = schedL k := named_keys s1
  refine ret_true (calls_of_evF (noLore_ok (envB (rowsEnv (schedL k) [b, forthL (schedL k) b r]))) (tabCon_ok ?_) mixedOrders 100 hev (args := #[.agg (cells8 k), .agg (cells8 b), .int .i64 (r : Int)]) w ?_)
  · intro e he
    simp only [roundsTab, List.mem_cons, List.not_mem_nil, or_false] at he
    rcases he with rfl | rfl | rfl
    · exact ent1 hlt fun w => by rw [n1, n2]; exact sched_any w k hk hl
    · exact ent3 hlt fun w => by rw [n2, m0, m1]; exact forth_any w (schedL k) b s2 s1 hb hbl r hr
    · exact ent3 hlt fun w => by rw [n1, m0, m1]; exact rbehind_any w k b hk hl hb hbl r hr
  · have e3 : (N64 (r : Int)).inst (envB (rowsEnv (schedL k) [b, forthL (schedL k) b r])) [] = some (.int .i64 (r : Int)) := rfl
    simp only [List.map_cons, List.map_nil, R0, V_inst hlt, n1, m0, e3]

/- A number of rounds that there is not. -/
def envN (f : Nat → Nat) (n : Int) : Env := ⟨fun i => if i = 1000 then n else ((f i : Nat) : Int), fun _ => .tuple #[], fun _ _ _ => 0⟩
theorem varsN (f : Nat → Nat) (n : Int) (ms : List Nat) (o m : Nat) (hm : o + m ≤ 1000) : (V o m).inst (envN f n) ms = some (.agg (cells8 (named f o m))) := by
  simp only [V, AV.inst, TV.inst]
  rw [(seqO_iff _ ((named f o m).map fun x : Nat => Value.int .u8 (x : Int))).2 ?_]
  · rfl
  · simp only [vars, named, List.map_map]
    refine List.map_congr_left fun i hi => ?_
    have hi2 : i < m := by simpa using hi
    simp only [Function.comp, SV.inst, Ex.den, envN]
    rw [if_neg (by omega)]
def awakeTab : List (Nat × List AV × AV) := [(36, [], .tv (.sc (.bool true)))]
def VN : AV := .tv (.sc (.int .i64 (.var 1000)))
def low1 : List (BinOp × Ex × Ex × Bool) := [(.lss, .var 1000, .lit 0, true)]
def low2 : List (BinOp × Ex × Ex × Bool) := [(.lss, .var 1000, .lit 0, false), (.gtr, .var 1000, .lit 10, true)]
theorem bad1_ev : evCallF Try.prog (tabLore low1 []) (tabCon awakeTab) 100 6 [V 0 16, V 16 16, VN] [] = some (.tv (.sc (.bool true)), []) := by kernel_rfl
theorem bad2_ev : evCallF Try.prog (tabLore low2 []) (tabCon awakeTab) 100 6 [V 0 16, V 16 16, VN] [] = some (.tv (.sc (.bool true)), []) := by kernel_rfl
theorem rounds_bad (w : World) (k b : List Nat) (hl : k.length = 16) (hbl : b.length = 16) (n : Int) (hn : n < 0 ∨ 10 < n) : Calls Try.prog 6 #[.agg (cells8 k), .agg (cells8 b), .int .i64 n] w fun e w' => e = .returned (.bool true) ∧ Below w.heap.size w w' := by
  have hk : named (at8 (k ++ b)) 0 16 = k := by
    refine List.ext_getElem (by rw [named_length, hl]) fun i h1 h2 => ?_
    have hi : i < 16 := by simpa [named_length] using h1
    simp only [named, List.getElem_map, List.getElem_range, Nat.zero_add, at8, List.getD]
    rw [List.getElem?_append_left (by omega), List.getElem?_eq_getElem h2]
    rfl
  have hb : named (at8 (k ++ b)) 16 16 = b := by
    refine List.ext_getElem (by rw [named_length, hbl]) fun i h1 h2 => ?_
    simp only [named, List.getElem_map, List.getElem_range, at8, List.getD]
    rw [List.getElem?_append_right (by omega), hl, Nat.add_sub_cancel_left, List.getElem?_eq_getElem h2]
    rfl
  have ha : [V 0 16, V 16 16, VN].map (AV.inst (envN (at8 (k ++ b)) n) []) = (#[.agg (cells8 k), .agg (cells8 b), .int .i64 n] : Array Value).toList.map some := by
    have e3 : VN.inst (envN (at8 (k ++ b)) n) [] = some (.int .i64 n) := rfl
    simp only [List.map_cons, List.map_nil, varsN _ n [] 0 16 (by decide), varsN _ n [] 16 16 (by decide), hk, hb, e3]
  have hcon : ConOk Try.prog (envN (at8 (k ++ b)) n) (tabCon awakeTab) := tabCon_ok fun e he => by
    simp only [awakeTab, List.mem_cons, List.not_mem_nil, or_false] at he
    subst he
    exact ent0 awake_any
  rcases hn with hn | hn
  · refine ret_true (calls_of_evF (tabLore_ok (fun e he => ?_) (fun e he => by cases he)) hcon mixedOrders 100 bad1_ev w ha)
    simp only [low1, List.mem_cons, List.not_mem_nil, or_false] at he
    subst he
    show cmpOf .lss n 0 = some true
    simp [cmpOf, hn]
  · refine ret_true (calls_of_evF (tabLore_ok (fun e he => ?_) (fun e he => by cases he)) hcon mixedOrders 100 bad2_ev w ha)
    simp only [low2, List.mem_cons, List.not_mem_nil, or_false] at he
    rcases he with rfl | rfl
    · show cmpOf .lss n 0 = some false
      simp [cmpOf]
      omega
    · show cmpOf .gtr n 10 = some true
      simp [cmpOf, hn]
theorem rounds_walk (w : World) (k b : List Nat) (n : Int) (hl : k.length = 16) (hk : Byt k) (hbl : b.length = 16) (hb : Byt b) : Calls Try.prog 6 #[.agg (cells8 k), .agg (cells8 b), .int .i64 n] w fun e w' => e = .returned (.bool true) ∧ Below w.heap.size w w' := by
  by_cases h : n < 0 ∨ 10 < n
  · exact rounds_bad w k b hl hbl n h
  · obtain ⟨r, rfl⟩ := Int.eq_ofNat_of_zero_le (show 0 ≤ n by omega)
    exact rounds_good w k b hl hk hbl hb r (by omega)
end Go.Proofs.Ytefbicnaopcbhaa
