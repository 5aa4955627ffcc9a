/- GfPowers: the law, walked by the evaluator. -/
import Derived.Test.YtdoenaoemdhniaaGfEnv
import Derived.Test.YtdoenaoemdhniaaGfRef
set_option linter.unusedVariables false
set_option linter.unusedSimpArgs false
namespace Go.Proofs.Ytdoenaoemdhniaa
open Go Go.RowKit Ev

def pwTab : List (Nat × List AV × AV) := [
  (22, [B8 0], .tup [e64 (.var 2), e64 (.var 3)]),
  (24, [B8 0], .tup [e64 (.var 2), e64 (.var 3)]),
  (23, [B8 0, B64 1], .tup [e8 (.var 4), e64 (.var 5)]),
  (25, [B8 0, B64 1], .tup [e8 (.var 4), e64 (.var 5)]),
  (26, [B64 1], B8 6),
  (27, [B64 1], B8 6)]
theorem pw_ev : evCallF Try.prog noLore (tabCon pwTab) 100 4 [B8 0, B64 1] [] = some (.tv (.sc (.bool true)), []) := by kernel_rfl
/-- What Log answers. -/
def logV (a : Nat) : Nat × Int := if a = 0 then (0, 60) else (lg a, 0)
theorem log_v (w : World) (a : Nat) (ha : a < 256) : Calls Try.prog 22 #[.int .u8 (a : Int)] w fun e w' => e = .returned (.tuple #[.int .i64 (((logV a).1 : Nat) : Int), .int .i64 (logV a).2]) ∧ Below w.heap.size w w' := by
  unfold logV
  split
  · rename_i h; subst h; exact log_none w
  · rename_i h; exact log_any w a ha h
theorem rlog_v (w : World) (a : Nat) (ha : a < 256) : Calls Try.prog 24 #[.int .u8 (a : Int)] w fun e w' => e = .returned (.tuple #[.int .i64 (((logV a).1 : Nat) : Int), .int .i64 (logV a).2]) ∧ Below w.heap.size w w' := by
  unfold logV
  split
  · rename_i h; subst h; exact still (rlog_none w)
  · rename_i h; exact still (rlog_any w a ha h)
theorem powers_walk (w : World) (a : Nat) (n : Int) (ha : a < 256) (hn : -9223372036854775808 ≤ n ∧ n ≤ 9223372036854775807) :
    Calls Try.prog 4 #[.int .u8 (a : Int), .int .i64 n] w fun e w' => e = .returned (.bool true) ∧ Below w.heap.size w w' := by
  refine ret_true (calls_of_evF (ρ := envI [(a : Int), n, (((logV a).1 : Nat) : Int), (logV a).2, (((powV a n).1 : Nat) : Int), (powV a n).2, ((ex n : Nat) : Int)]) (noLore_ok _) (tabCon_ok ?_) mixedOrders 100 pw_ev (args := #[.int .u8 (a : Int), .int .i64 n]) w rfl)
  intro e he
  simp only [pwTab, List.mem_cons, List.not_mem_nil, or_false] at he
  rcases he with rfl | rfl | rfl | rfl | rfl | rfl
  · exact ent [.int .u8 (a : Int)] _ (fun _ => rfl) (fun _ => rfl) fun w => log_v w a ha
  · exact ent [.int .u8 (a : Int)] _ (fun _ => rfl) (fun _ => rfl) fun w => rlog_v w a ha
  · exact ent [.int .u8 (a : Int), .int .i64 n] _ (fun _ => rfl) (fun _ => rfl) fun w => pow_any w a n ha hn.1 hn.2
  · exact ent [.int .u8 (a : Int), .int .i64 n] _ (fun _ => rfl) (fun _ => rfl) fun w => still (rpow_any w a n ha hn.1 hn.2)
  · exact ent [.int .i64 n] _ (fun _ => rfl) (fun _ => rfl) fun w => exp_any w n hn.1 hn.2
  · exact ent [.int .i64 n] _ (fun _ => rfl) (fun _ => rfl) fun w => still (rexp_any w n hn.1 hn.2)
end Go.Proofs.Ytdoenaoemdhniaa
