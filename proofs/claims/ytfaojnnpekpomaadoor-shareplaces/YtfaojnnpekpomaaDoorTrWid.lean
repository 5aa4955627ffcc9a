/- tree.Width and size, walked: the width by the evaluator on every number of leaves. -/
import Derived.Test.YtfaojnnpekpomaaDoorCutEnv
set_option linter.unusedVariables false
set_option linter.unusedSimpArgs false
namespace Go.Proofs.YtfaojnnpekpomaaDoor
open Go Go.RowKit Ev

/-- The least power of two that is not below n. -/
def wdN (n : Nat) : Nat := if n ≤ 1 then 1 else if n ≤ 2 then 2 else if n ≤ 4 then 4 else if n ≤ 8 then 8 else if n ≤ 16 then 16 else if n ≤ 32 then 32 else if n ≤ 64 then 64 else if n ≤ 128 then 128 else if n ≤ 256 then 256 else 512
noncomputable def widOk (n : Nat) : Bool := decide (evCallF Tryd.prog noLore noCon 100 30 [.tv (.sc (.int .i64 (.lit ((n + 1 : Nat) : Int))))] H0 = some (.tup [.sc (.int .i64 (.lit (wdN (n + 1) : Nat))), .sc (.int .i64 (.lit 0))], H0))
def uptoB (f : Nat → Bool) (b : Nat) : Nat → Bool
  | 0 => true
  | n + 1 => f (b + n) && uptoB f b n
theorem uptoB_ok {f : Nat → Bool} {b : Nat} : ∀ n, uptoB f b n = true → ∀ i, i < n → f (b + i) = true
  | n + 1, h, i, hi => by
    simp only [uptoB, Bool.and_eq_true] at h
    rcases Nat.lt_or_ge i n with h1 | h1
    · exact uptoB_ok n h.2 i h1
    · rw [show i = n by omega]; exact h.1
theorem wid_ev0 : uptoB widOk 0 128 = true := by kernel_rfl
theorem wid_ev1 : uptoB widOk 128 128 = true := by kernel_rfl
theorem wid_ev2 : uptoB widOk 256 128 = true := by kernel_rfl
theorem wid_ev3 : uptoB widOk 384 128 = true := by kernel_rfl
theorem wid_all (n : Nat) (h : n < 512) : widOk n = true := by
  rcases Nat.lt_or_ge n 128 with h1 | h1
  · have := uptoB_ok 128 wid_ev0 n h1; rwa [Nat.zero_add] at this
  rcases Nat.lt_or_ge n 256 with h2 | h2
  · have := uptoB_ok 128 wid_ev1 (n - 128) (by omega); rwa [show 128 + (n - 128) = n by omega] at this
  rcases Nat.lt_or_ge n 384 with h3 | h3
  · have := uptoB_ok 128 wid_ev2 (n - 256) (by omega); rwa [show 256 + (n - 256) = n by omega] at this
  · have := uptoB_ok 128 wid_ev3 (n - 384) (by omega); rwa [show 384 + (n - 384) = n by omega] at this
def noEnvW : Env := ⟨fun _ => 0, fun _ => .tuple #[], fun _ _ _ => 0⟩
theorem width_ok (w : World) (n : Nat) (h1 : 1 ≤ n) (h2 : n ≤ 512) : Calls Tryd.prog 30 #[.int .i64 (n : Int)] w fun e w' => e = .returned (.tuple #[.int .i64 (wdN n : Nat), .int .i64 0]) ∧ Below w.heap.size w w' := by
  have h := wid_all (n - 1) (by omega)
  unfold widOk at h
  rw [decide_eq_true_eq, show n - 1 + 1 = n by omega] at h
  refine (calls_of_evF (noLore_ok noEnvW) (noCon_ok _ noEnvW) mixedOrders 100 h w (args := #[.int .i64 (n : Int)]) ?_).mono ?_
  · simp [AV.inst, TV.inst, SV.inst, Ex.den]
  · rintro e w' ⟨ms, u, rfl, h3, _, h5⟩
    refine ⟨?_, h5⟩
    have e1 : (AV.tup [.sc (.int .i64 (.lit (wdN n : Nat))), .sc (.int .i64 (.lit 0))]).inst noEnvW ms = some (.tuple #[.int .i64 (wdN n : Nat), .int .i64 0]) := by
      simp only [AV.inst]
      rw [(seqO_iff _ [.int .i64 (wdN n : Nat), .int .i64 0]).2 (by simp [TV.inst, SV.inst, Ex.den])]
      rfl
    rw [e1] at h3
    rw [Option.some.inj h3]
set_option maxRecDepth 100000 in
set_option maxHeartbeats 1000000 in
theorem width_bad (w : World) (n : Int) (h : ¬ (1 ≤ n ∧ n ≤ 512)) : Calls Tryd.prog 30 #[.int .i64 n] w fun e w' => e = .returned (.tuple #[.int .i64 0, .int .i64 110]) ∧ w' = w := by
  by_cases h1 : n < 1
  · go_enter Tryd.func30, Tryd.ntmps30
    go_wp2
    go_ret2
    exact ⟨rfl, rfl⟩
  · have h2 : 512 < n := by omega
    go_enter Tryd.func30, Tryd.ntmps30
    go_wp2
    go_ret2
    exact ⟨rfl, rfl⟩
/-- A power of two from 1 to 512. -/
def Pow (w : Nat) : Prop := w = 1 ∨ w = 2 ∨ w = 4 ∨ w = 8 ∨ w = 16 ∨ w = 32 ∨ w = 64 ∨ w = 128 ∨ w = 256 ∨ w = 512
theorem wdN_pow (n : Nat) : Pow (wdN n) := by
  unfold wdN Pow
  repeat' split
  all_goals simp
theorem wdN_ge (n : Nat) (h : n ≤ 512) : n ≤ wdN n := by
  unfold wdN
  repeat' split
  all_goals omega
theorem wdN_le (n : Nat) : wdN n ≤ 512 ∧ 1 ≤ wdN n := by
  unfold wdN
  repeat' split
  all_goals omega
theorem wdN_self (w : Nat) (h : Pow w) : wdN w = w := by
  rcases h with rfl | rfl | rfl | rfl | rfl | rfl | rfl | rfl | rfl | rfl <;> rfl
end Go.Proofs.YtfaojnnpekpomaaDoor
