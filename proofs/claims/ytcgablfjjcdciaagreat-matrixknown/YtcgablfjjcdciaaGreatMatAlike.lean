/- matrix.alike, walked: a deferred call that recovers, where nothing panics. -/
import Derived.Test.YtcgablfjjcdciaaGreatU8
import Derived.Recover
set_option linter.unusedSimpArgs false
set_option linter.unusedVariables false
namespace Go.Proofs.YtcgablfjjcdciaaGreat
open Go Go.RowKit

theorem alike_door_u32 (w : World) : CallsD Tryz.prog 142 #[] .returning w fun e u' w' => e = .returned (.tuple #[]) ∧ u' = .returning ∧ w' = w := by
  refine callsD_of_wpS Tryz.func142 rfl fun c₀ cs hu => ?_
  apply wpS_region
  simp [wpOpsS, go_sem, recoverD, hu, Tryz.ntmps142, Exit.thenS]
  cases c₀
  simp_all [bodyPostS, results, Tryz.results142]
theorem alike_u32 (w : World) (a b : Int) : Calls Tryz.prog 125 #[.int .u32 a, .int .u32 b] w fun e w' => e = .returned (.bool (a == b)) ∧ w' = w := by
  go_enter_defers Tryz.func125, Tryz.ntmps125
  go_wp2
  refine leaves_cons (f := 142) (args := #[]) (by simp) (by simp [go_sem]) ?_
  refine (alike_door_u32 w).mono ?_
  rintro e u' w'' ⟨rfl, rfl, rfl⟩
  exact ⟨_, results_tmp rfl _ _ _, rfl, rfl⟩
theorem alike_door_u8 (w : World) : CallsD Tryz.prog 141 #[] .returning w fun e u' w' => e = .returned (.tuple #[]) ∧ u' = .returning ∧ w' = w := by
  refine callsD_of_wpS Tryz.func141 rfl fun c₀ cs hu => ?_
  apply wpS_region
  simp [wpOpsS, go_sem, recoverD, hu, Tryz.ntmps141, Exit.thenS]
  cases c₀
  simp_all [bodyPostS, results, Tryz.results141]
theorem alike_u8 (w : World) (a b : Int) : Calls Tryz.prog 123 #[.int .u8 a, .int .u8 b] w fun e w' => e = .returned (.bool (a == b)) ∧ w' = w := by
  go_enter_defers Tryz.func123, Tryz.ntmps123
  go_wp2
  refine leaves_cons (f := 141) (args := #[]) (by simp) (by simp [go_sem]) ?_
  refine (alike_door_u8 w).mono ?_
  rintro e u' w'' ⟨rfl, rfl, rfl⟩
  exact ⟨_, results_tmp rfl _ _ _, rfl, rfl⟩
end Go.Proofs.YtcgablfjjcdciaaGreat
