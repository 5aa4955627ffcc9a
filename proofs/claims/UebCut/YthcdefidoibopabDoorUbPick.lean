/- The kit's Pick, walked. -/
import Derived.Test.YthcdefidoibopabDoorBase
import Derived.Test.YthcdefidoibopabDoorChecked
set_option linter.unusedSimpArgs false
set_option linter.unusedVariables false
namespace Go.Proofs.YthcdefidoibopabDoor
open Go Go.RowKit

set_option maxHeartbeats 1000000 in
theorem kpick_any (w : World) (x : Int) (n : Nat) (h1 : 1 ≤ n) (h2 : n ≤ 140737488355328) : Calls Tryd.prog 7 #[.int .i64 x, .int .i64 (n : Int)] w fun e w' => (∃ p : Nat, p < n ∧ e = .returned (.int .i64 (p : Int))) ∧ w' = w := by
  have b1 : -(n : Int) < Int.tmod x n := Int.lt_tmod_of_pos x (by omega)
  have b2 : Int.tmod x n < (n : Int) := Int.tmod_lt_of_pos x (by omega)
  have hn1 : ¬ ((n : Int) < 1) := by omega
  have hn0 : ¬ ((n : Int) = 0) := by omega
  obtain ⟨y, hy⟩ : ∃ y, Int.tmod x (n : Int) = y := ⟨_, rfl⟩
  rw [hy] at b1 b2
  by_cases hneg : y < 0
  · go_enter Tryd.func7, Tryd.ntmps7
    go_wp2
    go_ret
    refine ⟨⟨(y + n).toNat, by omega, ?_⟩, rfl⟩
    show Ending.returned (Value.int .i64 (y + n)) = _
    rw [Int.toNat_of_nonneg (by omega)]
  · go_enter Tryd.func7, Tryd.ntmps7
    go_wp2
    go_ret
    refine ⟨⟨y.toNat, by omega, ?_⟩, rfl⟩
    show Ending.returned (Value.int .i64 y) = _
    rw [Int.toNat_of_nonneg (by omega)]
end Go.Proofs.YthcdefidoibopabDoor
