/- Is there such a tick? -/
import Derived.Test.YtajdopmhdagehaaHdB
set_option linter.unusedVariables false
set_option linter.unusedSimpArgs false
namespace Go.Proofs.Ytajdopmhdagehaa
open Go Go.RowKit

/-- Is there such a tick? -/
def tkB (t : Int) : Bool := decide (0 ≤ t ∧ t ≤ 1099511627776)
set_option maxRecDepth 100000 in
set_option maxHeartbeats 4000000 in
theorem isTick_any (w : World) (t : Int) : Calls Try.prog 41 #[.int .i64 t] w fun e w' => e = .returned (.bool (tkB t)) ∧ w' = w := by
  by_cases h0 : 0 ≤ t
  · by_cases h1 : t ≤ 1099511627776
    · have e : tkB t = true := by unfold tkB; simp [h0, h1]
      rw [e]
      clear e
      go_enter Try.func41, Try.ntmps41
      go_wp2
      go_ret
      exact ⟨rfl, rfl⟩
    · have e : tkB t = false := by unfold tkB; simp [h1]
      rw [e]
      clear e
      go_enter Try.func41, Try.ntmps41
      go_wp2
      go_ret
      exact ⟨rfl, rfl⟩
  · have e : tkB t = false := by unfold tkB; simp [h0]
    rw [e]
    clear e
    go_enter Try.func41, Try.ntmps41
    go_wp2
    go_ret
    exact ⟨rfl, rfl⟩
/-- Why a tick is none that a clock may come to. -/
def rcE (now t : Int) : Int := if tkB t = true then (if t < now then 180 else 0) else 2
end Go.Proofs.Ytajdopmhdagehaa
