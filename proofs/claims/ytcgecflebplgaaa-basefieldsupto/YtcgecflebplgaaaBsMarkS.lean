/- The kit's markTexts, walked. -/
import Derived.Test.YtcgecflebplgaaaBsApartS
import Derived.Test.YtcgecflebplgaaaBsIdx
set_option linter.unusedSimpArgs false
set_option linter.unusedVariables false
namespace Go.Proofs.Ytcgecflebplgaaa.Tx
open Go Go.RowKit

/-- The row that a mark leaves behind. -/
def mkO (k i : Nat) : Obj := .cells #[.int .u8 33, .int .u8 ((k % 256 : Nat) : Int), .int .u8 ((i % 256 : Nat) : Int), .int .u8 ((i / 256 % 256 : Nat) : Int)] 5
theorem mkO_hb (w : World) (k i : Nat) : HB (w.alloc (mkO k i)) (.slice (some ⟨w.heap.size, 0, none⟩) 4 4) (mkL k i) := by
  refine HB.of_own (B := w.heap.size) (e := 5) ?_ ?_
  · have := World.ownsRow_lit (base := w.heap.size) (e := 5) (size := 1) w ((mkL k i).map (Value.int .u8)).toArray 4 (Nat.le_refl _) (by decide) (by simp [mkL])
    simpa [mkL, mkO] using this
  · intro x hx
    simp only [mkL, List.mem_cons, List.not_mem_nil, or_false] at hx
    omega

set_option maxHeartbeats 1000000 in
theorem mark_any (w : World) (k i : Nat) (hk : k ≤ 1125899906842624) (hi : i ≤ 1125899906842624) : Calls Try.prog 39 #[.int .i64 k, .int .i64 i] w fun e w' => e = .returned (.string (mkS k i)) ∧ w' = w.alloc (mkO k i) := by
  have hcv := conv_str (mkO_hb w k i)
  unfold mkO at hcv
  have e1 : ((k % 256 : Nat) : Int) = (k : Int) % 256 := by omega
  have e2 : ((i % 256 : Nat) : Int) = (i : Int) % 256 := by omega
  have e3 : ((i / 256 % 256 : Nat) : Int) = (i : Int) / 256 % 256 := by omega
  rw [e1, e2, e3] at hcv
  have e4 : (i : Int).tdiv 256 = (i : Int) / 256 := Int.tdiv_eq_ediv_of_nonneg (by omega)
  have e5 : IntKind.i64.wrap ((i : Int) / 256) = (i : Int) / 256 := by rw [IntKind.wrap_i64]; omega
  go_enter Try.func39, Try.ntmps39
  go_wp2
  go_ret
  exact ⟨rfl, by unfold mkO; rw [e1, e2, e3]⟩
theorem mark_eq (w : World) (k i : Nat) (a b : Int) (ha : a = (k : Int)) (hb : b = (i : Int)) (hk : k ≤ 1125899906842624) (hi : i ≤ 1125899906842624) : Calls Try.prog 39 #[.int .i64 a, .int .i64 b] w fun e w' => e = .returned (.string (mkS k i)) ∧ w' = w.alloc (mkO k i) := by
  subst ha hb
  exact mark_any w k i hk hi
end Go.Proofs.Ytcgecflebplgaaa.Tx
