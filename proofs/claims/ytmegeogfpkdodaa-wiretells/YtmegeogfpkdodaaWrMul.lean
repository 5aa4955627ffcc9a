/- math/bits.Mul of one and a number. -/
import Derived.Test.YtmegeogfpkdodaaU8
set_option linter.unusedVariables false
set_option linter.unusedSimpArgs false
namespace Go.Proofs.Ytmegeogfpkdodaa
open Go Go.RowKit
set_option maxRecDepth 100000 in
theorem andm (m : Nat) (hm : m < 256) : bits BinOp.and IntKind.u64 (m : Int) 4294967295 = (m : Int) := by
  have h : ∀ i : Fin 256, bits BinOp.and IntKind.u64 ((i.val : Nat) : Int) 4294967295 = ((i.val : Nat) : Int) := by decide
  exact h ⟨m, hm⟩
set_option maxRecDepth 100000 in
set_option maxHeartbeats 4000000 in
theorem mul64_one (w : World) (m : Nat) (hm : m < 256) : Calls Try.prog 94 #[.int .u64 1, .int .u64 (m : Int)] w fun e w' => e = .returned (.tuple #[.int .u64 0, .int .u64 (m : Int)]) ∧ w' = w := by
  have bm : bits BinOp.and IntKind.u64 (m : Int) 4294967295 = (m : Int) := andm m hm
  have b1 : bits BinOp.and IntKind.u64 1 4294967295 = 1 := andm 1 (by omega)
  have b0 : bits BinOp.and IntKind.u64 0 4294967295 = 0 := andm 0 (by omega)
  have dm : (m : Int) / 4294967296 = 0 := by omega
  have w0 : IntKind.u64.wrap 0 = 0 := by decide
  have wm : IntKind.u64.wrap (m : Int) = (m : Int) := by rw [IntKind.wrap_u64]; omega
  go_enter Try.func94, Try.ntmps94
  go_wp2
  go_ret2
  simp [b1, bm, dm, b0, w0, wm]
set_option maxRecDepth 100000 in
set_option maxHeartbeats 4000000 in
theorem mul_one (w : World) (m : Nat) (hm : m < 256) : Calls Try.prog 89 #[.int .u64 1, .int .u64 (m : Int)] w fun e w' => e = .returned (.tuple #[.int .u64 0, .int .u64 (m : Int)]) ∧ w' = w := by
  have C := hid (mul64_one w m hm)
  go_enter Try.func89, Try.ntmps89
  go_wp2_with fail
  refine C.out.mono ?_
  rintro e w' ⟨rfl, hw'⟩
  subst hw'
  go_wp2_with fail
  go_ret2
  exact ⟨rfl, rfl⟩
end Go.Proofs.Ytmegeogfpkdodaa
