/- The document's up, Check, laid, Shape, Again. -/
import Derived.Test.YtdmdcnikhnoclabCutShp
set_option linter.unusedVariables false
set_option linter.unusedSimpArgs false
namespace Go.Proofs.Ytdmdcnikhnoclab
open Go Go.RowKit Ev

def upX : Ex := .ari .add .i64 (.ari .quo .i64 (.var 0) (.var 1)) (.ari .quo .i64 (.ari .sub .i64 (.ari .add .i64 (.ari .rem .i64 (.var 0) (.var 1)) (.var 1)) (.lit 1)) (.var 1))
theorem rup_ev : (evCallF Try.prog (tabLore [(.neq, .var 1, .lit 0, true)] []) (tabCon []) 100 32 [B64 0, B64 1] []).map (·.1) = some (E64 upX) := by kernel_rfl
theorem rup_any (w : World) (x y : Int) (hx : 1 ≤ x) (hx2 : x ≤ 4611686018427387904) (hy : 1 ≤ y) (hy2 : y ≤ 1073741824) : Calls Try.prog 32 #[.int .i64 x, .int .i64 y] w fun e w' => e = .returned (.int .i64 (upI x y)) ∧ Below w.heap.size w w' := by
  refine ev_row (ρ := envI [x, y] (.tuple #[])) (c := [(.neq, .var 1, .lit 0, true)]) (all1 (show some (y != 0) = some true by rw [bne_iff_ne.2 (show y ≠ 0 by omega)])) alln alln rup_ev [.int .i64 x, .int .i64 y] _ rfl (fun ms => ?_) w
  have h2 := Int.emod_nonneg x (show y ≠ 0 by omega)
  have h3 := Int.emod_lt_of_pos x (show 0 < y by omega)
  have q1 := Int.ediv_nonneg (show 0 ≤ x by omega) (show 0 ≤ y by omega)
  have q2 := Int.ediv_le_self y (show 0 ≤ x by omega)
  have q3 := Int.ediv_nonneg (show 0 ≤ x % y + y - 1 by omega) (show 0 ≤ y by omega)
  have q4 := Int.ediv_le_self y (show 0 ≤ x % y + y - 1 by omega)
  rw [E64_inst]
  show some (Value.int .i64 (IntKind.i64.wrap (IntKind.i64.wrap (x.tdiv y) + IntKind.i64.wrap ((IntKind.i64.wrap (IntKind.i64.wrap (x.tmod y + y) - 1)).tdiv y)))) = _
  rw [Int.tdiv_eq_ediv_of_nonneg (by omega), Int.tmod_eq_emod_of_nonneg (by omega), wrap64 (x := x % y + y) (by omega) (by omega), wrap64 (x := x % y + y - 1) (by omega) (by omega), Int.tdiv_eq_ediv_of_nonneg (by omega), wrap64 (x := x / y) (by omega) (by omega), wrap64 (x := (x % y + y - 1) / y) (by omega) (by omega), wrap64 (by omega) (by omega), up_ref (by omega) hy]
end Go.Proofs.Ytdmdcnikhnoclab
