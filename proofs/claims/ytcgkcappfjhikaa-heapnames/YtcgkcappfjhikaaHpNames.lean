/- HeapNames, walked. -/
import Derived.Test.YtcgkcappfjhikaaHpLives
set_option linter.unusedVariables false
namespace Go.Proofs.Ytcgkcappfjhikaa
open Go Go.RowKit
set_option maxRecDepth 100000 in
theorem hnames_walk (w : World) : Calls Try.prog 8 #[] w fun e w' => e = .returned (.bool true) ∧ Below w.heap.size w w' := by
  have C := hid (lives_any w)
  go_enter Try.func8, Try.ntmps8
  go_wp2_with fail
  refine C.out.mono ?_
  rintro e w1 ⟨rfl, hb⟩
  have HB := hid hb
  clear hb C
  go_wp2_with fail
  go_ret
  exact ⟨rfl, HB.out⟩
end Go.Proofs.Ytcgkcappfjhikaa
