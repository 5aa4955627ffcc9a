/- The document's Eval of layer 6, walked. -/
import Derived.Test.YtdoenaoemdhniabGfScale
set_option linter.unusedSimpArgs false
set_option linter.unusedVariables false
namespace Go.Proofs.Ytdoenaoemdhniab
open Go Go.RowKit

/-- The value, power by power: the sum so far. -/
def evTo (l : List Int) (x : Nat) : Nat → Nat
  | 0 => 0
  | k + 1 => evTo l x k ^^^ prod (gN l k) (powA x k)
end Go.Proofs.Ytdoenaoemdhniab
