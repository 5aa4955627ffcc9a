/- gf.Dot, gf.Scale and the document's, walked. -/
import Derived.Test.YtdoenaoemdhniabGfMuls
import Derived.Test.YtdoenaoemdhniabSlices
import Derived.Laws.MakeOwn
set_option linter.unusedSimpArgs false
set_option linter.unusedVariables false
namespace Go.Proofs.Ytdoenaoemdhniab
open Go Go.RowKit

/-- The k-th byte of a list. -/
def gN (l : List Int) (k : Nat) : Nat := (l.getD k 0).toNat
theorem HB.gN {w : World} {v : Value} {l : List Int} (h : HB w v l) (k : Nat) : l.getD k 0 = ((gN l k : Nat) : Int) ∧ gN l k < 256 := by
  have := h.byte k
  unfold Go.Proofs.Ytdoenaoemdhniab.gN
  omega
/-- The sum of the first k products. -/
def dotTo (la lb : List Int) : Nat → Nat
  | 0 => 0
  | k + 1 => dotTo la lb k ^^^ prod (gN la k) (gN lb k)
/-- What Dot answers. -/
def dotV (la lb : List Int) : Nat × Int := if la.length ≠ lb.length ∨ 256 < la.length then (0, 61) else (dotTo la lb la.length, 0)
theorem dotV_some {la lb : List Int} (h1 : la.length = lb.length) (h2 : la.length ≤ 256) : dotV la lb = (dotTo la lb la.length, 0) := by
  unfold dotV
  rw [if_neg (by omega)]
theorem dotV_unlike {la lb : List Int} (h1 : la.length ≠ lb.length) : dotV la lb = (0, 61) := by
  unfold dotV
  rw [if_pos (.inl h1)]
theorem dotV_long {la lb : List Int} (h2 : ¬ la.length ≤ 256) : dotV la lb = (0, 61) := by
  unfold dotV
  rw [if_pos (.inr (by omega))]

end Go.Proofs.Ytdoenaoemdhniab
