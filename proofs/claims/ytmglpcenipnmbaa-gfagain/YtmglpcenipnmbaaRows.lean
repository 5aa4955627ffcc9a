/-
  No cell of these rows narrows 'for every input' (looked for: loops, veiled, ifaces, maps, wideKeys, modest, calm, conditions, laid).
  DERIVED. THE GIVEN ROWS OF THIS SEAT. 6 by the template 'for every input the law returns true; each argument reads behind the call as it read before'; 0 by the template 'total and deterministic' (their statements: YtmglpcenipnmbaaTotals.lean).
  GIVEN WITH THE SEED: the statements are not yours to turn. If you find one false, say at which input.
  Laid BY PROGRAM, IN A SANDBOX (cutbox-rows.mjs): the forced cells as the released guide's own fill.sh prints them over the translation 2645f555f60dc9bd… (all of the seat's roots in one cut). By AI agents, Wed Nov 11 2026. No macro, syntax, notation, axiom, sorry.
-/
import Derived.Test.YtmglpcenipnmbaaChecked
import GoSem.Claim
import GoSem.ClaimJoined
import GoSem.ClaimMapViews
import Derived.JoinedTies
import Derived.KernelRfl
namespace Go.Proofs.Ytmglpcenipnmbaa
/- THE CELL 'sum', in the pinned program and in every row, IS THE sha256 OF THE DUMP (.gsa) THAT YtmglpcenipnmbaaProg.lean LOADS. Nothing in Lean hashes anything: it is a label: what it is worth is what the hold of that sum in a sandbox is worth. -/
noncomputable def Try.pinned : Pinned := { name := "ytmglpcenipnmbaa", sum := "2645f555f60dc9bd27b4e18f4edbbf7261aa6fc2e06d5fa0a98ae17a81a15b74", checked := Try.checked }
namespace Rows
def none {H : Type} : Left H := { results := [], args := [] }

/-- 'strongroomlaw06.GfElements': WHATEVER THE INPUT: true; the input reads as it did. -/
def gfElementsSpec : ChangeSpec := { name := "gfElements", fn := fun _ => fun
  | [d1, d2] => { results := [.lit (.bool true)], args := [d1, d2] }
  | _ => none }
def gfElementsRow : OpenClaim := { program := "ytmglpcenipnmbaa", sum := "2645f555f60dc9bd27b4e18f4edbbf7261aa6fc2e06d5fa0a98ae17a81a15b74", func := "strongroom/strongroomlaw06.GfElements", spec := "gfElements", apart := false }
def GfElementsSaid : Prop := gfElementsRow.holds Try.pinned (OpenSpec.ofChange gfElementsSpec)

/-- ITS FALSE NEIGHBOUR: 'it returns false'. Refute it at one input. -/
def gfElementsWrong : ChangeSpec := { name := "gfElements", fn := fun _ => fun
  | [d1, d2] => { results := [.lit (.bool false)], args := [d1, d2] }
  | _ => none }
def GfElementsWrongFalsely : Prop := gfElementsRow.holds Try.pinned (OpenSpec.ofChange gfElementsWrong)

/-- 'strongroomlaw06.GfPowers': WHATEVER THE INPUT: true; the input reads as it did. -/
def gfPowersSpec : ChangeSpec := { name := "gfPowers", fn := fun _ => fun
  | [d1, d2] => { results := [.lit (.bool true)], args := [d1, d2] }
  | _ => none }
def gfPowersRow : OpenClaim := { program := "ytmglpcenipnmbaa", sum := "2645f555f60dc9bd27b4e18f4edbbf7261aa6fc2e06d5fa0a98ae17a81a15b74", func := "strongroom/strongroomlaw06.GfPowers", spec := "gfPowers", apart := false }
def GfPowersSaid : Prop := gfPowersRow.holds Try.pinned (OpenSpec.ofChange gfPowersSpec)

/-- ITS FALSE NEIGHBOUR: 'it returns false'. Refute it at one input. -/
def gfPowersWrong : ChangeSpec := { name := "gfPowers", fn := fun _ => fun
  | [d1, d2] => { results := [.lit (.bool false)], args := [d1, d2] }
  | _ => none }
def GfPowersWrongFalsely : Prop := gfPowersRow.holds Try.pinned (OpenSpec.ofChange gfPowersWrong)

/-- 'strongroomlaw06.GfLists': WHATEVER THE INPUT: true; the input reads as it did. -/
def gfListsSpec : ChangeSpec := { name := "gfLists", fn := fun _ => fun
  | [d1, d2, d3] => { results := [.lit (.bool true)], args := [d1, d2, d3] }
  | _ => none }
def gfListsRow : OpenClaim := { program := "ytmglpcenipnmbaa", sum := "2645f555f60dc9bd27b4e18f4edbbf7261aa6fc2e06d5fa0a98ae17a81a15b74", func := "strongroom/strongroomlaw06.GfLists", spec := "gfLists", unfollowed := true, recurses := true, apart := false }
def GfListsSaid : Prop := gfListsRow.holds Try.pinned (OpenSpec.ofChange gfListsSpec)

/-- ITS FALSE NEIGHBOUR: 'it returns false'. Refute it at one input. -/
def gfListsWrong : ChangeSpec := { name := "gfLists", fn := fun _ => fun
  | [d1, d2, d3] => { results := [.lit (.bool false)], args := [d1, d2, d3] }
  | _ => none }
def GfListsWrongFalsely : Prop := gfListsRow.holds Try.pinned (OpenSpec.ofChange gfListsWrong)

/-- 'strongroomlaw06.GfPolynomials': WHATEVER THE INPUT: true; the input reads as it did. -/
def gfPolynomialsSpec : ChangeSpec := { name := "gfPolynomials", fn := fun _ => fun
  | [d1, d2] => { results := [.lit (.bool true)], args := [d1, d2] }
  | _ => none }
def gfPolynomialsRow : OpenClaim := { program := "ytmglpcenipnmbaa", sum := "2645f555f60dc9bd27b4e18f4edbbf7261aa6fc2e06d5fa0a98ae17a81a15b74", func := "strongroom/strongroomlaw06.GfPolynomials", spec := "gfPolynomials", unfollowed := true, recurses := true, apart := false }
def GfPolynomialsSaid : Prop := gfPolynomialsRow.holds Try.pinned (OpenSpec.ofChange gfPolynomialsSpec)

/-- ITS FALSE NEIGHBOUR: 'it returns false'. Refute it at one input. -/
def gfPolynomialsWrong : ChangeSpec := { name := "gfPolynomials", fn := fun _ => fun
  | [d1, d2] => { results := [.lit (.bool false)], args := [d1, d2] }
  | _ => none }
def GfPolynomialsWrongFalsely : Prop := gfPolynomialsRow.holds Try.pinned (OpenSpec.ofChange gfPolynomialsWrong)

/-- 'strongroomlaw06.GfThrough': WHATEVER THE INPUT: true; the input reads as it did. -/
def gfThroughSpec : ChangeSpec := { name := "gfThrough", fn := fun _ => fun
  | [d] => { results := [.lit (.bool true)], args := [d] }
  | _ => none }
def gfThroughRow : OpenClaim := { program := "ytmglpcenipnmbaa", sum := "2645f555f60dc9bd27b4e18f4edbbf7261aa6fc2e06d5fa0a98ae17a81a15b74", func := "strongroom/strongroomlaw06.GfThrough", spec := "gfThrough", unfollowed := true, recurses := true, apart := false }
def GfThroughSaid : Prop := gfThroughRow.holds Try.pinned (OpenSpec.ofChange gfThroughSpec)

/-- ITS FALSE NEIGHBOUR: 'it returns false'. Refute it at one input. -/
def gfThroughWrong : ChangeSpec := { name := "gfThrough", fn := fun _ => fun
  | [d] => { results := [.lit (.bool false)], args := [d] }
  | _ => none }
def GfThroughWrongFalsely : Prop := gfThroughRow.holds Try.pinned (OpenSpec.ofChange gfThroughWrong)

/-- 'strongroomlaw06.GfAgain': WHATEVER THE INPUT: true; the input reads as it did. -/
def gfAgainSpec : ChangeSpec := { name := "gfAgain", fn := fun _ => fun
  | [d1, d2, d3] => { results := [.lit (.bool true)], args := [d1, d2, d3] }
  | _ => none }
def gfAgainRow : OpenClaim := { program := "ytmglpcenipnmbaa", sum := "2645f555f60dc9bd27b4e18f4edbbf7261aa6fc2e06d5fa0a98ae17a81a15b74", func := "strongroom/strongroomlaw06.GfAgain", spec := "gfAgain", unfollowed := true, recurses := true, apart := false }
def GfAgainSaid : Prop := gfAgainRow.holds Try.pinned (OpenSpec.ofChange gfAgainSpec)

/-- ITS FALSE NEIGHBOUR: 'it returns false'. Refute it at one input. -/
def gfAgainWrong : ChangeSpec := { name := "gfAgain", fn := fun _ => fun
  | [d1, d2, d3] => { results := [.lit (.bool false)], args := [d1, d2, d3] }
  | _ => none }
def GfAgainWrongFalsely : Prop := gfAgainRow.holds Try.pinned (OpenSpec.ofChange gfAgainWrong)

/- THE SECOND FORM. 'bulk': how many values and letters a reading holds, each counted each time it is reached (what is shared counts as often as it is met; a slice's spare places count too). A statement '..UptoSaid' is the law's where the arguments, and the package variables that the reading takes, are together of bulk at most 1048576: NARROWER than '..Said'. Prove '..Said' where nothing that the law and all that it calls make is longer than what came in: it says more and counts as full. Else prove '..UptoSaid'. A law counts once. -/
mutual
def uptoBulk {H : Type} : DataW H → Nat
  | .lit (.string bytes) => bytes.length + 1
  | .lit _ => 1
  | .nil => 1
  | .ptr d => uptoBulk d + 1
  | .slice elems spare => uptoBulkAll elems + uptoBulkAll spare + 1
  | .agg parts => uptoBulkAll parts + 1
  | .iface _ d => uptoBulk d + 1
  | .map entries => uptoBulkEntries entries + 1
  | .held _ => 1
def uptoBulkAll {H : Type} : List (DataW H) → Nat
  | [] => 0
  | d :: r => uptoBulk d + uptoBulkAll r
def uptoBulkEntries {H : Type} : List (Lit × DataW H) → Nat
  | [] => 0
  | x :: r => uptoBulkEntry x + uptoBulkEntries r
def uptoBulkEntry {H : Type} : Lit × DataW H → Nat
  | (.string bytes, d) => bytes.length + uptoBulk d + 1
  | (_, d) => uptoBulk d + 1
 end
def uptoSmall : (H : Type) → List (DataW H) → Bool := fun _ ds => decide (uptoBulkAll ds ≤ 1048576)
def OpenSpec.upto (s : _root_.Go.ChangeSpec) : _root_.Go.OpenSpec := { _root_.Go.OpenSpec.ofChange s with cond := some uptoSmall }

/-- 'strongroomlaw06.GfElements', WHERE WHAT IT READS IS OF BULK AT MOST 1048576: true; the input reads as it did. -/
def gfElementsUptoRow : OpenClaim := { program := "ytmglpcenipnmbaa", sum := "2645f555f60dc9bd27b4e18f4edbbf7261aa6fc2e06d5fa0a98ae17a81a15b74", func := "strongroom/strongroomlaw06.GfElements", spec := "gfElements", apart := false, narrowed := true }
def GfElementsUptoSaid : Prop := gfElementsUptoRow.holds Try.pinned (OpenSpec.upto gfElementsSpec)

/-- 'strongroomlaw06.GfPowers', WHERE WHAT IT READS IS OF BULK AT MOST 1048576: true; the input reads as it did. -/
def gfPowersUptoRow : OpenClaim := { program := "ytmglpcenipnmbaa", sum := "2645f555f60dc9bd27b4e18f4edbbf7261aa6fc2e06d5fa0a98ae17a81a15b74", func := "strongroom/strongroomlaw06.GfPowers", spec := "gfPowers", apart := false, narrowed := true }
def GfPowersUptoSaid : Prop := gfPowersUptoRow.holds Try.pinned (OpenSpec.upto gfPowersSpec)

/-- 'strongroomlaw06.GfLists', WHERE WHAT IT READS IS OF BULK AT MOST 1048576: true; the input reads as it did. -/
def gfListsUptoRow : OpenClaim := { program := "ytmglpcenipnmbaa", sum := "2645f555f60dc9bd27b4e18f4edbbf7261aa6fc2e06d5fa0a98ae17a81a15b74", func := "strongroom/strongroomlaw06.GfLists", spec := "gfLists", unfollowed := true, recurses := true, apart := false, narrowed := true }
def GfListsUptoSaid : Prop := gfListsUptoRow.holds Try.pinned (OpenSpec.upto gfListsSpec)

/-- 'strongroomlaw06.GfPolynomials', WHERE WHAT IT READS IS OF BULK AT MOST 1048576: true; the input reads as it did. -/
def gfPolynomialsUptoRow : OpenClaim := { program := "ytmglpcenipnmbaa", sum := "2645f555f60dc9bd27b4e18f4edbbf7261aa6fc2e06d5fa0a98ae17a81a15b74", func := "strongroom/strongroomlaw06.GfPolynomials", spec := "gfPolynomials", unfollowed := true, recurses := true, apart := false, narrowed := true }
def GfPolynomialsUptoSaid : Prop := gfPolynomialsUptoRow.holds Try.pinned (OpenSpec.upto gfPolynomialsSpec)

/-- 'strongroomlaw06.GfThrough', WHERE WHAT IT READS IS OF BULK AT MOST 1048576: true; the input reads as it did. -/
def gfThroughUptoRow : OpenClaim := { program := "ytmglpcenipnmbaa", sum := "2645f555f60dc9bd27b4e18f4edbbf7261aa6fc2e06d5fa0a98ae17a81a15b74", func := "strongroom/strongroomlaw06.GfThrough", spec := "gfThrough", unfollowed := true, recurses := true, apart := false, narrowed := true }
def GfThroughUptoSaid : Prop := gfThroughUptoRow.holds Try.pinned (OpenSpec.upto gfThroughSpec)

/-- 'strongroomlaw06.GfAgain', WHERE WHAT IT READS IS OF BULK AT MOST 1048576: true; the input reads as it did. -/
def gfAgainUptoRow : OpenClaim := { program := "ytmglpcenipnmbaa", sum := "2645f555f60dc9bd27b4e18f4edbbf7261aa6fc2e06d5fa0a98ae17a81a15b74", func := "strongroom/strongroomlaw06.GfAgain", spec := "gfAgain", unfollowed := true, recurses := true, apart := false, narrowed := true }
def GfAgainUptoSaid : Prop := gfAgainUptoRow.holds Try.pinned (OpenSpec.upto gfAgainSpec)

end Rows
end Go.Proofs.Ytmglpcenipnmbaa
