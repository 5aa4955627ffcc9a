/-
  No cell of these rows narrows 'for every input' (looked for: loops, veiled, ifaces, maps, wideKeys, modest, calm, conditions, laid).
  DERIVED. THE GIVEN ROWS OF THIS SEAT. 3 by the template 'for every input the law returns true; each argument reads behind the call as it read before'; 0 by the template 'total and deterministic' (their statements: YtcgablfjjcdciaaTotals.lean).
  GIVEN WITH THE SEED: the statements are not yours to turn. If you find one false, say at which input.
  Laid BY PROGRAM, IN A SANDBOX (cutbox-rows.mjs): the forced cells as the released guide's own fill.sh prints them over the translation d64a63eadc9caccc… (all of the seat's roots in one cut). By AI agents, Wed Nov 11 2026. No macro, syntax, notation, axiom, sorry.
-/
import Derived.Test.YtcgablfjjcdciaaChecked
import GoSem.Claim
import GoSem.ClaimJoined
import GoSem.ClaimMapViews
import Derived.JoinedTies
import Derived.KernelRfl
namespace Go.Proofs.Ytcgablfjjcdciaa
/- THE CELL 'sum', in the pinned program and in every row, IS THE sha256 OF THE DUMP (.gsa) THAT YtcgablfjjcdciaaProg.lean LOADS. Nothing in Lean hashes anything: it is a label: what it is worth is what the hold of that sum in a sandbox is worth. -/
noncomputable def Try.pinned : Pinned := { name := "ytcgablfjjcdciaa", sum := "d64a63eadc9caccc54893378ee58518256c3b6f94566f8644314f33426d410a5", checked := Try.checked }
namespace Rows
def none {H : Type} : Left H := { results := [], args := [] }

/-- 'strongroomlaw07.MatrixMods': WHATEVER THE INPUT: true; the input reads as it did. -/
def matrixModsSpec : ChangeSpec := { name := "matrixMods", fn := fun _ => fun
  | [d1, d2] => { results := [.lit (.bool true)], args := [d1, d2] }
  | _ => none }
def matrixModsRow : OpenClaim := { program := "ytcgablfjjcdciaa", sum := "d64a63eadc9caccc54893378ee58518256c3b6f94566f8644314f33426d410a5", func := "strongroom/strongroomlaw07.MatrixMods", spec := "matrixMods", apart := false }
def MatrixModsSaid : Prop := matrixModsRow.holds Try.pinned (OpenSpec.ofChange matrixModsSpec)

/-- ITS FALSE NEIGHBOUR: 'it returns false'. Refute it at one input. -/
def matrixModsWrong : ChangeSpec := { name := "matrixMods", fn := fun _ => fun
  | [d1, d2] => { results := [.lit (.bool false)], args := [d1, d2] }
  | _ => none }
def MatrixModsWrongFalsely : Prop := matrixModsRow.holds Try.pinned (OpenSpec.ofChange matrixModsWrong)

/-- 'strongroomlaw07.MatrixNone': WHATEVER THE INPUT: true; the input reads as it did. -/
def matrixNoneSpec : ChangeSpec := { name := "matrixNone", fn := fun _ => fun
  | [d] => { results := [.lit (.bool true)], args := [d] }
  | _ => none }
def matrixNoneRow : OpenClaim := { program := "ytcgablfjjcdciaa", sum := "d64a63eadc9caccc54893378ee58518256c3b6f94566f8644314f33426d410a5", func := "strongroom/strongroomlaw07.MatrixNone", spec := "matrixNone", unfollowed := true, recurses := true, apart := false }
def MatrixNoneSaid : Prop := matrixNoneRow.holds Try.pinned (OpenSpec.ofChange matrixNoneSpec)

/-- ITS FALSE NEIGHBOUR: 'it returns false'. Refute it at one input. -/
def matrixNoneWrong : ChangeSpec := { name := "matrixNone", fn := fun _ => fun
  | [d] => { results := [.lit (.bool false)], args := [d] }
  | _ => none }
def MatrixNoneWrongFalsely : Prop := matrixNoneRow.holds Try.pinned (OpenSpec.ofChange matrixNoneWrong)

/-- 'strongroomlaw07.MatrixGroups': WHATEVER THE INPUT: true; the input reads as it did. -/
def matrixGroupsSpec : ChangeSpec := { name := "matrixGroups", fn := fun _ => fun
  | [d1, d2, d3, d4, d5] => { results := [.lit (.bool true)], args := [d1, d2, d3, d4, d5] }
  | _ => none }
def matrixGroupsRow : OpenClaim := { program := "ytcgablfjjcdciaa", sum := "d64a63eadc9caccc54893378ee58518256c3b6f94566f8644314f33426d410a5", func := "strongroom/strongroomlaw07.MatrixGroups", spec := "matrixGroups", unfollowed := true, recurses := true, apart := false }
def MatrixGroupsSaid : Prop := matrixGroupsRow.holds Try.pinned (OpenSpec.ofChange matrixGroupsSpec)

/-- ITS FALSE NEIGHBOUR: 'it returns false'. Refute it at one input. -/
def matrixGroupsWrong : ChangeSpec := { name := "matrixGroups", fn := fun _ => fun
  | [d1, d2, d3, d4, d5] => { results := [.lit (.bool false)], args := [d1, d2, d3, d4, d5] }
  | _ => none }
def MatrixGroupsWrongFalsely : Prop := matrixGroupsRow.holds Try.pinned (OpenSpec.ofChange matrixGroupsWrong)

/- THE SECOND FORM. 'bulk': how many values and letters a reading holds, each counted each time it is reached (what is shared counts as often as it is met; a slice's spare places count too). A statement '..UptoSaid' is the law's where the arguments, and the package variables that the reading takes, are together of bulk at most 1048576: NARROWER than '..Said'. Prove '..Said' where nothing that the law and all that it calls make is longer than what came in: it says more and counts as full. Else prove '..UptoSaid'. A law counts once. -/
mutual
def uptoBulk {H : Type} : DataW H → Nat
  | .lit (.string bytes) => bytes.length + 1
  | .lit _ => 1
  | .nil => 1
  | .ptr d => uptoBulk d + 1
  | .slice elems spare => uptoBulkAll elems + uptoBulkAll spare + 1
  | .agg parts => uptoBulkAll parts + 1
  | .iface _ d => uptoBulk d + 1
  | .map entries => uptoBulkEntries entries + 1
  | .held _ => 1
def uptoBulkAll {H : Type} : List (DataW H) → Nat
  | [] => 0
  | d :: r => uptoBulk d + uptoBulkAll r
def uptoBulkEntries {H : Type} : List (Lit × DataW H) → Nat
  | [] => 0
  | x :: r => uptoBulkEntry x + uptoBulkEntries r
def uptoBulkEntry {H : Type} : Lit × DataW H → Nat
  | (.string bytes, d) => bytes.length + uptoBulk d + 1
  | (_, d) => uptoBulk d + 1
 end
def uptoSmall : (H : Type) → List (DataW H) → Bool := fun _ ds => decide (uptoBulkAll ds ≤ 1048576)
def OpenSpec.upto (s : _root_.Go.ChangeSpec) : _root_.Go.OpenSpec := { _root_.Go.OpenSpec.ofChange s with cond := some uptoSmall }

/-- 'strongroomlaw07.MatrixMods', WHERE WHAT IT READS IS OF BULK AT MOST 1048576: true; the input reads as it did. -/
def matrixModsUptoRow : OpenClaim := { program := "ytcgablfjjcdciaa", sum := "d64a63eadc9caccc54893378ee58518256c3b6f94566f8644314f33426d410a5", func := "strongroom/strongroomlaw07.MatrixMods", spec := "matrixMods", apart := false, narrowed := true }
def MatrixModsUptoSaid : Prop := matrixModsUptoRow.holds Try.pinned (OpenSpec.upto matrixModsSpec)

/-- 'strongroomlaw07.MatrixNone', WHERE WHAT IT READS IS OF BULK AT MOST 1048576: true; the input reads as it did. -/
def matrixNoneUptoRow : OpenClaim := { program := "ytcgablfjjcdciaa", sum := "d64a63eadc9caccc54893378ee58518256c3b6f94566f8644314f33426d410a5", func := "strongroom/strongroomlaw07.MatrixNone", spec := "matrixNone", unfollowed := true, recurses := true, apart := false, narrowed := true }
def MatrixNoneUptoSaid : Prop := matrixNoneUptoRow.holds Try.pinned (OpenSpec.upto matrixNoneSpec)

/-- 'strongroomlaw07.MatrixGroups', WHERE WHAT IT READS IS OF BULK AT MOST 1048576: true; the input reads as it did. -/
def matrixGroupsUptoRow : OpenClaim := { program := "ytcgablfjjcdciaa", sum := "d64a63eadc9caccc54893378ee58518256c3b6f94566f8644314f33426d410a5", func := "strongroom/strongroomlaw07.MatrixGroups", spec := "matrixGroups", unfollowed := true, recurses := true, apart := false, narrowed := true }
def MatrixGroupsUptoSaid : Prop := matrixGroupsUptoRow.holds Try.pinned (OpenSpec.upto matrixGroupsSpec)

end Rows
end Go.Proofs.Ytcgablfjjcdciaa
