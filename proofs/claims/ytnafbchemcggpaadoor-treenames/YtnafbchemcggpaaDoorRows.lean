/-
  NARROWER THAN 'FOR EVERY INPUT', by the rows' own cells (each row's printed sentence says how): TreeCalls: laid · TreeDiffers: laid · TreeNames: laid · ProofPlays: laid · ProofPuts: laid · ProofServes: laid.
  DERIVED. THE GIVEN ROWS OF THIS SEAT. 6 by the template 'for every input the law returns true; each argument reads behind the call as it read before'; 0 by the template 'total and deterministic' (their statements: YtnafbchemcggpaaDoorTotals.lean).
  GIVEN WITH THE SEED: the statements are not yours to turn. If you find one false, say at which input.
  Laid BY PROGRAM, IN A SANDBOX (cutbox-rows.mjs): the forced cells as the released guide's own fill.sh prints them over the translation 29e49f20fb646e75… (all of the seat's roots in one cut). By AI agents, Wed Nov 11 2026. No macro, syntax, notation, axiom, sorry.
-/
import Derived.Test.YtnafbchemcggpaaDoorChecked
import GoSem.Claim
import GoSem.ClaimJoined
import GoSem.ClaimMapViews
import Derived.JoinedTies
import Derived.KernelRfl
namespace Go.Proofs.YtnafbchemcggpaaDoor
/- THE CELL 'sum', in the pinned program and in every row, IS THE sha256 OF THE DUMP (.gsa) THAT YtnafbchemcggpaaDoorProg.lean LOADS. Nothing in Lean hashes anything: it is a label: what it is worth is what the hold of that sum in a sandbox is worth. -/
noncomputable def Tryd.pinned : Pinned := { name := "ytnafbchemcggpaadoor", sum := "29e49f20fb646e7507863f3464c74215ff04943c50b1d61010de50f6e65a00be", checked := Tryd.checked }
namespace Rows
def none {H : Type} : Left H := { results := [], args := [] }

/- WHAT THE LISTED PACKAGE-LEVEL VARIABLES READ AS WHEN THE CALL BEGINS. Each datum BY PROGRAM (the guide's laid-datum.mjs) off the statement by which the dump's own 'gosem.cut.vars' lays the variable. In a bare row this is a premise. The card (YtnafbchemcggpaaDoorCards.lean) ties it to the program's text. -/
def laid_strongroom_sha_constants {H : Type} : DataW H := .agg [.lit (.int .u32 1116352408), .lit (.int .u32 1899447441), .lit (.int .u32 3049323471), .lit (.int .u32 3921009573), .lit (.int .u32 961987163), .lit (.int .u32 1508970993), .lit (.int .u32 2453635748), .lit (.int .u32 2870763221), .lit (.int .u32 3624381080), .lit (.int .u32 310598401), .lit (.int .u32 607225278), .lit (.int .u32 1426881987), .lit (.int .u32 1925078388), .lit (.int .u32 2162078206), .lit (.int .u32 2614888103), .lit (.int .u32 3248222580), .lit (.int .u32 3835390401), .lit (.int .u32 4022224774), .lit (.int .u32 264347078), .lit (.int .u32 604807628), .lit (.int .u32 770255983), .lit (.int .u32 1249150122), .lit (.int .u32 1555081692), .lit (.int .u32 1996064986), .lit (.int .u32 2554220882), .lit (.int .u32 2821834349), .lit (.int .u32 2952996808), .lit (.int .u32 3210313671), .lit (.int .u32 3336571891), .lit (.int .u32 3584528711), .lit (.int .u32 113926993), .lit (.int .u32 338241895), .lit (.int .u32 666307205), .lit (.int .u32 773529912), .lit (.int .u32 1294757372), .lit (.int .u32 1396182291), .lit (.int .u32 1695183700), .lit (.int .u32 1986661051), .lit (.int .u32 2177026350), .lit (.int .u32 2456956037), .lit (.int .u32 2730485921), .lit (.int .u32 2820302411), .lit (.int .u32 3259730800), .lit (.int .u32 3345764771), .lit (.int .u32 3516065817), .lit (.int .u32 3600352804), .lit (.int .u32 4094571909), .lit (.int .u32 275423344), .lit (.int .u32 430227734), .lit (.int .u32 506948616), .lit (.int .u32 659060556), .lit (.int .u32 883997877), .lit (.int .u32 958139571), .lit (.int .u32 1322822218), .lit (.int .u32 1537002063), .lit (.int .u32 1747873779), .lit (.int .u32 1955562222), .lit (.int .u32 2024104815), .lit (.int .u32 2227730452), .lit (.int .u32 2361852424), .lit (.int .u32 2428436474), .lit (.int .u32 2756734187), .lit (.int .u32 3204031479), .lit (.int .u32 3329325298)]

/-- 'strongroomlaw11.TreeCalls': WHATEVER THE INPUT: true; the input reads as it did. -/
def treeCallsSpec : ChangeSpec := { name := "treeCalls", fn := fun _ => fun
  | [d] => { results := [.lit (.bool true)], args := [d] }
  | _ => none }
def treeCallsRow : OpenClaim := { program := "ytnafbchemcggpaadoor", sum := "29e49f20fb646e7507863f3464c74215ff04943c50b1d61010de50f6e65a00be", func := "strongroom/strongroomlaw11.TreeCalls", spec := "treeCalls", unfollowed := true, recurses := true, named := ["strongroom/sha.constants"], apart := false, laid := [("strongroom/sha.constants", laid_strongroom_sha_constants)] }
def TreeCallsSaid : Prop := treeCallsRow.holds Tryd.pinned (OpenSpec.ofChange treeCallsSpec)

/-- ITS FALSE NEIGHBOUR: 'it returns false'. Refute it at one input. -/
def treeCallsWrong : ChangeSpec := { name := "treeCalls", fn := fun _ => fun
  | [d] => { results := [.lit (.bool false)], args := [d] }
  | _ => none }
def TreeCallsWrongFalsely : Prop := treeCallsRow.holds Tryd.pinned (OpenSpec.ofChange treeCallsWrong)

/-- 'strongroomlaw11.TreeDiffers': WHATEVER THE INPUT: true; the input reads as it did. -/
def treeDiffersSpec : ChangeSpec := { name := "treeDiffers", fn := fun _ => fun
  | [d1, d2] => { results := [.lit (.bool true)], args := [d1, d2] }
  | _ => none }
def treeDiffersRow : OpenClaim := { program := "ytnafbchemcggpaadoor", sum := "29e49f20fb646e7507863f3464c74215ff04943c50b1d61010de50f6e65a00be", func := "strongroom/strongroomlaw11.TreeDiffers", spec := "treeDiffers", unfollowed := true, recurses := true, named := ["strongroom/sha.constants"], apart := false, laid := [("strongroom/sha.constants", laid_strongroom_sha_constants)] }
def TreeDiffersSaid : Prop := treeDiffersRow.holds Tryd.pinned (OpenSpec.ofChange treeDiffersSpec)

/-- ITS FALSE NEIGHBOUR: 'it returns false'. Refute it at one input. -/
def treeDiffersWrong : ChangeSpec := { name := "treeDiffers", fn := fun _ => fun
  | [d1, d2] => { results := [.lit (.bool false)], args := [d1, d2] }
  | _ => none }
def TreeDiffersWrongFalsely : Prop := treeDiffersRow.holds Tryd.pinned (OpenSpec.ofChange treeDiffersWrong)

/-- 'strongroomlaw11.TreeNames': WHATEVER THE INPUT: true; the input reads as it did. -/
def treeNamesSpec : ChangeSpec := { name := "treeNames", fn := fun _ => fun
  | [] => { results := [.lit (.bool true)], args := [] }
  | _ => none }
def treeNamesRow : OpenClaim := { program := "ytnafbchemcggpaadoor", sum := "29e49f20fb646e7507863f3464c74215ff04943c50b1d61010de50f6e65a00be", func := "strongroom/strongroomlaw11.TreeNames", spec := "treeNames", unfollowed := true, recurses := true, named := ["strongroom/sha.constants"], apart := false, laid := [("strongroom/sha.constants", laid_strongroom_sha_constants)] }
def TreeNamesSaid : Prop := treeNamesRow.holds Tryd.pinned (OpenSpec.ofChange treeNamesSpec)

/-- ITS FALSE NEIGHBOUR: 'it returns false'. Refute it at one input. -/
def treeNamesWrong : ChangeSpec := { name := "treeNames", fn := fun _ => fun
  | [] => { results := [.lit (.bool false)], args := [] }
  | _ => none }
def TreeNamesWrongFalsely : Prop := treeNamesRow.holds Tryd.pinned (OpenSpec.ofChange treeNamesWrong)

/-- 'strongroomlaw12.ProofPlays': WHATEVER THE INPUT: true; the input reads as it did. -/
def proofPlaysSpec : ChangeSpec := { name := "proofPlays", fn := fun _ => fun
  | [d1, d2, d3, d4, d5] => { results := [.lit (.bool true)], args := [d1, d2, d3, d4, d5] }
  | _ => none }
def proofPlaysRow : OpenClaim := { program := "ytnafbchemcggpaadoor", sum := "29e49f20fb646e7507863f3464c74215ff04943c50b1d61010de50f6e65a00be", func := "strongroom/strongroomlaw12.ProofPlays", spec := "proofPlays", inPlace := ["maps.clone"], unfollowed := true, recurses := true, named := ["strongroom/sha.constants"], apart := false, laid := [("strongroom/sha.constants", laid_strongroom_sha_constants)] }
def ProofPlaysSaid : Prop := proofPlaysRow.holds Tryd.pinned (OpenSpec.ofChange proofPlaysSpec)

/-- ITS FALSE NEIGHBOUR: 'it returns false'. Refute it at one input. -/
def proofPlaysWrong : ChangeSpec := { name := "proofPlays", fn := fun _ => fun
  | [d1, d2, d3, d4, d5] => { results := [.lit (.bool false)], args := [d1, d2, d3, d4, d5] }
  | _ => none }
def ProofPlaysWrongFalsely : Prop := proofPlaysRow.holds Tryd.pinned (OpenSpec.ofChange proofPlaysWrong)

/-- 'strongroomlaw12.ProofPuts': WHATEVER THE INPUT: true; the input reads as it did. -/
def proofPutsSpec : ChangeSpec := { name := "proofPuts", fn := fun _ => fun
  | [d1, d2, d3, d4] => { results := [.lit (.bool true)], args := [d1, d2, d3, d4] }
  | _ => none }
def proofPutsRow : OpenClaim := { program := "ytnafbchemcggpaadoor", sum := "29e49f20fb646e7507863f3464c74215ff04943c50b1d61010de50f6e65a00be", func := "strongroom/strongroomlaw12.ProofPuts", spec := "proofPuts", inPlace := ["maps.clone"], unfollowed := true, recurses := true, named := ["strongroom/sha.constants"], apart := false, laid := [("strongroom/sha.constants", laid_strongroom_sha_constants)] }
def ProofPutsSaid : Prop := proofPutsRow.holds Tryd.pinned (OpenSpec.ofChange proofPutsSpec)

/-- ITS FALSE NEIGHBOUR: 'it returns false'. Refute it at one input. -/
def proofPutsWrong : ChangeSpec := { name := "proofPuts", fn := fun _ => fun
  | [d1, d2, d3, d4] => { results := [.lit (.bool false)], args := [d1, d2, d3, d4] }
  | _ => none }
def ProofPutsWrongFalsely : Prop := proofPutsRow.holds Tryd.pinned (OpenSpec.ofChange proofPutsWrong)

/-- 'strongroomlaw12.ProofServes': WHATEVER THE INPUT: true; the input reads as it did. -/
def proofServesSpec : ChangeSpec := { name := "proofServes", fn := fun _ => fun
  | [d1, d2, d3] => { results := [.lit (.bool true)], args := [d1, d2, d3] }
  | _ => none }
def proofServesRow : OpenClaim := { program := "ytnafbchemcggpaadoor", sum := "29e49f20fb646e7507863f3464c74215ff04943c50b1d61010de50f6e65a00be", func := "strongroom/strongroomlaw12.ProofServes", spec := "proofServes", inPlace := ["maps.clone"], unfollowed := true, recurses := true, named := ["strongroom/sha.constants"], apart := false, laid := [("strongroom/sha.constants", laid_strongroom_sha_constants)] }
def ProofServesSaid : Prop := proofServesRow.holds Tryd.pinned (OpenSpec.ofChange proofServesSpec)

/-- ITS FALSE NEIGHBOUR: 'it returns false'. Refute it at one input. -/
def proofServesWrong : ChangeSpec := { name := "proofServes", fn := fun _ => fun
  | [d1, d2, d3] => { results := [.lit (.bool false)], args := [d1, d2, d3] }
  | _ => none }
def ProofServesWrongFalsely : Prop := proofServesRow.holds Tryd.pinned (OpenSpec.ofChange proofServesWrong)

/- THE SECOND FORM. 'bulk': how many values and letters a reading holds, each counted each time it is reached (what is shared counts as often as it is met; a slice's spare places count too). A statement '..UptoSaid' is the law's where the arguments, and the package variables that the reading takes, are together of bulk at most 1048576: NARROWER than '..Said'. Prove '..Said' where nothing that the law and all that it calls make is longer than what came in: it says more and counts as full. Else prove '..UptoSaid'. A law counts once. -/
mutual
def uptoBulk {H : Type} : DataW H → Nat
  | .lit (.string bytes) => bytes.length + 1
  | .lit _ => 1
  | .nil => 1
  | .ptr d => uptoBulk d + 1
  | .slice elems spare => uptoBulkAll elems + uptoBulkAll spare + 1
  | .agg parts => uptoBulkAll parts + 1
  | .iface _ d => uptoBulk d + 1
  | .map entries => uptoBulkEntries entries + 1
  | .held _ => 1
def uptoBulkAll {H : Type} : List (DataW H) → Nat
  | [] => 0
  | d :: r => uptoBulk d + uptoBulkAll r
def uptoBulkEntries {H : Type} : List (Lit × DataW H) → Nat
  | [] => 0
  | x :: r => uptoBulkEntry x + uptoBulkEntries r
def uptoBulkEntry {H : Type} : Lit × DataW H → Nat
  | (.string bytes, d) => bytes.length + uptoBulk d + 1
  | (_, d) => uptoBulk d + 1
 end
def uptoSmall : (H : Type) → List (DataW H) → Bool := fun _ ds => decide (uptoBulkAll ds ≤ 1048576)
def OpenSpec.upto (s : _root_.Go.ChangeSpec) : _root_.Go.OpenSpec := { _root_.Go.OpenSpec.ofChange s with cond := some uptoSmall }

/-- 'strongroomlaw11.TreeCalls', WHERE WHAT IT READS IS OF BULK AT MOST 1048576: true; the input reads as it did. -/
def treeCallsUptoRow : OpenClaim := { program := "ytnafbchemcggpaadoor", sum := "29e49f20fb646e7507863f3464c74215ff04943c50b1d61010de50f6e65a00be", func := "strongroom/strongroomlaw11.TreeCalls", spec := "treeCalls", unfollowed := true, recurses := true, named := ["strongroom/sha.constants"], apart := false, laid := [("strongroom/sha.constants", laid_strongroom_sha_constants)], narrowed := true }
def TreeCallsUptoSaid : Prop := treeCallsUptoRow.holds Tryd.pinned (OpenSpec.upto treeCallsSpec)

/-- 'strongroomlaw11.TreeDiffers', WHERE WHAT IT READS IS OF BULK AT MOST 1048576: true; the input reads as it did. -/
def treeDiffersUptoRow : OpenClaim := { program := "ytnafbchemcggpaadoor", sum := "29e49f20fb646e7507863f3464c74215ff04943c50b1d61010de50f6e65a00be", func := "strongroom/strongroomlaw11.TreeDiffers", spec := "treeDiffers", unfollowed := true, recurses := true, named := ["strongroom/sha.constants"], apart := false, laid := [("strongroom/sha.constants", laid_strongroom_sha_constants)], narrowed := true }
def TreeDiffersUptoSaid : Prop := treeDiffersUptoRow.holds Tryd.pinned (OpenSpec.upto treeDiffersSpec)

/-- 'strongroomlaw11.TreeNames', WHERE WHAT IT READS IS OF BULK AT MOST 1048576: true; the input reads as it did. -/
def treeNamesUptoRow : OpenClaim := { program := "ytnafbchemcggpaadoor", sum := "29e49f20fb646e7507863f3464c74215ff04943c50b1d61010de50f6e65a00be", func := "strongroom/strongroomlaw11.TreeNames", spec := "treeNames", unfollowed := true, recurses := true, named := ["strongroom/sha.constants"], apart := false, laid := [("strongroom/sha.constants", laid_strongroom_sha_constants)], narrowed := true }
def TreeNamesUptoSaid : Prop := treeNamesUptoRow.holds Tryd.pinned (OpenSpec.upto treeNamesSpec)

/-- 'strongroomlaw12.ProofPlays', WHERE WHAT IT READS IS OF BULK AT MOST 1048576: true; the input reads as it did. -/
def proofPlaysUptoRow : OpenClaim := { program := "ytnafbchemcggpaadoor", sum := "29e49f20fb646e7507863f3464c74215ff04943c50b1d61010de50f6e65a00be", func := "strongroom/strongroomlaw12.ProofPlays", spec := "proofPlays", inPlace := ["maps.clone"], unfollowed := true, recurses := true, named := ["strongroom/sha.constants"], apart := false, laid := [("strongroom/sha.constants", laid_strongroom_sha_constants)], narrowed := true }
def ProofPlaysUptoSaid : Prop := proofPlaysUptoRow.holds Tryd.pinned (OpenSpec.upto proofPlaysSpec)

/-- 'strongroomlaw12.ProofPuts', WHERE WHAT IT READS IS OF BULK AT MOST 1048576: true; the input reads as it did. -/
def proofPutsUptoRow : OpenClaim := { program := "ytnafbchemcggpaadoor", sum := "29e49f20fb646e7507863f3464c74215ff04943c50b1d61010de50f6e65a00be", func := "strongroom/strongroomlaw12.ProofPuts", spec := "proofPuts", inPlace := ["maps.clone"], unfollowed := true, recurses := true, named := ["strongroom/sha.constants"], apart := false, laid := [("strongroom/sha.constants", laid_strongroom_sha_constants)], narrowed := true }
def ProofPutsUptoSaid : Prop := proofPutsUptoRow.holds Tryd.pinned (OpenSpec.upto proofPutsSpec)

/-- 'strongroomlaw12.ProofServes', WHERE WHAT IT READS IS OF BULK AT MOST 1048576: true; the input reads as it did. -/
def proofServesUptoRow : OpenClaim := { program := "ytnafbchemcggpaadoor", sum := "29e49f20fb646e7507863f3464c74215ff04943c50b1d61010de50f6e65a00be", func := "strongroom/strongroomlaw12.ProofServes", spec := "proofServes", inPlace := ["maps.clone"], unfollowed := true, recurses := true, named := ["strongroom/sha.constants"], apart := false, laid := [("strongroom/sha.constants", laid_strongroom_sha_constants)], narrowed := true }
def ProofServesUptoSaid : Prop := proofServesUptoRow.holds Tryd.pinned (OpenSpec.upto proofServesSpec)

end Rows
end Go.Proofs.YtnafbchemcggpaaDoor
