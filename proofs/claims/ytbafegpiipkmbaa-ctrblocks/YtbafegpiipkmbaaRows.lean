/-
  No cell of these rows narrows 'for every input' (looked for: loops, veiled, ifaces, maps, wideKeys, modest, calm, conditions, laid).
  DERIVED. THE GIVEN ROWS OF THIS SEAT. 6 by the template 'for every input the law returns true; each argument reads behind the call as it read before'; 0 by the template 'total and deterministic' (their statements: YtbafegpiipkmbaaTotals.lean).
  GIVEN WITH THE SEED: the statements are not yours to turn. If you find one false, say at which input.
  Laid BY PROGRAM, IN A SANDBOX (cutbox-rows.mjs): the forced cells as the released guide's own fill.sh prints them over the translation da137adfebc01d41… (all of the seat's roots in one cut). By AI agents, Wed Nov 11 2026. No macro, syntax, notation, axiom, sorry.
-/
import Derived.Test.YtbafegpiipkmbaaChecked
import GoSem.Claim
import GoSem.ClaimJoined
import GoSem.ClaimMapViews
import Derived.JoinedTies
import Derived.KernelRfl
namespace Go.Proofs.Ytbafegpiipkmbaa
/- THE CELL 'sum', in the pinned program and in every row, IS THE sha256 OF THE DUMP (.gsa) THAT YtbafegpiipkmbaaProg.lean LOADS. Nothing in Lean hashes anything: it is a label: what it is worth is what the hold of that sum in a sandbox is worth. -/
noncomputable def Try.pinned : Pinned := { name := "ytbafegpiipkmbaa", sum := "da137adfebc01d41b43a94692357cf1162af3ca20de8eaa4e603bace6f554d67", checked := Try.checked }
namespace Rows
def none {H : Type} : Left H := { results := [], args := [] }

/-- 'strongroomlaw04.CtrBlocks': WHATEVER THE INPUT: true; the input reads as it did. -/
def ctrBlocksSpec : ChangeSpec := { name := "ctrBlocks", fn := fun _ => fun
  | [d1, d2, d3] => { results := [.lit (.bool true)], args := [d1, d2, d3] }
  | _ => none }
def ctrBlocksRow : OpenClaim := { program := "ytbafegpiipkmbaa", sum := "da137adfebc01d41b43a94692357cf1162af3ca20de8eaa4e603bace6f554d67", func := "strongroom/strongroomlaw04.CtrBlocks", spec := "ctrBlocks", unfollowed := true, recurses := true, apart := false }
def CtrBlocksSaid : Prop := ctrBlocksRow.holds Try.pinned (OpenSpec.ofChange ctrBlocksSpec)

/-- ITS FALSE NEIGHBOUR: 'it returns false'. Refute it at one input. -/
def ctrBlocksWrong : ChangeSpec := { name := "ctrBlocks", fn := fun _ => fun
  | [d1, d2, d3] => { results := [.lit (.bool false)], args := [d1, d2, d3] }
  | _ => none }
def CtrBlocksWrongFalsely : Prop := ctrBlocksRow.holds Try.pinned (OpenSpec.ofChange ctrBlocksWrong)

/-- 'strongroomlaw04.CtrApply': WHATEVER THE INPUT: true; the input reads as it did. -/
def ctrApplySpec : ChangeSpec := { name := "ctrApply", fn := fun _ => fun
  | [d1, d2, d3, d4] => { results := [.lit (.bool true)], args := [d1, d2, d3, d4] }
  | _ => none }
def ctrApplyRow : OpenClaim := { program := "ytbafegpiipkmbaa", sum := "da137adfebc01d41b43a94692357cf1162af3ca20de8eaa4e603bace6f554d67", func := "strongroom/strongroomlaw04.CtrApply", spec := "ctrApply", unfollowed := true, recurses := true, apart := false }
def CtrApplySaid : Prop := ctrApplyRow.holds Try.pinned (OpenSpec.ofChange ctrApplySpec)

/-- ITS FALSE NEIGHBOUR: 'it returns false'. Refute it at one input. -/
def ctrApplyWrong : ChangeSpec := { name := "ctrApply", fn := fun _ => fun
  | [d1, d2, d3, d4] => { results := [.lit (.bool false)], args := [d1, d2, d3, d4] }
  | _ => none }
def CtrApplyWrongFalsely : Prop := ctrApplyRow.holds Try.pinned (OpenSpec.ofChange ctrApplyWrong)

/-- 'strongroomlaw04.CtrCiphers': WHATEVER THE INPUT: true; the input reads as it did. -/
def ctrCiphersSpec : ChangeSpec := { name := "ctrCiphers", fn := fun _ => fun
  | [d1, d2, d3] => { results := [.lit (.bool true)], args := [d1, d2, d3] }
  | _ => none }
def ctrCiphersRow : OpenClaim := { program := "ytbafegpiipkmbaa", sum := "da137adfebc01d41b43a94692357cf1162af3ca20de8eaa4e603bace6f554d67", func := "strongroom/strongroomlaw04.CtrCiphers", spec := "ctrCiphers", unfollowed := true, recurses := true, apart := false }
def CtrCiphersSaid : Prop := ctrCiphersRow.holds Try.pinned (OpenSpec.ofChange ctrCiphersSpec)

/-- ITS FALSE NEIGHBOUR: 'it returns false'. Refute it at one input. -/
def ctrCiphersWrong : ChangeSpec := { name := "ctrCiphers", fn := fun _ => fun
  | [d1, d2, d3] => { results := [.lit (.bool false)], args := [d1, d2, d3] }
  | _ => none }
def CtrCiphersWrongFalsely : Prop := ctrCiphersRow.holds Try.pinned (OpenSpec.ofChange ctrCiphersWrong)

/-- 'strongroomlaw04.CtrBack': WHATEVER THE INPUT: true; the input reads as it did. -/
def ctrBackSpec : ChangeSpec := { name := "ctrBack", fn := fun _ => fun
  | [d1, d2, d3] => { results := [.lit (.bool true)], args := [d1, d2, d3] }
  | _ => none }
def ctrBackRow : OpenClaim := { program := "ytbafegpiipkmbaa", sum := "da137adfebc01d41b43a94692357cf1162af3ca20de8eaa4e603bace6f554d67", func := "strongroom/strongroomlaw04.CtrBack", spec := "ctrBack", unfollowed := true, recurses := true, apart := false }
def CtrBackSaid : Prop := ctrBackRow.holds Try.pinned (OpenSpec.ofChange ctrBackSpec)

/-- ITS FALSE NEIGHBOUR: 'it returns false'. Refute it at one input. -/
def ctrBackWrong : ChangeSpec := { name := "ctrBack", fn := fun _ => fun
  | [d1, d2, d3] => { results := [.lit (.bool false)], args := [d1, d2, d3] }
  | _ => none }
def CtrBackWrongFalsely : Prop := ctrBackRow.holds Try.pinned (OpenSpec.ofChange ctrBackWrong)

/-- 'strongroomlaw04.CtrPieces': WHATEVER THE INPUT: true; the input reads as it did. -/
def ctrPiecesSpec : ChangeSpec := { name := "ctrPieces", fn := fun _ => fun
  | [d1, d2, d3, d4] => { results := [.lit (.bool true)], args := [d1, d2, d3, d4] }
  | _ => none }
def ctrPiecesRow : OpenClaim := { program := "ytbafegpiipkmbaa", sum := "da137adfebc01d41b43a94692357cf1162af3ca20de8eaa4e603bace6f554d67", func := "strongroom/strongroomlaw04.CtrPieces", spec := "ctrPieces", unfollowed := true, recurses := true, apart := false }
def CtrPiecesSaid : Prop := ctrPiecesRow.holds Try.pinned (OpenSpec.ofChange ctrPiecesSpec)

/-- ITS FALSE NEIGHBOUR: 'it returns false'. Refute it at one input. -/
def ctrPiecesWrong : ChangeSpec := { name := "ctrPieces", fn := fun _ => fun
  | [d1, d2, d3, d4] => { results := [.lit (.bool false)], args := [d1, d2, d3, d4] }
  | _ => none }
def CtrPiecesWrongFalsely : Prop := ctrPiecesRow.holds Try.pinned (OpenSpec.ofChange ctrPiecesWrong)

/-- 'strongroomlaw04.CtrTurned': WHATEVER THE INPUT: true; the input reads as it did. -/
def ctrTurnedSpec : ChangeSpec := { name := "ctrTurned", fn := fun _ => fun
  | [d1, d2, d3, d4, d5] => { results := [.lit (.bool true)], args := [d1, d2, d3, d4, d5] }
  | _ => none }
def ctrTurnedRow : OpenClaim := { program := "ytbafegpiipkmbaa", sum := "da137adfebc01d41b43a94692357cf1162af3ca20de8eaa4e603bace6f554d67", func := "strongroom/strongroomlaw04.CtrTurned", spec := "ctrTurned", unfollowed := true, recurses := true, apart := false }
def CtrTurnedSaid : Prop := ctrTurnedRow.holds Try.pinned (OpenSpec.ofChange ctrTurnedSpec)

/-- ITS FALSE NEIGHBOUR: 'it returns false'. Refute it at one input. -/
def ctrTurnedWrong : ChangeSpec := { name := "ctrTurned", fn := fun _ => fun
  | [d1, d2, d3, d4, d5] => { results := [.lit (.bool false)], args := [d1, d2, d3, d4, d5] }
  | _ => none }
def CtrTurnedWrongFalsely : Prop := ctrTurnedRow.holds Try.pinned (OpenSpec.ofChange ctrTurnedWrong)

/- THE SECOND FORM. 'bulk': how many values and letters a reading holds, each counted each time it is reached (what is shared counts as often as it is met; a slice's spare places count too). A statement '..UptoSaid' is the law's where the arguments, and the package variables that the reading takes, are together of bulk at most 1048576: NARROWER than '..Said'. Prove '..Said' where nothing that the law and all that it calls make is longer than what came in: it says more and counts as full. Else prove '..UptoSaid'. A law counts once. -/
mutual
def uptoBulk {H : Type} : DataW H → Nat
  | .lit (.string bytes) => bytes.length + 1
  | .lit _ => 1
  | .nil => 1
  | .ptr d => uptoBulk d + 1
  | .slice elems spare => uptoBulkAll elems + uptoBulkAll spare + 1
  | .agg parts => uptoBulkAll parts + 1
  | .iface _ d => uptoBulk d + 1
  | .map entries => uptoBulkEntries entries + 1
  | .held _ => 1
def uptoBulkAll {H : Type} : List (DataW H) → Nat
  | [] => 0
  | d :: r => uptoBulk d + uptoBulkAll r
def uptoBulkEntries {H : Type} : List (Lit × DataW H) → Nat
  | [] => 0
  | x :: r => uptoBulkEntry x + uptoBulkEntries r
def uptoBulkEntry {H : Type} : Lit × DataW H → Nat
  | (.string bytes, d) => bytes.length + uptoBulk d + 1
  | (_, d) => uptoBulk d + 1
 end
def uptoSmall : (H : Type) → List (DataW H) → Bool := fun _ ds => decide (uptoBulkAll ds ≤ 1048576)
def OpenSpec.upto (s : _root_.Go.ChangeSpec) : _root_.Go.OpenSpec := { _root_.Go.OpenSpec.ofChange s with cond := some uptoSmall }

/-- 'strongroomlaw04.CtrBlocks', WHERE WHAT IT READS IS OF BULK AT MOST 1048576: true; the input reads as it did. -/
def ctrBlocksUptoRow : OpenClaim := { program := "ytbafegpiipkmbaa", sum := "da137adfebc01d41b43a94692357cf1162af3ca20de8eaa4e603bace6f554d67", func := "strongroom/strongroomlaw04.CtrBlocks", spec := "ctrBlocks", unfollowed := true, recurses := true, apart := false, narrowed := true }
def CtrBlocksUptoSaid : Prop := ctrBlocksUptoRow.holds Try.pinned (OpenSpec.upto ctrBlocksSpec)

/-- 'strongroomlaw04.CtrApply', WHERE WHAT IT READS IS OF BULK AT MOST 1048576: true; the input reads as it did. -/
def ctrApplyUptoRow : OpenClaim := { program := "ytbafegpiipkmbaa", sum := "da137adfebc01d41b43a94692357cf1162af3ca20de8eaa4e603bace6f554d67", func := "strongroom/strongroomlaw04.CtrApply", spec := "ctrApply", unfollowed := true, recurses := true, apart := false, narrowed := true }
def CtrApplyUptoSaid : Prop := ctrApplyUptoRow.holds Try.pinned (OpenSpec.upto ctrApplySpec)

/-- 'strongroomlaw04.CtrCiphers', WHERE WHAT IT READS IS OF BULK AT MOST 1048576: true; the input reads as it did. -/
def ctrCiphersUptoRow : OpenClaim := { program := "ytbafegpiipkmbaa", sum := "da137adfebc01d41b43a94692357cf1162af3ca20de8eaa4e603bace6f554d67", func := "strongroom/strongroomlaw04.CtrCiphers", spec := "ctrCiphers", unfollowed := true, recurses := true, apart := false, narrowed := true }
def CtrCiphersUptoSaid : Prop := ctrCiphersUptoRow.holds Try.pinned (OpenSpec.upto ctrCiphersSpec)

/-- 'strongroomlaw04.CtrBack', WHERE WHAT IT READS IS OF BULK AT MOST 1048576: true; the input reads as it did. -/
def ctrBackUptoRow : OpenClaim := { program := "ytbafegpiipkmbaa", sum := "da137adfebc01d41b43a94692357cf1162af3ca20de8eaa4e603bace6f554d67", func := "strongroom/strongroomlaw04.CtrBack", spec := "ctrBack", unfollowed := true, recurses := true, apart := false, narrowed := true }
def CtrBackUptoSaid : Prop := ctrBackUptoRow.holds Try.pinned (OpenSpec.upto ctrBackSpec)

/-- 'strongroomlaw04.CtrPieces', WHERE WHAT IT READS IS OF BULK AT MOST 1048576: true; the input reads as it did. -/
def ctrPiecesUptoRow : OpenClaim := { program := "ytbafegpiipkmbaa", sum := "da137adfebc01d41b43a94692357cf1162af3ca20de8eaa4e603bace6f554d67", func := "strongroom/strongroomlaw04.CtrPieces", spec := "ctrPieces", unfollowed := true, recurses := true, apart := false, narrowed := true }
def CtrPiecesUptoSaid : Prop := ctrPiecesUptoRow.holds Try.pinned (OpenSpec.upto ctrPiecesSpec)

/-- 'strongroomlaw04.CtrTurned', WHERE WHAT IT READS IS OF BULK AT MOST 1048576: true; the input reads as it did. -/
def ctrTurnedUptoRow : OpenClaim := { program := "ytbafegpiipkmbaa", sum := "da137adfebc01d41b43a94692357cf1162af3ca20de8eaa4e603bace6f554d67", func := "strongroom/strongroomlaw04.CtrTurned", spec := "ctrTurned", unfollowed := true, recurses := true, apart := false, narrowed := true }
def CtrTurnedUptoSaid : Prop := ctrTurnedUptoRow.holds Try.pinned (OpenSpec.upto ctrTurnedSpec)

end Rows
end Go.Proofs.Ytbafegpiipkmbaa
