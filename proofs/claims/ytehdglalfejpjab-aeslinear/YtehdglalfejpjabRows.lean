/-
  No cell of these rows narrows 'for every input' (looked for: loops, veiled, ifaces, maps, wideKeys, modest, calm, conditions, laid).
  DERIVED. THE GIVEN ROWS OF THIS SEAT. 5 by the template 'for every input the law returns true; each argument reads behind the call as it read before'; 0 by the template 'total and deterministic' (their statements: YtehdglalfejpjabTotals.lean).
  GIVEN WITH THE SEED: the statements are not yours to turn. If you find one false, say at which input.
  Laid BY PROGRAM, IN A SANDBOX (cutbox-rows.mjs): the forced cells as the released guide's own fill.sh prints them over the translation f402dd335d2da0b8… (all of the seat's roots in one cut). By AI agents, Wed Nov 11 2026. No macro, syntax, notation, axiom, sorry.
-/
import Derived.Test.YtehdglalfejpjabChecked
import GoSem.Claim
import GoSem.ClaimJoined
import GoSem.ClaimMapViews
import Derived.JoinedTies
import Derived.KernelRfl
namespace Go.Proofs.Ytehdglalfejpjab
/- THE CELL 'sum', in the pinned program and in every row, IS THE sha256 OF THE DUMP (.gsa) THAT YtehdglalfejpjabProg.lean LOADS. Nothing in Lean hashes anything: it is a label: what it is worth is what the hold of that sum in a sandbox is worth. -/
noncomputable def Try.pinned : Pinned := { name := "ytehdglalfejpjab", sum := "f402dd335d2da0b8723280a0461ecaaccab3dcdc913cf1df2d757aa34b4a02bf", checked := Try.checked }
namespace Rows
def none {H : Type} : Left H := { results := [], args := [] }

/-- 'strongroomlaw03.AesNil': WHATEVER THE INPUT: true; the input reads as it did. -/
def aesNilSpec : ChangeSpec := { name := "aesNil", fn := fun _ => fun
  | [d] => { results := [.lit (.bool true)], args := [d] }
  | _ => none }
def aesNilRow : OpenClaim := { program := "ytehdglalfejpjab", sum := "f402dd335d2da0b8723280a0461ecaaccab3dcdc913cf1df2d757aa34b4a02bf", func := "strongroom/strongroomlaw03.AesNil", spec := "aesNil", unfollowed := true, recurses := true, apart := false }
def AesNilSaid : Prop := aesNilRow.holds Try.pinned (OpenSpec.ofChange aesNilSpec)

/-- ITS FALSE NEIGHBOUR: 'it returns false'. Refute it at one input. -/
def aesNilWrong : ChangeSpec := { name := "aesNil", fn := fun _ => fun
  | [d] => { results := [.lit (.bool false)], args := [d] }
  | _ => none }
def AesNilWrongFalsely : Prop := aesNilRow.holds Try.pinned (OpenSpec.ofChange aesNilWrong)

/-- 'strongroomlaw03.AesField': WHATEVER THE INPUT: true; the input reads as it did. -/
def aesFieldSpec : ChangeSpec := { name := "aesField", fn := fun _ => fun
  | [d1, d2, d3] => { results := [.lit (.bool true)], args := [d1, d2, d3] }
  | _ => none }
def aesFieldRow : OpenClaim := { program := "ytehdglalfejpjab", sum := "f402dd335d2da0b8723280a0461ecaaccab3dcdc913cf1df2d757aa34b4a02bf", func := "strongroom/strongroomlaw03.AesField", spec := "aesField", unfollowed := true, recurses := true, apart := false }
def AesFieldSaid : Prop := aesFieldRow.holds Try.pinned (OpenSpec.ofChange aesFieldSpec)

/-- ITS FALSE NEIGHBOUR: 'it returns false'. Refute it at one input. -/
def aesFieldWrong : ChangeSpec := { name := "aesField", fn := fun _ => fun
  | [d1, d2, d3] => { results := [.lit (.bool false)], args := [d1, d2, d3] }
  | _ => none }
def AesFieldWrongFalsely : Prop := aesFieldRow.holds Try.pinned (OpenSpec.ofChange aesFieldWrong)

/-- 'strongroomlaw03.AesBack': WHATEVER THE INPUT: true; the input reads as it did. -/
def aesBackSpec : ChangeSpec := { name := "aesBack", fn := fun _ => fun
  | [d1, d2, d3] => { results := [.lit (.bool true)], args := [d1, d2, d3] }
  | _ => none }
def aesBackRow : OpenClaim := { program := "ytehdglalfejpjab", sum := "f402dd335d2da0b8723280a0461ecaaccab3dcdc913cf1df2d757aa34b4a02bf", func := "strongroom/strongroomlaw03.AesBack", spec := "aesBack", unfollowed := true, recurses := true, apart := false }
def AesBackSaid : Prop := aesBackRow.holds Try.pinned (OpenSpec.ofChange aesBackSpec)

/-- ITS FALSE NEIGHBOUR: 'it returns false'. Refute it at one input. -/
def aesBackWrong : ChangeSpec := { name := "aesBack", fn := fun _ => fun
  | [d1, d2, d3] => { results := [.lit (.bool false)], args := [d1, d2, d3] }
  | _ => none }
def AesBackWrongFalsely : Prop := aesBackRow.holds Try.pinned (OpenSpec.ofChange aesBackWrong)

/-- 'strongroomlaw03.AesWhole': WHATEVER THE INPUT: true; the input reads as it did. -/
def aesWholeSpec : ChangeSpec := { name := "aesWhole", fn := fun _ => fun
  | [d1, d2, d3] => { results := [.lit (.bool true)], args := [d1, d2, d3] }
  | _ => none }
def aesWholeRow : OpenClaim := { program := "ytehdglalfejpjab", sum := "f402dd335d2da0b8723280a0461ecaaccab3dcdc913cf1df2d757aa34b4a02bf", func := "strongroom/strongroomlaw03.AesWhole", spec := "aesWhole", unfollowed := true, recurses := true, apart := false }
def AesWholeSaid : Prop := aesWholeRow.holds Try.pinned (OpenSpec.ofChange aesWholeSpec)

/-- ITS FALSE NEIGHBOUR: 'it returns false'. Refute it at one input. -/
def aesWholeWrong : ChangeSpec := { name := "aesWhole", fn := fun _ => fun
  | [d1, d2, d3] => { results := [.lit (.bool false)], args := [d1, d2, d3] }
  | _ => none }
def AesWholeWrongFalsely : Prop := aesWholeRow.holds Try.pinned (OpenSpec.ofChange aesWholeWrong)

/-- 'strongroomlaw03.AesLinear': WHATEVER THE INPUT: true; the input reads as it did. -/
def aesLinearSpec : ChangeSpec := { name := "aesLinear", fn := fun _ => fun
  | [d1, d2, d3] => { results := [.lit (.bool true)], args := [d1, d2, d3] }
  | _ => none }
def aesLinearRow : OpenClaim := { program := "ytehdglalfejpjab", sum := "f402dd335d2da0b8723280a0461ecaaccab3dcdc913cf1df2d757aa34b4a02bf", func := "strongroom/strongroomlaw03.AesLinear", spec := "aesLinear", unfollowed := true, recurses := true, apart := false }
def AesLinearSaid : Prop := aesLinearRow.holds Try.pinned (OpenSpec.ofChange aesLinearSpec)

/-- ITS FALSE NEIGHBOUR: 'it returns false'. Refute it at one input. -/
def aesLinearWrong : ChangeSpec := { name := "aesLinear", fn := fun _ => fun
  | [d1, d2, d3] => { results := [.lit (.bool false)], args := [d1, d2, d3] }
  | _ => none }
def AesLinearWrongFalsely : Prop := aesLinearRow.holds Try.pinned (OpenSpec.ofChange aesLinearWrong)

/- THE SECOND FORM. 'bulk': how many values and letters a reading holds, each counted each time it is reached (what is shared counts as often as it is met; a slice's spare places count too). A statement '..UptoSaid' is the law's where the arguments, and the package variables that the reading takes, are together of bulk at most 1048576: NARROWER than '..Said'. Prove '..Said' where nothing that the law and all that it calls make is longer than what came in: it says more and counts as full. Else prove '..UptoSaid'. A law counts once. -/
mutual
def uptoBulk {H : Type} : DataW H → Nat
  | .lit (.string bytes) => bytes.length + 1
  | .lit _ => 1
  | .nil => 1
  | .ptr d => uptoBulk d + 1
  | .slice elems spare => uptoBulkAll elems + uptoBulkAll spare + 1
  | .agg parts => uptoBulkAll parts + 1
  | .iface _ d => uptoBulk d + 1
  | .map entries => uptoBulkEntries entries + 1
  | .held _ => 1
def uptoBulkAll {H : Type} : List (DataW H) → Nat
  | [] => 0
  | d :: r => uptoBulk d + uptoBulkAll r
def uptoBulkEntries {H : Type} : List (Lit × DataW H) → Nat
  | [] => 0
  | x :: r => uptoBulkEntry x + uptoBulkEntries r
def uptoBulkEntry {H : Type} : Lit × DataW H → Nat
  | (.string bytes, d) => bytes.length + uptoBulk d + 1
  | (_, d) => uptoBulk d + 1
 end
def uptoSmall : (H : Type) → List (DataW H) → Bool := fun _ ds => decide (uptoBulkAll ds ≤ 1048576)
def OpenSpec.upto (s : _root_.Go.ChangeSpec) : _root_.Go.OpenSpec := { _root_.Go.OpenSpec.ofChange s with cond := some uptoSmall }

/-- 'strongroomlaw03.AesNil', WHERE WHAT IT READS IS OF BULK AT MOST 1048576: true; the input reads as it did. -/
def aesNilUptoRow : OpenClaim := { program := "ytehdglalfejpjab", sum := "f402dd335d2da0b8723280a0461ecaaccab3dcdc913cf1df2d757aa34b4a02bf", func := "strongroom/strongroomlaw03.AesNil", spec := "aesNil", unfollowed := true, recurses := true, apart := false, narrowed := true }
def AesNilUptoSaid : Prop := aesNilUptoRow.holds Try.pinned (OpenSpec.upto aesNilSpec)

/-- 'strongroomlaw03.AesField', WHERE WHAT IT READS IS OF BULK AT MOST 1048576: true; the input reads as it did. -/
def aesFieldUptoRow : OpenClaim := { program := "ytehdglalfejpjab", sum := "f402dd335d2da0b8723280a0461ecaaccab3dcdc913cf1df2d757aa34b4a02bf", func := "strongroom/strongroomlaw03.AesField", spec := "aesField", unfollowed := true, recurses := true, apart := false, narrowed := true }
def AesFieldUptoSaid : Prop := aesFieldUptoRow.holds Try.pinned (OpenSpec.upto aesFieldSpec)

/-- 'strongroomlaw03.AesBack', WHERE WHAT IT READS IS OF BULK AT MOST 1048576: true; the input reads as it did. -/
def aesBackUptoRow : OpenClaim := { program := "ytehdglalfejpjab", sum := "f402dd335d2da0b8723280a0461ecaaccab3dcdc913cf1df2d757aa34b4a02bf", func := "strongroom/strongroomlaw03.AesBack", spec := "aesBack", unfollowed := true, recurses := true, apart := false, narrowed := true }
def AesBackUptoSaid : Prop := aesBackUptoRow.holds Try.pinned (OpenSpec.upto aesBackSpec)

/-- 'strongroomlaw03.AesWhole', WHERE WHAT IT READS IS OF BULK AT MOST 1048576: true; the input reads as it did. -/
def aesWholeUptoRow : OpenClaim := { program := "ytehdglalfejpjab", sum := "f402dd335d2da0b8723280a0461ecaaccab3dcdc913cf1df2d757aa34b4a02bf", func := "strongroom/strongroomlaw03.AesWhole", spec := "aesWhole", unfollowed := true, recurses := true, apart := false, narrowed := true }
def AesWholeUptoSaid : Prop := aesWholeUptoRow.holds Try.pinned (OpenSpec.upto aesWholeSpec)

/-- 'strongroomlaw03.AesLinear', WHERE WHAT IT READS IS OF BULK AT MOST 1048576: true; the input reads as it did. -/
def aesLinearUptoRow : OpenClaim := { program := "ytehdglalfejpjab", sum := "f402dd335d2da0b8723280a0461ecaaccab3dcdc913cf1df2d757aa34b4a02bf", func := "strongroom/strongroomlaw03.AesLinear", spec := "aesLinear", unfollowed := true, recurses := true, apart := false, narrowed := true }
def AesLinearUptoSaid : Prop := aesLinearUptoRow.holds Try.pinned (OpenSpec.upto aesLinearSpec)

end Rows
end Go.Proofs.Ytehdglalfejpjab
