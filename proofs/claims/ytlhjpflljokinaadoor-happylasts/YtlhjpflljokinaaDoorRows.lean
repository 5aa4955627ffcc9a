/-
  NARROWER THAN 'FOR EVERY INPUT', by the rows' own cells (each row's printed sentence says how): HappyCalls: laid · HappyGrows: laid · HappyMatches: laid · HappyLasts: laid · HappyNames: laid.
  DERIVED. THE GIVEN ROWS OF THIS SEAT. 5 by the template 'for every input the law returns true; each argument reads behind the call as it read before'; 0 by the template 'total and deterministic' (their statements: YtlhjpflljokinaaDoorTotals.lean).
  GIVEN WITH THE SEED: the statements are not yours to turn. If you find one false, say at which input.
  Laid BY PROGRAM, IN A SANDBOX (cutbox-rows.mjs): the forced cells as the released guide's own fill.sh prints them over the translation 409161995d252fd9… (all of the seat's roots in one cut). By AI agents, Wed Nov 11 2026. No macro, syntax, notation, axiom, sorry.
-/
import Derived.Test.YtlhjpflljokinaaDoorChecked
import GoSem.Claim
import GoSem.ClaimJoined
import GoSem.ClaimMapViews
import Derived.JoinedTies
import Derived.KernelRfl
namespace Go.Proofs.YtlhjpflljokinaaDoor
/- THE CELL 'sum', in the pinned program and in every row, IS THE sha256 OF THE DUMP (.gsa) THAT YtlhjpflljokinaaDoorProg.lean LOADS. Nothing in Lean hashes anything: it is a label: what it is worth is what the hold of that sum in a sandbox is worth. -/
noncomputable def Tryd.pinned : Pinned := { name := "ytlhjpflljokinaadoor", sum := "409161995d252fd914f0a09b7d0aee7807caca976445cf244fb5c286f8b928c0", checked := Tryd.checked }
namespace Rows
def none {H : Type} : Left H := { results := [], args := [] }

/- WHAT THE LISTED PACKAGE-LEVEL VARIABLES READ AS WHEN THE CALL BEGINS. Each datum BY PROGRAM (the guide's laid-datum.mjs) off the statement by which the dump's own 'gosem.cut.vars' lays the variable. In a bare row this is a premise. The card (YtlhjpflljokinaaDoorCards.lean) ties it to the program's text. -/
def laid_math_bits_deBruijn32tab {H : Type} : DataW H := .agg [.lit (.int .u8 0), .lit (.int .u8 1), .lit (.int .u8 28), .lit (.int .u8 2), .lit (.int .u8 29), .lit (.int .u8 14), .lit (.int .u8 24), .lit (.int .u8 3), .lit (.int .u8 30), .lit (.int .u8 22), .lit (.int .u8 20), .lit (.int .u8 15), .lit (.int .u8 25), .lit (.int .u8 17), .lit (.int .u8 4), .lit (.int .u8 8), .lit (.int .u8 31), .lit (.int .u8 27), .lit (.int .u8 13), .lit (.int .u8 23), .lit (.int .u8 21), .lit (.int .u8 19), .lit (.int .u8 16), .lit (.int .u8 7), .lit (.int .u8 26), .lit (.int .u8 12), .lit (.int .u8 18), .lit (.int .u8 6), .lit (.int .u8 11), .lit (.int .u8 5), .lit (.int .u8 10), .lit (.int .u8 9)]

/-- 'strongroomlaw23.HappyCalls': WHATEVER THE INPUT: true; the input reads as it did. -/
def happyCallsSpec : ChangeSpec := { name := "happyCalls", fn := fun _ => fun
  | [d] => { results := [.lit (.bool true)], args := [d] }
  | _ => none }
def happyCallsRow : OpenClaim := { program := "ytlhjpflljokinaadoor", sum := "409161995d252fd914f0a09b7d0aee7807caca976445cf244fb5c286f8b928c0", func := "strongroom/strongroomlaw23.HappyCalls", spec := "happyCalls", unfollowed := true, recurses := true, named := ["math/bits.deBruijn32tab"], apart := false, laid := [("math/bits.deBruijn32tab", laid_math_bits_deBruijn32tab)] }
def HappyCallsSaid : Prop := happyCallsRow.holds Tryd.pinned (OpenSpec.ofChange happyCallsSpec)

/-- ITS FALSE NEIGHBOUR: 'it returns false'. Refute it at one input. -/
def happyCallsWrong : ChangeSpec := { name := "happyCalls", fn := fun _ => fun
  | [d] => { results := [.lit (.bool false)], args := [d] }
  | _ => none }
def HappyCallsWrongFalsely : Prop := happyCallsRow.holds Tryd.pinned (OpenSpec.ofChange happyCallsWrong)

/-- 'strongroomlaw23.HappyGrows': WHATEVER THE INPUT: true; the input reads as it did. -/
def happyGrowsSpec : ChangeSpec := { name := "happyGrows", fn := fun _ => fun
  | [d1, d2] => { results := [.lit (.bool true)], args := [d1, d2] }
  | _ => none }
def happyGrowsRow : OpenClaim := { program := "ytlhjpflljokinaadoor", sum := "409161995d252fd914f0a09b7d0aee7807caca976445cf244fb5c286f8b928c0", func := "strongroom/strongroomlaw23.HappyGrows", spec := "happyGrows", unfollowed := true, recurses := true, named := ["math/bits.deBruijn32tab"], apart := false, laid := [("math/bits.deBruijn32tab", laid_math_bits_deBruijn32tab)] }
def HappyGrowsSaid : Prop := happyGrowsRow.holds Tryd.pinned (OpenSpec.ofChange happyGrowsSpec)

/-- ITS FALSE NEIGHBOUR: 'it returns false'. Refute it at one input. -/
def happyGrowsWrong : ChangeSpec := { name := "happyGrows", fn := fun _ => fun
  | [d1, d2] => { results := [.lit (.bool false)], args := [d1, d2] }
  | _ => none }
def HappyGrowsWrongFalsely : Prop := happyGrowsRow.holds Tryd.pinned (OpenSpec.ofChange happyGrowsWrong)

/-- 'strongroomlaw23.HappyMatches': WHATEVER THE INPUT: true; the input reads as it did. -/
def happyMatchesSpec : ChangeSpec := { name := "happyMatches", fn := fun _ => fun
  | [d] => { results := [.lit (.bool true)], args := [d] }
  | _ => none }
def happyMatchesRow : OpenClaim := { program := "ytlhjpflljokinaadoor", sum := "409161995d252fd914f0a09b7d0aee7807caca976445cf244fb5c286f8b928c0", func := "strongroom/strongroomlaw23.HappyMatches", spec := "happyMatches", unfollowed := true, recurses := true, named := ["math/bits.deBruijn32tab"], apart := false, laid := [("math/bits.deBruijn32tab", laid_math_bits_deBruijn32tab)] }
def HappyMatchesSaid : Prop := happyMatchesRow.holds Tryd.pinned (OpenSpec.ofChange happyMatchesSpec)

/-- ITS FALSE NEIGHBOUR: 'it returns false'. Refute it at one input. -/
def happyMatchesWrong : ChangeSpec := { name := "happyMatches", fn := fun _ => fun
  | [d] => { results := [.lit (.bool false)], args := [d] }
  | _ => none }
def HappyMatchesWrongFalsely : Prop := happyMatchesRow.holds Tryd.pinned (OpenSpec.ofChange happyMatchesWrong)

/-- 'strongroomlaw23.HappyLasts': WHATEVER THE INPUT: true; the input reads as it did. -/
def happyLastsSpec : ChangeSpec := { name := "happyLasts", fn := fun _ => fun
  | [d1, d2, d3] => { results := [.lit (.bool true)], args := [d1, d2, d3] }
  | _ => none }
def happyLastsRow : OpenClaim := { program := "ytlhjpflljokinaadoor", sum := "409161995d252fd914f0a09b7d0aee7807caca976445cf244fb5c286f8b928c0", func := "strongroom/strongroomlaw23.HappyLasts", spec := "happyLasts", unfollowed := true, recurses := true, named := ["math/bits.deBruijn32tab"], apart := false, laid := [("math/bits.deBruijn32tab", laid_math_bits_deBruijn32tab)] }
def HappyLastsSaid : Prop := happyLastsRow.holds Tryd.pinned (OpenSpec.ofChange happyLastsSpec)

/-- ITS FALSE NEIGHBOUR: 'it returns false'. Refute it at one input. -/
def happyLastsWrong : ChangeSpec := { name := "happyLasts", fn := fun _ => fun
  | [d1, d2, d3] => { results := [.lit (.bool false)], args := [d1, d2, d3] }
  | _ => none }
def HappyLastsWrongFalsely : Prop := happyLastsRow.holds Tryd.pinned (OpenSpec.ofChange happyLastsWrong)

/-- 'strongroomlaw23.HappyNames': WHATEVER THE INPUT: true; the input reads as it did. -/
def happyNamesSpec : ChangeSpec := { name := "happyNames", fn := fun _ => fun
  | [] => { results := [.lit (.bool true)], args := [] }
  | _ => none }
def happyNamesRow : OpenClaim := { program := "ytlhjpflljokinaadoor", sum := "409161995d252fd914f0a09b7d0aee7807caca976445cf244fb5c286f8b928c0", func := "strongroom/strongroomlaw23.HappyNames", spec := "happyNames", unfollowed := true, recurses := true, named := ["math/bits.deBruijn32tab"], apart := false, laid := [("math/bits.deBruijn32tab", laid_math_bits_deBruijn32tab)] }
def HappyNamesSaid : Prop := happyNamesRow.holds Tryd.pinned (OpenSpec.ofChange happyNamesSpec)

/-- ITS FALSE NEIGHBOUR: 'it returns false'. Refute it at one input. -/
def happyNamesWrong : ChangeSpec := { name := "happyNames", fn := fun _ => fun
  | [] => { results := [.lit (.bool false)], args := [] }
  | _ => none }
def HappyNamesWrongFalsely : Prop := happyNamesRow.holds Tryd.pinned (OpenSpec.ofChange happyNamesWrong)

/- THE SECOND FORM. 'bulk': how many values and letters a reading holds, each counted each time it is reached (what is shared counts as often as it is met; a slice's spare places count too). A statement '..UptoSaid' is the law's where the arguments, and the package variables that the reading takes, are together of bulk at most 1048576: NARROWER than '..Said'. Prove '..Said' where nothing that the law and all that it calls make is longer than what came in: it says more and counts as full. Else prove '..UptoSaid'. A law counts once. -/
mutual
def uptoBulk {H : Type} : DataW H → Nat
  | .lit (.string bytes) => bytes.length + 1
  | .lit _ => 1
  | .nil => 1
  | .ptr d => uptoBulk d + 1
  | .slice elems spare => uptoBulkAll elems + uptoBulkAll spare + 1
  | .agg parts => uptoBulkAll parts + 1
  | .iface _ d => uptoBulk d + 1
  | .map entries => uptoBulkEntries entries + 1
  | .held _ => 1
def uptoBulkAll {H : Type} : List (DataW H) → Nat
  | [] => 0
  | d :: r => uptoBulk d + uptoBulkAll r
def uptoBulkEntries {H : Type} : List (Lit × DataW H) → Nat
  | [] => 0
  | x :: r => uptoBulkEntry x + uptoBulkEntries r
def uptoBulkEntry {H : Type} : Lit × DataW H → Nat
  | (.string bytes, d) => bytes.length + uptoBulk d + 1
  | (_, d) => uptoBulk d + 1
 end
def uptoSmall : (H : Type) → List (DataW H) → Bool := fun _ ds => decide (uptoBulkAll ds ≤ 1048576)
def OpenSpec.upto (s : _root_.Go.ChangeSpec) : _root_.Go.OpenSpec := { _root_.Go.OpenSpec.ofChange s with cond := some uptoSmall }

/-- 'strongroomlaw23.HappyCalls', WHERE WHAT IT READS IS OF BULK AT MOST 1048576: true; the input reads as it did. -/
def happyCallsUptoRow : OpenClaim := { program := "ytlhjpflljokinaadoor", sum := "409161995d252fd914f0a09b7d0aee7807caca976445cf244fb5c286f8b928c0", func := "strongroom/strongroomlaw23.HappyCalls", spec := "happyCalls", unfollowed := true, recurses := true, named := ["math/bits.deBruijn32tab"], apart := false, laid := [("math/bits.deBruijn32tab", laid_math_bits_deBruijn32tab)], narrowed := true }
def HappyCallsUptoSaid : Prop := happyCallsUptoRow.holds Tryd.pinned (OpenSpec.upto happyCallsSpec)

/-- 'strongroomlaw23.HappyGrows', WHERE WHAT IT READS IS OF BULK AT MOST 1048576: true; the input reads as it did. -/
def happyGrowsUptoRow : OpenClaim := { program := "ytlhjpflljokinaadoor", sum := "409161995d252fd914f0a09b7d0aee7807caca976445cf244fb5c286f8b928c0", func := "strongroom/strongroomlaw23.HappyGrows", spec := "happyGrows", unfollowed := true, recurses := true, named := ["math/bits.deBruijn32tab"], apart := false, laid := [("math/bits.deBruijn32tab", laid_math_bits_deBruijn32tab)], narrowed := true }
def HappyGrowsUptoSaid : Prop := happyGrowsUptoRow.holds Tryd.pinned (OpenSpec.upto happyGrowsSpec)

/-- 'strongroomlaw23.HappyMatches', WHERE WHAT IT READS IS OF BULK AT MOST 1048576: true; the input reads as it did. -/
def happyMatchesUptoRow : OpenClaim := { program := "ytlhjpflljokinaadoor", sum := "409161995d252fd914f0a09b7d0aee7807caca976445cf244fb5c286f8b928c0", func := "strongroom/strongroomlaw23.HappyMatches", spec := "happyMatches", unfollowed := true, recurses := true, named := ["math/bits.deBruijn32tab"], apart := false, laid := [("math/bits.deBruijn32tab", laid_math_bits_deBruijn32tab)], narrowed := true }
def HappyMatchesUptoSaid : Prop := happyMatchesUptoRow.holds Tryd.pinned (OpenSpec.upto happyMatchesSpec)

/-- 'strongroomlaw23.HappyLasts', WHERE WHAT IT READS IS OF BULK AT MOST 1048576: true; the input reads as it did. -/
def happyLastsUptoRow : OpenClaim := { program := "ytlhjpflljokinaadoor", sum := "409161995d252fd914f0a09b7d0aee7807caca976445cf244fb5c286f8b928c0", func := "strongroom/strongroomlaw23.HappyLasts", spec := "happyLasts", unfollowed := true, recurses := true, named := ["math/bits.deBruijn32tab"], apart := false, laid := [("math/bits.deBruijn32tab", laid_math_bits_deBruijn32tab)], narrowed := true }
def HappyLastsUptoSaid : Prop := happyLastsUptoRow.holds Tryd.pinned (OpenSpec.upto happyLastsSpec)

/-- 'strongroomlaw23.HappyNames', WHERE WHAT IT READS IS OF BULK AT MOST 1048576: true; the input reads as it did. -/
def happyNamesUptoRow : OpenClaim := { program := "ytlhjpflljokinaadoor", sum := "409161995d252fd914f0a09b7d0aee7807caca976445cf244fb5c286f8b928c0", func := "strongroom/strongroomlaw23.HappyNames", spec := "happyNames", unfollowed := true, recurses := true, named := ["math/bits.deBruijn32tab"], apart := false, laid := [("math/bits.deBruijn32tab", laid_math_bits_deBruijn32tab)], narrowed := true }
def HappyNamesUptoSaid : Prop := happyNamesUptoRow.holds Tryd.pinned (OpenSpec.upto happyNamesSpec)

end Rows
end Go.Proofs.YtlhjpflljokinaaDoor
