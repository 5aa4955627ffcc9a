/-
  DERIVED. GIVEN WITH THE SEED: THE CARDS: each row of YtemkhnlfblhkjaaDoorRows.lean that lists a variable, with what it lists TIED to the program's text (the seventh form; the later family's looks); each row that meets fmt, with fmt's text TOLD by the authors' own Lean function (tested against real Go, not proved from fmt's source: count such statements apart). THE CARD IS WHAT COUNTS. Prove the row's statement (the work); the ties are given (YtemkhnlfblhkjaaDoorTie.lean); close each card by the builder's one call (the guide's Derived/Test/ToyasCard.lean, 'card_holds'). Laid BY PROGRAM, IN A SANDBOX (cutbox-door.mjs). By AI agents, Wed Nov 11 2026. No macro, syntax, notation, axiom, sorry.
-/
import Derived.Test.YtemkhnlfblhkjaaDoorRows
import GoSem.ClaimSeven
namespace Go.Proofs.YtemkhnlfblhkjaaDoor
namespace Rows

/-- THE TIED CARD OF 'strongroomlaw11.TreeCalls'. -/
def treeCallsCard : Claim7 := { stood := { row := treeCallsRow, standIns := [], harness := (true, "d7f342d151396e3fd1ea71e38d4e6c485fdebbbeebd9c03e15b295ee9a57a359"), looks := false }, kinds := [], alts := [], laidByText := true, laidKinds := [.data], laidTests := true, laidLooks := .later }
def TreeCallsCardSaid : Prop := Claim7.holds Tryd.pinned (.plain (OpenSpec.ofChange treeCallsSpec)) treeCallsCard

/-- THE TIED CARD OF 'strongroomlaw11.TreeClimbs'. -/
def treeClimbsCard : Claim7 := { stood := { row := treeClimbsRow, standIns := [], harness := (true, "d7f342d151396e3fd1ea71e38d4e6c485fdebbbeebd9c03e15b295ee9a57a359"), looks := false }, kinds := [], alts := [], laidByText := true, laidKinds := [.data], laidTests := true, laidLooks := .later }
def TreeClimbsCardSaid : Prop := Claim7.holds Tryd.pinned (.plain (OpenSpec.ofChange treeClimbsSpec)) treeClimbsCard

/-- THE TIED CARD OF 'strongroomlaw11.TreeOne'. -/
def treeOneCard : Claim7 := { stood := { row := treeOneRow, standIns := [], harness := (true, "d7f342d151396e3fd1ea71e38d4e6c485fdebbbeebd9c03e15b295ee9a57a359"), looks := false }, kinds := [], alts := [], laidByText := true, laidKinds := [.data], laidTests := true, laidLooks := .later }
def TreeOneCardSaid : Prop := Claim7.holds Tryd.pinned (.plain (OpenSpec.ofChange treeOneSpec)) treeOneCard

/-- THE TIED CARD OF 'strongroomlaw11.TreeDiffers'. -/
def treeDiffersCard : Claim7 := { stood := { row := treeDiffersRow, standIns := [], harness := (true, "d7f342d151396e3fd1ea71e38d4e6c485fdebbbeebd9c03e15b295ee9a57a359"), looks := false }, kinds := [], alts := [], laidByText := true, laidKinds := [.data], laidTests := true, laidLooks := .later }
def TreeDiffersCardSaid : Prop := Claim7.holds Tryd.pinned (.plain (OpenSpec.ofChange treeDiffersSpec)) treeDiffersCard

/-- THE TIED CARD OF 'strongroomlaw11.TreeNames'. -/
def treeNamesCard : Claim7 := { stood := { row := treeNamesRow, standIns := [], harness := (true, "d7f342d151396e3fd1ea71e38d4e6c485fdebbbeebd9c03e15b295ee9a57a359"), looks := false }, kinds := [], alts := [], laidByText := true, laidKinds := [.data], laidTests := true, laidLooks := .later }
def TreeNamesCardSaid : Prop := Claim7.holds Tryd.pinned (.plain (OpenSpec.ofChange treeNamesSpec)) treeNamesCard

/-- THE SECOND FORM's CARD OF 'strongroomlaw11.TreeCalls'. -/
def treeCallsUptoCard : Claim7 := { stood := { row := treeCallsUptoRow, standIns := [], harness := (true, "d7f342d151396e3fd1ea71e38d4e6c485fdebbbeebd9c03e15b295ee9a57a359"), looks := false }, kinds := [], alts := [], laidByText := true, laidKinds := [.data], laidTests := true, laidLooks := .later }
def TreeCallsUptoCardSaid : Prop := Claim7.holds Tryd.pinned (.plain (OpenSpec.upto treeCallsSpec)) treeCallsUptoCard

/-- THE SECOND FORM's CARD OF 'strongroomlaw11.TreeClimbs'. -/
def treeClimbsUptoCard : Claim7 := { stood := { row := treeClimbsUptoRow, standIns := [], harness := (true, "d7f342d151396e3fd1ea71e38d4e6c485fdebbbeebd9c03e15b295ee9a57a359"), looks := false }, kinds := [], alts := [], laidByText := true, laidKinds := [.data], laidTests := true, laidLooks := .later }
def TreeClimbsUptoCardSaid : Prop := Claim7.holds Tryd.pinned (.plain (OpenSpec.upto treeClimbsSpec)) treeClimbsUptoCard

/-- THE SECOND FORM's CARD OF 'strongroomlaw11.TreeOne'. -/
def treeOneUptoCard : Claim7 := { stood := { row := treeOneUptoRow, standIns := [], harness := (true, "d7f342d151396e3fd1ea71e38d4e6c485fdebbbeebd9c03e15b295ee9a57a359"), looks := false }, kinds := [], alts := [], laidByText := true, laidKinds := [.data], laidTests := true, laidLooks := .later }
def TreeOneUptoCardSaid : Prop := Claim7.holds Tryd.pinned (.plain (OpenSpec.upto treeOneSpec)) treeOneUptoCard

/-- THE SECOND FORM's CARD OF 'strongroomlaw11.TreeDiffers'. -/
def treeDiffersUptoCard : Claim7 := { stood := { row := treeDiffersUptoRow, standIns := [], harness := (true, "d7f342d151396e3fd1ea71e38d4e6c485fdebbbeebd9c03e15b295ee9a57a359"), looks := false }, kinds := [], alts := [], laidByText := true, laidKinds := [.data], laidTests := true, laidLooks := .later }
def TreeDiffersUptoCardSaid : Prop := Claim7.holds Tryd.pinned (.plain (OpenSpec.upto treeDiffersSpec)) treeDiffersUptoCard

/-- THE SECOND FORM's CARD OF 'strongroomlaw11.TreeNames'. -/
def treeNamesUptoCard : Claim7 := { stood := { row := treeNamesUptoRow, standIns := [], harness := (true, "d7f342d151396e3fd1ea71e38d4e6c485fdebbbeebd9c03e15b295ee9a57a359"), looks := false }, kinds := [], alts := [], laidByText := true, laidKinds := [.data], laidTests := true, laidLooks := .later }
def TreeNamesUptoCardSaid : Prop := Claim7.holds Tryd.pinned (.plain (OpenSpec.upto treeNamesSpec)) treeNamesUptoCard
end Rows
end Go.Proofs.YtemkhnlfblhkjaaDoor
