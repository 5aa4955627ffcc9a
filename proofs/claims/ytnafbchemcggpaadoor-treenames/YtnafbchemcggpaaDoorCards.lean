/-
  DERIVED. GIVEN WITH THE SEED: THE CARDS: each row of YtnafbchemcggpaaDoorRows.lean that lists a variable, with what it lists TIED to the program's text (the seventh form; the later family's looks); each row that meets fmt, with fmt's text TOLD by the authors' own Lean function (tested against real Go, not proved from fmt's source: count such statements apart). THE CARD IS WHAT COUNTS. Prove the row's statement (the work); the ties are given (YtnafbchemcggpaaDoorTie.lean); close each card by the builder's one call (the guide's Derived/Test/ToyasCard.lean, 'card_holds'). Laid BY PROGRAM, IN A SANDBOX (cutbox-door.mjs). By AI agents, Wed Nov 11 2026. No macro, syntax, notation, axiom, sorry.
-/
import Derived.Test.YtnafbchemcggpaaDoorRows
import GoSem.ClaimSeven
namespace Go.Proofs.YtnafbchemcggpaaDoor
namespace Rows

/-- THE TIED CARD OF 'strongroomlaw11.TreeCalls'. -/
def treeCallsCard : Claim7 := { stood := { row := treeCallsRow, standIns := [], harness := (true, "d4786bb8b03cf6fea3c45a22185c28e9b5a81500ada7ae59e445a490c1d711df"), looks := true }, kinds := [], alts := [], laidByText := true, laidKinds := [.data], laidTests := true, laidLooks := .later }
def TreeCallsCardSaid : Prop := Claim7.holds Tryd.pinned (.plain (OpenSpec.ofChange treeCallsSpec)) treeCallsCard

/-- THE TIED CARD OF 'strongroomlaw11.TreeDiffers'. -/
def treeDiffersCard : Claim7 := { stood := { row := treeDiffersRow, standIns := [], harness := (true, "d4786bb8b03cf6fea3c45a22185c28e9b5a81500ada7ae59e445a490c1d711df"), looks := true }, kinds := [], alts := [], laidByText := true, laidKinds := [.data], laidTests := true, laidLooks := .later }
def TreeDiffersCardSaid : Prop := Claim7.holds Tryd.pinned (.plain (OpenSpec.ofChange treeDiffersSpec)) treeDiffersCard

/-- THE TIED CARD OF 'strongroomlaw11.TreeNames'. -/
def treeNamesCard : Claim7 := { stood := { row := treeNamesRow, standIns := [], harness := (true, "d4786bb8b03cf6fea3c45a22185c28e9b5a81500ada7ae59e445a490c1d711df"), looks := true }, kinds := [], alts := [], laidByText := true, laidKinds := [.data], laidTests := true, laidLooks := .later }
def TreeNamesCardSaid : Prop := Claim7.holds Tryd.pinned (.plain (OpenSpec.ofChange treeNamesSpec)) treeNamesCard

/-- THE TIED CARD OF 'strongroomlaw12.ProofPlays'. -/
def proofPlaysCard : Claim7 := { stood := { row := proofPlaysRow, standIns := [], harness := (true, "d4786bb8b03cf6fea3c45a22185c28e9b5a81500ada7ae59e445a490c1d711df"), looks := true }, kinds := [], alts := [], laidByText := true, laidKinds := [.data], laidTests := true, laidLooks := .later }
def ProofPlaysCardSaid : Prop := Claim7.holds Tryd.pinned (.plain (OpenSpec.ofChange proofPlaysSpec)) proofPlaysCard

/-- THE TIED CARD OF 'strongroomlaw12.ProofPuts'. -/
def proofPutsCard : Claim7 := { stood := { row := proofPutsRow, standIns := [], harness := (true, "d4786bb8b03cf6fea3c45a22185c28e9b5a81500ada7ae59e445a490c1d711df"), looks := true }, kinds := [], alts := [], laidByText := true, laidKinds := [.data], laidTests := true, laidLooks := .later }
def ProofPutsCardSaid : Prop := Claim7.holds Tryd.pinned (.plain (OpenSpec.ofChange proofPutsSpec)) proofPutsCard

/-- THE TIED CARD OF 'strongroomlaw12.ProofServes'. -/
def proofServesCard : Claim7 := { stood := { row := proofServesRow, standIns := [], harness := (true, "d4786bb8b03cf6fea3c45a22185c28e9b5a81500ada7ae59e445a490c1d711df"), looks := true }, kinds := [], alts := [], laidByText := true, laidKinds := [.data], laidTests := true, laidLooks := .later }
def ProofServesCardSaid : Prop := Claim7.holds Tryd.pinned (.plain (OpenSpec.ofChange proofServesSpec)) proofServesCard

/-- THE SECOND FORM's CARD OF 'strongroomlaw11.TreeCalls'. -/
def treeCallsUptoCard : Claim7 := { stood := { row := treeCallsUptoRow, standIns := [], harness := (true, "d4786bb8b03cf6fea3c45a22185c28e9b5a81500ada7ae59e445a490c1d711df"), looks := true }, kinds := [], alts := [], laidByText := true, laidKinds := [.data], laidTests := true, laidLooks := .later }
def TreeCallsUptoCardSaid : Prop := Claim7.holds Tryd.pinned (.plain (OpenSpec.upto treeCallsSpec)) treeCallsUptoCard

/-- THE SECOND FORM's CARD OF 'strongroomlaw11.TreeDiffers'. -/
def treeDiffersUptoCard : Claim7 := { stood := { row := treeDiffersUptoRow, standIns := [], harness := (true, "d4786bb8b03cf6fea3c45a22185c28e9b5a81500ada7ae59e445a490c1d711df"), looks := true }, kinds := [], alts := [], laidByText := true, laidKinds := [.data], laidTests := true, laidLooks := .later }
def TreeDiffersUptoCardSaid : Prop := Claim7.holds Tryd.pinned (.plain (OpenSpec.upto treeDiffersSpec)) treeDiffersUptoCard

/-- THE SECOND FORM's CARD OF 'strongroomlaw11.TreeNames'. -/
def treeNamesUptoCard : Claim7 := { stood := { row := treeNamesUptoRow, standIns := [], harness := (true, "d4786bb8b03cf6fea3c45a22185c28e9b5a81500ada7ae59e445a490c1d711df"), looks := true }, kinds := [], alts := [], laidByText := true, laidKinds := [.data], laidTests := true, laidLooks := .later }
def TreeNamesUptoCardSaid : Prop := Claim7.holds Tryd.pinned (.plain (OpenSpec.upto treeNamesSpec)) treeNamesUptoCard

/-- THE SECOND FORM's CARD OF 'strongroomlaw12.ProofPlays'. -/
def proofPlaysUptoCard : Claim7 := { stood := { row := proofPlaysUptoRow, standIns := [], harness := (true, "d4786bb8b03cf6fea3c45a22185c28e9b5a81500ada7ae59e445a490c1d711df"), looks := true }, kinds := [], alts := [], laidByText := true, laidKinds := [.data], laidTests := true, laidLooks := .later }
def ProofPlaysUptoCardSaid : Prop := Claim7.holds Tryd.pinned (.plain (OpenSpec.upto proofPlaysSpec)) proofPlaysUptoCard

/-- THE SECOND FORM's CARD OF 'strongroomlaw12.ProofPuts'. -/
def proofPutsUptoCard : Claim7 := { stood := { row := proofPutsUptoRow, standIns := [], harness := (true, "d4786bb8b03cf6fea3c45a22185c28e9b5a81500ada7ae59e445a490c1d711df"), looks := true }, kinds := [], alts := [], laidByText := true, laidKinds := [.data], laidTests := true, laidLooks := .later }
def ProofPutsUptoCardSaid : Prop := Claim7.holds Tryd.pinned (.plain (OpenSpec.upto proofPutsSpec)) proofPutsUptoCard

/-- THE SECOND FORM's CARD OF 'strongroomlaw12.ProofServes'. -/
def proofServesUptoCard : Claim7 := { stood := { row := proofServesUptoRow, standIns := [], harness := (true, "d4786bb8b03cf6fea3c45a22185c28e9b5a81500ada7ae59e445a490c1d711df"), looks := true }, kinds := [], alts := [], laidByText := true, laidKinds := [.data], laidTests := true, laidLooks := .later }
def ProofServesUptoCardSaid : Prop := Claim7.holds Tryd.pinned (.plain (OpenSpec.upto proofServesSpec)) proofServesUptoCard
end Rows
end Go.Proofs.YtnafbchemcggpaaDoor
