/-
  DERIVED. GIVEN WITH THE SEED: THE CARDS: each row of YtdgollnapbonjaaGreatDoorRows.lean that lists a variable, with what it lists TIED to the program's text (the seventh form; the later family's looks); each row that meets fmt, with fmt's text TOLD by the authors' own Lean function (tested against real Go, not proved from fmt's source: count such statements apart). THE CARD IS WHAT COUNTS. Prove the row's statement (the work); the ties are given (YtdgollnapbonjaaGreatDoorTie.lean); close each card by the builder's one call (the guide's Derived/Test/ToyasCard.lean, 'card_holds'). Laid BY PROGRAM, IN A SANDBOX (cutbox-door.mjs). By AI agents, Wed Nov 11 2026. No macro, syntax, notation, axiom, sorry.
-/
import Derived.Test.YtdgollnapbonjaaGreatDoorRows
import GoSem.ClaimSeven
namespace Go.Proofs.YtdgollnapbonjaaGreatDoor
namespace Rows

/-- THE TIED CARD OF 'strongroomlaw14.ShareOne'. -/
def shareOneCard : Claim7 := { stood := { row := shareOneRow, standIns := [], harness := (true, "791998c11211e0ba6059dac1955c7e42bfd02df5f9f02ec3731ba1b5f785bc73"), looks := false }, kinds := [], alts := [], laidByText := true, laidKinds := [.data, .data, .data, .data], laidTests := true, laidLooks := .later }
def ShareOneCardSaid : Prop := Claim7.holds Tryz.pinned (.plain (OpenSpec.ofChange shareOneSpec)) shareOneCard

/-- THE SECOND FORM's CARD OF 'strongroomlaw14.ShareOne'. -/
def shareOneUptoCard : Claim7 := { stood := { row := shareOneUptoRow, standIns := [], harness := (true, "791998c11211e0ba6059dac1955c7e42bfd02df5f9f02ec3731ba1b5f785bc73"), looks := false }, kinds := [], alts := [], laidByText := true, laidKinds := [.data, .data, .data, .data], laidTests := true, laidLooks := .later }
def ShareOneUptoCardSaid : Prop := Claim7.holds Tryz.pinned (.plain (OpenSpec.upto shareOneSpec)) shareOneUptoCard
end Rows
end Go.Proofs.YtdgollnapbonjaaGreatDoor
