/-
  DERIVED. GIVEN WITH THE SEED: THE CARDS: each row of YthcdefidoibopabDoorRows.lean that lists a variable, with what it lists TIED to the program's text (the seventh form; the later family's looks); each row that meets fmt, with fmt's text TOLD by the authors' own Lean function (tested against real Go, not proved from fmt's source: count such statements apart). THE CARD IS WHAT COUNTS. Prove the row's statement (the work); the ties are given (YthcdefidoibopabDoorTie.lean); close each card by the builder's one call (the guide's Derived/Test/ToyasCard.lean, 'card_holds'). Laid BY PROGRAM, IN A SANDBOX (cutbox-door.mjs). By AI agents, Wed Nov 11 2026. No macro, syntax, notation, axiom, sorry.
-/
import Derived.Test.YthcdefidoibopabDoorRows
import GoSem.ClaimSeven
namespace Go.Proofs.YthcdefidoibopabDoor
namespace Rows

/-- THE TIED CARD OF 'strongroomlaw13.UebCut'. -/
def uebCutCard : Claim7 := { stood := { row := uebCutRow, standIns := [], harness := (true, "6e8a1ea10ea5161585141ae2f747dae02b1be2d5518de698edcf614a39139b86"), looks := true }, kinds := [], alts := [], laidByText := true, laidKinds := [.data, .data, .data, .sentinel, .sentinel], laidTests := true, laidLooks := .later }
def UebCutCardSaid : Prop := Claim7.holds Tryd.pinned (.plain (OpenSpec.ofChange uebCutSpec)) uebCutCard

/-- THE TIED CARD OF 'strongroomlaw13.UebKnown'. -/
def uebKnownCard : Claim7 := { stood := { row := uebKnownRow, standIns := [], harness := (true, "6e8a1ea10ea5161585141ae2f747dae02b1be2d5518de698edcf614a39139b86"), looks := true }, kinds := [], alts := [], laidByText := true, laidKinds := [.data, .data, .data, .sentinel, .sentinel], laidTests := true, laidLooks := .later }
def UebKnownCardSaid : Prop := Claim7.holds Tryd.pinned (.plain (OpenSpec.ofChange uebKnownSpec)) uebKnownCard

/-- THE SECOND FORM's CARD OF 'strongroomlaw13.UebCut'. -/
def uebCutUptoCard : Claim7 := { stood := { row := uebCutUptoRow, standIns := [], harness := (true, "6e8a1ea10ea5161585141ae2f747dae02b1be2d5518de698edcf614a39139b86"), looks := true }, kinds := [], alts := [], laidByText := true, laidKinds := [.data, .data, .data, .sentinel, .sentinel], laidTests := true, laidLooks := .later }
def UebCutUptoCardSaid : Prop := Claim7.holds Tryd.pinned (.plain (OpenSpec.upto uebCutSpec)) uebCutUptoCard

/-- THE SECOND FORM's CARD OF 'strongroomlaw13.UebKnown'. -/
def uebKnownUptoCard : Claim7 := { stood := { row := uebKnownUptoRow, standIns := [], harness := (true, "6e8a1ea10ea5161585141ae2f747dae02b1be2d5518de698edcf614a39139b86"), looks := true }, kinds := [], alts := [], laidByText := true, laidKinds := [.data, .data, .data, .sentinel, .sentinel], laidTests := true, laidLooks := .later }
def UebKnownUptoCardSaid : Prop := Claim7.holds Tryd.pinned (.plain (OpenSpec.upto uebKnownSpec)) uebKnownUptoCard
end Rows
end Go.Proofs.YthcdefidoibopabDoor
