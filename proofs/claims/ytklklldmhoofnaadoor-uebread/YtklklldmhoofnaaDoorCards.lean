/-
  DERIVED. GIVEN WITH THE SEED: THE CARDS: each row of YtklklldmhoofnaaDoorRows.lean that lists a variable, with what it lists TIED to the program's text (the seventh form; the later family's looks); each row that meets fmt, with fmt's text TOLD by the authors' own Lean function (tested against real Go, not proved from fmt's source: count such statements apart). THE CARD IS WHAT COUNTS. Prove the row's statement (the work); the ties are given (YtklklldmhoofnaaDoorTie.lean); close each card by the builder's one call (the guide's Derived/Test/ToyasCard.lean, 'card_holds'). Laid BY PROGRAM, IN A SANDBOX (cutbox-door.mjs). By AI agents, Wed Nov 11 2026. No macro, syntax, notation, axiom, sorry.
-/
import Derived.Test.YtklklldmhoofnaaDoorRows
import GoSem.ClaimSeven
namespace Go.Proofs.YtklklldmhoofnaaDoor
namespace Rows

/-- THE TIED CARD OF 'strongroomlaw13.UebWrite'. -/
def uebWriteCard : Claim7 := { stood := { row := uebWriteRow, standIns := [], harness := (true, "794205a502534956bc1d2e0b3cb90744d7ad956b8ccb05d0fbedb6b80398f5bd"), looks := true }, kinds := [], alts := [], laidByText := true, laidKinds := [.data, .data, .data, .data], laidTests := true, laidLooks := .later }
def UebWriteCardSaid : Prop := Claim7.holds Tryd.pinned (.plain (OpenSpec.ofChange uebWriteSpec)) uebWriteCard

/-- THE TIED CARD OF 'strongroomlaw13.UebRead'. -/
def uebReadCard : Claim7 := { stood := { row := uebReadRow, standIns := [], harness := (true, "794205a502534956bc1d2e0b3cb90744d7ad956b8ccb05d0fbedb6b80398f5bd"), looks := true }, kinds := [], alts := [], laidByText := true, laidKinds := [.data, .data, .data, .sentinel, .sentinel], laidTests := true, laidLooks := .later }
def UebReadCardSaid : Prop := Claim7.holds Tryd.pinned (.plain (OpenSpec.ofChange uebReadSpec)) uebReadCard

/-- THE SECOND FORM's CARD OF 'strongroomlaw13.UebWrite'. -/
def uebWriteUptoCard : Claim7 := { stood := { row := uebWriteUptoRow, standIns := [], harness := (true, "794205a502534956bc1d2e0b3cb90744d7ad956b8ccb05d0fbedb6b80398f5bd"), looks := true }, kinds := [], alts := [], laidByText := true, laidKinds := [.data, .data, .data, .data], laidTests := true, laidLooks := .later }
def UebWriteUptoCardSaid : Prop := Claim7.holds Tryd.pinned (.plain (OpenSpec.upto uebWriteSpec)) uebWriteUptoCard

/-- THE SECOND FORM's CARD OF 'strongroomlaw13.UebRead'. -/
def uebReadUptoCard : Claim7 := { stood := { row := uebReadUptoRow, standIns := [], harness := (true, "794205a502534956bc1d2e0b3cb90744d7ad956b8ccb05d0fbedb6b80398f5bd"), looks := true }, kinds := [], alts := [], laidByText := true, laidKinds := [.data, .data, .data, .sentinel, .sentinel], laidTests := true, laidLooks := .later }
def UebReadUptoCardSaid : Prop := Claim7.holds Tryd.pinned (.plain (OpenSpec.upto uebReadSpec)) uebReadUptoCard
end Rows
end Go.Proofs.YtklklldmhoofnaaDoor
