/-
  DERIVED. GIVEN WITH THE SEED: THE CARDS: each row of YtabflkecjaphnaaDoorRows.lean that lists a variable, with what it lists TIED to the program's text (the seventh form; the later family's looks); each row that meets fmt, with fmt's text TOLD by the authors' own Lean function (tested against real Go, not proved from fmt's source: count such statements apart). THE CARD IS WHAT COUNTS. Prove the row's statement (the work); the ties are given (YtabflkecjaphnaaDoorTie.lean); close each card by the builder's one call (the guide's Derived/Test/ToyasCard.lean, 'card_holds'). Laid BY PROGRAM, IN A SANDBOX (cutbox-door.mjs). By AI agents, Wed Nov 11 2026. No macro, syntax, notation, axiom, sorry.
-/
import Derived.Test.YtabflkecjaphnaaDoorRows
import GoSem.ClaimSeven
namespace Go.Proofs.YtabflkecjaphnaaDoor
namespace Rows

/-- THE TIED CARD OF 'strongroomlaw13.UebUnpack'. -/
def uebUnpackCard : Claim7 := { stood := { row := uebUnpackRow, standIns := [], harness := (true, "486d556a0e6e11e2e6e3ea7cd05ef4aa86ce9818d1f5fa33cce8bb82a296e12e"), looks := true }, kinds := [], alts := [], laidByText := true, laidKinds := [.data, .data, .data, .sentinel, .sentinel], laidTests := true, laidLooks := .later }
def UebUnpackCardSaid : Prop := Claim7.holds Tryd.pinned (.plain (OpenSpec.ofChange uebUnpackSpec)) uebUnpackCard

/-- THE SECOND FORM's CARD OF 'strongroomlaw13.UebUnpack'. -/
def uebUnpackUptoCard : Claim7 := { stood := { row := uebUnpackUptoRow, standIns := [], harness := (true, "486d556a0e6e11e2e6e3ea7cd05ef4aa86ce9818d1f5fa33cce8bb82a296e12e"), looks := true }, kinds := [], alts := [], laidByText := true, laidKinds := [.data, .data, .data, .sentinel, .sentinel], laidTests := true, laidLooks := .later }
def UebUnpackUptoCardSaid : Prop := Claim7.holds Tryd.pinned (.plain (OpenSpec.upto uebUnpackSpec)) uebUnpackUptoCard
end Rows
end Go.Proofs.YtabflkecjaphnaaDoor
