/-
  DERIVED. GIVEN WITH THE SEED: THE CARDS: each row of YthcdefidoibopaaDoorRows.lean that lists a variable, with what it lists TIED to the program's text (the seventh form; the later family's looks); each row that meets fmt, with fmt's text TOLD by the authors' own Lean function (tested against real Go, not proved from fmt's source: count such statements apart). THE CARD IS WHAT COUNTS. Prove the row's statement (the work); the ties are given (YthcdefidoibopaaDoorTie.lean); close each card by the builder's one call (the guide's Derived/Test/ToyasCard.lean, 'card_holds'). Laid BY PROGRAM, IN A SANDBOX (cutbox-door.mjs). By AI agents, Wed Nov 11 2026. No macro, syntax, notation, axiom, sorry.
-/
import Derived.Test.YthcdefidoibopaaDoorRows
import GoSem.ClaimSeven
namespace Go.Proofs.YthcdefidoibopaaDoor
namespace Rows

/-- THE TIED CARD OF 'strongroomlaw13.UebPack'. -/
def uebPackCard : Claim7 := { stood := { row := uebPackRow, standIns := [], harness := (true, "47e8f88ac0291898d9ceb0b078384000ca5e2d1129c440110b2cb3bbba578099"), looks := true }, kinds := [], alts := [], laidByText := true, laidKinds := [.data, .data, .data], laidTests := true, laidLooks := .later }
def UebPackCardSaid : Prop := Claim7.holds Tryd.pinned (.plain (OpenSpec.ofChange uebPackSpec)) uebPackCard

/-- THE TIED CARD OF 'strongroomlaw13.UebUnpack'. -/
def uebUnpackCard : Claim7 := { stood := { row := uebUnpackRow, standIns := [], harness := (true, "47e8f88ac0291898d9ceb0b078384000ca5e2d1129c440110b2cb3bbba578099"), looks := true }, kinds := [], alts := [], laidByText := true, laidKinds := [.data, .data, .data, .sentinel, .sentinel], laidTests := true, laidLooks := .later }
def UebUnpackCardSaid : Prop := Claim7.holds Tryd.pinned (.plain (OpenSpec.ofChange uebUnpackSpec)) uebUnpackCard

/-- THE TIED CARD OF 'strongroomlaw13.UebWrite'. -/
def uebWriteCard : Claim7 := { stood := { row := uebWriteRow, standIns := [], harness := (true, "47e8f88ac0291898d9ceb0b078384000ca5e2d1129c440110b2cb3bbba578099"), looks := true }, kinds := [], alts := [], laidByText := true, laidKinds := [.data, .data, .data, .data], laidTests := true, laidLooks := .later }
def UebWriteCardSaid : Prop := Claim7.holds Tryd.pinned (.plain (OpenSpec.ofChange uebWriteSpec)) uebWriteCard

/-- THE TIED CARD OF 'strongroomlaw13.UebRead'. -/
def uebReadCard : Claim7 := { stood := { row := uebReadRow, standIns := [], harness := (true, "47e8f88ac0291898d9ceb0b078384000ca5e2d1129c440110b2cb3bbba578099"), looks := true }, kinds := [], alts := [], laidByText := true, laidKinds := [.data, .data, .data, .sentinel, .sentinel], laidTests := true, laidLooks := .later }
def UebReadCardSaid : Prop := Claim7.holds Tryd.pinned (.plain (OpenSpec.ofChange uebReadSpec)) uebReadCard

/-- THE TIED CARD OF 'strongroomlaw13.UebBack'. -/
def uebBackCard : Claim7 := { stood := { row := uebBackRow, standIns := [], harness := (true, "47e8f88ac0291898d9ceb0b078384000ca5e2d1129c440110b2cb3bbba578099"), looks := true }, kinds := [], alts := [], laidByText := true, laidKinds := [.data, .data, .data, .sentinel, .sentinel], laidTests := true, laidLooks := .later }
def UebBackCardSaid : Prop := Claim7.holds Tryd.pinned (.plain (OpenSpec.ofChange uebBackSpec)) uebBackCard

/-- THE TIED CARD OF 'strongroomlaw13.UebOne'. -/
def uebOneCard : Claim7 := { stood := { row := uebOneRow, standIns := [], harness := (true, "47e8f88ac0291898d9ceb0b078384000ca5e2d1129c440110b2cb3bbba578099"), looks := true }, kinds := [], alts := [], laidByText := true, laidKinds := [.data, .data, .data, .sentinel, .sentinel], laidTests := true, laidLooks := .later }
def UebOneCardSaid : Prop := Claim7.holds Tryd.pinned (.plain (OpenSpec.ofChange uebOneSpec)) uebOneCard

/-- THE SECOND FORM's CARD OF 'strongroomlaw13.UebPack'. -/
def uebPackUptoCard : Claim7 := { stood := { row := uebPackUptoRow, standIns := [], harness := (true, "47e8f88ac0291898d9ceb0b078384000ca5e2d1129c440110b2cb3bbba578099"), looks := true }, kinds := [], alts := [], laidByText := true, laidKinds := [.data, .data, .data], laidTests := true, laidLooks := .later }
def UebPackUptoCardSaid : Prop := Claim7.holds Tryd.pinned (.plain (OpenSpec.upto uebPackSpec)) uebPackUptoCard

/-- THE SECOND FORM's CARD OF 'strongroomlaw13.UebUnpack'. -/
def uebUnpackUptoCard : Claim7 := { stood := { row := uebUnpackUptoRow, standIns := [], harness := (true, "47e8f88ac0291898d9ceb0b078384000ca5e2d1129c440110b2cb3bbba578099"), looks := true }, kinds := [], alts := [], laidByText := true, laidKinds := [.data, .data, .data, .sentinel, .sentinel], laidTests := true, laidLooks := .later }
def UebUnpackUptoCardSaid : Prop := Claim7.holds Tryd.pinned (.plain (OpenSpec.upto uebUnpackSpec)) uebUnpackUptoCard

/-- THE SECOND FORM's CARD OF 'strongroomlaw13.UebWrite'. -/
def uebWriteUptoCard : Claim7 := { stood := { row := uebWriteUptoRow, standIns := [], harness := (true, "47e8f88ac0291898d9ceb0b078384000ca5e2d1129c440110b2cb3bbba578099"), looks := true }, kinds := [], alts := [], laidByText := true, laidKinds := [.data, .data, .data, .data], laidTests := true, laidLooks := .later }
def UebWriteUptoCardSaid : Prop := Claim7.holds Tryd.pinned (.plain (OpenSpec.upto uebWriteSpec)) uebWriteUptoCard

/-- THE SECOND FORM's CARD OF 'strongroomlaw13.UebRead'. -/
def uebReadUptoCard : Claim7 := { stood := { row := uebReadUptoRow, standIns := [], harness := (true, "47e8f88ac0291898d9ceb0b078384000ca5e2d1129c440110b2cb3bbba578099"), looks := true }, kinds := [], alts := [], laidByText := true, laidKinds := [.data, .data, .data, .sentinel, .sentinel], laidTests := true, laidLooks := .later }
def UebReadUptoCardSaid : Prop := Claim7.holds Tryd.pinned (.plain (OpenSpec.upto uebReadSpec)) uebReadUptoCard

/-- THE SECOND FORM's CARD OF 'strongroomlaw13.UebBack'. -/
def uebBackUptoCard : Claim7 := { stood := { row := uebBackUptoRow, standIns := [], harness := (true, "47e8f88ac0291898d9ceb0b078384000ca5e2d1129c440110b2cb3bbba578099"), looks := true }, kinds := [], alts := [], laidByText := true, laidKinds := [.data, .data, .data, .sentinel, .sentinel], laidTests := true, laidLooks := .later }
def UebBackUptoCardSaid : Prop := Claim7.holds Tryd.pinned (.plain (OpenSpec.upto uebBackSpec)) uebBackUptoCard

/-- THE SECOND FORM's CARD OF 'strongroomlaw13.UebOne'. -/
def uebOneUptoCard : Claim7 := { stood := { row := uebOneUptoRow, standIns := [], harness := (true, "47e8f88ac0291898d9ceb0b078384000ca5e2d1129c440110b2cb3bbba578099"), looks := true }, kinds := [], alts := [], laidByText := true, laidKinds := [.data, .data, .data, .sentinel, .sentinel], laidTests := true, laidLooks := .later }
def UebOneUptoCardSaid : Prop := Claim7.holds Tryd.pinned (.plain (OpenSpec.upto uebOneSpec)) uebOneUptoCard
end Rows
end Go.Proofs.YthcdefidoibopaaDoor
