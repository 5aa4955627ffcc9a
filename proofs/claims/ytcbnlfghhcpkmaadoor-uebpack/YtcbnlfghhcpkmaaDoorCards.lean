/-
  DERIVED. GIVEN WITH THE SEED: THE CARDS: each row of YtcbnlfghhcpkmaaDoorRows.lean that lists a variable, with what it lists TIED to the program's text (the seventh form; the later family's looks); each row that meets fmt, with fmt's text TOLD by the authors' own Lean function (tested against real Go, not proved from fmt's source: count such statements apart). THE CARD IS WHAT COUNTS. Prove the row's statement (the work); the ties are given (YtcbnlfghhcpkmaaDoorTie.lean); close each card by the builder's one call (the guide's Derived/Test/ToyasCard.lean, 'card_holds'). Laid BY PROGRAM, IN A SANDBOX (cutbox-door.mjs). By AI agents, Wed Nov 11 2026. No macro, syntax, notation, axiom, sorry.
-/
import Derived.Test.YtcbnlfghhcpkmaaDoorRows
import GoSem.ClaimSeven
namespace Go.Proofs.YtcbnlfghhcpkmaaDoor
namespace Rows

/-- THE TIED CARD OF 'strongroomlaw13.UebPack'. -/
def uebPackCard : Claim7 := { stood := { row := uebPackRow, standIns := [], harness := (true, "ca5593b10718435c0e739818cd44875163e0647a4430ebcff8e2a1351d9ae4b9"), looks := false }, kinds := [], alts := [], laidByText := true, laidKinds := [.data, .data, .data], laidTests := true, laidLooks := .later }
def UebPackCardSaid : Prop := Claim7.holds Tryd.pinned (.plain (OpenSpec.ofChange uebPackSpec)) uebPackCard

/-- THE SECOND FORM's CARD OF 'strongroomlaw13.UebPack'. -/
def uebPackUptoCard : Claim7 := { stood := { row := uebPackUptoRow, standIns := [], harness := (true, "ca5593b10718435c0e739818cd44875163e0647a4430ebcff8e2a1351d9ae4b9"), looks := false }, kinds := [], alts := [], laidByText := true, laidKinds := [.data, .data, .data], laidTests := true, laidLooks := .later }
def UebPackUptoCardSaid : Prop := Claim7.holds Tryd.pinned (.plain (OpenSpec.upto uebPackSpec)) uebPackUptoCard
end Rows
end Go.Proofs.YtcbnlfghhcpkmaaDoor
