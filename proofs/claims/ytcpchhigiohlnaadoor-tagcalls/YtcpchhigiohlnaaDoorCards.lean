/-
  DERIVED. GIVEN WITH THE SEED: THE CARDS: each row of YtcpchhigiohlnaaDoorRows.lean that lists a variable, with what it lists TIED to the program's text (the seventh form; the later family's looks); each row that meets fmt, with fmt's text TOLD by the authors' own Lean function (tested against real Go, not proved from fmt's source: count such statements apart). THE CARD IS WHAT COUNTS. Prove the row's statement (the work); the ties are given (YtcpchhigiohlnaaDoorTie.lean); close each card by the builder's one call (the guide's Derived/Test/ToyasCard.lean, 'card_holds'). Laid BY PROGRAM, IN A SANDBOX (cutbox-door.mjs). By AI agents, Wed Nov 11 2026. No macro, syntax, notation, axiom, sorry.
-/
import Derived.Test.YtcpchhigiohlnaaDoorRows
import GoSem.ClaimSeven
namespace Go.Proofs.YtcpchhigiohlnaaDoor
namespace Rows

/-- THE TIED CARD OF 'strongroomlaw05.TagCalls'. -/
def tagCallsCard : Claim7 := { stood := { row := tagCallsRow, standIns := [], harness := (true, "25292be864a7097e1c7924d79d5882f61c832bc2071167993c4e92a4ec863397"), looks := false }, kinds := [], alts := [], laidByText := true, laidKinds := [.data], laidTests := true, laidLooks := .later }
def TagCallsCardSaid : Prop := Claim7.holds Tryd.pinned (.plain (OpenSpec.ofChange tagCallsSpec)) tagCallsCard

/-- THE SECOND FORM's CARD OF 'strongroomlaw05.TagCalls'. -/
def tagCallsUptoCard : Claim7 := { stood := { row := tagCallsUptoRow, standIns := [], harness := (true, "25292be864a7097e1c7924d79d5882f61c832bc2071167993c4e92a4ec863397"), looks := false }, kinds := [], alts := [], laidByText := true, laidKinds := [.data], laidTests := true, laidLooks := .later }
def TagCallsUptoCardSaid : Prop := Claim7.holds Tryd.pinned (.plain (OpenSpec.upto tagCallsSpec)) tagCallsUptoCard
end Rows
end Go.Proofs.YtcpchhigiohlnaaDoor
