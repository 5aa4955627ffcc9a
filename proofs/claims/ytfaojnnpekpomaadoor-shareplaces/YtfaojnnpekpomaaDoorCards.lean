/-
  DERIVED. GIVEN WITH THE SEED: THE CARDS: each row of YtfaojnnpekpomaaDoorRows.lean that lists a variable, with what it lists TIED to the program's text (the seventh form; the later family's looks); each row that meets fmt, with fmt's text TOLD by the authors' own Lean function (tested against real Go, not proved from fmt's source: count such statements apart). THE CARD IS WHAT COUNTS. Prove the row's statement (the work); the ties are given (YtfaojnnpekpomaaDoorTie.lean); close each card by the builder's one call (the guide's Derived/Test/ToyasCard.lean, 'card_holds'). Laid BY PROGRAM, IN A SANDBOX (cutbox-door.mjs). By AI agents, Wed Nov 11 2026. No macro, syntax, notation, axiom, sorry.
-/
import Derived.Test.YtfaojnnpekpomaaDoorRows
import GoSem.ClaimSeven
namespace Go.Proofs.YtfaojnnpekpomaaDoor
namespace Rows

/-- THE TIED CARD OF 'strongroomlaw14.SharePlaces'. -/
def sharePlacesCard : Claim7 := { stood := { row := sharePlacesRow, standIns := [], harness := (true, "5375fe4ce9e6d1847666945b76e223e986d7a389246751d2c2be1b71ad57a2f8"), looks := false }, kinds := [], alts := [], laidByText := true, laidKinds := [.data, .data, .data], laidTests := true, laidLooks := .later }
def SharePlacesCardSaid : Prop := Claim7.holds Tryd.pinned (.plain (OpenSpec.ofChange sharePlacesSpec)) sharePlacesCard

/-- THE TIED CARD OF 'strongroomlaw14.ShareNames'. -/
def shareNamesCard : Claim7 := { stood := { row := shareNamesRow, standIns := [], harness := (true, "5375fe4ce9e6d1847666945b76e223e986d7a389246751d2c2be1b71ad57a2f8"), looks := false }, kinds := [], alts := [], laidByText := true, laidKinds := [.data, .data, .data], laidTests := true, laidLooks := .later }
def ShareNamesCardSaid : Prop := Claim7.holds Tryd.pinned (.plain (OpenSpec.ofChange shareNamesSpec)) shareNamesCard

/-- THE SECOND FORM's CARD OF 'strongroomlaw14.SharePlaces'. -/
def sharePlacesUptoCard : Claim7 := { stood := { row := sharePlacesUptoRow, standIns := [], harness := (true, "5375fe4ce9e6d1847666945b76e223e986d7a389246751d2c2be1b71ad57a2f8"), looks := false }, kinds := [], alts := [], laidByText := true, laidKinds := [.data, .data, .data], laidTests := true, laidLooks := .later }
def SharePlacesUptoCardSaid : Prop := Claim7.holds Tryd.pinned (.plain (OpenSpec.upto sharePlacesSpec)) sharePlacesUptoCard

/-- THE SECOND FORM's CARD OF 'strongroomlaw14.ShareNames'. -/
def shareNamesUptoCard : Claim7 := { stood := { row := shareNamesUptoRow, standIns := [], harness := (true, "5375fe4ce9e6d1847666945b76e223e986d7a389246751d2c2be1b71ad57a2f8"), looks := false }, kinds := [], alts := [], laidByText := true, laidKinds := [.data, .data, .data], laidTests := true, laidLooks := .later }
def ShareNamesUptoCardSaid : Prop := Claim7.holds Tryd.pinned (.plain (OpenSpec.upto shareNamesSpec)) shareNamesUptoCard
end Rows
end Go.Proofs.YtfaojnnpekpomaaDoor
