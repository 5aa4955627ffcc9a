/-
  DERIVED. GIVEN WITH THE SEED: THE CARDS: each row of YtamoblopgibbiaaDoorRows.lean that lists a variable, with what it lists TIED to the program's text (the seventh form; the later family's looks); each row that meets fmt, with fmt's text TOLD by the authors' own Lean function (tested against real Go, not proved from fmt's source: count such statements apart). THE CARD IS WHAT COUNTS. Prove the row's statement (the work); the ties are given (YtamoblopgibbiaaDoorTie.lean); close each card by the builder's one call (the guide's Derived/Test/ToyasCard.lean, 'card_holds'). Laid BY PROGRAM, IN A SANDBOX (cutbox-door.mjs). By AI agents, Wed Nov 11 2026. No macro, syntax, notation, axiom, sorry.
-/
import Derived.Test.YtamoblopgibbiaaDoorRows
import GoSem.ClaimSeven
namespace Go.Proofs.YtamoblopgibbiaaDoor
namespace Rows

/-- THE TIED CARD OF 'strongroomlaw05.TagCalls'. -/
def tagCallsCard : Claim7 := { stood := { row := tagCallsRow, standIns := [], harness := (true, "e5dc6d9cad68733fd75e3fba63d328f123e7b495ca13c9140ce0100f8244a604"), looks := false }, kinds := [], alts := [], laidByText := true, laidKinds := [.data], laidTests := true, laidLooks := .later }
def TagCallsCardSaid : Prop := Claim7.holds Tryd.pinned (.plain (OpenSpec.ofChange tagCallsSpec)) tagCallsCard

/-- THE TIED CARD OF 'strongroomlaw05.TagBack'. -/
def tagBackCard : Claim7 := { stood := { row := tagBackRow, standIns := [], harness := (true, "e5dc6d9cad68733fd75e3fba63d328f123e7b495ca13c9140ce0100f8244a604"), looks := false }, kinds := [], alts := [], laidByText := true, laidKinds := [.data], laidTests := true, laidLooks := .later }
def TagBackCardSaid : Prop := Claim7.holds Tryd.pinned (.plain (OpenSpec.ofChange tagBackSpec)) tagBackCard

/-- THE TIED CARD OF 'strongroomlaw05.TagApart'. -/
def tagApartCard : Claim7 := { stood := { row := tagApartRow, standIns := [], harness := (true, "e5dc6d9cad68733fd75e3fba63d328f123e7b495ca13c9140ce0100f8244a604"), looks := false }, kinds := [], alts := [], laidByText := true, laidKinds := [.data], laidTests := true, laidLooks := .later }
def TagApartCardSaid : Prop := Claim7.holds Tryd.pinned (.plain (OpenSpec.ofChange tagApartSpec)) tagApartCard

/-- THE TIED CARD OF 'strongroomlaw05.TagNames'. -/
def tagNamesCard : Claim7 := { stood := { row := tagNamesRow, standIns := [], harness := (true, "e5dc6d9cad68733fd75e3fba63d328f123e7b495ca13c9140ce0100f8244a604"), looks := false }, kinds := [], alts := [], laidByText := true, laidKinds := [.data], laidTests := true, laidLooks := .later }
def TagNamesCardSaid : Prop := Claim7.holds Tryd.pinned (.plain (OpenSpec.ofChange tagNamesSpec)) tagNamesCard

/-- THE SECOND FORM's CARD OF 'strongroomlaw05.TagCalls'. -/
def tagCallsUptoCard : Claim7 := { stood := { row := tagCallsUptoRow, standIns := [], harness := (true, "e5dc6d9cad68733fd75e3fba63d328f123e7b495ca13c9140ce0100f8244a604"), looks := false }, kinds := [], alts := [], laidByText := true, laidKinds := [.data], laidTests := true, laidLooks := .later }
def TagCallsUptoCardSaid : Prop := Claim7.holds Tryd.pinned (.plain (OpenSpec.upto tagCallsSpec)) tagCallsUptoCard

/-- THE SECOND FORM's CARD OF 'strongroomlaw05.TagBack'. -/
def tagBackUptoCard : Claim7 := { stood := { row := tagBackUptoRow, standIns := [], harness := (true, "e5dc6d9cad68733fd75e3fba63d328f123e7b495ca13c9140ce0100f8244a604"), looks := false }, kinds := [], alts := [], laidByText := true, laidKinds := [.data], laidTests := true, laidLooks := .later }
def TagBackUptoCardSaid : Prop := Claim7.holds Tryd.pinned (.plain (OpenSpec.upto tagBackSpec)) tagBackUptoCard

/-- THE SECOND FORM's CARD OF 'strongroomlaw05.TagApart'. -/
def tagApartUptoCard : Claim7 := { stood := { row := tagApartUptoRow, standIns := [], harness := (true, "e5dc6d9cad68733fd75e3fba63d328f123e7b495ca13c9140ce0100f8244a604"), looks := false }, kinds := [], alts := [], laidByText := true, laidKinds := [.data], laidTests := true, laidLooks := .later }
def TagApartUptoCardSaid : Prop := Claim7.holds Tryd.pinned (.plain (OpenSpec.upto tagApartSpec)) tagApartUptoCard

/-- THE SECOND FORM's CARD OF 'strongroomlaw05.TagNames'. -/
def tagNamesUptoCard : Claim7 := { stood := { row := tagNamesUptoRow, standIns := [], harness := (true, "e5dc6d9cad68733fd75e3fba63d328f123e7b495ca13c9140ce0100f8244a604"), looks := false }, kinds := [], alts := [], laidByText := true, laidKinds := [.data], laidTests := true, laidLooks := .later }
def TagNamesUptoCardSaid : Prop := Claim7.holds Tryd.pinned (.plain (OpenSpec.upto tagNamesSpec)) tagNamesUptoCard
end Rows
end Go.Proofs.YtamoblopgibbiaaDoor
