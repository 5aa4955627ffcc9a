/-
  DERIVED. GIVEN WITH THE SEED: THE CARDS: each row of YtinahldjpobigaaDoorRows.lean that lists a variable, with what it lists TIED to the program's text (the seventh form; the later family's looks); each row that meets fmt, with fmt's text TOLD by the authors' own Lean function (tested against real Go, not proved from fmt's source: count such statements apart). THE CARD IS WHAT COUNTS. Prove the row's statement (the work); the ties are given (YtinahldjpobigaaDoorTie.lean); close each card by the builder's one call (the guide's Derived/Test/ToyasCard.lean, 'card_holds'). Laid BY PROGRAM, IN A SANDBOX (cutbox-door.mjs). By AI agents, Wed Nov 11 2026. No macro, syntax, notation, axiom, sorry.
-/
import Derived.Test.YtinahldjpobigaaDoorRows
import GoSem.ClaimSeven
namespace Go.Proofs.YtinahldjpobigaaDoor
namespace Rows

/-- THE TIED CARD OF 'strongroomlaw02.ShaCalls'. -/
def shaCallsCard : Claim7 := { stood := { row := shaCallsRow, standIns := [], harness := (true, "418d08ba6d5f244aecb89cc3e0f774f7f8715fdf1346f9a3f96b20534b795fd4"), looks := false }, kinds := [], alts := [], laidByText := true, laidKinds := [.data], laidTests := true, laidLooks := .later }
def ShaCallsCardSaid : Prop := Claim7.holds Tryd.pinned (.plain (OpenSpec.ofChange shaCallsSpec)) shaCallsCard

/-- THE TIED CARD OF 'strongroomlaw02.ShaStreams'. -/
def shaStreamsCard : Claim7 := { stood := { row := shaStreamsRow, standIns := [], harness := (true, "418d08ba6d5f244aecb89cc3e0f774f7f8715fdf1346f9a3f96b20534b795fd4"), looks := false }, kinds := [], alts := [], laidByText := true, laidKinds := [.data], laidTests := true, laidLooks := .later }
def ShaStreamsCardSaid : Prop := Claim7.holds Tryd.pinned (.plain (OpenSpec.ofChange shaStreamsSpec)) shaStreamsCard

/-- THE SECOND FORM's CARD OF 'strongroomlaw02.ShaCalls'. -/
def shaCallsUptoCard : Claim7 := { stood := { row := shaCallsUptoRow, standIns := [], harness := (true, "418d08ba6d5f244aecb89cc3e0f774f7f8715fdf1346f9a3f96b20534b795fd4"), looks := false }, kinds := [], alts := [], laidByText := true, laidKinds := [.data], laidTests := true, laidLooks := .later }
def ShaCallsUptoCardSaid : Prop := Claim7.holds Tryd.pinned (.plain (OpenSpec.upto shaCallsSpec)) shaCallsUptoCard

/-- THE SECOND FORM's CARD OF 'strongroomlaw02.ShaStreams'. -/
def shaStreamsUptoCard : Claim7 := { stood := { row := shaStreamsUptoRow, standIns := [], harness := (true, "418d08ba6d5f244aecb89cc3e0f774f7f8715fdf1346f9a3f96b20534b795fd4"), looks := false }, kinds := [], alts := [], laidByText := true, laidKinds := [.data], laidTests := true, laidLooks := .later }
def ShaStreamsUptoCardSaid : Prop := Claim7.holds Tryd.pinned (.plain (OpenSpec.upto shaStreamsSpec)) shaStreamsUptoCard
end Rows
end Go.Proofs.YtinahldjpobigaaDoor
