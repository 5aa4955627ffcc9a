/-
  DERIVED. GIVEN WITH THE SEED: THE CARDS: each row of YtokamemkfgpfpaaDoorRows.lean that lists a variable, with what it lists TIED to the program's text (the seventh form; the later family's looks); each row that meets fmt, with fmt's text TOLD by the authors' own Lean function (tested against real Go, not proved from fmt's source: count such statements apart). THE CARD IS WHAT COUNTS. Prove the row's statement (the work); the ties are given (YtokamemkfgpfpaaDoorTie.lean); close each card by the builder's one call (the guide's Derived/Test/ToyasCard.lean, 'card_holds'). Laid BY PROGRAM, IN A SANDBOX (cutbox-door.mjs). By AI agents, Wed Nov 11 2026. No macro, syntax, notation, axiom, sorry.
-/
import Derived.Test.YtokamemkfgpfpaaDoorRows
import GoSem.ClaimSeven
namespace Go.Proofs.YtokamemkfgpfpaaDoor
namespace Rows

/-- THE TIED CARD OF 'strongroomlaw05.TagCalls'. -/
def tagCallsCard : Claim7 := { stood := { row := tagCallsRow, standIns := [], harness := (true, "71fb0de117df2ef3126d6c2671fec9f5a01928baf045b813fef17feee50af4bd"), looks := false }, kinds := [], alts := [], laidByText := true, laidKinds := [.data], laidTests := true, laidLooks := .later }
def TagCallsCardSaid : Prop := Claim7.holds Tryd.pinned (.plain (OpenSpec.ofChange tagCallsSpec)) tagCallsCard

/-- THE TIED CARD OF 'strongroomlaw05.TagBack'. -/
def tagBackCard : Claim7 := { stood := { row := tagBackRow, standIns := [], harness := (true, "71fb0de117df2ef3126d6c2671fec9f5a01928baf045b813fef17feee50af4bd"), looks := false }, kinds := [], alts := [], laidByText := true, laidKinds := [.data], laidTests := true, laidLooks := .later }
def TagBackCardSaid : Prop := Claim7.holds Tryd.pinned (.plain (OpenSpec.ofChange tagBackSpec)) tagBackCard

/-- THE TIED CARD OF 'strongroomlaw05.TagApart'. -/
def tagApartCard : Claim7 := { stood := { row := tagApartRow, standIns := [], harness := (true, "71fb0de117df2ef3126d6c2671fec9f5a01928baf045b813fef17feee50af4bd"), looks := false }, kinds := [], alts := [], laidByText := true, laidKinds := [.data], laidTests := true, laidLooks := .later }
def TagApartCardSaid : Prop := Claim7.holds Tryd.pinned (.plain (OpenSpec.ofChange tagApartSpec)) tagApartCard

/-- THE SECOND FORM's CARD OF 'strongroomlaw05.TagCalls'. -/
def tagCallsUptoCard : Claim7 := { stood := { row := tagCallsUptoRow, standIns := [], harness := (true, "71fb0de117df2ef3126d6c2671fec9f5a01928baf045b813fef17feee50af4bd"), looks := false }, kinds := [], alts := [], laidByText := true, laidKinds := [.data], laidTests := true, laidLooks := .later }
def TagCallsUptoCardSaid : Prop := Claim7.holds Tryd.pinned (.plain (OpenSpec.upto tagCallsSpec)) tagCallsUptoCard

/-- THE SECOND FORM's CARD OF 'strongroomlaw05.TagBack'. -/
def tagBackUptoCard : Claim7 := { stood := { row := tagBackUptoRow, standIns := [], harness := (true, "71fb0de117df2ef3126d6c2671fec9f5a01928baf045b813fef17feee50af4bd"), looks := false }, kinds := [], alts := [], laidByText := true, laidKinds := [.data], laidTests := true, laidLooks := .later }
def TagBackUptoCardSaid : Prop := Claim7.holds Tryd.pinned (.plain (OpenSpec.upto tagBackSpec)) tagBackUptoCard

/-- THE SECOND FORM's CARD OF 'strongroomlaw05.TagApart'. -/
def tagApartUptoCard : Claim7 := { stood := { row := tagApartUptoRow, standIns := [], harness := (true, "71fb0de117df2ef3126d6c2671fec9f5a01928baf045b813fef17feee50af4bd"), looks := false }, kinds := [], alts := [], laidByText := true, laidKinds := [.data], laidTests := true, laidLooks := .later }
def TagApartUptoCardSaid : Prop := Claim7.holds Tryd.pinned (.plain (OpenSpec.upto tagApartSpec)) tagApartUptoCard
end Rows
end Go.Proofs.YtokamemkfgpfpaaDoor
