/-
  DERIVED. GIVEN WITH THE SEED: THE CARDS: each row of YtlhjpflljokinaaDoorRows.lean that lists a variable, with what it lists TIED to the program's text (the seventh form; the later family's looks); each row that meets fmt, with fmt's text TOLD by the authors' own Lean function (tested against real Go, not proved from fmt's source: count such statements apart). THE CARD IS WHAT COUNTS. Prove the row's statement (the work); the ties are given (YtlhjpflljokinaaDoorTie.lean); close each card by the builder's one call (the guide's Derived/Test/ToyasCard.lean, 'card_holds'). Laid BY PROGRAM, IN A SANDBOX (cutbox-door.mjs). By AI agents, Wed Nov 11 2026. No macro, syntax, notation, axiom, sorry.
-/
import Derived.Test.YtlhjpflljokinaaDoorRows
import GoSem.ClaimSeven
namespace Go.Proofs.YtlhjpflljokinaaDoor
namespace Rows

/-- THE TIED CARD OF 'strongroomlaw23.HappyCalls'. -/
def happyCallsCard : Claim7 := { stood := { row := happyCallsRow, standIns := [], harness := (true, "4afe7e9aaee084a05edc7540af29628e1428ef24d0ea41c38cbd99f1200edda4"), looks := false }, kinds := [], alts := [], laidByText := true, laidKinds := [.data], laidTests := true, laidLooks := .later }
def HappyCallsCardSaid : Prop := Claim7.holds Tryd.pinned (.plain (OpenSpec.ofChange happyCallsSpec)) happyCallsCard

/-- THE TIED CARD OF 'strongroomlaw23.HappyGrows'. -/
def happyGrowsCard : Claim7 := { stood := { row := happyGrowsRow, standIns := [], harness := (true, "4afe7e9aaee084a05edc7540af29628e1428ef24d0ea41c38cbd99f1200edda4"), looks := false }, kinds := [], alts := [], laidByText := true, laidKinds := [.data], laidTests := true, laidLooks := .later }
def HappyGrowsCardSaid : Prop := Claim7.holds Tryd.pinned (.plain (OpenSpec.ofChange happyGrowsSpec)) happyGrowsCard

/-- THE TIED CARD OF 'strongroomlaw23.HappyMatches'. -/
def happyMatchesCard : Claim7 := { stood := { row := happyMatchesRow, standIns := [], harness := (true, "4afe7e9aaee084a05edc7540af29628e1428ef24d0ea41c38cbd99f1200edda4"), looks := false }, kinds := [], alts := [], laidByText := true, laidKinds := [.data], laidTests := true, laidLooks := .later }
def HappyMatchesCardSaid : Prop := Claim7.holds Tryd.pinned (.plain (OpenSpec.ofChange happyMatchesSpec)) happyMatchesCard

/-- THE TIED CARD OF 'strongroomlaw23.HappyLasts'. -/
def happyLastsCard : Claim7 := { stood := { row := happyLastsRow, standIns := [], harness := (true, "4afe7e9aaee084a05edc7540af29628e1428ef24d0ea41c38cbd99f1200edda4"), looks := false }, kinds := [], alts := [], laidByText := true, laidKinds := [.data], laidTests := true, laidLooks := .later }
def HappyLastsCardSaid : Prop := Claim7.holds Tryd.pinned (.plain (OpenSpec.ofChange happyLastsSpec)) happyLastsCard

/-- THE TIED CARD OF 'strongroomlaw23.HappyNames'. -/
def happyNamesCard : Claim7 := { stood := { row := happyNamesRow, standIns := [], harness := (true, "4afe7e9aaee084a05edc7540af29628e1428ef24d0ea41c38cbd99f1200edda4"), looks := false }, kinds := [], alts := [], laidByText := true, laidKinds := [.data], laidTests := true, laidLooks := .later }
def HappyNamesCardSaid : Prop := Claim7.holds Tryd.pinned (.plain (OpenSpec.ofChange happyNamesSpec)) happyNamesCard

/-- THE SECOND FORM's CARD OF 'strongroomlaw23.HappyCalls'. -/
def happyCallsUptoCard : Claim7 := { stood := { row := happyCallsUptoRow, standIns := [], harness := (true, "4afe7e9aaee084a05edc7540af29628e1428ef24d0ea41c38cbd99f1200edda4"), looks := false }, kinds := [], alts := [], laidByText := true, laidKinds := [.data], laidTests := true, laidLooks := .later }
def HappyCallsUptoCardSaid : Prop := Claim7.holds Tryd.pinned (.plain (OpenSpec.upto happyCallsSpec)) happyCallsUptoCard

/-- THE SECOND FORM's CARD OF 'strongroomlaw23.HappyGrows'. -/
def happyGrowsUptoCard : Claim7 := { stood := { row := happyGrowsUptoRow, standIns := [], harness := (true, "4afe7e9aaee084a05edc7540af29628e1428ef24d0ea41c38cbd99f1200edda4"), looks := false }, kinds := [], alts := [], laidByText := true, laidKinds := [.data], laidTests := true, laidLooks := .later }
def HappyGrowsUptoCardSaid : Prop := Claim7.holds Tryd.pinned (.plain (OpenSpec.upto happyGrowsSpec)) happyGrowsUptoCard

/-- THE SECOND FORM's CARD OF 'strongroomlaw23.HappyMatches'. -/
def happyMatchesUptoCard : Claim7 := { stood := { row := happyMatchesUptoRow, standIns := [], harness := (true, "4afe7e9aaee084a05edc7540af29628e1428ef24d0ea41c38cbd99f1200edda4"), looks := false }, kinds := [], alts := [], laidByText := true, laidKinds := [.data], laidTests := true, laidLooks := .later }
def HappyMatchesUptoCardSaid : Prop := Claim7.holds Tryd.pinned (.plain (OpenSpec.upto happyMatchesSpec)) happyMatchesUptoCard

/-- THE SECOND FORM's CARD OF 'strongroomlaw23.HappyLasts'. -/
def happyLastsUptoCard : Claim7 := { stood := { row := happyLastsUptoRow, standIns := [], harness := (true, "4afe7e9aaee084a05edc7540af29628e1428ef24d0ea41c38cbd99f1200edda4"), looks := false }, kinds := [], alts := [], laidByText := true, laidKinds := [.data], laidTests := true, laidLooks := .later }
def HappyLastsUptoCardSaid : Prop := Claim7.holds Tryd.pinned (.plain (OpenSpec.upto happyLastsSpec)) happyLastsUptoCard

/-- THE SECOND FORM's CARD OF 'strongroomlaw23.HappyNames'. -/
def happyNamesUptoCard : Claim7 := { stood := { row := happyNamesUptoRow, standIns := [], harness := (true, "4afe7e9aaee084a05edc7540af29628e1428ef24d0ea41c38cbd99f1200edda4"), looks := false }, kinds := [], alts := [], laidByText := true, laidKinds := [.data], laidTests := true, laidLooks := .later }
def HappyNamesUptoCardSaid : Prop := Claim7.holds Tryd.pinned (.plain (OpenSpec.upto happyNamesSpec)) happyNamesUptoCard
end Rows
end Go.Proofs.YtlhjpflljokinaaDoor
