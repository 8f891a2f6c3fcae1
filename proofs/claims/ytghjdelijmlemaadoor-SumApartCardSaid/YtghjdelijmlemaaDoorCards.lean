/-
  DERIVED. GIVEN WITH THE SEED: THE CARDS: each row of YtghjdelijmlemaaDoorRows.lean that lists a variable, with what it lists TIED to the program's text (the seventh form; the later family's looks); each row that meets fmt, with fmt's text TOLD by the authors' own Lean function (tested against real Go, not proved from fmt's source: count such statements apart). THE CARD IS WHAT COUNTS. Prove the row's statement (the work); the ties are given (YtghjdelijmlemaaDoorTie.lean); close each card by the builder's one call (the guide's Derived/Test/ToyasCard.lean, 'card_holds'). Laid BY PROGRAM, IN A SANDBOX (cutbox-door.mjs). By AI agents, Wed Nov 11 2026. No macro, syntax, notation, axiom, sorry.
-/
import Derived.Test.YtghjdelijmlemaaDoorRows
import GoSem.ClaimSeven
namespace Go.Proofs.YtghjdelijmlemaaDoor
namespace Rows

/-- THE TIED CARD OF 'scrivenerlaw01.SumStands'. -/
def sumStandsCard : Claim7 := { stood := { row := sumStandsRow, standIns := [], harness := (true, "585efe4f8a73f91a0032e3ead48d64241ec307a39d8744f36bbb8de5caaef14d"), looks := false }, kinds := [], alts := [], laidByText := true, laidKinds := [.data, .data], laidTests := true, laidLooks := .later }
def SumStandsCardSaid : Prop := Claim7.holds Tryd.pinned (.plain (OpenSpec.ofChange sumStandsSpec)) sumStandsCard

/-- THE TIED CARD OF 'scrivenerlaw01.SumBlocks'. -/
def sumBlocksCard : Claim7 := { stood := { row := sumBlocksRow, standIns := [], harness := (true, "585efe4f8a73f91a0032e3ead48d64241ec307a39d8744f36bbb8de5caaef14d"), looks := false }, kinds := [], alts := [], laidByText := true, laidKinds := [.data, .data], laidTests := true, laidLooks := .later }
def SumBlocksCardSaid : Prop := Claim7.holds Tryd.pinned (.plain (OpenSpec.ofChange sumBlocksSpec)) sumBlocksCard

/-- THE TIED CARD OF 'scrivenerlaw01.SumPurposes'. -/
def sumPurposesCard : Claim7 := { stood := { row := sumPurposesRow, standIns := [], harness := (true, "585efe4f8a73f91a0032e3ead48d64241ec307a39d8744f36bbb8de5caaef14d"), looks := false }, kinds := [], alts := [], laidByText := true, laidKinds := [.data, .data], laidTests := true, laidLooks := .later }
def SumPurposesCardSaid : Prop := Claim7.holds Tryd.pinned (.plain (OpenSpec.ofChange sumPurposesSpec)) sumPurposesCard

/-- THE TIED CARD OF 'scrivenerlaw01.SumApart'. -/
def sumApartCard : Claim7 := { stood := { row := sumApartRow, standIns := [], harness := (true, "585efe4f8a73f91a0032e3ead48d64241ec307a39d8744f36bbb8de5caaef14d"), looks := false }, kinds := [], alts := [], laidByText := true, laidKinds := [.data, .data], laidTests := true, laidLooks := .later }
def SumApartCardSaid : Prop := Claim7.holds Tryd.pinned (.plain (OpenSpec.ofChange sumApartSpec)) sumApartCard

/-- THE TIED CARD OF 'scrivenerlaw01.SumRuns'. -/
def sumRunsCard : Claim7 := { stood := { row := sumRunsRow, standIns := [], harness := (true, "585efe4f8a73f91a0032e3ead48d64241ec307a39d8744f36bbb8de5caaef14d"), looks := false }, kinds := [], alts := [], laidByText := true, laidKinds := [.data, .data], laidTests := true, laidLooks := .later }
def SumRunsCardSaid : Prop := Claim7.holds Tryd.pinned (.plain (OpenSpec.ofChange sumRunsSpec)) sumRunsCard

/-- THE TIED CARD OF 'scrivenerlaw01.SumCounts'. -/
def sumCountsCard : Claim7 := { stood := { row := sumCountsRow, standIns := [], harness := (true, "585efe4f8a73f91a0032e3ead48d64241ec307a39d8744f36bbb8de5caaef14d"), looks := false }, kinds := [], alts := [], laidByText := true, laidKinds := [.data, .data], laidTests := true, laidLooks := .later }
def SumCountsCardSaid : Prop := Claim7.holds Tryd.pinned (.plain (OpenSpec.ofChange sumCountsSpec)) sumCountsCard

/-- THE SECOND FORM's CARD OF 'scrivenerlaw01.SumStands'. -/
def sumStandsUptoCard : Claim7 := { stood := { row := sumStandsUptoRow, standIns := [], harness := (true, "585efe4f8a73f91a0032e3ead48d64241ec307a39d8744f36bbb8de5caaef14d"), looks := false }, kinds := [], alts := [], laidByText := true, laidKinds := [.data, .data], laidTests := true, laidLooks := .later }
def SumStandsUptoCardSaid : Prop := Claim7.holds Tryd.pinned (.plain (OpenSpec.upto sumStandsSpec)) sumStandsUptoCard

/-- THE SECOND FORM's CARD OF 'scrivenerlaw01.SumBlocks'. -/
def sumBlocksUptoCard : Claim7 := { stood := { row := sumBlocksUptoRow, standIns := [], harness := (true, "585efe4f8a73f91a0032e3ead48d64241ec307a39d8744f36bbb8de5caaef14d"), looks := false }, kinds := [], alts := [], laidByText := true, laidKinds := [.data, .data], laidTests := true, laidLooks := .later }
def SumBlocksUptoCardSaid : Prop := Claim7.holds Tryd.pinned (.plain (OpenSpec.upto sumBlocksSpec)) sumBlocksUptoCard

/-- THE SECOND FORM's CARD OF 'scrivenerlaw01.SumPurposes'. -/
def sumPurposesUptoCard : Claim7 := { stood := { row := sumPurposesUptoRow, standIns := [], harness := (true, "585efe4f8a73f91a0032e3ead48d64241ec307a39d8744f36bbb8de5caaef14d"), looks := false }, kinds := [], alts := [], laidByText := true, laidKinds := [.data, .data], laidTests := true, laidLooks := .later }
def SumPurposesUptoCardSaid : Prop := Claim7.holds Tryd.pinned (.plain (OpenSpec.upto sumPurposesSpec)) sumPurposesUptoCard

/-- THE SECOND FORM's CARD OF 'scrivenerlaw01.SumApart'. -/
def sumApartUptoCard : Claim7 := { stood := { row := sumApartUptoRow, standIns := [], harness := (true, "585efe4f8a73f91a0032e3ead48d64241ec307a39d8744f36bbb8de5caaef14d"), looks := false }, kinds := [], alts := [], laidByText := true, laidKinds := [.data, .data], laidTests := true, laidLooks := .later }
def SumApartUptoCardSaid : Prop := Claim7.holds Tryd.pinned (.plain (OpenSpec.upto sumApartSpec)) sumApartUptoCard

/-- THE SECOND FORM's CARD OF 'scrivenerlaw01.SumRuns'. -/
def sumRunsUptoCard : Claim7 := { stood := { row := sumRunsUptoRow, standIns := [], harness := (true, "585efe4f8a73f91a0032e3ead48d64241ec307a39d8744f36bbb8de5caaef14d"), looks := false }, kinds := [], alts := [], laidByText := true, laidKinds := [.data, .data], laidTests := true, laidLooks := .later }
def SumRunsUptoCardSaid : Prop := Claim7.holds Tryd.pinned (.plain (OpenSpec.upto sumRunsSpec)) sumRunsUptoCard

/-- THE SECOND FORM's CARD OF 'scrivenerlaw01.SumCounts'. -/
def sumCountsUptoCard : Claim7 := { stood := { row := sumCountsUptoRow, standIns := [], harness := (true, "585efe4f8a73f91a0032e3ead48d64241ec307a39d8744f36bbb8de5caaef14d"), looks := false }, kinds := [], alts := [], laidByText := true, laidKinds := [.data, .data], laidTests := true, laidLooks := .later }
def SumCountsUptoCardSaid : Prop := Claim7.holds Tryd.pinned (.plain (OpenSpec.upto sumCountsSpec)) sumCountsUptoCard
end Rows
end Go.Proofs.YtghjdelijmlemaaDoor
