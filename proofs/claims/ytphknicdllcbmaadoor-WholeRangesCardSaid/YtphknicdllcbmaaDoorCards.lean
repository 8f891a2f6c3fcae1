/-
  DERIVED. GIVEN WITH THE SEED: THE CARDS: each row of YtphknicdllcbmaaDoorRows.lean that lists a variable, with what it lists TIED to the program's text (the seventh form; the later family's looks); each row that meets fmt, with fmt's text TOLD by the authors' own Lean function (tested against real Go, not proved from fmt's source: count such statements apart). THE CARD IS WHAT COUNTS. Prove the row's statement (the work); the ties are given (YtphknicdllcbmaaDoorTie.lean); close each card by the builder's one call (the guide's Derived/Test/ToyasCard.lean, 'card_holds'). Laid BY PROGRAM, IN A SANDBOX (cutbox-door.mjs). By AI agents, Wed Nov 11 2026. No macro, syntax, notation, axiom, sorry.
-/
import Derived.Test.YtphknicdllcbmaaDoorRows
import GoSem.ClaimSeven
namespace Go.Proofs.YtphknicdllcbmaaDoor
namespace Rows

/-- THE TIED CARD OF 'scrivenerlaw05.TreeRoots'. -/
def treeRootsCard : Claim7 := { stood := { row := treeRootsRow, standIns := [], harness := (true, "17e43967b78d1fda2d1e9adada3d12507fdb5a4c559e34b67133571087a349ec"), looks := false }, kinds := [], alts := [], laidByText := true, laidKinds := [.data, .data], laidTests := true, laidLooks := .later }
def TreeRootsCardSaid : Prop := Claim7.holds Tryd.pinned (.plain (OpenSpec.ofChange treeRootsSpec)) treeRootsCard

/-- THE TIED CARD OF 'scrivenerlaw05.TreeRestores'. -/
def treeRestoresCard : Claim7 := { stood := { row := treeRestoresRow, standIns := [], harness := (true, "17e43967b78d1fda2d1e9adada3d12507fdb5a4c559e34b67133571087a349ec"), looks := false }, kinds := [], alts := [], laidByText := true, laidKinds := [.data, .data], laidTests := true, laidLooks := .later }
def TreeRestoresCardSaid : Prop := Claim7.holds Tryd.pinned (.plain (OpenSpec.ofChange treeRestoresSpec)) treeRestoresCard

/-- THE TIED CARD OF 'scrivenerlaw05.TreeEntries'. -/
def treeEntriesCard : Claim7 := { stood := { row := treeEntriesRow, standIns := [], harness := (true, "17e43967b78d1fda2d1e9adada3d12507fdb5a4c559e34b67133571087a349ec"), looks := false }, kinds := [], alts := [], laidByText := true, laidKinds := [.data, .data], laidTests := true, laidLooks := .later }
def TreeEntriesCardSaid : Prop := Claim7.holds Tryd.pinned (.plain (OpenSpec.ofChange treeEntriesSpec)) treeEntriesCard

/-- THE TIED CARD OF 'scrivenerlaw05.TreeSteps'. -/
def treeStepsCard : Claim7 := { stood := { row := treeStepsRow, standIns := [], harness := (true, "17e43967b78d1fda2d1e9adada3d12507fdb5a4c559e34b67133571087a349ec"), looks := false }, kinds := [], alts := [], laidByText := true, laidKinds := [.data, .data], laidTests := true, laidLooks := .later }
def TreeStepsCardSaid : Prop := Claim7.holds Tryd.pinned (.plain (OpenSpec.ofChange treeStepsSpec)) treeStepsCard

/-- THE TIED CARD OF 'scrivenerlaw05.TreeApart'. -/
def treeApartCard : Claim7 := { stood := { row := treeApartRow, standIns := [], harness := (true, "17e43967b78d1fda2d1e9adada3d12507fdb5a4c559e34b67133571087a349ec"), looks := false }, kinds := [], alts := [], laidByText := true, laidKinds := [.data, .data], laidTests := true, laidLooks := .later }
def TreeApartCardSaid : Prop := Claim7.holds Tryd.pinned (.plain (OpenSpec.ofChange treeApartSpec)) treeApartCard

/-- THE TIED CARD OF 'scrivenerlaw06.ProofAll'. -/
def proofAllCard : Claim7 := { stood := { row := proofAllRow, standIns := [], harness := (true, "17e43967b78d1fda2d1e9adada3d12507fdb5a4c559e34b67133571087a349ec"), looks := false }, kinds := [], alts := [], laidByText := true, laidKinds := [.data, .data], laidTests := true, laidLooks := .later }
def ProofAllCardSaid : Prop := Claim7.holds Tryd.pinned (.plain (OpenSpec.ofChange proofAllSpec)) proofAllCard

/-- THE TIED CARD OF 'scrivenertop.WholeRanges'. -/
def wholeRangesCard : Claim7 := { stood := { row := wholeRangesRow, standIns := [], harness := (true, "17e43967b78d1fda2d1e9adada3d12507fdb5a4c559e34b67133571087a349ec"), looks := false }, kinds := [], alts := [], laidByText := true, laidKinds := [.data, .data], laidTests := true, laidLooks := .later }
def WholeRangesCardSaid : Prop := Claim7.holds Tryd.pinned (.plain (OpenSpec.ofChange wholeRangesSpec)) wholeRangesCard

/-- THE SECOND FORM's CARD OF 'scrivenerlaw05.TreeRoots'. -/
def treeRootsUptoCard : Claim7 := { stood := { row := treeRootsUptoRow, standIns := [], harness := (true, "17e43967b78d1fda2d1e9adada3d12507fdb5a4c559e34b67133571087a349ec"), looks := false }, kinds := [], alts := [], laidByText := true, laidKinds := [.data, .data], laidTests := true, laidLooks := .later }
def TreeRootsUptoCardSaid : Prop := Claim7.holds Tryd.pinned (.plain (OpenSpec.upto treeRootsSpec)) treeRootsUptoCard

/-- THE SECOND FORM's CARD OF 'scrivenerlaw05.TreeRestores'. -/
def treeRestoresUptoCard : Claim7 := { stood := { row := treeRestoresUptoRow, standIns := [], harness := (true, "17e43967b78d1fda2d1e9adada3d12507fdb5a4c559e34b67133571087a349ec"), looks := false }, kinds := [], alts := [], laidByText := true, laidKinds := [.data, .data], laidTests := true, laidLooks := .later }
def TreeRestoresUptoCardSaid : Prop := Claim7.holds Tryd.pinned (.plain (OpenSpec.upto treeRestoresSpec)) treeRestoresUptoCard

/-- THE SECOND FORM's CARD OF 'scrivenerlaw05.TreeEntries'. -/
def treeEntriesUptoCard : Claim7 := { stood := { row := treeEntriesUptoRow, standIns := [], harness := (true, "17e43967b78d1fda2d1e9adada3d12507fdb5a4c559e34b67133571087a349ec"), looks := false }, kinds := [], alts := [], laidByText := true, laidKinds := [.data, .data], laidTests := true, laidLooks := .later }
def TreeEntriesUptoCardSaid : Prop := Claim7.holds Tryd.pinned (.plain (OpenSpec.upto treeEntriesSpec)) treeEntriesUptoCard

/-- THE SECOND FORM's CARD OF 'scrivenerlaw05.TreeSteps'. -/
def treeStepsUptoCard : Claim7 := { stood := { row := treeStepsUptoRow, standIns := [], harness := (true, "17e43967b78d1fda2d1e9adada3d12507fdb5a4c559e34b67133571087a349ec"), looks := false }, kinds := [], alts := [], laidByText := true, laidKinds := [.data, .data], laidTests := true, laidLooks := .later }
def TreeStepsUptoCardSaid : Prop := Claim7.holds Tryd.pinned (.plain (OpenSpec.upto treeStepsSpec)) treeStepsUptoCard

/-- THE SECOND FORM's CARD OF 'scrivenerlaw05.TreeApart'. -/
def treeApartUptoCard : Claim7 := { stood := { row := treeApartUptoRow, standIns := [], harness := (true, "17e43967b78d1fda2d1e9adada3d12507fdb5a4c559e34b67133571087a349ec"), looks := false }, kinds := [], alts := [], laidByText := true, laidKinds := [.data, .data], laidTests := true, laidLooks := .later }
def TreeApartUptoCardSaid : Prop := Claim7.holds Tryd.pinned (.plain (OpenSpec.upto treeApartSpec)) treeApartUptoCard

/-- THE SECOND FORM's CARD OF 'scrivenerlaw06.ProofAll'. -/
def proofAllUptoCard : Claim7 := { stood := { row := proofAllUptoRow, standIns := [], harness := (true, "17e43967b78d1fda2d1e9adada3d12507fdb5a4c559e34b67133571087a349ec"), looks := false }, kinds := [], alts := [], laidByText := true, laidKinds := [.data, .data], laidTests := true, laidLooks := .later }
def ProofAllUptoCardSaid : Prop := Claim7.holds Tryd.pinned (.plain (OpenSpec.upto proofAllSpec)) proofAllUptoCard

/-- THE SECOND FORM's CARD OF 'scrivenertop.WholeRanges'. -/
def wholeRangesUptoCard : Claim7 := { stood := { row := wholeRangesUptoRow, standIns := [], harness := (true, "17e43967b78d1fda2d1e9adada3d12507fdb5a4c559e34b67133571087a349ec"), looks := false }, kinds := [], alts := [], laidByText := true, laidKinds := [.data, .data], laidTests := true, laidLooks := .later }
def WholeRangesUptoCardSaid : Prop := Claim7.holds Tryd.pinned (.plain (OpenSpec.upto wholeRangesSpec)) wholeRangesUptoCard
end Rows
end Go.Proofs.YtphknicdllcbmaaDoor
