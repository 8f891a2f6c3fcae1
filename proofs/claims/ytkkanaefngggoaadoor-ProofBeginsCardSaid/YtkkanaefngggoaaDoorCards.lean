/-
  DERIVED. GIVEN WITH THE SEED: THE CARDS: each row of YtkkanaefngggoaaDoorRows.lean that lists a variable, with what it lists TIED to the program's text (the seventh form; the later family's looks); each row that meets fmt, with fmt's text TOLD by the authors' own Lean function (tested against real Go, not proved from fmt's source: count such statements apart). THE CARD IS WHAT COUNTS. Prove the row's statement (the work); the ties are given (YtkkanaefngggoaaDoorTie.lean); close each card by the builder's one call (the guide's Derived/Test/ToyasCard.lean, 'card_holds'). Laid BY PROGRAM, IN A SANDBOX (cutbox-door.mjs). By AI agents, Wed Nov 11 2026. No macro, syntax, notation, axiom, sorry.
-/
import Derived.Test.YtkkanaefngggoaaDoorRows
import GoSem.ClaimSeven
namespace Go.Proofs.YtkkanaefngggoaaDoor
namespace Rows

/-- THE TIED CARD OF 'scrivenerlaw05.TreeRoots'. -/
def treeRootsCard : Claim7 := { stood := { row := treeRootsRow, standIns := [], harness := (true, "58f0beb8af6bcd80f2edff1f214c23187ca1143834037855a7370d83ca5ef894"), looks := false }, kinds := [], alts := [], laidByText := true, laidKinds := [.data, .data], laidTests := true, laidLooks := .later }
def TreeRootsCardSaid : Prop := Claim7.holds Tryd.pinned (.plain (OpenSpec.ofChange treeRootsSpec)) treeRootsCard

/-- THE TIED CARD OF 'scrivenerlaw05.TreePeaks'. -/
def treePeaksCard : Claim7 := { stood := { row := treePeaksRow, standIns := [], harness := (true, "58f0beb8af6bcd80f2edff1f214c23187ca1143834037855a7370d83ca5ef894"), looks := false }, kinds := [], alts := [], laidByText := true, laidKinds := [.data, .data], laidTests := true, laidLooks := .later }
def TreePeaksCardSaid : Prop := Claim7.holds Tryd.pinned (.plain (OpenSpec.ofChange treePeaksSpec)) treePeaksCard

/-- THE TIED CARD OF 'scrivenerlaw05.TreeRestores'. -/
def treeRestoresCard : Claim7 := { stood := { row := treeRestoresRow, standIns := [], harness := (true, "58f0beb8af6bcd80f2edff1f214c23187ca1143834037855a7370d83ca5ef894"), looks := false }, kinds := [], alts := [], laidByText := true, laidKinds := [.data, .data], laidTests := true, laidLooks := .later }
def TreeRestoresCardSaid : Prop := Claim7.holds Tryd.pinned (.plain (OpenSpec.ofChange treeRestoresSpec)) treeRestoresCard

/-- THE TIED CARD OF 'scrivenerlaw05.TreeEntries'. -/
def treeEntriesCard : Claim7 := { stood := { row := treeEntriesRow, standIns := [], harness := (true, "58f0beb8af6bcd80f2edff1f214c23187ca1143834037855a7370d83ca5ef894"), looks := false }, kinds := [], alts := [], laidByText := true, laidKinds := [.data, .data], laidTests := true, laidLooks := .later }
def TreeEntriesCardSaid : Prop := Claim7.holds Tryd.pinned (.plain (OpenSpec.ofChange treeEntriesSpec)) treeEntriesCard

/-- THE TIED CARD OF 'scrivenerlaw05.TreeSplits'. -/
def treeSplitsCard : Claim7 := { stood := { row := treeSplitsRow, standIns := [], harness := (true, "58f0beb8af6bcd80f2edff1f214c23187ca1143834037855a7370d83ca5ef894"), looks := false }, kinds := [], alts := [], laidByText := true, laidKinds := [.data, .data], laidTests := true, laidLooks := .later }
def TreeSplitsCardSaid : Prop := Claim7.holds Tryd.pinned (.plain (OpenSpec.ofChange treeSplitsSpec)) treeSplitsCard

/-- THE TIED CARD OF 'scrivenerlaw05.TreeSteps'. -/
def treeStepsCard : Claim7 := { stood := { row := treeStepsRow, standIns := [], harness := (true, "58f0beb8af6bcd80f2edff1f214c23187ca1143834037855a7370d83ca5ef894"), looks := false }, kinds := [], alts := [], laidByText := true, laidKinds := [.data, .data], laidTests := true, laidLooks := .later }
def TreeStepsCardSaid : Prop := Claim7.holds Tryd.pinned (.plain (OpenSpec.ofChange treeStepsSpec)) treeStepsCard

/-- THE TIED CARD OF 'scrivenerlaw05.TreeApart'. -/
def treeApartCard : Claim7 := { stood := { row := treeApartRow, standIns := [], harness := (true, "58f0beb8af6bcd80f2edff1f214c23187ca1143834037855a7370d83ca5ef894"), looks := false }, kinds := [], alts := [], laidByText := true, laidKinds := [.data, .data], laidTests := true, laidLooks := .later }
def TreeApartCardSaid : Prop := Claim7.holds Tryd.pinned (.plain (OpenSpec.ofChange treeApartSpec)) treeApartCard

/-- THE TIED CARD OF 'scrivenerlaw06.ProofIncludes'. -/
def proofIncludesCard : Claim7 := { stood := { row := proofIncludesRow, standIns := [], harness := (true, "58f0beb8af6bcd80f2edff1f214c23187ca1143834037855a7370d83ca5ef894"), looks := false }, kinds := [], alts := [], laidByText := true, laidKinds := [.data, .data], laidTests := true, laidLooks := .later }
def ProofIncludesCardSaid : Prop := Claim7.holds Tryd.pinned (.plain (OpenSpec.ofChange proofIncludesSpec)) proofIncludesCard

/-- THE TIED CARD OF 'scrivenerlaw06.ProofBegins'. -/
def proofBeginsCard : Claim7 := { stood := { row := proofBeginsRow, standIns := [], harness := (true, "58f0beb8af6bcd80f2edff1f214c23187ca1143834037855a7370d83ca5ef894"), looks := false }, kinds := [], alts := [], laidByText := true, laidKinds := [.data, .data], laidTests := true, laidLooks := .later }
def ProofBeginsCardSaid : Prop := Claim7.holds Tryd.pinned (.plain (OpenSpec.ofChange proofBeginsSpec)) proofBeginsCard

/-- THE TIED CARD OF 'scrivenerlaw06.ProofChecks'. -/
def proofChecksCard : Claim7 := { stood := { row := proofChecksRow, standIns := [], harness := (true, "58f0beb8af6bcd80f2edff1f214c23187ca1143834037855a7370d83ca5ef894"), looks := false }, kinds := [], alts := [], laidByText := true, laidKinds := [.data, .data], laidTests := true, laidLooks := .later }
def ProofChecksCardSaid : Prop := Claim7.holds Tryd.pinned (.plain (OpenSpec.ofChange proofChecksSpec)) proofChecksCard

/-- THE TIED CARD OF 'scrivenerlaw06.ProofLinks'. -/
def proofLinksCard : Claim7 := { stood := { row := proofLinksRow, standIns := [], harness := (true, "58f0beb8af6bcd80f2edff1f214c23187ca1143834037855a7370d83ca5ef894"), looks := false }, kinds := [], alts := [], laidByText := true, laidKinds := [.data, .data], laidTests := true, laidLooks := .later }
def ProofLinksCardSaid : Prop := Claim7.holds Tryd.pinned (.plain (OpenSpec.ofChange proofLinksSpec)) proofLinksCard

/-- THE TIED CARD OF 'scrivenerlaw06.ProofWrong'. -/
def proofWrongCard : Claim7 := { stood := { row := proofWrongRow, standIns := [], harness := (true, "58f0beb8af6bcd80f2edff1f214c23187ca1143834037855a7370d83ca5ef894"), looks := false }, kinds := [], alts := [], laidByText := true, laidKinds := [.data, .data], laidTests := true, laidLooks := .later }
def ProofWrongCardSaid : Prop := Claim7.holds Tryd.pinned (.plain (OpenSpec.ofChange proofWrongSpec)) proofWrongCard

/-- THE TIED CARD OF 'scrivenerlaw06.ProofAll'. -/
def proofAllCard : Claim7 := { stood := { row := proofAllRow, standIns := [], harness := (true, "58f0beb8af6bcd80f2edff1f214c23187ca1143834037855a7370d83ca5ef894"), looks := false }, kinds := [], alts := [], laidByText := true, laidKinds := [.data, .data], laidTests := true, laidLooks := .later }
def ProofAllCardSaid : Prop := Claim7.holds Tryd.pinned (.plain (OpenSpec.ofChange proofAllSpec)) proofAllCard

/-- THE TIED CARD OF 'scrivenerlaw06.ProofRanges'. -/
def proofRangesCard : Claim7 := { stood := { row := proofRangesRow, standIns := [], harness := (true, "58f0beb8af6bcd80f2edff1f214c23187ca1143834037855a7370d83ca5ef894"), looks := false }, kinds := [], alts := [], laidByText := true, laidKinds := [.data, .data], laidTests := true, laidLooks := .later }
def ProofRangesCardSaid : Prop := Claim7.holds Tryd.pinned (.plain (OpenSpec.ofChange proofRangesSpec)) proofRangesCard

/-- THE SECOND FORM's CARD OF 'scrivenerlaw05.TreeRoots'. -/
def treeRootsUptoCard : Claim7 := { stood := { row := treeRootsUptoRow, standIns := [], harness := (true, "58f0beb8af6bcd80f2edff1f214c23187ca1143834037855a7370d83ca5ef894"), looks := false }, kinds := [], alts := [], laidByText := true, laidKinds := [.data, .data], laidTests := true, laidLooks := .later }
def TreeRootsUptoCardSaid : Prop := Claim7.holds Tryd.pinned (.plain (OpenSpec.upto treeRootsSpec)) treeRootsUptoCard

/-- THE SECOND FORM's CARD OF 'scrivenerlaw05.TreePeaks'. -/
def treePeaksUptoCard : Claim7 := { stood := { row := treePeaksUptoRow, standIns := [], harness := (true, "58f0beb8af6bcd80f2edff1f214c23187ca1143834037855a7370d83ca5ef894"), looks := false }, kinds := [], alts := [], laidByText := true, laidKinds := [.data, .data], laidTests := true, laidLooks := .later }
def TreePeaksUptoCardSaid : Prop := Claim7.holds Tryd.pinned (.plain (OpenSpec.upto treePeaksSpec)) treePeaksUptoCard

/-- THE SECOND FORM's CARD OF 'scrivenerlaw05.TreeRestores'. -/
def treeRestoresUptoCard : Claim7 := { stood := { row := treeRestoresUptoRow, standIns := [], harness := (true, "58f0beb8af6bcd80f2edff1f214c23187ca1143834037855a7370d83ca5ef894"), looks := false }, kinds := [], alts := [], laidByText := true, laidKinds := [.data, .data], laidTests := true, laidLooks := .later }
def TreeRestoresUptoCardSaid : Prop := Claim7.holds Tryd.pinned (.plain (OpenSpec.upto treeRestoresSpec)) treeRestoresUptoCard

/-- THE SECOND FORM's CARD OF 'scrivenerlaw05.TreeEntries'. -/
def treeEntriesUptoCard : Claim7 := { stood := { row := treeEntriesUptoRow, standIns := [], harness := (true, "58f0beb8af6bcd80f2edff1f214c23187ca1143834037855a7370d83ca5ef894"), looks := false }, kinds := [], alts := [], laidByText := true, laidKinds := [.data, .data], laidTests := true, laidLooks := .later }
def TreeEntriesUptoCardSaid : Prop := Claim7.holds Tryd.pinned (.plain (OpenSpec.upto treeEntriesSpec)) treeEntriesUptoCard

/-- THE SECOND FORM's CARD OF 'scrivenerlaw05.TreeSplits'. -/
def treeSplitsUptoCard : Claim7 := { stood := { row := treeSplitsUptoRow, standIns := [], harness := (true, "58f0beb8af6bcd80f2edff1f214c23187ca1143834037855a7370d83ca5ef894"), looks := false }, kinds := [], alts := [], laidByText := true, laidKinds := [.data, .data], laidTests := true, laidLooks := .later }
def TreeSplitsUptoCardSaid : Prop := Claim7.holds Tryd.pinned (.plain (OpenSpec.upto treeSplitsSpec)) treeSplitsUptoCard

/-- THE SECOND FORM's CARD OF 'scrivenerlaw05.TreeSteps'. -/
def treeStepsUptoCard : Claim7 := { stood := { row := treeStepsUptoRow, standIns := [], harness := (true, "58f0beb8af6bcd80f2edff1f214c23187ca1143834037855a7370d83ca5ef894"), looks := false }, kinds := [], alts := [], laidByText := true, laidKinds := [.data, .data], laidTests := true, laidLooks := .later }
def TreeStepsUptoCardSaid : Prop := Claim7.holds Tryd.pinned (.plain (OpenSpec.upto treeStepsSpec)) treeStepsUptoCard

/-- THE SECOND FORM's CARD OF 'scrivenerlaw05.TreeApart'. -/
def treeApartUptoCard : Claim7 := { stood := { row := treeApartUptoRow, standIns := [], harness := (true, "58f0beb8af6bcd80f2edff1f214c23187ca1143834037855a7370d83ca5ef894"), looks := false }, kinds := [], alts := [], laidByText := true, laidKinds := [.data, .data], laidTests := true, laidLooks := .later }
def TreeApartUptoCardSaid : Prop := Claim7.holds Tryd.pinned (.plain (OpenSpec.upto treeApartSpec)) treeApartUptoCard

/-- THE SECOND FORM's CARD OF 'scrivenerlaw06.ProofIncludes'. -/
def proofIncludesUptoCard : Claim7 := { stood := { row := proofIncludesUptoRow, standIns := [], harness := (true, "58f0beb8af6bcd80f2edff1f214c23187ca1143834037855a7370d83ca5ef894"), looks := false }, kinds := [], alts := [], laidByText := true, laidKinds := [.data, .data], laidTests := true, laidLooks := .later }
def ProofIncludesUptoCardSaid : Prop := Claim7.holds Tryd.pinned (.plain (OpenSpec.upto proofIncludesSpec)) proofIncludesUptoCard

/-- THE SECOND FORM's CARD OF 'scrivenerlaw06.ProofBegins'. -/
def proofBeginsUptoCard : Claim7 := { stood := { row := proofBeginsUptoRow, standIns := [], harness := (true, "58f0beb8af6bcd80f2edff1f214c23187ca1143834037855a7370d83ca5ef894"), looks := false }, kinds := [], alts := [], laidByText := true, laidKinds := [.data, .data], laidTests := true, laidLooks := .later }
def ProofBeginsUptoCardSaid : Prop := Claim7.holds Tryd.pinned (.plain (OpenSpec.upto proofBeginsSpec)) proofBeginsUptoCard

/-- THE SECOND FORM's CARD OF 'scrivenerlaw06.ProofChecks'. -/
def proofChecksUptoCard : Claim7 := { stood := { row := proofChecksUptoRow, standIns := [], harness := (true, "58f0beb8af6bcd80f2edff1f214c23187ca1143834037855a7370d83ca5ef894"), looks := false }, kinds := [], alts := [], laidByText := true, laidKinds := [.data, .data], laidTests := true, laidLooks := .later }
def ProofChecksUptoCardSaid : Prop := Claim7.holds Tryd.pinned (.plain (OpenSpec.upto proofChecksSpec)) proofChecksUptoCard

/-- THE SECOND FORM's CARD OF 'scrivenerlaw06.ProofLinks'. -/
def proofLinksUptoCard : Claim7 := { stood := { row := proofLinksUptoRow, standIns := [], harness := (true, "58f0beb8af6bcd80f2edff1f214c23187ca1143834037855a7370d83ca5ef894"), looks := false }, kinds := [], alts := [], laidByText := true, laidKinds := [.data, .data], laidTests := true, laidLooks := .later }
def ProofLinksUptoCardSaid : Prop := Claim7.holds Tryd.pinned (.plain (OpenSpec.upto proofLinksSpec)) proofLinksUptoCard

/-- THE SECOND FORM's CARD OF 'scrivenerlaw06.ProofWrong'. -/
def proofWrongUptoCard : Claim7 := { stood := { row := proofWrongUptoRow, standIns := [], harness := (true, "58f0beb8af6bcd80f2edff1f214c23187ca1143834037855a7370d83ca5ef894"), looks := false }, kinds := [], alts := [], laidByText := true, laidKinds := [.data, .data], laidTests := true, laidLooks := .later }
def ProofWrongUptoCardSaid : Prop := Claim7.holds Tryd.pinned (.plain (OpenSpec.upto proofWrongSpec)) proofWrongUptoCard

/-- THE SECOND FORM's CARD OF 'scrivenerlaw06.ProofAll'. -/
def proofAllUptoCard : Claim7 := { stood := { row := proofAllUptoRow, standIns := [], harness := (true, "58f0beb8af6bcd80f2edff1f214c23187ca1143834037855a7370d83ca5ef894"), looks := false }, kinds := [], alts := [], laidByText := true, laidKinds := [.data, .data], laidTests := true, laidLooks := .later }
def ProofAllUptoCardSaid : Prop := Claim7.holds Tryd.pinned (.plain (OpenSpec.upto proofAllSpec)) proofAllUptoCard

/-- THE SECOND FORM's CARD OF 'scrivenerlaw06.ProofRanges'. -/
def proofRangesUptoCard : Claim7 := { stood := { row := proofRangesUptoRow, standIns := [], harness := (true, "58f0beb8af6bcd80f2edff1f214c23187ca1143834037855a7370d83ca5ef894"), looks := false }, kinds := [], alts := [], laidByText := true, laidKinds := [.data, .data], laidTests := true, laidLooks := .later }
def ProofRangesUptoCardSaid : Prop := Claim7.holds Tryd.pinned (.plain (OpenSpec.upto proofRangesSpec)) proofRangesUptoCard
end Rows
end Go.Proofs.YtkkanaefngggoaaDoor
