/-
  DERIVED. GIVEN WITH THE SEED: THE CARDS: each row of YtlnapnbccojohaaDoorRows.lean that lists a variable, with what it lists TIED to the program's text (the seventh form; the later family's looks); each row that meets fmt, with fmt's text TOLD by the authors' own Lean function (tested against real Go, not proved from fmt's source: count such statements apart). THE CARD IS WHAT COUNTS. Prove the row's statement (the work); the ties are given (YtlnapnbccojohaaDoorTie.lean); close each card by the builder's one call (the guide's Derived/Test/ToyasCard.lean, 'card_holds'). Laid BY PROGRAM, IN A SANDBOX (cutbox-door.mjs). By AI agents, Wed Nov 11 2026. No macro, syntax, notation, axiom, sorry.
-/
import Derived.Test.YtlnapnbccojohaaDoorRows
import GoSem.ClaimSeven
namespace Go.Proofs.YtlnapnbccojohaaDoor
namespace Rows

/-- THE TIED CARD OF 'scrivenerlaw06.ProofChecks'. -/
def proofChecksCard : Claim7 := { stood := { row := proofChecksRow, standIns := [], harness := (true, "b363eb6ebf5efcd3adcf9c821bf462edf842869fc16ad4a74b390b65393d169b"), looks := false }, kinds := [], alts := [], laidByText := true, laidKinds := [.data, .data], laidTests := true, laidLooks := .later }
def ProofChecksCardSaid : Prop := Claim7.holds Tryd.pinned (.plain (OpenSpec.ofChange proofChecksSpec)) proofChecksCard

/-- THE TIED CARD OF 'scrivenerlaw06.ProofLinks'. -/
def proofLinksCard : Claim7 := { stood := { row := proofLinksRow, standIns := [], harness := (true, "b363eb6ebf5efcd3adcf9c821bf462edf842869fc16ad4a74b390b65393d169b"), looks := false }, kinds := [], alts := [], laidByText := true, laidKinds := [.data, .data], laidTests := true, laidLooks := .later }
def ProofLinksCardSaid : Prop := Claim7.holds Tryd.pinned (.plain (OpenSpec.ofChange proofLinksSpec)) proofLinksCard

/-- THE TIED CARD OF 'scrivenerlaw06.ProofWrong'. -/
def proofWrongCard : Claim7 := { stood := { row := proofWrongRow, standIns := [], harness := (true, "b363eb6ebf5efcd3adcf9c821bf462edf842869fc16ad4a74b390b65393d169b"), looks := false }, kinds := [], alts := [], laidByText := true, laidKinds := [.data, .data], laidTests := true, laidLooks := .later }
def ProofWrongCardSaid : Prop := Claim7.holds Tryd.pinned (.plain (OpenSpec.ofChange proofWrongSpec)) proofWrongCard

/-- THE TIED CARD OF 'scrivenerlaw07.ShortRoots'. -/
def shortRootsCard : Claim7 := { stood := { row := shortRootsRow, standIns := [], harness := (true, "b363eb6ebf5efcd3adcf9c821bf462edf842869fc16ad4a74b390b65393d169b"), looks := false }, kinds := [], alts := [], laidByText := true, laidKinds := [.data, .data], laidTests := true, laidLooks := .later }
def ShortRootsCardSaid : Prop := Claim7.holds Tryd.pinned (.plain (OpenSpec.ofChange shortRootsSpec)) shortRootsCard

/-- THE TIED CARD OF 'scrivenerlaw07.ShortLeads'. -/
def shortLeadsCard : Claim7 := { stood := { row := shortLeadsRow, standIns := [], harness := (true, "b363eb6ebf5efcd3adcf9c821bf462edf842869fc16ad4a74b390b65393d169b"), looks := false }, kinds := [], alts := [], laidByText := true, laidKinds := [.data, .data], laidTests := true, laidLooks := .later }
def ShortLeadsCardSaid : Prop := Claim7.holds Tryd.pinned (.plain (OpenSpec.ofChange shortLeadsSpec)) shortLeadsCard

/-- THE TIED CARD OF 'scrivenerlaw07.ShortLists'. -/
def shortListsCard : Claim7 := { stood := { row := shortListsRow, standIns := [], harness := (true, "b363eb6ebf5efcd3adcf9c821bf462edf842869fc16ad4a74b390b65393d169b"), looks := false }, kinds := [], alts := [], laidByText := true, laidKinds := [.data, .data], laidTests := true, laidLooks := .later }
def ShortListsCardSaid : Prop := Claim7.holds Tryd.pinned (.plain (OpenSpec.ofChange shortListsSpec)) shortListsCard

/-- THE TIED CARD OF 'scrivenerlaw07.ShortEntry'. -/
def shortEntryCard : Claim7 := { stood := { row := shortEntryRow, standIns := [], harness := (true, "b363eb6ebf5efcd3adcf9c821bf462edf842869fc16ad4a74b390b65393d169b"), looks := false }, kinds := [], alts := [], laidByText := true, laidKinds := [.data, .data], laidTests := true, laidLooks := .later }
def ShortEntryCardSaid : Prop := Claim7.holds Tryd.pinned (.plain (OpenSpec.ofChange shortEntrySpec)) shortEntryCard

/-- THE TIED CARD OF 'scrivenerlaw07.ShortKeeps'. -/
def shortKeepsCard : Claim7 := { stood := { row := shortKeepsRow, standIns := [], harness := (true, "b363eb6ebf5efcd3adcf9c821bf462edf842869fc16ad4a74b390b65393d169b"), looks := false }, kinds := [], alts := [], laidByText := true, laidKinds := [.data, .data], laidTests := true, laidLooks := .later }
def ShortKeepsCardSaid : Prop := Claim7.holds Tryd.pinned (.plain (OpenSpec.ofChange shortKeepsSpec)) shortKeepsCard

/-- THE SECOND FORM's CARD OF 'scrivenerlaw06.ProofChecks'. -/
def proofChecksUptoCard : Claim7 := { stood := { row := proofChecksUptoRow, standIns := [], harness := (true, "b363eb6ebf5efcd3adcf9c821bf462edf842869fc16ad4a74b390b65393d169b"), looks := false }, kinds := [], alts := [], laidByText := true, laidKinds := [.data, .data], laidTests := true, laidLooks := .later }
def ProofChecksUptoCardSaid : Prop := Claim7.holds Tryd.pinned (.plain (OpenSpec.upto proofChecksSpec)) proofChecksUptoCard

/-- THE SECOND FORM's CARD OF 'scrivenerlaw06.ProofLinks'. -/
def proofLinksUptoCard : Claim7 := { stood := { row := proofLinksUptoRow, standIns := [], harness := (true, "b363eb6ebf5efcd3adcf9c821bf462edf842869fc16ad4a74b390b65393d169b"), looks := false }, kinds := [], alts := [], laidByText := true, laidKinds := [.data, .data], laidTests := true, laidLooks := .later }
def ProofLinksUptoCardSaid : Prop := Claim7.holds Tryd.pinned (.plain (OpenSpec.upto proofLinksSpec)) proofLinksUptoCard

/-- THE SECOND FORM's CARD OF 'scrivenerlaw06.ProofWrong'. -/
def proofWrongUptoCard : Claim7 := { stood := { row := proofWrongUptoRow, standIns := [], harness := (true, "b363eb6ebf5efcd3adcf9c821bf462edf842869fc16ad4a74b390b65393d169b"), looks := false }, kinds := [], alts := [], laidByText := true, laidKinds := [.data, .data], laidTests := true, laidLooks := .later }
def ProofWrongUptoCardSaid : Prop := Claim7.holds Tryd.pinned (.plain (OpenSpec.upto proofWrongSpec)) proofWrongUptoCard

/-- THE SECOND FORM's CARD OF 'scrivenerlaw07.ShortRoots'. -/
def shortRootsUptoCard : Claim7 := { stood := { row := shortRootsUptoRow, standIns := [], harness := (true, "b363eb6ebf5efcd3adcf9c821bf462edf842869fc16ad4a74b390b65393d169b"), looks := false }, kinds := [], alts := [], laidByText := true, laidKinds := [.data, .data], laidTests := true, laidLooks := .later }
def ShortRootsUptoCardSaid : Prop := Claim7.holds Tryd.pinned (.plain (OpenSpec.upto shortRootsSpec)) shortRootsUptoCard

/-- THE SECOND FORM's CARD OF 'scrivenerlaw07.ShortLeads'. -/
def shortLeadsUptoCard : Claim7 := { stood := { row := shortLeadsUptoRow, standIns := [], harness := (true, "b363eb6ebf5efcd3adcf9c821bf462edf842869fc16ad4a74b390b65393d169b"), looks := false }, kinds := [], alts := [], laidByText := true, laidKinds := [.data, .data], laidTests := true, laidLooks := .later }
def ShortLeadsUptoCardSaid : Prop := Claim7.holds Tryd.pinned (.plain (OpenSpec.upto shortLeadsSpec)) shortLeadsUptoCard

/-- THE SECOND FORM's CARD OF 'scrivenerlaw07.ShortLists'. -/
def shortListsUptoCard : Claim7 := { stood := { row := shortListsUptoRow, standIns := [], harness := (true, "b363eb6ebf5efcd3adcf9c821bf462edf842869fc16ad4a74b390b65393d169b"), looks := false }, kinds := [], alts := [], laidByText := true, laidKinds := [.data, .data], laidTests := true, laidLooks := .later }
def ShortListsUptoCardSaid : Prop := Claim7.holds Tryd.pinned (.plain (OpenSpec.upto shortListsSpec)) shortListsUptoCard

/-- THE SECOND FORM's CARD OF 'scrivenerlaw07.ShortEntry'. -/
def shortEntryUptoCard : Claim7 := { stood := { row := shortEntryUptoRow, standIns := [], harness := (true, "b363eb6ebf5efcd3adcf9c821bf462edf842869fc16ad4a74b390b65393d169b"), looks := false }, kinds := [], alts := [], laidByText := true, laidKinds := [.data, .data], laidTests := true, laidLooks := .later }
def ShortEntryUptoCardSaid : Prop := Claim7.holds Tryd.pinned (.plain (OpenSpec.upto shortEntrySpec)) shortEntryUptoCard

/-- THE SECOND FORM's CARD OF 'scrivenerlaw07.ShortKeeps'. -/
def shortKeepsUptoCard : Claim7 := { stood := { row := shortKeepsUptoRow, standIns := [], harness := (true, "b363eb6ebf5efcd3adcf9c821bf462edf842869fc16ad4a74b390b65393d169b"), looks := false }, kinds := [], alts := [], laidByText := true, laidKinds := [.data, .data], laidTests := true, laidLooks := .later }
def ShortKeepsUptoCardSaid : Prop := Claim7.holds Tryd.pinned (.plain (OpenSpec.upto shortKeepsSpec)) shortKeepsUptoCard
end Rows
end Go.Proofs.YtlnapnbccojohaaDoor
