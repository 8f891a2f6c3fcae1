/-
  NARROWER THAN 'FOR EVERY INPUT', by the rows' own cells (each row's printed sentence says how): TreeRoots: laid · TreePeaks: laid · TreeRestores: laid · TreeEntries: laid · TreeSplits: laid · TreeSteps: laid · TreeApart: laid · ProofIncludes: laid · ProofBegins: laid · ProofChecks: laid · ProofLinks: laid · ProofWrong: laid · ProofAll: laid · ProofRanges: laid.
  DERIVED. THE GIVEN ROWS OF THIS SEAT. 14 by the template 'for every input the law returns true; each argument reads behind the call as it read before'; 0 by the template 'total and deterministic' (their statements: YtkkanaefngggoaaDoorTotals.lean).
  GIVEN WITH THE SEED: the statements are not yours to turn. If you find one false, say at which input.
  Laid BY PROGRAM, IN A SANDBOX (cutbox-rows.mjs): the forced cells as the released guide's own fill.sh prints them over the translation 12eae67c00b67f1c… (all of the seat's roots in one cut). By AI agents, Wed Nov 11 2026. No macro, syntax, notation, axiom, sorry.
-/
import Derived.Test.YtkkanaefngggoaaDoorChecked
import GoSem.Claim
import GoSem.ClaimJoined
import GoSem.ClaimMapViews
import Derived.JoinedTies
import Derived.KernelRfl
namespace Go.Proofs.YtkkanaefngggoaaDoor
/- THE CELL 'sum', in the pinned program and in every row, IS THE sha256 OF THE DUMP (.gsa) THAT YtkkanaefngggoaaDoorProg.lean LOADS. Nothing in Lean hashes anything: it is a label: what it is worth is what the hold of that sum in a sandbox is worth. -/
noncomputable def Tryd.pinned : Pinned := { name := "ytkkanaefngggoaadoor", sum := "12eae67c00b67f1c54acc205c6e85c44a1e9b7c90d945de3793b47823ee59d0a", checked := Tryd.checked }
namespace Rows
def none {H : Type} : Left H := { results := [], args := [] }

/- WHAT THE LISTED PACKAGE-LEVEL VARIABLES READ AS WHEN THE CALL BEGINS. Each datum BY PROGRAM (the guide's laid-datum.mjs) off the statement by which the dump's own 'gosem.cut.vars' lays the variable. In a bare row this is a premise. The card (YtkkanaefngggoaaDoorCards.lean) ties it to the program's text. -/
def laid_scrivener_sum_first {H : Type} : DataW H := .agg [.lit (.int .u32 1779033703), .lit (.int .u32 3144134277), .lit (.int .u32 1013904242), .lit (.int .u32 2773480762), .lit (.int .u32 1359893119), .lit (.int .u32 2600822924), .lit (.int .u32 528734635), .lit (.int .u32 1541459225)]
def laid_scrivener_sum_rounds {H : Type} : DataW H := .agg [.lit (.int .u32 1116352408), .lit (.int .u32 1899447441), .lit (.int .u32 3049323471), .lit (.int .u32 3921009573), .lit (.int .u32 961987163), .lit (.int .u32 1508970993), .lit (.int .u32 2453635748), .lit (.int .u32 2870763221), .lit (.int .u32 3624381080), .lit (.int .u32 310598401), .lit (.int .u32 607225278), .lit (.int .u32 1426881987), .lit (.int .u32 1925078388), .lit (.int .u32 2162078206), .lit (.int .u32 2614888103), .lit (.int .u32 3248222580), .lit (.int .u32 3835390401), .lit (.int .u32 4022224774), .lit (.int .u32 264347078), .lit (.int .u32 604807628), .lit (.int .u32 770255983), .lit (.int .u32 1249150122), .lit (.int .u32 1555081692), .lit (.int .u32 1996064986), .lit (.int .u32 2554220882), .lit (.int .u32 2821834349), .lit (.int .u32 2952996808), .lit (.int .u32 3210313671), .lit (.int .u32 3336571891), .lit (.int .u32 3584528711), .lit (.int .u32 113926993), .lit (.int .u32 338241895), .lit (.int .u32 666307205), .lit (.int .u32 773529912), .lit (.int .u32 1294757372), .lit (.int .u32 1396182291), .lit (.int .u32 1695183700), .lit (.int .u32 1986661051), .lit (.int .u32 2177026350), .lit (.int .u32 2456956037), .lit (.int .u32 2730485921), .lit (.int .u32 2820302411), .lit (.int .u32 3259730800), .lit (.int .u32 3345764771), .lit (.int .u32 3516065817), .lit (.int .u32 3600352804), .lit (.int .u32 4094571909), .lit (.int .u32 275423344), .lit (.int .u32 430227734), .lit (.int .u32 506948616), .lit (.int .u32 659060556), .lit (.int .u32 883997877), .lit (.int .u32 958139571), .lit (.int .u32 1322822218), .lit (.int .u32 1537002063), .lit (.int .u32 1747873779), .lit (.int .u32 1955562222), .lit (.int .u32 2024104815), .lit (.int .u32 2227730452), .lit (.int .u32 2361852424), .lit (.int .u32 2428436474), .lit (.int .u32 2756734187), .lit (.int .u32 3204031479), .lit (.int .u32 3329325298)]

/-- 'scrivenerlaw05.TreeRoots': WHATEVER THE INPUT: true; the input reads as it did. -/
def treeRootsSpec : ChangeSpec := { name := "treeRoots", fn := fun _ => fun
  | [d1, d2] => { results := [.lit (.bool true)], args := [d1, d2] }
  | _ => none }
def treeRootsRow : OpenClaim := { program := "ytkkanaefngggoaadoor", sum := "12eae67c00b67f1c54acc205c6e85c44a1e9b7c90d945de3793b47823ee59d0a", func := "scrivener/scrivenerlaw05.TreeRoots", spec := "treeRoots", unfollowed := true, recurses := true, named := ["scrivener/sum.first", "scrivener/sum.rounds"], apart := false, laid := [("scrivener/sum.first", laid_scrivener_sum_first), ("scrivener/sum.rounds", laid_scrivener_sum_rounds)] }
def TreeRootsSaid : Prop := treeRootsRow.holds Tryd.pinned (OpenSpec.ofChange treeRootsSpec)

/-- ITS FALSE NEIGHBOUR: 'it returns false'. Refute it at one input. -/
def treeRootsWrong : ChangeSpec := { name := "treeRoots", fn := fun _ => fun
  | [d1, d2] => { results := [.lit (.bool false)], args := [d1, d2] }
  | _ => none }
def TreeRootsWrongFalsely : Prop := treeRootsRow.holds Tryd.pinned (OpenSpec.ofChange treeRootsWrong)

/-- 'scrivenerlaw05.TreePeaks': WHATEVER THE INPUT: true; the input reads as it did. -/
def treePeaksSpec : ChangeSpec := { name := "treePeaks", fn := fun _ => fun
  | [d1, d2] => { results := [.lit (.bool true)], args := [d1, d2] }
  | _ => none }
def treePeaksRow : OpenClaim := { program := "ytkkanaefngggoaadoor", sum := "12eae67c00b67f1c54acc205c6e85c44a1e9b7c90d945de3793b47823ee59d0a", func := "scrivener/scrivenerlaw05.TreePeaks", spec := "treePeaks", unfollowed := true, recurses := true, named := ["scrivener/sum.first", "scrivener/sum.rounds"], apart := false, laid := [("scrivener/sum.first", laid_scrivener_sum_first), ("scrivener/sum.rounds", laid_scrivener_sum_rounds)] }
def TreePeaksSaid : Prop := treePeaksRow.holds Tryd.pinned (OpenSpec.ofChange treePeaksSpec)

/-- ITS FALSE NEIGHBOUR: 'it returns false'. Refute it at one input. -/
def treePeaksWrong : ChangeSpec := { name := "treePeaks", fn := fun _ => fun
  | [d1, d2] => { results := [.lit (.bool false)], args := [d1, d2] }
  | _ => none }
def TreePeaksWrongFalsely : Prop := treePeaksRow.holds Tryd.pinned (OpenSpec.ofChange treePeaksWrong)

/-- 'scrivenerlaw05.TreeRestores': WHATEVER THE INPUT: true; the input reads as it did. -/
def treeRestoresSpec : ChangeSpec := { name := "treeRestores", fn := fun _ => fun
  | [d1, d2, d3] => { results := [.lit (.bool true)], args := [d1, d2, d3] }
  | _ => none }
def treeRestoresRow : OpenClaim := { program := "ytkkanaefngggoaadoor", sum := "12eae67c00b67f1c54acc205c6e85c44a1e9b7c90d945de3793b47823ee59d0a", func := "scrivener/scrivenerlaw05.TreeRestores", spec := "treeRestores", unfollowed := true, recurses := true, named := ["scrivener/sum.first", "scrivener/sum.rounds"], apart := false, laid := [("scrivener/sum.first", laid_scrivener_sum_first), ("scrivener/sum.rounds", laid_scrivener_sum_rounds)] }
def TreeRestoresSaid : Prop := treeRestoresRow.holds Tryd.pinned (OpenSpec.ofChange treeRestoresSpec)

/-- ITS FALSE NEIGHBOUR: 'it returns false'. Refute it at one input. -/
def treeRestoresWrong : ChangeSpec := { name := "treeRestores", fn := fun _ => fun
  | [d1, d2, d3] => { results := [.lit (.bool false)], args := [d1, d2, d3] }
  | _ => none }
def TreeRestoresWrongFalsely : Prop := treeRestoresRow.holds Tryd.pinned (OpenSpec.ofChange treeRestoresWrong)

/-- 'scrivenerlaw05.TreeEntries': WHATEVER THE INPUT: true; the input reads as it did. -/
def treeEntriesSpec : ChangeSpec := { name := "treeEntries", fn := fun _ => fun
  | [d] => { results := [.lit (.bool true)], args := [d] }
  | _ => none }
def treeEntriesRow : OpenClaim := { program := "ytkkanaefngggoaadoor", sum := "12eae67c00b67f1c54acc205c6e85c44a1e9b7c90d945de3793b47823ee59d0a", func := "scrivener/scrivenerlaw05.TreeEntries", spec := "treeEntries", unfollowed := true, recurses := true, named := ["scrivener/sum.first", "scrivener/sum.rounds"], apart := false, laid := [("scrivener/sum.first", laid_scrivener_sum_first), ("scrivener/sum.rounds", laid_scrivener_sum_rounds)] }
def TreeEntriesSaid : Prop := treeEntriesRow.holds Tryd.pinned (OpenSpec.ofChange treeEntriesSpec)

/-- ITS FALSE NEIGHBOUR: 'it returns false'. Refute it at one input. -/
def treeEntriesWrong : ChangeSpec := { name := "treeEntries", fn := fun _ => fun
  | [d] => { results := [.lit (.bool false)], args := [d] }
  | _ => none }
def TreeEntriesWrongFalsely : Prop := treeEntriesRow.holds Tryd.pinned (OpenSpec.ofChange treeEntriesWrong)

/-- 'scrivenerlaw05.TreeSplits': WHATEVER THE INPUT: true; the input reads as it did. -/
def treeSplitsSpec : ChangeSpec := { name := "treeSplits", fn := fun _ => fun
  | [d] => { results := [.lit (.bool true)], args := [d] }
  | _ => none }
def treeSplitsRow : OpenClaim := { program := "ytkkanaefngggoaadoor", sum := "12eae67c00b67f1c54acc205c6e85c44a1e9b7c90d945de3793b47823ee59d0a", func := "scrivener/scrivenerlaw05.TreeSplits", spec := "treeSplits", unfollowed := true, recurses := true, named := ["scrivener/sum.first", "scrivener/sum.rounds"], apart := false, laid := [("scrivener/sum.first", laid_scrivener_sum_first), ("scrivener/sum.rounds", laid_scrivener_sum_rounds)] }
def TreeSplitsSaid : Prop := treeSplitsRow.holds Tryd.pinned (OpenSpec.ofChange treeSplitsSpec)

/-- ITS FALSE NEIGHBOUR: 'it returns false'. Refute it at one input. -/
def treeSplitsWrong : ChangeSpec := { name := "treeSplits", fn := fun _ => fun
  | [d] => { results := [.lit (.bool false)], args := [d] }
  | _ => none }
def TreeSplitsWrongFalsely : Prop := treeSplitsRow.holds Tryd.pinned (OpenSpec.ofChange treeSplitsWrong)

/-- 'scrivenerlaw05.TreeSteps': WHATEVER THE INPUT: true; the input reads as it did. -/
def treeStepsSpec : ChangeSpec := { name := "treeSteps", fn := fun _ => fun
  | [d] => { results := [.lit (.bool true)], args := [d] }
  | _ => none }
def treeStepsRow : OpenClaim := { program := "ytkkanaefngggoaadoor", sum := "12eae67c00b67f1c54acc205c6e85c44a1e9b7c90d945de3793b47823ee59d0a", func := "scrivener/scrivenerlaw05.TreeSteps", spec := "treeSteps", unfollowed := true, recurses := true, named := ["scrivener/sum.first", "scrivener/sum.rounds"], apart := false, laid := [("scrivener/sum.first", laid_scrivener_sum_first), ("scrivener/sum.rounds", laid_scrivener_sum_rounds)] }
def TreeStepsSaid : Prop := treeStepsRow.holds Tryd.pinned (OpenSpec.ofChange treeStepsSpec)

/-- ITS FALSE NEIGHBOUR: 'it returns false'. Refute it at one input. -/
def treeStepsWrong : ChangeSpec := { name := "treeSteps", fn := fun _ => fun
  | [d] => { results := [.lit (.bool false)], args := [d] }
  | _ => none }
def TreeStepsWrongFalsely : Prop := treeStepsRow.holds Tryd.pinned (OpenSpec.ofChange treeStepsWrong)

/-- 'scrivenerlaw05.TreeApart': WHATEVER THE INPUT: true; the input reads as it did. -/
def treeApartSpec : ChangeSpec := { name := "treeApart", fn := fun _ => fun
  | [d1, d2, d3] => { results := [.lit (.bool true)], args := [d1, d2, d3] }
  | _ => none }
def treeApartRow : OpenClaim := { program := "ytkkanaefngggoaadoor", sum := "12eae67c00b67f1c54acc205c6e85c44a1e9b7c90d945de3793b47823ee59d0a", func := "scrivener/scrivenerlaw05.TreeApart", spec := "treeApart", unfollowed := true, recurses := true, named := ["scrivener/sum.first", "scrivener/sum.rounds"], apart := false, laid := [("scrivener/sum.first", laid_scrivener_sum_first), ("scrivener/sum.rounds", laid_scrivener_sum_rounds)] }
def TreeApartSaid : Prop := treeApartRow.holds Tryd.pinned (OpenSpec.ofChange treeApartSpec)

/-- ITS FALSE NEIGHBOUR: 'it returns false'. Refute it at one input. -/
def treeApartWrong : ChangeSpec := { name := "treeApart", fn := fun _ => fun
  | [d1, d2, d3] => { results := [.lit (.bool false)], args := [d1, d2, d3] }
  | _ => none }
def TreeApartWrongFalsely : Prop := treeApartRow.holds Tryd.pinned (OpenSpec.ofChange treeApartWrong)

/-- 'scrivenerlaw06.ProofIncludes': WHATEVER THE INPUT: true; the input reads as it did. -/
def proofIncludesSpec : ChangeSpec := { name := "proofIncludes", fn := fun _ => fun
  | [d1, d2] => { results := [.lit (.bool true)], args := [d1, d2] }
  | _ => none }
def proofIncludesRow : OpenClaim := { program := "ytkkanaefngggoaadoor", sum := "12eae67c00b67f1c54acc205c6e85c44a1e9b7c90d945de3793b47823ee59d0a", func := "scrivener/scrivenerlaw06.ProofIncludes", spec := "proofIncludes", unfollowed := true, recurses := true, named := ["scrivener/sum.first", "scrivener/sum.rounds"], apart := false, laid := [("scrivener/sum.first", laid_scrivener_sum_first), ("scrivener/sum.rounds", laid_scrivener_sum_rounds)] }
def ProofIncludesSaid : Prop := proofIncludesRow.holds Tryd.pinned (OpenSpec.ofChange proofIncludesSpec)

/-- ITS FALSE NEIGHBOUR: 'it returns false'. Refute it at one input. -/
def proofIncludesWrong : ChangeSpec := { name := "proofIncludes", fn := fun _ => fun
  | [d1, d2] => { results := [.lit (.bool false)], args := [d1, d2] }
  | _ => none }
def ProofIncludesWrongFalsely : Prop := proofIncludesRow.holds Tryd.pinned (OpenSpec.ofChange proofIncludesWrong)

/-- 'scrivenerlaw06.ProofBegins': WHATEVER THE INPUT: true; the input reads as it did. -/
def proofBeginsSpec : ChangeSpec := { name := "proofBegins", fn := fun _ => fun
  | [d1, d2] => { results := [.lit (.bool true)], args := [d1, d2] }
  | _ => none }
def proofBeginsRow : OpenClaim := { program := "ytkkanaefngggoaadoor", sum := "12eae67c00b67f1c54acc205c6e85c44a1e9b7c90d945de3793b47823ee59d0a", func := "scrivener/scrivenerlaw06.ProofBegins", spec := "proofBegins", unfollowed := true, recurses := true, named := ["scrivener/sum.first", "scrivener/sum.rounds"], apart := false, laid := [("scrivener/sum.first", laid_scrivener_sum_first), ("scrivener/sum.rounds", laid_scrivener_sum_rounds)] }
def ProofBeginsSaid : Prop := proofBeginsRow.holds Tryd.pinned (OpenSpec.ofChange proofBeginsSpec)

/-- ITS FALSE NEIGHBOUR: 'it returns false'. Refute it at one input. -/
def proofBeginsWrong : ChangeSpec := { name := "proofBegins", fn := fun _ => fun
  | [d1, d2] => { results := [.lit (.bool false)], args := [d1, d2] }
  | _ => none }
def ProofBeginsWrongFalsely : Prop := proofBeginsRow.holds Tryd.pinned (OpenSpec.ofChange proofBeginsWrong)

/-- 'scrivenerlaw06.ProofChecks': WHATEVER THE INPUT: true; the input reads as it did. -/
def proofChecksSpec : ChangeSpec := { name := "proofChecks", fn := fun _ => fun
  | [d] => { results := [.lit (.bool true)], args := [d] }
  | _ => none }
def proofChecksRow : OpenClaim := { program := "ytkkanaefngggoaadoor", sum := "12eae67c00b67f1c54acc205c6e85c44a1e9b7c90d945de3793b47823ee59d0a", func := "scrivener/scrivenerlaw06.ProofChecks", spec := "proofChecks", unfollowed := true, recurses := true, named := ["scrivener/sum.first", "scrivener/sum.rounds"], apart := false, laid := [("scrivener/sum.first", laid_scrivener_sum_first), ("scrivener/sum.rounds", laid_scrivener_sum_rounds)] }
def ProofChecksSaid : Prop := proofChecksRow.holds Tryd.pinned (OpenSpec.ofChange proofChecksSpec)

/-- ITS FALSE NEIGHBOUR: 'it returns false'. Refute it at one input. -/
def proofChecksWrong : ChangeSpec := { name := "proofChecks", fn := fun _ => fun
  | [d] => { results := [.lit (.bool false)], args := [d] }
  | _ => none }
def ProofChecksWrongFalsely : Prop := proofChecksRow.holds Tryd.pinned (OpenSpec.ofChange proofChecksWrong)

/-- 'scrivenerlaw06.ProofLinks': WHATEVER THE INPUT: true; the input reads as it did. -/
def proofLinksSpec : ChangeSpec := { name := "proofLinks", fn := fun _ => fun
  | [d] => { results := [.lit (.bool true)], args := [d] }
  | _ => none }
def proofLinksRow : OpenClaim := { program := "ytkkanaefngggoaadoor", sum := "12eae67c00b67f1c54acc205c6e85c44a1e9b7c90d945de3793b47823ee59d0a", func := "scrivener/scrivenerlaw06.ProofLinks", spec := "proofLinks", unfollowed := true, recurses := true, named := ["scrivener/sum.first", "scrivener/sum.rounds"], apart := false, laid := [("scrivener/sum.first", laid_scrivener_sum_first), ("scrivener/sum.rounds", laid_scrivener_sum_rounds)] }
def ProofLinksSaid : Prop := proofLinksRow.holds Tryd.pinned (OpenSpec.ofChange proofLinksSpec)

/-- ITS FALSE NEIGHBOUR: 'it returns false'. Refute it at one input. -/
def proofLinksWrong : ChangeSpec := { name := "proofLinks", fn := fun _ => fun
  | [d] => { results := [.lit (.bool false)], args := [d] }
  | _ => none }
def ProofLinksWrongFalsely : Prop := proofLinksRow.holds Tryd.pinned (OpenSpec.ofChange proofLinksWrong)

/-- 'scrivenerlaw06.ProofWrong': WHATEVER THE INPUT: true; the input reads as it did. -/
def proofWrongSpec : ChangeSpec := { name := "proofWrong", fn := fun _ => fun
  | [d1, d2, d3] => { results := [.lit (.bool true)], args := [d1, d2, d3] }
  | _ => none }
def proofWrongRow : OpenClaim := { program := "ytkkanaefngggoaadoor", sum := "12eae67c00b67f1c54acc205c6e85c44a1e9b7c90d945de3793b47823ee59d0a", func := "scrivener/scrivenerlaw06.ProofWrong", spec := "proofWrong", unfollowed := true, recurses := true, named := ["scrivener/sum.first", "scrivener/sum.rounds"], apart := false, laid := [("scrivener/sum.first", laid_scrivener_sum_first), ("scrivener/sum.rounds", laid_scrivener_sum_rounds)] }
def ProofWrongSaid : Prop := proofWrongRow.holds Tryd.pinned (OpenSpec.ofChange proofWrongSpec)

/-- ITS FALSE NEIGHBOUR: 'it returns false'. Refute it at one input. -/
def proofWrongWrong : ChangeSpec := { name := "proofWrong", fn := fun _ => fun
  | [d1, d2, d3] => { results := [.lit (.bool false)], args := [d1, d2, d3] }
  | _ => none }
def ProofWrongWrongFalsely : Prop := proofWrongRow.holds Tryd.pinned (OpenSpec.ofChange proofWrongWrong)

/-- 'scrivenerlaw06.ProofAll': WHATEVER THE INPUT: true; the input reads as it did. -/
def proofAllSpec : ChangeSpec := { name := "proofAll", fn := fun _ => fun
  | [d] => { results := [.lit (.bool true)], args := [d] }
  | _ => none }
def proofAllRow : OpenClaim := { program := "ytkkanaefngggoaadoor", sum := "12eae67c00b67f1c54acc205c6e85c44a1e9b7c90d945de3793b47823ee59d0a", func := "scrivener/scrivenerlaw06.ProofAll", spec := "proofAll", unfollowed := true, recurses := true, named := ["scrivener/sum.first", "scrivener/sum.rounds"], apart := false, laid := [("scrivener/sum.first", laid_scrivener_sum_first), ("scrivener/sum.rounds", laid_scrivener_sum_rounds)] }
def ProofAllSaid : Prop := proofAllRow.holds Tryd.pinned (OpenSpec.ofChange proofAllSpec)

/-- ITS FALSE NEIGHBOUR: 'it returns false'. Refute it at one input. -/
def proofAllWrong : ChangeSpec := { name := "proofAll", fn := fun _ => fun
  | [d] => { results := [.lit (.bool false)], args := [d] }
  | _ => none }
def ProofAllWrongFalsely : Prop := proofAllRow.holds Tryd.pinned (OpenSpec.ofChange proofAllWrong)

/-- 'scrivenerlaw06.ProofRanges': WHATEVER THE INPUT: true; the input reads as it did. -/
def proofRangesSpec : ChangeSpec := { name := "proofRanges", fn := fun _ => fun
  | [d1, d2, d3] => { results := [.lit (.bool true)], args := [d1, d2, d3] }
  | _ => none }
def proofRangesRow : OpenClaim := { program := "ytkkanaefngggoaadoor", sum := "12eae67c00b67f1c54acc205c6e85c44a1e9b7c90d945de3793b47823ee59d0a", func := "scrivener/scrivenerlaw06.ProofRanges", spec := "proofRanges", unfollowed := true, recurses := true, named := ["scrivener/sum.first", "scrivener/sum.rounds"], apart := false, laid := [("scrivener/sum.first", laid_scrivener_sum_first), ("scrivener/sum.rounds", laid_scrivener_sum_rounds)] }
def ProofRangesSaid : Prop := proofRangesRow.holds Tryd.pinned (OpenSpec.ofChange proofRangesSpec)

/-- ITS FALSE NEIGHBOUR: 'it returns false'. Refute it at one input. -/
def proofRangesWrong : ChangeSpec := { name := "proofRanges", fn := fun _ => fun
  | [d1, d2, d3] => { results := [.lit (.bool false)], args := [d1, d2, d3] }
  | _ => none }
def ProofRangesWrongFalsely : Prop := proofRangesRow.holds Tryd.pinned (OpenSpec.ofChange proofRangesWrong)

/- THE SECOND FORM. 'bulk': how many values and letters a reading holds, each counted each time it is reached (what is shared counts as often as it is met; a slice's spare places count too). A statement '..UptoSaid' is the law's where the arguments, and the package variables that the reading takes, are together of bulk at most 1048576: NARROWER than '..Said'. Prove '..Said' where nothing that the law and all that it calls make is longer than what came in: it says more and counts as full. Else prove '..UptoSaid'. A law counts once. -/
mutual
def uptoBulk {H : Type} : DataW H → Nat
  | .lit (.string bytes) => bytes.length + 1
  | .lit _ => 1
  | .nil => 1
  | .ptr d => uptoBulk d + 1
  | .slice elems spare => uptoBulkAll elems + uptoBulkAll spare + 1
  | .agg parts => uptoBulkAll parts + 1
  | .iface _ d => uptoBulk d + 1
  | .map entries => uptoBulkEntries entries + 1
  | .held _ => 1
def uptoBulkAll {H : Type} : List (DataW H) → Nat
  | [] => 0
  | d :: r => uptoBulk d + uptoBulkAll r
def uptoBulkEntries {H : Type} : List (Lit × DataW H) → Nat
  | [] => 0
  | x :: r => uptoBulkEntry x + uptoBulkEntries r
def uptoBulkEntry {H : Type} : Lit × DataW H → Nat
  | (.string bytes, d) => bytes.length + uptoBulk d + 1
  | (_, d) => uptoBulk d + 1
 end
def uptoSmall : (H : Type) → List (DataW H) → Bool := fun _ ds => decide (uptoBulkAll ds ≤ 1048576)
def OpenSpec.upto (s : _root_.Go.ChangeSpec) : _root_.Go.OpenSpec := { _root_.Go.OpenSpec.ofChange s with cond := some uptoSmall }

/-- 'scrivenerlaw05.TreeRoots', WHERE WHAT IT READS IS OF BULK AT MOST 1048576: true; the input reads as it did. -/
def treeRootsUptoRow : OpenClaim := { program := "ytkkanaefngggoaadoor", sum := "12eae67c00b67f1c54acc205c6e85c44a1e9b7c90d945de3793b47823ee59d0a", func := "scrivener/scrivenerlaw05.TreeRoots", spec := "treeRoots", unfollowed := true, recurses := true, named := ["scrivener/sum.first", "scrivener/sum.rounds"], apart := false, laid := [("scrivener/sum.first", laid_scrivener_sum_first), ("scrivener/sum.rounds", laid_scrivener_sum_rounds)], narrowed := true }
def TreeRootsUptoSaid : Prop := treeRootsUptoRow.holds Tryd.pinned (OpenSpec.upto treeRootsSpec)

/-- 'scrivenerlaw05.TreePeaks', WHERE WHAT IT READS IS OF BULK AT MOST 1048576: true; the input reads as it did. -/
def treePeaksUptoRow : OpenClaim := { program := "ytkkanaefngggoaadoor", sum := "12eae67c00b67f1c54acc205c6e85c44a1e9b7c90d945de3793b47823ee59d0a", func := "scrivener/scrivenerlaw05.TreePeaks", spec := "treePeaks", unfollowed := true, recurses := true, named := ["scrivener/sum.first", "scrivener/sum.rounds"], apart := false, laid := [("scrivener/sum.first", laid_scrivener_sum_first), ("scrivener/sum.rounds", laid_scrivener_sum_rounds)], narrowed := true }
def TreePeaksUptoSaid : Prop := treePeaksUptoRow.holds Tryd.pinned (OpenSpec.upto treePeaksSpec)

/-- 'scrivenerlaw05.TreeRestores', WHERE WHAT IT READS IS OF BULK AT MOST 1048576: true; the input reads as it did. -/
def treeRestoresUptoRow : OpenClaim := { program := "ytkkanaefngggoaadoor", sum := "12eae67c00b67f1c54acc205c6e85c44a1e9b7c90d945de3793b47823ee59d0a", func := "scrivener/scrivenerlaw05.TreeRestores", spec := "treeRestores", unfollowed := true, recurses := true, named := ["scrivener/sum.first", "scrivener/sum.rounds"], apart := false, laid := [("scrivener/sum.first", laid_scrivener_sum_first), ("scrivener/sum.rounds", laid_scrivener_sum_rounds)], narrowed := true }
def TreeRestoresUptoSaid : Prop := treeRestoresUptoRow.holds Tryd.pinned (OpenSpec.upto treeRestoresSpec)

/-- 'scrivenerlaw05.TreeEntries', WHERE WHAT IT READS IS OF BULK AT MOST 1048576: true; the input reads as it did. -/
def treeEntriesUptoRow : OpenClaim := { program := "ytkkanaefngggoaadoor", sum := "12eae67c00b67f1c54acc205c6e85c44a1e9b7c90d945de3793b47823ee59d0a", func := "scrivener/scrivenerlaw05.TreeEntries", spec := "treeEntries", unfollowed := true, recurses := true, named := ["scrivener/sum.first", "scrivener/sum.rounds"], apart := false, laid := [("scrivener/sum.first", laid_scrivener_sum_first), ("scrivener/sum.rounds", laid_scrivener_sum_rounds)], narrowed := true }
def TreeEntriesUptoSaid : Prop := treeEntriesUptoRow.holds Tryd.pinned (OpenSpec.upto treeEntriesSpec)

/-- 'scrivenerlaw05.TreeSplits', WHERE WHAT IT READS IS OF BULK AT MOST 1048576: true; the input reads as it did. -/
def treeSplitsUptoRow : OpenClaim := { program := "ytkkanaefngggoaadoor", sum := "12eae67c00b67f1c54acc205c6e85c44a1e9b7c90d945de3793b47823ee59d0a", func := "scrivener/scrivenerlaw05.TreeSplits", spec := "treeSplits", unfollowed := true, recurses := true, named := ["scrivener/sum.first", "scrivener/sum.rounds"], apart := false, laid := [("scrivener/sum.first", laid_scrivener_sum_first), ("scrivener/sum.rounds", laid_scrivener_sum_rounds)], narrowed := true }
def TreeSplitsUptoSaid : Prop := treeSplitsUptoRow.holds Tryd.pinned (OpenSpec.upto treeSplitsSpec)

/-- 'scrivenerlaw05.TreeSteps', WHERE WHAT IT READS IS OF BULK AT MOST 1048576: true; the input reads as it did. -/
def treeStepsUptoRow : OpenClaim := { program := "ytkkanaefngggoaadoor", sum := "12eae67c00b67f1c54acc205c6e85c44a1e9b7c90d945de3793b47823ee59d0a", func := "scrivener/scrivenerlaw05.TreeSteps", spec := "treeSteps", unfollowed := true, recurses := true, named := ["scrivener/sum.first", "scrivener/sum.rounds"], apart := false, laid := [("scrivener/sum.first", laid_scrivener_sum_first), ("scrivener/sum.rounds", laid_scrivener_sum_rounds)], narrowed := true }
def TreeStepsUptoSaid : Prop := treeStepsUptoRow.holds Tryd.pinned (OpenSpec.upto treeStepsSpec)

/-- 'scrivenerlaw05.TreeApart', WHERE WHAT IT READS IS OF BULK AT MOST 1048576: true; the input reads as it did. -/
def treeApartUptoRow : OpenClaim := { program := "ytkkanaefngggoaadoor", sum := "12eae67c00b67f1c54acc205c6e85c44a1e9b7c90d945de3793b47823ee59d0a", func := "scrivener/scrivenerlaw05.TreeApart", spec := "treeApart", unfollowed := true, recurses := true, named := ["scrivener/sum.first", "scrivener/sum.rounds"], apart := false, laid := [("scrivener/sum.first", laid_scrivener_sum_first), ("scrivener/sum.rounds", laid_scrivener_sum_rounds)], narrowed := true }
def TreeApartUptoSaid : Prop := treeApartUptoRow.holds Tryd.pinned (OpenSpec.upto treeApartSpec)

/-- 'scrivenerlaw06.ProofIncludes', WHERE WHAT IT READS IS OF BULK AT MOST 1048576: true; the input reads as it did. -/
def proofIncludesUptoRow : OpenClaim := { program := "ytkkanaefngggoaadoor", sum := "12eae67c00b67f1c54acc205c6e85c44a1e9b7c90d945de3793b47823ee59d0a", func := "scrivener/scrivenerlaw06.ProofIncludes", spec := "proofIncludes", unfollowed := true, recurses := true, named := ["scrivener/sum.first", "scrivener/sum.rounds"], apart := false, laid := [("scrivener/sum.first", laid_scrivener_sum_first), ("scrivener/sum.rounds", laid_scrivener_sum_rounds)], narrowed := true }
def ProofIncludesUptoSaid : Prop := proofIncludesUptoRow.holds Tryd.pinned (OpenSpec.upto proofIncludesSpec)

/-- 'scrivenerlaw06.ProofBegins', WHERE WHAT IT READS IS OF BULK AT MOST 1048576: true; the input reads as it did. -/
def proofBeginsUptoRow : OpenClaim := { program := "ytkkanaefngggoaadoor", sum := "12eae67c00b67f1c54acc205c6e85c44a1e9b7c90d945de3793b47823ee59d0a", func := "scrivener/scrivenerlaw06.ProofBegins", spec := "proofBegins", unfollowed := true, recurses := true, named := ["scrivener/sum.first", "scrivener/sum.rounds"], apart := false, laid := [("scrivener/sum.first", laid_scrivener_sum_first), ("scrivener/sum.rounds", laid_scrivener_sum_rounds)], narrowed := true }
def ProofBeginsUptoSaid : Prop := proofBeginsUptoRow.holds Tryd.pinned (OpenSpec.upto proofBeginsSpec)

/-- 'scrivenerlaw06.ProofChecks', WHERE WHAT IT READS IS OF BULK AT MOST 1048576: true; the input reads as it did. -/
def proofChecksUptoRow : OpenClaim := { program := "ytkkanaefngggoaadoor", sum := "12eae67c00b67f1c54acc205c6e85c44a1e9b7c90d945de3793b47823ee59d0a", func := "scrivener/scrivenerlaw06.ProofChecks", spec := "proofChecks", unfollowed := true, recurses := true, named := ["scrivener/sum.first", "scrivener/sum.rounds"], apart := false, laid := [("scrivener/sum.first", laid_scrivener_sum_first), ("scrivener/sum.rounds", laid_scrivener_sum_rounds)], narrowed := true }
def ProofChecksUptoSaid : Prop := proofChecksUptoRow.holds Tryd.pinned (OpenSpec.upto proofChecksSpec)

/-- 'scrivenerlaw06.ProofLinks', WHERE WHAT IT READS IS OF BULK AT MOST 1048576: true; the input reads as it did. -/
def proofLinksUptoRow : OpenClaim := { program := "ytkkanaefngggoaadoor", sum := "12eae67c00b67f1c54acc205c6e85c44a1e9b7c90d945de3793b47823ee59d0a", func := "scrivener/scrivenerlaw06.ProofLinks", spec := "proofLinks", unfollowed := true, recurses := true, named := ["scrivener/sum.first", "scrivener/sum.rounds"], apart := false, laid := [("scrivener/sum.first", laid_scrivener_sum_first), ("scrivener/sum.rounds", laid_scrivener_sum_rounds)], narrowed := true }
def ProofLinksUptoSaid : Prop := proofLinksUptoRow.holds Tryd.pinned (OpenSpec.upto proofLinksSpec)

/-- 'scrivenerlaw06.ProofWrong', WHERE WHAT IT READS IS OF BULK AT MOST 1048576: true; the input reads as it did. -/
def proofWrongUptoRow : OpenClaim := { program := "ytkkanaefngggoaadoor", sum := "12eae67c00b67f1c54acc205c6e85c44a1e9b7c90d945de3793b47823ee59d0a", func := "scrivener/scrivenerlaw06.ProofWrong", spec := "proofWrong", unfollowed := true, recurses := true, named := ["scrivener/sum.first", "scrivener/sum.rounds"], apart := false, laid := [("scrivener/sum.first", laid_scrivener_sum_first), ("scrivener/sum.rounds", laid_scrivener_sum_rounds)], narrowed := true }
def ProofWrongUptoSaid : Prop := proofWrongUptoRow.holds Tryd.pinned (OpenSpec.upto proofWrongSpec)

/-- 'scrivenerlaw06.ProofAll', WHERE WHAT IT READS IS OF BULK AT MOST 1048576: true; the input reads as it did. -/
def proofAllUptoRow : OpenClaim := { program := "ytkkanaefngggoaadoor", sum := "12eae67c00b67f1c54acc205c6e85c44a1e9b7c90d945de3793b47823ee59d0a", func := "scrivener/scrivenerlaw06.ProofAll", spec := "proofAll", unfollowed := true, recurses := true, named := ["scrivener/sum.first", "scrivener/sum.rounds"], apart := false, laid := [("scrivener/sum.first", laid_scrivener_sum_first), ("scrivener/sum.rounds", laid_scrivener_sum_rounds)], narrowed := true }
def ProofAllUptoSaid : Prop := proofAllUptoRow.holds Tryd.pinned (OpenSpec.upto proofAllSpec)

/-- 'scrivenerlaw06.ProofRanges', WHERE WHAT IT READS IS OF BULK AT MOST 1048576: true; the input reads as it did. -/
def proofRangesUptoRow : OpenClaim := { program := "ytkkanaefngggoaadoor", sum := "12eae67c00b67f1c54acc205c6e85c44a1e9b7c90d945de3793b47823ee59d0a", func := "scrivener/scrivenerlaw06.ProofRanges", spec := "proofRanges", unfollowed := true, recurses := true, named := ["scrivener/sum.first", "scrivener/sum.rounds"], apart := false, laid := [("scrivener/sum.first", laid_scrivener_sum_first), ("scrivener/sum.rounds", laid_scrivener_sum_rounds)], narrowed := true }
def ProofRangesUptoSaid : Prop := proofRangesUptoRow.holds Tryd.pinned (OpenSpec.upto proofRangesSpec)

end Rows
end Go.Proofs.YtkkanaefngggoaaDoor
