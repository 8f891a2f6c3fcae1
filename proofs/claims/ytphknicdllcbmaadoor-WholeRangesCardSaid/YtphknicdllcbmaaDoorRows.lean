/-
  NARROWER THAN 'FOR EVERY INPUT', by the rows' own cells (each row's printed sentence says how): TreeRoots: laid · TreeRestores: laid · TreeEntries: laid · TreeSteps: laid · TreeApart: laid · ProofAll: laid · WholeRanges: laid.
  DERIVED. THE GIVEN ROWS OF THIS SEAT. 7 by the template 'for every input the law returns true; each argument reads behind the call as it read before'; 0 by the template 'total and deterministic' (their statements: YtphknicdllcbmaaDoorTotals.lean).
  GIVEN WITH THE SEED: the statements are not yours to turn. If you find one false, say at which input.
  Laid BY PROGRAM, IN A SANDBOX (cutbox-rows.mjs): the forced cells as the released guide's own fill.sh prints them over the translation dbc6a52586940704… (all of the seat's roots in one cut). By AI agents, Wed Nov 11 2026. No macro, syntax, notation, axiom, sorry.
-/
import Derived.Test.YtphknicdllcbmaaDoorChecked
import GoSem.Claim
import GoSem.ClaimJoined
import GoSem.ClaimMapViews
import Derived.JoinedTies
import Derived.KernelRfl
namespace Go.Proofs.YtphknicdllcbmaaDoor
/- THE CELL 'sum', in the pinned program and in every row, IS THE sha256 OF THE DUMP (.gsa) THAT YtphknicdllcbmaaDoorProg.lean LOADS. Nothing in Lean hashes anything: it is a label: what it is worth is what the hold of that sum in a sandbox is worth. -/
noncomputable def Tryd.pinned : Pinned := { name := "ytphknicdllcbmaadoor", sum := "dbc6a5258694070449d13643e10286526091d667274276fa6c60423a19ea435e", checked := Tryd.checked }
namespace Rows
def none {H : Type} : Left H := { results := [], args := [] }

/- WHAT THE LISTED PACKAGE-LEVEL VARIABLES READ AS WHEN THE CALL BEGINS. Each datum BY PROGRAM (the guide's laid-datum.mjs) off the statement by which the dump's own 'gosem.cut.vars' lays the variable. In a bare row this is a premise. The card (YtphknicdllcbmaaDoorCards.lean) ties it to the program's text. -/
def laid_scrivener_sum_first {H : Type} : DataW H := .agg [.lit (.int .u32 1779033703), .lit (.int .u32 3144134277), .lit (.int .u32 1013904242), .lit (.int .u32 2773480762), .lit (.int .u32 1359893119), .lit (.int .u32 2600822924), .lit (.int .u32 528734635), .lit (.int .u32 1541459225)]
def laid_scrivener_sum_rounds {H : Type} : DataW H := .agg [.lit (.int .u32 1116352408), .lit (.int .u32 1899447441), .lit (.int .u32 3049323471), .lit (.int .u32 3921009573), .lit (.int .u32 961987163), .lit (.int .u32 1508970993), .lit (.int .u32 2453635748), .lit (.int .u32 2870763221), .lit (.int .u32 3624381080), .lit (.int .u32 310598401), .lit (.int .u32 607225278), .lit (.int .u32 1426881987), .lit (.int .u32 1925078388), .lit (.int .u32 2162078206), .lit (.int .u32 2614888103), .lit (.int .u32 3248222580), .lit (.int .u32 3835390401), .lit (.int .u32 4022224774), .lit (.int .u32 264347078), .lit (.int .u32 604807628), .lit (.int .u32 770255983), .lit (.int .u32 1249150122), .lit (.int .u32 1555081692), .lit (.int .u32 1996064986), .lit (.int .u32 2554220882), .lit (.int .u32 2821834349), .lit (.int .u32 2952996808), .lit (.int .u32 3210313671), .lit (.int .u32 3336571891), .lit (.int .u32 3584528711), .lit (.int .u32 113926993), .lit (.int .u32 338241895), .lit (.int .u32 666307205), .lit (.int .u32 773529912), .lit (.int .u32 1294757372), .lit (.int .u32 1396182291), .lit (.int .u32 1695183700), .lit (.int .u32 1986661051), .lit (.int .u32 2177026350), .lit (.int .u32 2456956037), .lit (.int .u32 2730485921), .lit (.int .u32 2820302411), .lit (.int .u32 3259730800), .lit (.int .u32 3345764771), .lit (.int .u32 3516065817), .lit (.int .u32 3600352804), .lit (.int .u32 4094571909), .lit (.int .u32 275423344), .lit (.int .u32 430227734), .lit (.int .u32 506948616), .lit (.int .u32 659060556), .lit (.int .u32 883997877), .lit (.int .u32 958139571), .lit (.int .u32 1322822218), .lit (.int .u32 1537002063), .lit (.int .u32 1747873779), .lit (.int .u32 1955562222), .lit (.int .u32 2024104815), .lit (.int .u32 2227730452), .lit (.int .u32 2361852424), .lit (.int .u32 2428436474), .lit (.int .u32 2756734187), .lit (.int .u32 3204031479), .lit (.int .u32 3329325298)]

/-- 'scrivenerlaw05.TreeRoots': WHATEVER THE INPUT: true; the input reads as it did. -/
def treeRootsSpec : ChangeSpec := { name := "treeRoots", fn := fun _ => fun
  | [d1, d2] => { results := [.lit (.bool true)], args := [d1, d2] }
  | _ => none }
def treeRootsRow : OpenClaim := { program := "ytphknicdllcbmaadoor", sum := "dbc6a5258694070449d13643e10286526091d667274276fa6c60423a19ea435e", func := "scrivener/scrivenerlaw05.TreeRoots", spec := "treeRoots", unfollowed := true, recurses := true, named := ["scrivener/sum.first", "scrivener/sum.rounds"], apart := false, laid := [("scrivener/sum.first", laid_scrivener_sum_first), ("scrivener/sum.rounds", laid_scrivener_sum_rounds)] }
def TreeRootsSaid : Prop := treeRootsRow.holds Tryd.pinned (OpenSpec.ofChange treeRootsSpec)

/-- ITS FALSE NEIGHBOUR: 'it returns false'. Refute it at one input. -/
def treeRootsWrong : ChangeSpec := { name := "treeRoots", fn := fun _ => fun
  | [d1, d2] => { results := [.lit (.bool false)], args := [d1, d2] }
  | _ => none }
def TreeRootsWrongFalsely : Prop := treeRootsRow.holds Tryd.pinned (OpenSpec.ofChange treeRootsWrong)

/-- 'scrivenerlaw05.TreeRestores': WHATEVER THE INPUT: true; the input reads as it did. -/
def treeRestoresSpec : ChangeSpec := { name := "treeRestores", fn := fun _ => fun
  | [d1, d2, d3] => { results := [.lit (.bool true)], args := [d1, d2, d3] }
  | _ => none }
def treeRestoresRow : OpenClaim := { program := "ytphknicdllcbmaadoor", sum := "dbc6a5258694070449d13643e10286526091d667274276fa6c60423a19ea435e", func := "scrivener/scrivenerlaw05.TreeRestores", spec := "treeRestores", unfollowed := true, recurses := true, named := ["scrivener/sum.first", "scrivener/sum.rounds"], apart := false, laid := [("scrivener/sum.first", laid_scrivener_sum_first), ("scrivener/sum.rounds", laid_scrivener_sum_rounds)] }
def TreeRestoresSaid : Prop := treeRestoresRow.holds Tryd.pinned (OpenSpec.ofChange treeRestoresSpec)

/-- ITS FALSE NEIGHBOUR: 'it returns false'. Refute it at one input. -/
def treeRestoresWrong : ChangeSpec := { name := "treeRestores", fn := fun _ => fun
  | [d1, d2, d3] => { results := [.lit (.bool false)], args := [d1, d2, d3] }
  | _ => none }
def TreeRestoresWrongFalsely : Prop := treeRestoresRow.holds Tryd.pinned (OpenSpec.ofChange treeRestoresWrong)

/-- 'scrivenerlaw05.TreeEntries': WHATEVER THE INPUT: true; the input reads as it did. -/
def treeEntriesSpec : ChangeSpec := { name := "treeEntries", fn := fun _ => fun
  | [d] => { results := [.lit (.bool true)], args := [d] }
  | _ => none }
def treeEntriesRow : OpenClaim := { program := "ytphknicdllcbmaadoor", sum := "dbc6a5258694070449d13643e10286526091d667274276fa6c60423a19ea435e", func := "scrivener/scrivenerlaw05.TreeEntries", spec := "treeEntries", unfollowed := true, recurses := true, named := ["scrivener/sum.first", "scrivener/sum.rounds"], apart := false, laid := [("scrivener/sum.first", laid_scrivener_sum_first), ("scrivener/sum.rounds", laid_scrivener_sum_rounds)] }
def TreeEntriesSaid : Prop := treeEntriesRow.holds Tryd.pinned (OpenSpec.ofChange treeEntriesSpec)

/-- ITS FALSE NEIGHBOUR: 'it returns false'. Refute it at one input. -/
def treeEntriesWrong : ChangeSpec := { name := "treeEntries", fn := fun _ => fun
  | [d] => { results := [.lit (.bool false)], args := [d] }
  | _ => none }
def TreeEntriesWrongFalsely : Prop := treeEntriesRow.holds Tryd.pinned (OpenSpec.ofChange treeEntriesWrong)

/-- 'scrivenerlaw05.TreeSteps': WHATEVER THE INPUT: true; the input reads as it did. -/
def treeStepsSpec : ChangeSpec := { name := "treeSteps", fn := fun _ => fun
  | [d] => { results := [.lit (.bool true)], args := [d] }
  | _ => none }
def treeStepsRow : OpenClaim := { program := "ytphknicdllcbmaadoor", sum := "dbc6a5258694070449d13643e10286526091d667274276fa6c60423a19ea435e", func := "scrivener/scrivenerlaw05.TreeSteps", spec := "treeSteps", unfollowed := true, recurses := true, named := ["scrivener/sum.first", "scrivener/sum.rounds"], apart := false, laid := [("scrivener/sum.first", laid_scrivener_sum_first), ("scrivener/sum.rounds", laid_scrivener_sum_rounds)] }
def TreeStepsSaid : Prop := treeStepsRow.holds Tryd.pinned (OpenSpec.ofChange treeStepsSpec)

/-- ITS FALSE NEIGHBOUR: 'it returns false'. Refute it at one input. -/
def treeStepsWrong : ChangeSpec := { name := "treeSteps", fn := fun _ => fun
  | [d] => { results := [.lit (.bool false)], args := [d] }
  | _ => none }
def TreeStepsWrongFalsely : Prop := treeStepsRow.holds Tryd.pinned (OpenSpec.ofChange treeStepsWrong)

/-- 'scrivenerlaw05.TreeApart': WHATEVER THE INPUT: true; the input reads as it did. -/
def treeApartSpec : ChangeSpec := { name := "treeApart", fn := fun _ => fun
  | [d1, d2, d3] => { results := [.lit (.bool true)], args := [d1, d2, d3] }
  | _ => none }
def treeApartRow : OpenClaim := { program := "ytphknicdllcbmaadoor", sum := "dbc6a5258694070449d13643e10286526091d667274276fa6c60423a19ea435e", func := "scrivener/scrivenerlaw05.TreeApart", spec := "treeApart", unfollowed := true, recurses := true, named := ["scrivener/sum.first", "scrivener/sum.rounds"], apart := false, laid := [("scrivener/sum.first", laid_scrivener_sum_first), ("scrivener/sum.rounds", laid_scrivener_sum_rounds)] }
def TreeApartSaid : Prop := treeApartRow.holds Tryd.pinned (OpenSpec.ofChange treeApartSpec)

/-- ITS FALSE NEIGHBOUR: 'it returns false'. Refute it at one input. -/
def treeApartWrong : ChangeSpec := { name := "treeApart", fn := fun _ => fun
  | [d1, d2, d3] => { results := [.lit (.bool false)], args := [d1, d2, d3] }
  | _ => none }
def TreeApartWrongFalsely : Prop := treeApartRow.holds Tryd.pinned (OpenSpec.ofChange treeApartWrong)

/-- 'scrivenerlaw06.ProofAll': WHATEVER THE INPUT: true; the input reads as it did. -/
def proofAllSpec : ChangeSpec := { name := "proofAll", fn := fun _ => fun
  | [d] => { results := [.lit (.bool true)], args := [d] }
  | _ => none }
def proofAllRow : OpenClaim := { program := "ytphknicdllcbmaadoor", sum := "dbc6a5258694070449d13643e10286526091d667274276fa6c60423a19ea435e", func := "scrivener/scrivenerlaw06.ProofAll", spec := "proofAll", unfollowed := true, recurses := true, named := ["scrivener/sum.first", "scrivener/sum.rounds"], apart := false, laid := [("scrivener/sum.first", laid_scrivener_sum_first), ("scrivener/sum.rounds", laid_scrivener_sum_rounds)] }
def ProofAllSaid : Prop := proofAllRow.holds Tryd.pinned (OpenSpec.ofChange proofAllSpec)

/-- ITS FALSE NEIGHBOUR: 'it returns false'. Refute it at one input. -/
def proofAllWrong : ChangeSpec := { name := "proofAll", fn := fun _ => fun
  | [d] => { results := [.lit (.bool false)], args := [d] }
  | _ => none }
def ProofAllWrongFalsely : Prop := proofAllRow.holds Tryd.pinned (OpenSpec.ofChange proofAllWrong)

/-- 'scrivenertop.WholeRanges': WHATEVER THE INPUT: true; the input reads as it did. -/
def wholeRangesSpec : ChangeSpec := { name := "wholeRanges", fn := fun _ => fun
  | [d1, d2] => { results := [.lit (.bool true)], args := [d1, d2] }
  | _ => none }
def wholeRangesRow : OpenClaim := { program := "ytphknicdllcbmaadoor", sum := "dbc6a5258694070449d13643e10286526091d667274276fa6c60423a19ea435e", func := "scrivener/scrivenertop.WholeRanges", spec := "wholeRanges", unfollowed := true, recurses := true, named := ["scrivener/sum.first", "scrivener/sum.rounds"], apart := false, laid := [("scrivener/sum.first", laid_scrivener_sum_first), ("scrivener/sum.rounds", laid_scrivener_sum_rounds)] }
def WholeRangesSaid : Prop := wholeRangesRow.holds Tryd.pinned (OpenSpec.ofChange wholeRangesSpec)

/-- ITS FALSE NEIGHBOUR: 'it returns false'. Refute it at one input. -/
def wholeRangesWrong : ChangeSpec := { name := "wholeRanges", fn := fun _ => fun
  | [d1, d2] => { results := [.lit (.bool false)], args := [d1, d2] }
  | _ => none }
def WholeRangesWrongFalsely : Prop := wholeRangesRow.holds Tryd.pinned (OpenSpec.ofChange wholeRangesWrong)

/- THE SECOND FORM. 'bulk': how many values and letters a reading holds, each counted each time it is reached (what is shared counts as often as it is met; a slice's spare places count too). A statement '..UptoSaid' is the law's where the arguments, and the package variables that the reading takes, are together of bulk at most 1048576: NARROWER than '..Said'. Prove '..Said' where nothing that the law and all that it calls make is longer than what came in: it says more and counts as full. Else prove '..UptoSaid'. A law counts once. -/
mutual
def uptoBulk {H : Type} : DataW H → Nat
  | .lit (.string bytes) => bytes.length + 1
  | .lit _ => 1
  | .nil => 1
  | .ptr d => uptoBulk d + 1
  | .slice elems spare => uptoBulkAll elems + uptoBulkAll spare + 1
  | .agg parts => uptoBulkAll parts + 1
  | .iface _ d => uptoBulk d + 1
  | .map entries => uptoBulkEntries entries + 1
  | .held _ => 1
def uptoBulkAll {H : Type} : List (DataW H) → Nat
  | [] => 0
  | d :: r => uptoBulk d + uptoBulkAll r
def uptoBulkEntries {H : Type} : List (Lit × DataW H) → Nat
  | [] => 0
  | x :: r => uptoBulkEntry x + uptoBulkEntries r
def uptoBulkEntry {H : Type} : Lit × DataW H → Nat
  | (.string bytes, d) => bytes.length + uptoBulk d + 1
  | (_, d) => uptoBulk d + 1
 end
def uptoSmall : (H : Type) → List (DataW H) → Bool := fun _ ds => decide (uptoBulkAll ds ≤ 1048576)
def OpenSpec.upto (s : _root_.Go.ChangeSpec) : _root_.Go.OpenSpec := { _root_.Go.OpenSpec.ofChange s with cond := some uptoSmall }

/-- 'scrivenerlaw05.TreeRoots', WHERE WHAT IT READS IS OF BULK AT MOST 1048576: true; the input reads as it did. -/
def treeRootsUptoRow : OpenClaim := { program := "ytphknicdllcbmaadoor", sum := "dbc6a5258694070449d13643e10286526091d667274276fa6c60423a19ea435e", func := "scrivener/scrivenerlaw05.TreeRoots", spec := "treeRoots", unfollowed := true, recurses := true, named := ["scrivener/sum.first", "scrivener/sum.rounds"], apart := false, laid := [("scrivener/sum.first", laid_scrivener_sum_first), ("scrivener/sum.rounds", laid_scrivener_sum_rounds)], narrowed := true }
def TreeRootsUptoSaid : Prop := treeRootsUptoRow.holds Tryd.pinned (OpenSpec.upto treeRootsSpec)

/-- 'scrivenerlaw05.TreeRestores', WHERE WHAT IT READS IS OF BULK AT MOST 1048576: true; the input reads as it did. -/
def treeRestoresUptoRow : OpenClaim := { program := "ytphknicdllcbmaadoor", sum := "dbc6a5258694070449d13643e10286526091d667274276fa6c60423a19ea435e", func := "scrivener/scrivenerlaw05.TreeRestores", spec := "treeRestores", unfollowed := true, recurses := true, named := ["scrivener/sum.first", "scrivener/sum.rounds"], apart := false, laid := [("scrivener/sum.first", laid_scrivener_sum_first), ("scrivener/sum.rounds", laid_scrivener_sum_rounds)], narrowed := true }
def TreeRestoresUptoSaid : Prop := treeRestoresUptoRow.holds Tryd.pinned (OpenSpec.upto treeRestoresSpec)

/-- 'scrivenerlaw05.TreeEntries', WHERE WHAT IT READS IS OF BULK AT MOST 1048576: true; the input reads as it did. -/
def treeEntriesUptoRow : OpenClaim := { program := "ytphknicdllcbmaadoor", sum := "dbc6a5258694070449d13643e10286526091d667274276fa6c60423a19ea435e", func := "scrivener/scrivenerlaw05.TreeEntries", spec := "treeEntries", unfollowed := true, recurses := true, named := ["scrivener/sum.first", "scrivener/sum.rounds"], apart := false, laid := [("scrivener/sum.first", laid_scrivener_sum_first), ("scrivener/sum.rounds", laid_scrivener_sum_rounds)], narrowed := true }
def TreeEntriesUptoSaid : Prop := treeEntriesUptoRow.holds Tryd.pinned (OpenSpec.upto treeEntriesSpec)

/-- 'scrivenerlaw05.TreeSteps', WHERE WHAT IT READS IS OF BULK AT MOST 1048576: true; the input reads as it did. -/
def treeStepsUptoRow : OpenClaim := { program := "ytphknicdllcbmaadoor", sum := "dbc6a5258694070449d13643e10286526091d667274276fa6c60423a19ea435e", func := "scrivener/scrivenerlaw05.TreeSteps", spec := "treeSteps", unfollowed := true, recurses := true, named := ["scrivener/sum.first", "scrivener/sum.rounds"], apart := false, laid := [("scrivener/sum.first", laid_scrivener_sum_first), ("scrivener/sum.rounds", laid_scrivener_sum_rounds)], narrowed := true }
def TreeStepsUptoSaid : Prop := treeStepsUptoRow.holds Tryd.pinned (OpenSpec.upto treeStepsSpec)

/-- 'scrivenerlaw05.TreeApart', WHERE WHAT IT READS IS OF BULK AT MOST 1048576: true; the input reads as it did. -/
def treeApartUptoRow : OpenClaim := { program := "ytphknicdllcbmaadoor", sum := "dbc6a5258694070449d13643e10286526091d667274276fa6c60423a19ea435e", func := "scrivener/scrivenerlaw05.TreeApart", spec := "treeApart", unfollowed := true, recurses := true, named := ["scrivener/sum.first", "scrivener/sum.rounds"], apart := false, laid := [("scrivener/sum.first", laid_scrivener_sum_first), ("scrivener/sum.rounds", laid_scrivener_sum_rounds)], narrowed := true }
def TreeApartUptoSaid : Prop := treeApartUptoRow.holds Tryd.pinned (OpenSpec.upto treeApartSpec)

/-- 'scrivenerlaw06.ProofAll', WHERE WHAT IT READS IS OF BULK AT MOST 1048576: true; the input reads as it did. -/
def proofAllUptoRow : OpenClaim := { program := "ytphknicdllcbmaadoor", sum := "dbc6a5258694070449d13643e10286526091d667274276fa6c60423a19ea435e", func := "scrivener/scrivenerlaw06.ProofAll", spec := "proofAll", unfollowed := true, recurses := true, named := ["scrivener/sum.first", "scrivener/sum.rounds"], apart := false, laid := [("scrivener/sum.first", laid_scrivener_sum_first), ("scrivener/sum.rounds", laid_scrivener_sum_rounds)], narrowed := true }
def ProofAllUptoSaid : Prop := proofAllUptoRow.holds Tryd.pinned (OpenSpec.upto proofAllSpec)

/-- 'scrivenertop.WholeRanges', WHERE WHAT IT READS IS OF BULK AT MOST 1048576: true; the input reads as it did. -/
def wholeRangesUptoRow : OpenClaim := { program := "ytphknicdllcbmaadoor", sum := "dbc6a5258694070449d13643e10286526091d667274276fa6c60423a19ea435e", func := "scrivener/scrivenertop.WholeRanges", spec := "wholeRanges", unfollowed := true, recurses := true, named := ["scrivener/sum.first", "scrivener/sum.rounds"], apart := false, laid := [("scrivener/sum.first", laid_scrivener_sum_first), ("scrivener/sum.rounds", laid_scrivener_sum_rounds)], narrowed := true }
def WholeRangesUptoSaid : Prop := wholeRangesUptoRow.holds Tryd.pinned (OpenSpec.upto wholeRangesSpec)

end Rows
end Go.Proofs.YtphknicdllcbmaaDoor
