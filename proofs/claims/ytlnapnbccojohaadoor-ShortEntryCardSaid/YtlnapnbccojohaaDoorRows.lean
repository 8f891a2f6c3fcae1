/-
  NARROWER THAN 'FOR EVERY INPUT', by the rows' own cells (each row's printed sentence says how): ProofChecks: laid · ProofLinks: laid · ProofWrong: laid · ShortRoots: laid · ShortLeads: laid · ShortLists: laid · ShortEntry: laid · ShortKeeps: laid.
  DERIVED. THE GIVEN ROWS OF THIS SEAT. 8 by the template 'for every input the law returns true; each argument reads behind the call as it read before'; 0 by the template 'total and deterministic' (their statements: YtlnapnbccojohaaDoorTotals.lean).
  GIVEN WITH THE SEED: the statements are not yours to turn. If you find one false, say at which input.
  Laid BY PROGRAM, IN A SANDBOX (cutbox-rows.mjs): the forced cells as the released guide's own fill.sh prints them over the translation 7e7d5c5276df41ea… (all of the seat's roots in one cut). By AI agents, Wed Nov 11 2026. No macro, syntax, notation, axiom, sorry.
-/
import Derived.Test.YtlnapnbccojohaaDoorChecked
import GoSem.Claim
import GoSem.ClaimJoined
import GoSem.ClaimMapViews
import Derived.JoinedTies
import Derived.KernelRfl
namespace Go.Proofs.YtlnapnbccojohaaDoor
/- THE CELL 'sum', in the pinned program and in every row, IS THE sha256 OF THE DUMP (.gsa) THAT YtlnapnbccojohaaDoorProg.lean LOADS. Nothing in Lean hashes anything: it is a label: what it is worth is what the hold of that sum in a sandbox is worth. -/
noncomputable def Tryd.pinned : Pinned := { name := "ytlnapnbccojohaadoor", sum := "7e7d5c5276df41ea24c764b4a2a678ccbc9bbc28d2092920dd2090c20dcb5106", checked := Tryd.checked }
namespace Rows
def none {H : Type} : Left H := { results := [], args := [] }

/- WHAT THE LISTED PACKAGE-LEVEL VARIABLES READ AS WHEN THE CALL BEGINS. Each datum BY PROGRAM (the guide's laid-datum.mjs) off the statement by which the dump's own 'gosem.cut.vars' lays the variable. In a bare row this is a premise. The card (YtlnapnbccojohaaDoorCards.lean) ties it to the program's text. -/
def laid_scrivener_sum_first {H : Type} : DataW H := .agg [.lit (.int .u32 1779033703), .lit (.int .u32 3144134277), .lit (.int .u32 1013904242), .lit (.int .u32 2773480762), .lit (.int .u32 1359893119), .lit (.int .u32 2600822924), .lit (.int .u32 528734635), .lit (.int .u32 1541459225)]
def laid_scrivener_sum_rounds {H : Type} : DataW H := .agg [.lit (.int .u32 1116352408), .lit (.int .u32 1899447441), .lit (.int .u32 3049323471), .lit (.int .u32 3921009573), .lit (.int .u32 961987163), .lit (.int .u32 1508970993), .lit (.int .u32 2453635748), .lit (.int .u32 2870763221), .lit (.int .u32 3624381080), .lit (.int .u32 310598401), .lit (.int .u32 607225278), .lit (.int .u32 1426881987), .lit (.int .u32 1925078388), .lit (.int .u32 2162078206), .lit (.int .u32 2614888103), .lit (.int .u32 3248222580), .lit (.int .u32 3835390401), .lit (.int .u32 4022224774), .lit (.int .u32 264347078), .lit (.int .u32 604807628), .lit (.int .u32 770255983), .lit (.int .u32 1249150122), .lit (.int .u32 1555081692), .lit (.int .u32 1996064986), .lit (.int .u32 2554220882), .lit (.int .u32 2821834349), .lit (.int .u32 2952996808), .lit (.int .u32 3210313671), .lit (.int .u32 3336571891), .lit (.int .u32 3584528711), .lit (.int .u32 113926993), .lit (.int .u32 338241895), .lit (.int .u32 666307205), .lit (.int .u32 773529912), .lit (.int .u32 1294757372), .lit (.int .u32 1396182291), .lit (.int .u32 1695183700), .lit (.int .u32 1986661051), .lit (.int .u32 2177026350), .lit (.int .u32 2456956037), .lit (.int .u32 2730485921), .lit (.int .u32 2820302411), .lit (.int .u32 3259730800), .lit (.int .u32 3345764771), .lit (.int .u32 3516065817), .lit (.int .u32 3600352804), .lit (.int .u32 4094571909), .lit (.int .u32 275423344), .lit (.int .u32 430227734), .lit (.int .u32 506948616), .lit (.int .u32 659060556), .lit (.int .u32 883997877), .lit (.int .u32 958139571), .lit (.int .u32 1322822218), .lit (.int .u32 1537002063), .lit (.int .u32 1747873779), .lit (.int .u32 1955562222), .lit (.int .u32 2024104815), .lit (.int .u32 2227730452), .lit (.int .u32 2361852424), .lit (.int .u32 2428436474), .lit (.int .u32 2756734187), .lit (.int .u32 3204031479), .lit (.int .u32 3329325298)]

/-- 'scrivenerlaw06.ProofChecks': WHATEVER THE INPUT: true; the input reads as it did. -/
def proofChecksSpec : ChangeSpec := { name := "proofChecks", fn := fun _ => fun
  | [d] => { results := [.lit (.bool true)], args := [d] }
  | _ => none }
def proofChecksRow : OpenClaim := { program := "ytlnapnbccojohaadoor", sum := "7e7d5c5276df41ea24c764b4a2a678ccbc9bbc28d2092920dd2090c20dcb5106", func := "scrivener/scrivenerlaw06.ProofChecks", spec := "proofChecks", unfollowed := true, recurses := true, named := ["scrivener/sum.first", "scrivener/sum.rounds"], apart := false, laid := [("scrivener/sum.first", laid_scrivener_sum_first), ("scrivener/sum.rounds", laid_scrivener_sum_rounds)] }
def ProofChecksSaid : Prop := proofChecksRow.holds Tryd.pinned (OpenSpec.ofChange proofChecksSpec)

/-- ITS FALSE NEIGHBOUR: 'it returns false'. Refute it at one input. -/
def proofChecksWrong : ChangeSpec := { name := "proofChecks", fn := fun _ => fun
  | [d] => { results := [.lit (.bool false)], args := [d] }
  | _ => none }
def ProofChecksWrongFalsely : Prop := proofChecksRow.holds Tryd.pinned (OpenSpec.ofChange proofChecksWrong)

/-- 'scrivenerlaw06.ProofLinks': WHATEVER THE INPUT: true; the input reads as it did. -/
def proofLinksSpec : ChangeSpec := { name := "proofLinks", fn := fun _ => fun
  | [d] => { results := [.lit (.bool true)], args := [d] }
  | _ => none }
def proofLinksRow : OpenClaim := { program := "ytlnapnbccojohaadoor", sum := "7e7d5c5276df41ea24c764b4a2a678ccbc9bbc28d2092920dd2090c20dcb5106", func := "scrivener/scrivenerlaw06.ProofLinks", spec := "proofLinks", unfollowed := true, recurses := true, named := ["scrivener/sum.first", "scrivener/sum.rounds"], apart := false, laid := [("scrivener/sum.first", laid_scrivener_sum_first), ("scrivener/sum.rounds", laid_scrivener_sum_rounds)] }
def ProofLinksSaid : Prop := proofLinksRow.holds Tryd.pinned (OpenSpec.ofChange proofLinksSpec)

/-- ITS FALSE NEIGHBOUR: 'it returns false'. Refute it at one input. -/
def proofLinksWrong : ChangeSpec := { name := "proofLinks", fn := fun _ => fun
  | [d] => { results := [.lit (.bool false)], args := [d] }
  | _ => none }
def ProofLinksWrongFalsely : Prop := proofLinksRow.holds Tryd.pinned (OpenSpec.ofChange proofLinksWrong)

/-- 'scrivenerlaw06.ProofWrong': WHATEVER THE INPUT: true; the input reads as it did. -/
def proofWrongSpec : ChangeSpec := { name := "proofWrong", fn := fun _ => fun
  | [d1, d2, d3] => { results := [.lit (.bool true)], args := [d1, d2, d3] }
  | _ => none }
def proofWrongRow : OpenClaim := { program := "ytlnapnbccojohaadoor", sum := "7e7d5c5276df41ea24c764b4a2a678ccbc9bbc28d2092920dd2090c20dcb5106", func := "scrivener/scrivenerlaw06.ProofWrong", spec := "proofWrong", unfollowed := true, recurses := true, named := ["scrivener/sum.first", "scrivener/sum.rounds"], apart := false, laid := [("scrivener/sum.first", laid_scrivener_sum_first), ("scrivener/sum.rounds", laid_scrivener_sum_rounds)] }
def ProofWrongSaid : Prop := proofWrongRow.holds Tryd.pinned (OpenSpec.ofChange proofWrongSpec)

/-- ITS FALSE NEIGHBOUR: 'it returns false'. Refute it at one input. -/
def proofWrongWrong : ChangeSpec := { name := "proofWrong", fn := fun _ => fun
  | [d1, d2, d3] => { results := [.lit (.bool false)], args := [d1, d2, d3] }
  | _ => none }
def ProofWrongWrongFalsely : Prop := proofWrongRow.holds Tryd.pinned (OpenSpec.ofChange proofWrongWrong)

/-- 'scrivenerlaw07.ShortRoots': WHATEVER THE INPUT: true; the input reads as it did. -/
def shortRootsSpec : ChangeSpec := { name := "shortRoots", fn := fun _ => fun
  | [d1, d2, d3] => { results := [.lit (.bool true)], args := [d1, d2, d3] }
  | _ => none }
def shortRootsRow : OpenClaim := { program := "ytlnapnbccojohaadoor", sum := "7e7d5c5276df41ea24c764b4a2a678ccbc9bbc28d2092920dd2090c20dcb5106", func := "scrivener/scrivenerlaw07.ShortRoots", spec := "shortRoots", unfollowed := true, recurses := true, named := ["scrivener/sum.first", "scrivener/sum.rounds"], apart := false, laid := [("scrivener/sum.first", laid_scrivener_sum_first), ("scrivener/sum.rounds", laid_scrivener_sum_rounds)] }
def ShortRootsSaid : Prop := shortRootsRow.holds Tryd.pinned (OpenSpec.ofChange shortRootsSpec)

/-- ITS FALSE NEIGHBOUR: 'it returns false'. Refute it at one input. -/
def shortRootsWrong : ChangeSpec := { name := "shortRoots", fn := fun _ => fun
  | [d1, d2, d3] => { results := [.lit (.bool false)], args := [d1, d2, d3] }
  | _ => none }
def ShortRootsWrongFalsely : Prop := shortRootsRow.holds Tryd.pinned (OpenSpec.ofChange shortRootsWrong)

/-- 'scrivenerlaw07.ShortLeads': WHATEVER THE INPUT: true; the input reads as it did. -/
def shortLeadsSpec : ChangeSpec := { name := "shortLeads", fn := fun _ => fun
  | [d1, d2, d3] => { results := [.lit (.bool true)], args := [d1, d2, d3] }
  | _ => none }
def shortLeadsRow : OpenClaim := { program := "ytlnapnbccojohaadoor", sum := "7e7d5c5276df41ea24c764b4a2a678ccbc9bbc28d2092920dd2090c20dcb5106", func := "scrivener/scrivenerlaw07.ShortLeads", spec := "shortLeads", unfollowed := true, recurses := true, named := ["scrivener/sum.first", "scrivener/sum.rounds"], apart := false, laid := [("scrivener/sum.first", laid_scrivener_sum_first), ("scrivener/sum.rounds", laid_scrivener_sum_rounds)] }
def ShortLeadsSaid : Prop := shortLeadsRow.holds Tryd.pinned (OpenSpec.ofChange shortLeadsSpec)

/-- ITS FALSE NEIGHBOUR: 'it returns false'. Refute it at one input. -/
def shortLeadsWrong : ChangeSpec := { name := "shortLeads", fn := fun _ => fun
  | [d1, d2, d3] => { results := [.lit (.bool false)], args := [d1, d2, d3] }
  | _ => none }
def ShortLeadsWrongFalsely : Prop := shortLeadsRow.holds Tryd.pinned (OpenSpec.ofChange shortLeadsWrong)

/-- 'scrivenerlaw07.ShortLists': WHATEVER THE INPUT: true; the input reads as it did. -/
def shortListsSpec : ChangeSpec := { name := "shortLists", fn := fun _ => fun
  | [d1, d2, d3] => { results := [.lit (.bool true)], args := [d1, d2, d3] }
  | _ => none }
def shortListsRow : OpenClaim := { program := "ytlnapnbccojohaadoor", sum := "7e7d5c5276df41ea24c764b4a2a678ccbc9bbc28d2092920dd2090c20dcb5106", func := "scrivener/scrivenerlaw07.ShortLists", spec := "shortLists", unfollowed := true, recurses := true, named := ["scrivener/sum.first", "scrivener/sum.rounds"], apart := false, laid := [("scrivener/sum.first", laid_scrivener_sum_first), ("scrivener/sum.rounds", laid_scrivener_sum_rounds)] }
def ShortListsSaid : Prop := shortListsRow.holds Tryd.pinned (OpenSpec.ofChange shortListsSpec)

/-- ITS FALSE NEIGHBOUR: 'it returns false'. Refute it at one input. -/
def shortListsWrong : ChangeSpec := { name := "shortLists", fn := fun _ => fun
  | [d1, d2, d3] => { results := [.lit (.bool false)], args := [d1, d2, d3] }
  | _ => none }
def ShortListsWrongFalsely : Prop := shortListsRow.holds Tryd.pinned (OpenSpec.ofChange shortListsWrong)

/-- 'scrivenerlaw07.ShortEntry': WHATEVER THE INPUT: true; the input reads as it did. -/
def shortEntrySpec : ChangeSpec := { name := "shortEntry", fn := fun _ => fun
  | [d1, d2, d3] => { results := [.lit (.bool true)], args := [d1, d2, d3] }
  | _ => none }
def shortEntryRow : OpenClaim := { program := "ytlnapnbccojohaadoor", sum := "7e7d5c5276df41ea24c764b4a2a678ccbc9bbc28d2092920dd2090c20dcb5106", func := "scrivener/scrivenerlaw07.ShortEntry", spec := "shortEntry", unfollowed := true, recurses := true, named := ["scrivener/sum.first", "scrivener/sum.rounds"], apart := false, laid := [("scrivener/sum.first", laid_scrivener_sum_first), ("scrivener/sum.rounds", laid_scrivener_sum_rounds)] }
def ShortEntrySaid : Prop := shortEntryRow.holds Tryd.pinned (OpenSpec.ofChange shortEntrySpec)

/-- ITS FALSE NEIGHBOUR: 'it returns false'. Refute it at one input. -/
def shortEntryWrong : ChangeSpec := { name := "shortEntry", fn := fun _ => fun
  | [d1, d2, d3] => { results := [.lit (.bool false)], args := [d1, d2, d3] }
  | _ => none }
def ShortEntryWrongFalsely : Prop := shortEntryRow.holds Tryd.pinned (OpenSpec.ofChange shortEntryWrong)

/-- 'scrivenerlaw07.ShortKeeps': WHATEVER THE INPUT: true; the input reads as it did. -/
def shortKeepsSpec : ChangeSpec := { name := "shortKeeps", fn := fun _ => fun
  | [d1, d2] => { results := [.lit (.bool true)], args := [d1, d2] }
  | _ => none }
def shortKeepsRow : OpenClaim := { program := "ytlnapnbccojohaadoor", sum := "7e7d5c5276df41ea24c764b4a2a678ccbc9bbc28d2092920dd2090c20dcb5106", func := "scrivener/scrivenerlaw07.ShortKeeps", spec := "shortKeeps", unfollowed := true, recurses := true, named := ["scrivener/sum.first", "scrivener/sum.rounds"], apart := false, laid := [("scrivener/sum.first", laid_scrivener_sum_first), ("scrivener/sum.rounds", laid_scrivener_sum_rounds)] }
def ShortKeepsSaid : Prop := shortKeepsRow.holds Tryd.pinned (OpenSpec.ofChange shortKeepsSpec)

/-- ITS FALSE NEIGHBOUR: 'it returns false'. Refute it at one input. -/
def shortKeepsWrong : ChangeSpec := { name := "shortKeeps", fn := fun _ => fun
  | [d1, d2] => { results := [.lit (.bool false)], args := [d1, d2] }
  | _ => none }
def ShortKeepsWrongFalsely : Prop := shortKeepsRow.holds Tryd.pinned (OpenSpec.ofChange shortKeepsWrong)

/- THE SECOND FORM. 'bulk': how many values and letters a reading holds, each counted each time it is reached (what is shared counts as often as it is met; a slice's spare places count too). A statement '..UptoSaid' is the law's where the arguments, and the package variables that the reading takes, are together of bulk at most 1048576: NARROWER than '..Said'. Prove '..Said' where nothing that the law and all that it calls make is longer than what came in: it says more and counts as full. Else prove '..UptoSaid'. A law counts once. -/
mutual
def uptoBulk {H : Type} : DataW H → Nat
  | .lit (.string bytes) => bytes.length + 1
  | .lit _ => 1
  | .nil => 1
  | .ptr d => uptoBulk d + 1
  | .slice elems spare => uptoBulkAll elems + uptoBulkAll spare + 1
  | .agg parts => uptoBulkAll parts + 1
  | .iface _ d => uptoBulk d + 1
  | .map entries => uptoBulkEntries entries + 1
  | .held _ => 1
def uptoBulkAll {H : Type} : List (DataW H) → Nat
  | [] => 0
  | d :: r => uptoBulk d + uptoBulkAll r
def uptoBulkEntries {H : Type} : List (Lit × DataW H) → Nat
  | [] => 0
  | x :: r => uptoBulkEntry x + uptoBulkEntries r
def uptoBulkEntry {H : Type} : Lit × DataW H → Nat
  | (.string bytes, d) => bytes.length + uptoBulk d + 1
  | (_, d) => uptoBulk d + 1
 end
def uptoSmall : (H : Type) → List (DataW H) → Bool := fun _ ds => decide (uptoBulkAll ds ≤ 1048576)
def OpenSpec.upto (s : _root_.Go.ChangeSpec) : _root_.Go.OpenSpec := { _root_.Go.OpenSpec.ofChange s with cond := some uptoSmall }

/-- 'scrivenerlaw06.ProofChecks', WHERE WHAT IT READS IS OF BULK AT MOST 1048576: true; the input reads as it did. -/
def proofChecksUptoRow : OpenClaim := { program := "ytlnapnbccojohaadoor", sum := "7e7d5c5276df41ea24c764b4a2a678ccbc9bbc28d2092920dd2090c20dcb5106", func := "scrivener/scrivenerlaw06.ProofChecks", spec := "proofChecks", unfollowed := true, recurses := true, named := ["scrivener/sum.first", "scrivener/sum.rounds"], apart := false, laid := [("scrivener/sum.first", laid_scrivener_sum_first), ("scrivener/sum.rounds", laid_scrivener_sum_rounds)], narrowed := true }
def ProofChecksUptoSaid : Prop := proofChecksUptoRow.holds Tryd.pinned (OpenSpec.upto proofChecksSpec)

/-- 'scrivenerlaw06.ProofLinks', WHERE WHAT IT READS IS OF BULK AT MOST 1048576: true; the input reads as it did. -/
def proofLinksUptoRow : OpenClaim := { program := "ytlnapnbccojohaadoor", sum := "7e7d5c5276df41ea24c764b4a2a678ccbc9bbc28d2092920dd2090c20dcb5106", func := "scrivener/scrivenerlaw06.ProofLinks", spec := "proofLinks", unfollowed := true, recurses := true, named := ["scrivener/sum.first", "scrivener/sum.rounds"], apart := false, laid := [("scrivener/sum.first", laid_scrivener_sum_first), ("scrivener/sum.rounds", laid_scrivener_sum_rounds)], narrowed := true }
def ProofLinksUptoSaid : Prop := proofLinksUptoRow.holds Tryd.pinned (OpenSpec.upto proofLinksSpec)

/-- 'scrivenerlaw06.ProofWrong', WHERE WHAT IT READS IS OF BULK AT MOST 1048576: true; the input reads as it did. -/
def proofWrongUptoRow : OpenClaim := { program := "ytlnapnbccojohaadoor", sum := "7e7d5c5276df41ea24c764b4a2a678ccbc9bbc28d2092920dd2090c20dcb5106", func := "scrivener/scrivenerlaw06.ProofWrong", spec := "proofWrong", unfollowed := true, recurses := true, named := ["scrivener/sum.first", "scrivener/sum.rounds"], apart := false, laid := [("scrivener/sum.first", laid_scrivener_sum_first), ("scrivener/sum.rounds", laid_scrivener_sum_rounds)], narrowed := true }
def ProofWrongUptoSaid : Prop := proofWrongUptoRow.holds Tryd.pinned (OpenSpec.upto proofWrongSpec)

/-- 'scrivenerlaw07.ShortRoots', WHERE WHAT IT READS IS OF BULK AT MOST 1048576: true; the input reads as it did. -/
def shortRootsUptoRow : OpenClaim := { program := "ytlnapnbccojohaadoor", sum := "7e7d5c5276df41ea24c764b4a2a678ccbc9bbc28d2092920dd2090c20dcb5106", func := "scrivener/scrivenerlaw07.ShortRoots", spec := "shortRoots", unfollowed := true, recurses := true, named := ["scrivener/sum.first", "scrivener/sum.rounds"], apart := false, laid := [("scrivener/sum.first", laid_scrivener_sum_first), ("scrivener/sum.rounds", laid_scrivener_sum_rounds)], narrowed := true }
def ShortRootsUptoSaid : Prop := shortRootsUptoRow.holds Tryd.pinned (OpenSpec.upto shortRootsSpec)

/-- 'scrivenerlaw07.ShortLeads', WHERE WHAT IT READS IS OF BULK AT MOST 1048576: true; the input reads as it did. -/
def shortLeadsUptoRow : OpenClaim := { program := "ytlnapnbccojohaadoor", sum := "7e7d5c5276df41ea24c764b4a2a678ccbc9bbc28d2092920dd2090c20dcb5106", func := "scrivener/scrivenerlaw07.ShortLeads", spec := "shortLeads", unfollowed := true, recurses := true, named := ["scrivener/sum.first", "scrivener/sum.rounds"], apart := false, laid := [("scrivener/sum.first", laid_scrivener_sum_first), ("scrivener/sum.rounds", laid_scrivener_sum_rounds)], narrowed := true }
def ShortLeadsUptoSaid : Prop := shortLeadsUptoRow.holds Tryd.pinned (OpenSpec.upto shortLeadsSpec)

/-- 'scrivenerlaw07.ShortLists', WHERE WHAT IT READS IS OF BULK AT MOST 1048576: true; the input reads as it did. -/
def shortListsUptoRow : OpenClaim := { program := "ytlnapnbccojohaadoor", sum := "7e7d5c5276df41ea24c764b4a2a678ccbc9bbc28d2092920dd2090c20dcb5106", func := "scrivener/scrivenerlaw07.ShortLists", spec := "shortLists", unfollowed := true, recurses := true, named := ["scrivener/sum.first", "scrivener/sum.rounds"], apart := false, laid := [("scrivener/sum.first", laid_scrivener_sum_first), ("scrivener/sum.rounds", laid_scrivener_sum_rounds)], narrowed := true }
def ShortListsUptoSaid : Prop := shortListsUptoRow.holds Tryd.pinned (OpenSpec.upto shortListsSpec)

/-- 'scrivenerlaw07.ShortEntry', WHERE WHAT IT READS IS OF BULK AT MOST 1048576: true; the input reads as it did. -/
def shortEntryUptoRow : OpenClaim := { program := "ytlnapnbccojohaadoor", sum := "7e7d5c5276df41ea24c764b4a2a678ccbc9bbc28d2092920dd2090c20dcb5106", func := "scrivener/scrivenerlaw07.ShortEntry", spec := "shortEntry", unfollowed := true, recurses := true, named := ["scrivener/sum.first", "scrivener/sum.rounds"], apart := false, laid := [("scrivener/sum.first", laid_scrivener_sum_first), ("scrivener/sum.rounds", laid_scrivener_sum_rounds)], narrowed := true }
def ShortEntryUptoSaid : Prop := shortEntryUptoRow.holds Tryd.pinned (OpenSpec.upto shortEntrySpec)

/-- 'scrivenerlaw07.ShortKeeps', WHERE WHAT IT READS IS OF BULK AT MOST 1048576: true; the input reads as it did. -/
def shortKeepsUptoRow : OpenClaim := { program := "ytlnapnbccojohaadoor", sum := "7e7d5c5276df41ea24c764b4a2a678ccbc9bbc28d2092920dd2090c20dcb5106", func := "scrivener/scrivenerlaw07.ShortKeeps", spec := "shortKeeps", unfollowed := true, recurses := true, named := ["scrivener/sum.first", "scrivener/sum.rounds"], apart := false, laid := [("scrivener/sum.first", laid_scrivener_sum_first), ("scrivener/sum.rounds", laid_scrivener_sum_rounds)], narrowed := true }
def ShortKeepsUptoSaid : Prop := shortKeepsUptoRow.holds Tryd.pinned (OpenSpec.upto shortKeepsSpec)

end Rows
end Go.Proofs.YtlnapnbccojohaaDoor
