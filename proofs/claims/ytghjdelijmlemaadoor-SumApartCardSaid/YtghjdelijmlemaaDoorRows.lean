/-
  NARROWER THAN 'FOR EVERY INPUT', by the rows' own cells (each row's printed sentence says how): SumStands: laid · SumBlocks: laid · SumPurposes: laid · SumApart: laid · SumRuns: laid · SumCounts: laid.
  DERIVED. THE GIVEN ROWS OF THIS SEAT. 6 by the template 'for every input the law returns true; each argument reads behind the call as it read before'; 0 by the template 'total and deterministic' (their statements: YtghjdelijmlemaaDoorTotals.lean).
  GIVEN WITH THE SEED: the statements are not yours to turn. If you find one false, say at which input.
  Laid BY PROGRAM, IN A SANDBOX (cutbox-rows.mjs): the forced cells as the released guide's own fill.sh prints them over the translation 6e0f91fffe6bd9b6… (all of the seat's roots in one cut). By AI agents, Wed Nov 11 2026. No macro, syntax, notation, axiom, sorry.
-/
import Derived.Test.YtghjdelijmlemaaDoorChecked
import GoSem.Claim
import GoSem.ClaimJoined
import GoSem.ClaimMapViews
import Derived.JoinedTies
import Derived.KernelRfl
namespace Go.Proofs.YtghjdelijmlemaaDoor
/- THE CELL 'sum', in the pinned program and in every row, IS THE sha256 OF THE DUMP (.gsa) THAT YtghjdelijmlemaaDoorProg.lean LOADS. Nothing in Lean hashes anything: it is a label: what it is worth is what the hold of that sum in a sandbox is worth. -/
noncomputable def Tryd.pinned : Pinned := { name := "ytghjdelijmlemaadoor", sum := "6e0f91fffe6bd9b6d115d37fee625cdb3a45e5b3fc129acd33f525a1295a4385", checked := Tryd.checked }
namespace Rows
def none {H : Type} : Left H := { results := [], args := [] }

/- WHAT THE LISTED PACKAGE-LEVEL VARIABLES READ AS WHEN THE CALL BEGINS. Each datum BY PROGRAM (the guide's laid-datum.mjs) off the statement by which the dump's own 'gosem.cut.vars' lays the variable. In a bare row this is a premise. The card (YtghjdelijmlemaaDoorCards.lean) ties it to the program's text. -/
def laid_scrivener_sum_first {H : Type} : DataW H := .agg [.lit (.int .u32 1779033703), .lit (.int .u32 3144134277), .lit (.int .u32 1013904242), .lit (.int .u32 2773480762), .lit (.int .u32 1359893119), .lit (.int .u32 2600822924), .lit (.int .u32 528734635), .lit (.int .u32 1541459225)]
def laid_scrivener_sum_rounds {H : Type} : DataW H := .agg [.lit (.int .u32 1116352408), .lit (.int .u32 1899447441), .lit (.int .u32 3049323471), .lit (.int .u32 3921009573), .lit (.int .u32 961987163), .lit (.int .u32 1508970993), .lit (.int .u32 2453635748), .lit (.int .u32 2870763221), .lit (.int .u32 3624381080), .lit (.int .u32 310598401), .lit (.int .u32 607225278), .lit (.int .u32 1426881987), .lit (.int .u32 1925078388), .lit (.int .u32 2162078206), .lit (.int .u32 2614888103), .lit (.int .u32 3248222580), .lit (.int .u32 3835390401), .lit (.int .u32 4022224774), .lit (.int .u32 264347078), .lit (.int .u32 604807628), .lit (.int .u32 770255983), .lit (.int .u32 1249150122), .lit (.int .u32 1555081692), .lit (.int .u32 1996064986), .lit (.int .u32 2554220882), .lit (.int .u32 2821834349), .lit (.int .u32 2952996808), .lit (.int .u32 3210313671), .lit (.int .u32 3336571891), .lit (.int .u32 3584528711), .lit (.int .u32 113926993), .lit (.int .u32 338241895), .lit (.int .u32 666307205), .lit (.int .u32 773529912), .lit (.int .u32 1294757372), .lit (.int .u32 1396182291), .lit (.int .u32 1695183700), .lit (.int .u32 1986661051), .lit (.int .u32 2177026350), .lit (.int .u32 2456956037), .lit (.int .u32 2730485921), .lit (.int .u32 2820302411), .lit (.int .u32 3259730800), .lit (.int .u32 3345764771), .lit (.int .u32 3516065817), .lit (.int .u32 3600352804), .lit (.int .u32 4094571909), .lit (.int .u32 275423344), .lit (.int .u32 430227734), .lit (.int .u32 506948616), .lit (.int .u32 659060556), .lit (.int .u32 883997877), .lit (.int .u32 958139571), .lit (.int .u32 1322822218), .lit (.int .u32 1537002063), .lit (.int .u32 1747873779), .lit (.int .u32 1955562222), .lit (.int .u32 2024104815), .lit (.int .u32 2227730452), .lit (.int .u32 2361852424), .lit (.int .u32 2428436474), .lit (.int .u32 2756734187), .lit (.int .u32 3204031479), .lit (.int .u32 3329325298)]

/-- 'scrivenerlaw01.SumStands': WHATEVER THE INPUT: true; the input reads as it did. -/
def sumStandsSpec : ChangeSpec := { name := "sumStands", fn := fun _ => fun
  | [d] => { results := [.lit (.bool true)], args := [d] }
  | _ => none }
def sumStandsRow : OpenClaim := { program := "ytghjdelijmlemaadoor", sum := "6e0f91fffe6bd9b6d115d37fee625cdb3a45e5b3fc129acd33f525a1295a4385", func := "scrivener/scrivenerlaw01.SumStands", spec := "sumStands", unfollowed := true, recurses := true, named := ["scrivener/sum.first", "scrivener/sum.rounds"], apart := false, laid := [("scrivener/sum.first", laid_scrivener_sum_first), ("scrivener/sum.rounds", laid_scrivener_sum_rounds)] }
def SumStandsSaid : Prop := sumStandsRow.holds Tryd.pinned (OpenSpec.ofChange sumStandsSpec)

/-- ITS FALSE NEIGHBOUR: 'it returns false'. Refute it at one input. -/
def sumStandsWrong : ChangeSpec := { name := "sumStands", fn := fun _ => fun
  | [d] => { results := [.lit (.bool false)], args := [d] }
  | _ => none }
def SumStandsWrongFalsely : Prop := sumStandsRow.holds Tryd.pinned (OpenSpec.ofChange sumStandsWrong)

/-- 'scrivenerlaw01.SumBlocks': WHATEVER THE INPUT: true; the input reads as it did. -/
def sumBlocksSpec : ChangeSpec := { name := "sumBlocks", fn := fun _ => fun
  | [d1, d2] => { results := [.lit (.bool true)], args := [d1, d2] }
  | _ => none }
def sumBlocksRow : OpenClaim := { program := "ytghjdelijmlemaadoor", sum := "6e0f91fffe6bd9b6d115d37fee625cdb3a45e5b3fc129acd33f525a1295a4385", func := "scrivener/scrivenerlaw01.SumBlocks", spec := "sumBlocks", unfollowed := true, recurses := true, named := ["scrivener/sum.first", "scrivener/sum.rounds"], apart := false, laid := [("scrivener/sum.first", laid_scrivener_sum_first), ("scrivener/sum.rounds", laid_scrivener_sum_rounds)] }
def SumBlocksSaid : Prop := sumBlocksRow.holds Tryd.pinned (OpenSpec.ofChange sumBlocksSpec)

/-- ITS FALSE NEIGHBOUR: 'it returns false'. Refute it at one input. -/
def sumBlocksWrong : ChangeSpec := { name := "sumBlocks", fn := fun _ => fun
  | [d1, d2] => { results := [.lit (.bool false)], args := [d1, d2] }
  | _ => none }
def SumBlocksWrongFalsely : Prop := sumBlocksRow.holds Tryd.pinned (OpenSpec.ofChange sumBlocksWrong)

/-- 'scrivenerlaw01.SumPurposes': WHATEVER THE INPUT: true; the input reads as it did. -/
def sumPurposesSpec : ChangeSpec := { name := "sumPurposes", fn := fun _ => fun
  | [d1, d2, d3] => { results := [.lit (.bool true)], args := [d1, d2, d3] }
  | _ => none }
def sumPurposesRow : OpenClaim := { program := "ytghjdelijmlemaadoor", sum := "6e0f91fffe6bd9b6d115d37fee625cdb3a45e5b3fc129acd33f525a1295a4385", func := "scrivener/scrivenerlaw01.SumPurposes", spec := "sumPurposes", unfollowed := true, recurses := true, named := ["scrivener/sum.first", "scrivener/sum.rounds"], apart := false, laid := [("scrivener/sum.first", laid_scrivener_sum_first), ("scrivener/sum.rounds", laid_scrivener_sum_rounds)] }
def SumPurposesSaid : Prop := sumPurposesRow.holds Tryd.pinned (OpenSpec.ofChange sumPurposesSpec)

/-- ITS FALSE NEIGHBOUR: 'it returns false'. Refute it at one input. -/
def sumPurposesWrong : ChangeSpec := { name := "sumPurposes", fn := fun _ => fun
  | [d1, d2, d3] => { results := [.lit (.bool false)], args := [d1, d2, d3] }
  | _ => none }
def SumPurposesWrongFalsely : Prop := sumPurposesRow.holds Tryd.pinned (OpenSpec.ofChange sumPurposesWrong)

/-- 'scrivenerlaw01.SumApart': WHATEVER THE INPUT: true; the input reads as it did. -/
def sumApartSpec : ChangeSpec := { name := "sumApart", fn := fun _ => fun
  | [d1, d2] => { results := [.lit (.bool true)], args := [d1, d2] }
  | _ => none }
def sumApartRow : OpenClaim := { program := "ytghjdelijmlemaadoor", sum := "6e0f91fffe6bd9b6d115d37fee625cdb3a45e5b3fc129acd33f525a1295a4385", func := "scrivener/scrivenerlaw01.SumApart", spec := "sumApart", unfollowed := true, recurses := true, named := ["scrivener/sum.first", "scrivener/sum.rounds"], apart := false, laid := [("scrivener/sum.first", laid_scrivener_sum_first), ("scrivener/sum.rounds", laid_scrivener_sum_rounds)] }
def SumApartSaid : Prop := sumApartRow.holds Tryd.pinned (OpenSpec.ofChange sumApartSpec)

/-- ITS FALSE NEIGHBOUR: 'it returns false'. Refute it at one input. -/
def sumApartWrong : ChangeSpec := { name := "sumApart", fn := fun _ => fun
  | [d1, d2] => { results := [.lit (.bool false)], args := [d1, d2] }
  | _ => none }
def SumApartWrongFalsely : Prop := sumApartRow.holds Tryd.pinned (OpenSpec.ofChange sumApartWrong)

/-- 'scrivenerlaw01.SumRuns': WHATEVER THE INPUT: true; the input reads as it did. -/
def sumRunsSpec : ChangeSpec := { name := "sumRuns", fn := fun _ => fun
  | [d1, d2] => { results := [.lit (.bool true)], args := [d1, d2] }
  | _ => none }
def sumRunsRow : OpenClaim := { program := "ytghjdelijmlemaadoor", sum := "6e0f91fffe6bd9b6d115d37fee625cdb3a45e5b3fc129acd33f525a1295a4385", func := "scrivener/scrivenerlaw01.SumRuns", spec := "sumRuns", unfollowed := true, recurses := true, named := ["scrivener/sum.first", "scrivener/sum.rounds"], apart := false, laid := [("scrivener/sum.first", laid_scrivener_sum_first), ("scrivener/sum.rounds", laid_scrivener_sum_rounds)] }
def SumRunsSaid : Prop := sumRunsRow.holds Tryd.pinned (OpenSpec.ofChange sumRunsSpec)

/-- ITS FALSE NEIGHBOUR: 'it returns false'. Refute it at one input. -/
def sumRunsWrong : ChangeSpec := { name := "sumRuns", fn := fun _ => fun
  | [d1, d2] => { results := [.lit (.bool false)], args := [d1, d2] }
  | _ => none }
def SumRunsWrongFalsely : Prop := sumRunsRow.holds Tryd.pinned (OpenSpec.ofChange sumRunsWrong)

/-- 'scrivenerlaw01.SumCounts': WHATEVER THE INPUT: true; the input reads as it did. -/
def sumCountsSpec : ChangeSpec := { name := "sumCounts", fn := fun _ => fun
  | [d] => { results := [.lit (.bool true)], args := [d] }
  | _ => none }
def sumCountsRow : OpenClaim := { program := "ytghjdelijmlemaadoor", sum := "6e0f91fffe6bd9b6d115d37fee625cdb3a45e5b3fc129acd33f525a1295a4385", func := "scrivener/scrivenerlaw01.SumCounts", spec := "sumCounts", unfollowed := true, recurses := true, named := ["scrivener/sum.first", "scrivener/sum.rounds"], apart := false, laid := [("scrivener/sum.first", laid_scrivener_sum_first), ("scrivener/sum.rounds", laid_scrivener_sum_rounds)] }
def SumCountsSaid : Prop := sumCountsRow.holds Tryd.pinned (OpenSpec.ofChange sumCountsSpec)

/-- ITS FALSE NEIGHBOUR: 'it returns false'. Refute it at one input. -/
def sumCountsWrong : ChangeSpec := { name := "sumCounts", fn := fun _ => fun
  | [d] => { results := [.lit (.bool false)], args := [d] }
  | _ => none }
def SumCountsWrongFalsely : Prop := sumCountsRow.holds Tryd.pinned (OpenSpec.ofChange sumCountsWrong)

/- THE SECOND FORM. 'bulk': how many values and letters a reading holds, each counted each time it is reached (what is shared counts as often as it is met; a slice's spare places count too). A statement '..UptoSaid' is the law's where the arguments, and the package variables that the reading takes, are together of bulk at most 1048576: NARROWER than '..Said'. Prove '..Said' where nothing that the law and all that it calls make is longer than what came in: it says more and counts as full. Else prove '..UptoSaid'. A law counts once. -/
mutual
def uptoBulk {H : Type} : DataW H → Nat
  | .lit (.string bytes) => bytes.length + 1
  | .lit _ => 1
  | .nil => 1
  | .ptr d => uptoBulk d + 1
  | .slice elems spare => uptoBulkAll elems + uptoBulkAll spare + 1
  | .agg parts => uptoBulkAll parts + 1
  | .iface _ d => uptoBulk d + 1
  | .map entries => uptoBulkEntries entries + 1
  | .held _ => 1
def uptoBulkAll {H : Type} : List (DataW H) → Nat
  | [] => 0
  | d :: r => uptoBulk d + uptoBulkAll r
def uptoBulkEntries {H : Type} : List (Lit × DataW H) → Nat
  | [] => 0
  | x :: r => uptoBulkEntry x + uptoBulkEntries r
def uptoBulkEntry {H : Type} : Lit × DataW H → Nat
  | (.string bytes, d) => bytes.length + uptoBulk d + 1
  | (_, d) => uptoBulk d + 1
 end
def uptoSmall : (H : Type) → List (DataW H) → Bool := fun _ ds => decide (uptoBulkAll ds ≤ 1048576)
def OpenSpec.upto (s : _root_.Go.ChangeSpec) : _root_.Go.OpenSpec := { _root_.Go.OpenSpec.ofChange s with cond := some uptoSmall }

/-- 'scrivenerlaw01.SumStands', WHERE WHAT IT READS IS OF BULK AT MOST 1048576: true; the input reads as it did. -/
def sumStandsUptoRow : OpenClaim := { program := "ytghjdelijmlemaadoor", sum := "6e0f91fffe6bd9b6d115d37fee625cdb3a45e5b3fc129acd33f525a1295a4385", func := "scrivener/scrivenerlaw01.SumStands", spec := "sumStands", unfollowed := true, recurses := true, named := ["scrivener/sum.first", "scrivener/sum.rounds"], apart := false, laid := [("scrivener/sum.first", laid_scrivener_sum_first), ("scrivener/sum.rounds", laid_scrivener_sum_rounds)], narrowed := true }
def SumStandsUptoSaid : Prop := sumStandsUptoRow.holds Tryd.pinned (OpenSpec.upto sumStandsSpec)

/-- 'scrivenerlaw01.SumBlocks', WHERE WHAT IT READS IS OF BULK AT MOST 1048576: true; the input reads as it did. -/
def sumBlocksUptoRow : OpenClaim := { program := "ytghjdelijmlemaadoor", sum := "6e0f91fffe6bd9b6d115d37fee625cdb3a45e5b3fc129acd33f525a1295a4385", func := "scrivener/scrivenerlaw01.SumBlocks", spec := "sumBlocks", unfollowed := true, recurses := true, named := ["scrivener/sum.first", "scrivener/sum.rounds"], apart := false, laid := [("scrivener/sum.first", laid_scrivener_sum_first), ("scrivener/sum.rounds", laid_scrivener_sum_rounds)], narrowed := true }
def SumBlocksUptoSaid : Prop := sumBlocksUptoRow.holds Tryd.pinned (OpenSpec.upto sumBlocksSpec)

/-- 'scrivenerlaw01.SumPurposes', WHERE WHAT IT READS IS OF BULK AT MOST 1048576: true; the input reads as it did. -/
def sumPurposesUptoRow : OpenClaim := { program := "ytghjdelijmlemaadoor", sum := "6e0f91fffe6bd9b6d115d37fee625cdb3a45e5b3fc129acd33f525a1295a4385", func := "scrivener/scrivenerlaw01.SumPurposes", spec := "sumPurposes", unfollowed := true, recurses := true, named := ["scrivener/sum.first", "scrivener/sum.rounds"], apart := false, laid := [("scrivener/sum.first", laid_scrivener_sum_first), ("scrivener/sum.rounds", laid_scrivener_sum_rounds)], narrowed := true }
def SumPurposesUptoSaid : Prop := sumPurposesUptoRow.holds Tryd.pinned (OpenSpec.upto sumPurposesSpec)

/-- 'scrivenerlaw01.SumApart', WHERE WHAT IT READS IS OF BULK AT MOST 1048576: true; the input reads as it did. -/
def sumApartUptoRow : OpenClaim := { program := "ytghjdelijmlemaadoor", sum := "6e0f91fffe6bd9b6d115d37fee625cdb3a45e5b3fc129acd33f525a1295a4385", func := "scrivener/scrivenerlaw01.SumApart", spec := "sumApart", unfollowed := true, recurses := true, named := ["scrivener/sum.first", "scrivener/sum.rounds"], apart := false, laid := [("scrivener/sum.first", laid_scrivener_sum_first), ("scrivener/sum.rounds", laid_scrivener_sum_rounds)], narrowed := true }
def SumApartUptoSaid : Prop := sumApartUptoRow.holds Tryd.pinned (OpenSpec.upto sumApartSpec)

/-- 'scrivenerlaw01.SumRuns', WHERE WHAT IT READS IS OF BULK AT MOST 1048576: true; the input reads as it did. -/
def sumRunsUptoRow : OpenClaim := { program := "ytghjdelijmlemaadoor", sum := "6e0f91fffe6bd9b6d115d37fee625cdb3a45e5b3fc129acd33f525a1295a4385", func := "scrivener/scrivenerlaw01.SumRuns", spec := "sumRuns", unfollowed := true, recurses := true, named := ["scrivener/sum.first", "scrivener/sum.rounds"], apart := false, laid := [("scrivener/sum.first", laid_scrivener_sum_first), ("scrivener/sum.rounds", laid_scrivener_sum_rounds)], narrowed := true }
def SumRunsUptoSaid : Prop := sumRunsUptoRow.holds Tryd.pinned (OpenSpec.upto sumRunsSpec)

/-- 'scrivenerlaw01.SumCounts', WHERE WHAT IT READS IS OF BULK AT MOST 1048576: true; the input reads as it did. -/
def sumCountsUptoRow : OpenClaim := { program := "ytghjdelijmlemaadoor", sum := "6e0f91fffe6bd9b6d115d37fee625cdb3a45e5b3fc129acd33f525a1295a4385", func := "scrivener/scrivenerlaw01.SumCounts", spec := "sumCounts", unfollowed := true, recurses := true, named := ["scrivener/sum.first", "scrivener/sum.rounds"], apart := false, laid := [("scrivener/sum.first", laid_scrivener_sum_first), ("scrivener/sum.rounds", laid_scrivener_sum_rounds)], narrowed := true }
def SumCountsUptoSaid : Prop := sumCountsUptoRow.holds Tryd.pinned (OpenSpec.upto sumCountsSpec)

end Rows
end Go.Proofs.YtghjdelijmlemaaDoor
