/-
  NARROWER THAN 'FOR EVERY INPUT', by the rows' own cells (each row's printed sentence says how): JournalPlays: laid · JournalWhole: laid · JournalSpoilt: laid · JournalBound: laid · JournalAgain: laid · JournalOwn: laid · WholeFiled: laid.
  DERIVED. THE GIVEN ROWS OF THIS SEAT. 7 by the template 'for every input the law returns true; each argument reads behind the call as it read before'; 0 by the template 'total and deterministic' (their statements: YtkbdkeclbokhdaaDoorTotals.lean).
  GIVEN WITH THE SEED: the statements are not yours to turn. If you find one false, say at which input.
  Laid BY PROGRAM, IN A SANDBOX (cutbox-rows.mjs): the forced cells as the released guide's own fill.sh prints them over the translation dc37a70914f24274… (all of the seat's roots in one cut). By AI agents, Wed Nov 11 2026. No macro, syntax, notation, axiom, sorry.
-/
import Derived.Test.YtkbdkeclbokhdaaDoorChecked
import GoSem.Claim
import GoSem.ClaimJoined
import GoSem.ClaimMapViews
import Derived.JoinedTies
import Derived.KernelRfl
namespace Go.Proofs.YtkbdkeclbokhdaaDoor
/- THE CELL 'sum', in the pinned program and in every row, IS THE sha256 OF THE DUMP (.gsa) THAT YtkbdkeclbokhdaaDoorProg.lean LOADS. Nothing in Lean hashes anything: it is a label: what it is worth is what the hold of that sum in a sandbox is worth. -/
noncomputable def Tryd.pinned : Pinned := { name := "ytkbdkeclbokhdaadoor", sum := "dc37a70914f2427442b027e3e0e2aa01fc70bee0603a732b0830c3ef34a8d248", checked := Tryd.checked }
namespace Rows
def none {H : Type} : Left H := { results := [], args := [] }

/- WHAT THE LISTED PACKAGE-LEVEL VARIABLES READ AS WHEN THE CALL BEGINS. Each datum BY PROGRAM (the guide's laid-datum.mjs) off the statement by which the dump's own 'gosem.cut.vars' lays the variable. In a bare row this is a premise. The card (YtkbdkeclbokhdaaDoorCards.lean) ties it to the program's text. -/
def laid_scrivener_sum_first {H : Type} : DataW H := .agg [.lit (.int .u32 1779033703), .lit (.int .u32 3144134277), .lit (.int .u32 1013904242), .lit (.int .u32 2773480762), .lit (.int .u32 1359893119), .lit (.int .u32 2600822924), .lit (.int .u32 528734635), .lit (.int .u32 1541459225)]
def laid_scrivener_sum_rounds {H : Type} : DataW H := .agg [.lit (.int .u32 1116352408), .lit (.int .u32 1899447441), .lit (.int .u32 3049323471), .lit (.int .u32 3921009573), .lit (.int .u32 961987163), .lit (.int .u32 1508970993), .lit (.int .u32 2453635748), .lit (.int .u32 2870763221), .lit (.int .u32 3624381080), .lit (.int .u32 310598401), .lit (.int .u32 607225278), .lit (.int .u32 1426881987), .lit (.int .u32 1925078388), .lit (.int .u32 2162078206), .lit (.int .u32 2614888103), .lit (.int .u32 3248222580), .lit (.int .u32 3835390401), .lit (.int .u32 4022224774), .lit (.int .u32 264347078), .lit (.int .u32 604807628), .lit (.int .u32 770255983), .lit (.int .u32 1249150122), .lit (.int .u32 1555081692), .lit (.int .u32 1996064986), .lit (.int .u32 2554220882), .lit (.int .u32 2821834349), .lit (.int .u32 2952996808), .lit (.int .u32 3210313671), .lit (.int .u32 3336571891), .lit (.int .u32 3584528711), .lit (.int .u32 113926993), .lit (.int .u32 338241895), .lit (.int .u32 666307205), .lit (.int .u32 773529912), .lit (.int .u32 1294757372), .lit (.int .u32 1396182291), .lit (.int .u32 1695183700), .lit (.int .u32 1986661051), .lit (.int .u32 2177026350), .lit (.int .u32 2456956037), .lit (.int .u32 2730485921), .lit (.int .u32 2820302411), .lit (.int .u32 3259730800), .lit (.int .u32 3345764771), .lit (.int .u32 3516065817), .lit (.int .u32 3600352804), .lit (.int .u32 4094571909), .lit (.int .u32 275423344), .lit (.int .u32 430227734), .lit (.int .u32 506948616), .lit (.int .u32 659060556), .lit (.int .u32 883997877), .lit (.int .u32 958139571), .lit (.int .u32 1322822218), .lit (.int .u32 1537002063), .lit (.int .u32 1747873779), .lit (.int .u32 1955562222), .lit (.int .u32 2024104815), .lit (.int .u32 2227730452), .lit (.int .u32 2361852424), .lit (.int .u32 2428436474), .lit (.int .u32 2756734187), .lit (.int .u32 3204031479), .lit (.int .u32 3329325298)]

/-- 'scrivenerlaw10.JournalPlays': WHATEVER THE INPUT: true; the input reads as it did. -/
def journalPlaysSpec : ChangeSpec := { name := "journalPlays", fn := fun _ => fun
  | [d1, d2] => { results := [.lit (.bool true)], args := [d1, d2] }
  | _ => none }
def journalPlaysRow : OpenClaim := { program := "ytkbdkeclbokhdaadoor", sum := "dc37a70914f2427442b027e3e0e2aa01fc70bee0603a732b0830c3ef34a8d248", func := "scrivener/scrivenerlaw10.JournalPlays", spec := "journalPlays", unfollowed := true, recurses := true, named := ["scrivener/sum.first", "scrivener/sum.rounds"], apart := false, laid := [("scrivener/sum.first", laid_scrivener_sum_first), ("scrivener/sum.rounds", laid_scrivener_sum_rounds)] }
def JournalPlaysSaid : Prop := journalPlaysRow.holds Tryd.pinned (OpenSpec.ofChange journalPlaysSpec)

/-- ITS FALSE NEIGHBOUR: 'it returns false'. Refute it at one input. -/
def journalPlaysWrong : ChangeSpec := { name := "journalPlays", fn := fun _ => fun
  | [d1, d2] => { results := [.lit (.bool false)], args := [d1, d2] }
  | _ => none }
def JournalPlaysWrongFalsely : Prop := journalPlaysRow.holds Tryd.pinned (OpenSpec.ofChange journalPlaysWrong)

/-- 'scrivenerlaw10.JournalWhole': WHATEVER THE INPUT: true; the input reads as it did. -/
def journalWholeSpec : ChangeSpec := { name := "journalWhole", fn := fun _ => fun
  | [d1, d2, d3] => { results := [.lit (.bool true)], args := [d1, d2, d3] }
  | _ => none }
def journalWholeRow : OpenClaim := { program := "ytkbdkeclbokhdaadoor", sum := "dc37a70914f2427442b027e3e0e2aa01fc70bee0603a732b0830c3ef34a8d248", func := "scrivener/scrivenerlaw10.JournalWhole", spec := "journalWhole", unfollowed := true, recurses := true, named := ["scrivener/sum.first", "scrivener/sum.rounds"], apart := false, laid := [("scrivener/sum.first", laid_scrivener_sum_first), ("scrivener/sum.rounds", laid_scrivener_sum_rounds)] }
def JournalWholeSaid : Prop := journalWholeRow.holds Tryd.pinned (OpenSpec.ofChange journalWholeSpec)

/-- ITS FALSE NEIGHBOUR: 'it returns false'. Refute it at one input. -/
def journalWholeWrong : ChangeSpec := { name := "journalWhole", fn := fun _ => fun
  | [d1, d2, d3] => { results := [.lit (.bool false)], args := [d1, d2, d3] }
  | _ => none }
def JournalWholeWrongFalsely : Prop := journalWholeRow.holds Tryd.pinned (OpenSpec.ofChange journalWholeWrong)

/-- 'scrivenerlaw10.JournalSpoilt': WHATEVER THE INPUT: true; the input reads as it did. -/
def journalSpoiltSpec : ChangeSpec := { name := "journalSpoilt", fn := fun _ => fun
  | [d1, d2, d3] => { results := [.lit (.bool true)], args := [d1, d2, d3] }
  | _ => none }
def journalSpoiltRow : OpenClaim := { program := "ytkbdkeclbokhdaadoor", sum := "dc37a70914f2427442b027e3e0e2aa01fc70bee0603a732b0830c3ef34a8d248", func := "scrivener/scrivenerlaw10.JournalSpoilt", spec := "journalSpoilt", unfollowed := true, recurses := true, named := ["scrivener/sum.first", "scrivener/sum.rounds"], apart := false, laid := [("scrivener/sum.first", laid_scrivener_sum_first), ("scrivener/sum.rounds", laid_scrivener_sum_rounds)] }
def JournalSpoiltSaid : Prop := journalSpoiltRow.holds Tryd.pinned (OpenSpec.ofChange journalSpoiltSpec)

/-- ITS FALSE NEIGHBOUR: 'it returns false'. Refute it at one input. -/
def journalSpoiltWrong : ChangeSpec := { name := "journalSpoilt", fn := fun _ => fun
  | [d1, d2, d3] => { results := [.lit (.bool false)], args := [d1, d2, d3] }
  | _ => none }
def JournalSpoiltWrongFalsely : Prop := journalSpoiltRow.holds Tryd.pinned (OpenSpec.ofChange journalSpoiltWrong)

/-- 'scrivenerlaw10.JournalBound': WHATEVER THE INPUT: true; the input reads as it did. -/
def journalBoundSpec : ChangeSpec := { name := "journalBound", fn := fun _ => fun
  | [d1, d2] => { results := [.lit (.bool true)], args := [d1, d2] }
  | _ => none }
def journalBoundRow : OpenClaim := { program := "ytkbdkeclbokhdaadoor", sum := "dc37a70914f2427442b027e3e0e2aa01fc70bee0603a732b0830c3ef34a8d248", func := "scrivener/scrivenerlaw10.JournalBound", spec := "journalBound", unfollowed := true, recurses := true, named := ["scrivener/sum.first", "scrivener/sum.rounds"], apart := false, laid := [("scrivener/sum.first", laid_scrivener_sum_first), ("scrivener/sum.rounds", laid_scrivener_sum_rounds)] }
def JournalBoundSaid : Prop := journalBoundRow.holds Tryd.pinned (OpenSpec.ofChange journalBoundSpec)

/-- ITS FALSE NEIGHBOUR: 'it returns false'. Refute it at one input. -/
def journalBoundWrong : ChangeSpec := { name := "journalBound", fn := fun _ => fun
  | [d1, d2] => { results := [.lit (.bool false)], args := [d1, d2] }
  | _ => none }
def JournalBoundWrongFalsely : Prop := journalBoundRow.holds Tryd.pinned (OpenSpec.ofChange journalBoundWrong)

/-- 'scrivenerlaw10.JournalAgain': WHATEVER THE INPUT: true; the input reads as it did. -/
def journalAgainSpec : ChangeSpec := { name := "journalAgain", fn := fun _ => fun
  | [d1, d2] => { results := [.lit (.bool true)], args := [d1, d2] }
  | _ => none }
def journalAgainRow : OpenClaim := { program := "ytkbdkeclbokhdaadoor", sum := "dc37a70914f2427442b027e3e0e2aa01fc70bee0603a732b0830c3ef34a8d248", func := "scrivener/scrivenerlaw10.JournalAgain", spec := "journalAgain", unfollowed := true, recurses := true, named := ["scrivener/sum.first", "scrivener/sum.rounds"], apart := false, laid := [("scrivener/sum.first", laid_scrivener_sum_first), ("scrivener/sum.rounds", laid_scrivener_sum_rounds)] }
def JournalAgainSaid : Prop := journalAgainRow.holds Tryd.pinned (OpenSpec.ofChange journalAgainSpec)

/-- ITS FALSE NEIGHBOUR: 'it returns false'. Refute it at one input. -/
def journalAgainWrong : ChangeSpec := { name := "journalAgain", fn := fun _ => fun
  | [d1, d2] => { results := [.lit (.bool false)], args := [d1, d2] }
  | _ => none }
def JournalAgainWrongFalsely : Prop := journalAgainRow.holds Tryd.pinned (OpenSpec.ofChange journalAgainWrong)

/-- 'scrivenerlaw10.JournalOwn': WHATEVER THE INPUT: true; the input reads as it did. -/
def journalOwnSpec : ChangeSpec := { name := "journalOwn", fn := fun _ => fun
  | [d] => { results := [.lit (.bool true)], args := [d] }
  | _ => none }
def journalOwnRow : OpenClaim := { program := "ytkbdkeclbokhdaadoor", sum := "dc37a70914f2427442b027e3e0e2aa01fc70bee0603a732b0830c3ef34a8d248", func := "scrivener/scrivenerlaw10.JournalOwn", spec := "journalOwn", unfollowed := true, recurses := true, named := ["scrivener/sum.first", "scrivener/sum.rounds"], apart := false, laid := [("scrivener/sum.first", laid_scrivener_sum_first), ("scrivener/sum.rounds", laid_scrivener_sum_rounds)] }
def JournalOwnSaid : Prop := journalOwnRow.holds Tryd.pinned (OpenSpec.ofChange journalOwnSpec)

/-- ITS FALSE NEIGHBOUR: 'it returns false'. Refute it at one input. -/
def journalOwnWrong : ChangeSpec := { name := "journalOwn", fn := fun _ => fun
  | [d] => { results := [.lit (.bool false)], args := [d] }
  | _ => none }
def JournalOwnWrongFalsely : Prop := journalOwnRow.holds Tryd.pinned (OpenSpec.ofChange journalOwnWrong)

/-- 'scrivenertop.WholeFiled': WHATEVER THE INPUT: true; the input reads as it did. -/
def wholeFiledSpec : ChangeSpec := { name := "wholeFiled", fn := fun _ => fun
  | [d1, d2] => { results := [.lit (.bool true)], args := [d1, d2] }
  | _ => none }
def wholeFiledRow : OpenClaim := { program := "ytkbdkeclbokhdaadoor", sum := "dc37a70914f2427442b027e3e0e2aa01fc70bee0603a732b0830c3ef34a8d248", func := "scrivener/scrivenertop.WholeFiled", spec := "wholeFiled", unfollowed := true, recurses := true, named := ["scrivener/sum.first", "scrivener/sum.rounds"], apart := false, laid := [("scrivener/sum.first", laid_scrivener_sum_first), ("scrivener/sum.rounds", laid_scrivener_sum_rounds)] }
def WholeFiledSaid : Prop := wholeFiledRow.holds Tryd.pinned (OpenSpec.ofChange wholeFiledSpec)

/-- ITS FALSE NEIGHBOUR: 'it returns false'. Refute it at one input. -/
def wholeFiledWrong : ChangeSpec := { name := "wholeFiled", fn := fun _ => fun
  | [d1, d2] => { results := [.lit (.bool false)], args := [d1, d2] }
  | _ => none }
def WholeFiledWrongFalsely : Prop := wholeFiledRow.holds Tryd.pinned (OpenSpec.ofChange wholeFiledWrong)

/- THE SECOND FORM. 'bulk': how many values and letters a reading holds, each counted each time it is reached (what is shared counts as often as it is met; a slice's spare places count too). A statement '..UptoSaid' is the law's where the arguments, and the package variables that the reading takes, are together of bulk at most 1048576: NARROWER than '..Said'. Prove '..Said' where nothing that the law and all that it calls make is longer than what came in: it says more and counts as full. Else prove '..UptoSaid'. A law counts once. -/
mutual
def uptoBulk {H : Type} : DataW H → Nat
  | .lit (.string bytes) => bytes.length + 1
  | .lit _ => 1
  | .nil => 1
  | .ptr d => uptoBulk d + 1
  | .slice elems spare => uptoBulkAll elems + uptoBulkAll spare + 1
  | .agg parts => uptoBulkAll parts + 1
  | .iface _ d => uptoBulk d + 1
  | .map entries => uptoBulkEntries entries + 1
  | .held _ => 1
def uptoBulkAll {H : Type} : List (DataW H) → Nat
  | [] => 0
  | d :: r => uptoBulk d + uptoBulkAll r
def uptoBulkEntries {H : Type} : List (Lit × DataW H) → Nat
  | [] => 0
  | x :: r => uptoBulkEntry x + uptoBulkEntries r
def uptoBulkEntry {H : Type} : Lit × DataW H → Nat
  | (.string bytes, d) => bytes.length + uptoBulk d + 1
  | (_, d) => uptoBulk d + 1
 end
def uptoSmall : (H : Type) → List (DataW H) → Bool := fun _ ds => decide (uptoBulkAll ds ≤ 1048576)
def OpenSpec.upto (s : _root_.Go.ChangeSpec) : _root_.Go.OpenSpec := { _root_.Go.OpenSpec.ofChange s with cond := some uptoSmall }

/-- 'scrivenerlaw10.JournalPlays', WHERE WHAT IT READS IS OF BULK AT MOST 1048576: true; the input reads as it did. -/
def journalPlaysUptoRow : OpenClaim := { program := "ytkbdkeclbokhdaadoor", sum := "dc37a70914f2427442b027e3e0e2aa01fc70bee0603a732b0830c3ef34a8d248", func := "scrivener/scrivenerlaw10.JournalPlays", spec := "journalPlays", unfollowed := true, recurses := true, named := ["scrivener/sum.first", "scrivener/sum.rounds"], apart := false, laid := [("scrivener/sum.first", laid_scrivener_sum_first), ("scrivener/sum.rounds", laid_scrivener_sum_rounds)], narrowed := true }
def JournalPlaysUptoSaid : Prop := journalPlaysUptoRow.holds Tryd.pinned (OpenSpec.upto journalPlaysSpec)

/-- 'scrivenerlaw10.JournalWhole', WHERE WHAT IT READS IS OF BULK AT MOST 1048576: true; the input reads as it did. -/
def journalWholeUptoRow : OpenClaim := { program := "ytkbdkeclbokhdaadoor", sum := "dc37a70914f2427442b027e3e0e2aa01fc70bee0603a732b0830c3ef34a8d248", func := "scrivener/scrivenerlaw10.JournalWhole", spec := "journalWhole", unfollowed := true, recurses := true, named := ["scrivener/sum.first", "scrivener/sum.rounds"], apart := false, laid := [("scrivener/sum.first", laid_scrivener_sum_first), ("scrivener/sum.rounds", laid_scrivener_sum_rounds)], narrowed := true }
def JournalWholeUptoSaid : Prop := journalWholeUptoRow.holds Tryd.pinned (OpenSpec.upto journalWholeSpec)

/-- 'scrivenerlaw10.JournalSpoilt', WHERE WHAT IT READS IS OF BULK AT MOST 1048576: true; the input reads as it did. -/
def journalSpoiltUptoRow : OpenClaim := { program := "ytkbdkeclbokhdaadoor", sum := "dc37a70914f2427442b027e3e0e2aa01fc70bee0603a732b0830c3ef34a8d248", func := "scrivener/scrivenerlaw10.JournalSpoilt", spec := "journalSpoilt", unfollowed := true, recurses := true, named := ["scrivener/sum.first", "scrivener/sum.rounds"], apart := false, laid := [("scrivener/sum.first", laid_scrivener_sum_first), ("scrivener/sum.rounds", laid_scrivener_sum_rounds)], narrowed := true }
def JournalSpoiltUptoSaid : Prop := journalSpoiltUptoRow.holds Tryd.pinned (OpenSpec.upto journalSpoiltSpec)

/-- 'scrivenerlaw10.JournalBound', WHERE WHAT IT READS IS OF BULK AT MOST 1048576: true; the input reads as it did. -/
def journalBoundUptoRow : OpenClaim := { program := "ytkbdkeclbokhdaadoor", sum := "dc37a70914f2427442b027e3e0e2aa01fc70bee0603a732b0830c3ef34a8d248", func := "scrivener/scrivenerlaw10.JournalBound", spec := "journalBound", unfollowed := true, recurses := true, named := ["scrivener/sum.first", "scrivener/sum.rounds"], apart := false, laid := [("scrivener/sum.first", laid_scrivener_sum_first), ("scrivener/sum.rounds", laid_scrivener_sum_rounds)], narrowed := true }
def JournalBoundUptoSaid : Prop := journalBoundUptoRow.holds Tryd.pinned (OpenSpec.upto journalBoundSpec)

/-- 'scrivenerlaw10.JournalAgain', WHERE WHAT IT READS IS OF BULK AT MOST 1048576: true; the input reads as it did. -/
def journalAgainUptoRow : OpenClaim := { program := "ytkbdkeclbokhdaadoor", sum := "dc37a70914f2427442b027e3e0e2aa01fc70bee0603a732b0830c3ef34a8d248", func := "scrivener/scrivenerlaw10.JournalAgain", spec := "journalAgain", unfollowed := true, recurses := true, named := ["scrivener/sum.first", "scrivener/sum.rounds"], apart := false, laid := [("scrivener/sum.first", laid_scrivener_sum_first), ("scrivener/sum.rounds", laid_scrivener_sum_rounds)], narrowed := true }
def JournalAgainUptoSaid : Prop := journalAgainUptoRow.holds Tryd.pinned (OpenSpec.upto journalAgainSpec)

/-- 'scrivenerlaw10.JournalOwn', WHERE WHAT IT READS IS OF BULK AT MOST 1048576: true; the input reads as it did. -/
def journalOwnUptoRow : OpenClaim := { program := "ytkbdkeclbokhdaadoor", sum := "dc37a70914f2427442b027e3e0e2aa01fc70bee0603a732b0830c3ef34a8d248", func := "scrivener/scrivenerlaw10.JournalOwn", spec := "journalOwn", unfollowed := true, recurses := true, named := ["scrivener/sum.first", "scrivener/sum.rounds"], apart := false, laid := [("scrivener/sum.first", laid_scrivener_sum_first), ("scrivener/sum.rounds", laid_scrivener_sum_rounds)], narrowed := true }
def JournalOwnUptoSaid : Prop := journalOwnUptoRow.holds Tryd.pinned (OpenSpec.upto journalOwnSpec)

/-- 'scrivenertop.WholeFiled', WHERE WHAT IT READS IS OF BULK AT MOST 1048576: true; the input reads as it did. -/
def wholeFiledUptoRow : OpenClaim := { program := "ytkbdkeclbokhdaadoor", sum := "dc37a70914f2427442b027e3e0e2aa01fc70bee0603a732b0830c3ef34a8d248", func := "scrivener/scrivenertop.WholeFiled", spec := "wholeFiled", unfollowed := true, recurses := true, named := ["scrivener/sum.first", "scrivener/sum.rounds"], apart := false, laid := [("scrivener/sum.first", laid_scrivener_sum_first), ("scrivener/sum.rounds", laid_scrivener_sum_rounds)], narrowed := true }
def WholeFiledUptoSaid : Prop := wholeFiledUptoRow.holds Tryd.pinned (OpenSpec.upto wholeFiledSpec)

end Rows
end Go.Proofs.YtkbdkeclbokhdaaDoor
