/-
  No cell of these rows narrows 'for every input' (looked for: loops, veiled, ifaces, maps, wideKeys, modest, calm, conditions, laid).
  DERIVED. THE GIVEN ROWS OF THIS SEAT. 7 by the template 'for every input the law returns true; each argument reads behind the call as it read before'; 0 by the template 'total and deterministic' (their statements: YtngceddlieimmaaTotals.lean).
  GIVEN WITH THE SEED: the statements are not yours to turn. If you find one false, say at which input.
  Laid BY PROGRAM, IN A SANDBOX (cutbox-rows.mjs): the forced cells as the released guide's own fill.sh prints them over the translation 80034033104b7d74… (all of the seat's roots in one cut). By AI agents, Wed Nov 11 2026. No macro, syntax, notation, axiom, sorry.
-/
import Derived.Test.YtngceddlieimmaaChecked
import GoSem.Claim
import GoSem.ClaimJoined
import GoSem.ClaimMapViews
import Derived.JoinedTies
import Derived.KernelRfl
namespace Go.Proofs.Ytngceddlieimmaa
/- THE CELL 'sum', in the pinned program and in every row, IS THE sha256 OF THE DUMP (.gsa) THAT YtngceddlieimmaaProg.lean LOADS. Nothing in Lean hashes anything: it is a label: what it is worth is what the hold of that sum in a sandbox is worth. -/
noncomputable def Try.pinned : Pinned := { name := "ytngceddlieimmaa", sum := "80034033104b7d7434469551f3d2b03eaa8dcb564e1243be21db0cda98142956", checked := Try.checked }
namespace Rows
def none {H : Type} : Left H := { results := [], args := [] }

/-- 'scrivenerlaw02.PackWrites': WHATEVER THE INPUT: true; the input reads as it did. -/
def packWritesSpec : ChangeSpec := { name := "packWrites", fn := fun _ => fun
  | [d] => { results := [.lit (.bool true)], args := [d] }
  | _ => none }
def packWritesRow : OpenClaim := { program := "ytngceddlieimmaa", sum := "80034033104b7d7434469551f3d2b03eaa8dcb564e1243be21db0cda98142956", func := "scrivener/scrivenerlaw02.PackWrites", spec := "packWrites", unfollowed := true, recurses := true, apart := false }
def PackWritesSaid : Prop := packWritesRow.holds Try.pinned (OpenSpec.ofChange packWritesSpec)

/-- ITS FALSE NEIGHBOUR: 'it returns false'. Refute it at one input. -/
def packWritesWrong : ChangeSpec := { name := "packWrites", fn := fun _ => fun
  | [d] => { results := [.lit (.bool false)], args := [d] }
  | _ => none }
def PackWritesWrongFalsely : Prop := packWritesRow.holds Try.pinned (OpenSpec.ofChange packWritesWrong)

/-- 'scrivenerlaw02.PackReads': WHATEVER THE INPUT: true; the input reads as it did. -/
def packReadsSpec : ChangeSpec := { name := "packReads", fn := fun _ => fun
  | [d] => { results := [.lit (.bool true)], args := [d] }
  | _ => none }
def packReadsRow : OpenClaim := { program := "ytngceddlieimmaa", sum := "80034033104b7d7434469551f3d2b03eaa8dcb564e1243be21db0cda98142956", func := "scrivener/scrivenerlaw02.PackReads", spec := "packReads", unfollowed := true, recurses := true, apart := false }
def PackReadsSaid : Prop := packReadsRow.holds Try.pinned (OpenSpec.ofChange packReadsSpec)

/-- ITS FALSE NEIGHBOUR: 'it returns false'. Refute it at one input. -/
def packReadsWrong : ChangeSpec := { name := "packReads", fn := fun _ => fun
  | [d] => { results := [.lit (.bool false)], args := [d] }
  | _ => none }
def PackReadsWrongFalsely : Prop := packReadsRow.holds Try.pinned (OpenSpec.ofChange packReadsWrong)

/-- 'scrivenerlaw02.PackOneWay': WHATEVER THE INPUT: true; the input reads as it did. -/
def packOneWaySpec : ChangeSpec := { name := "packOneWay", fn := fun _ => fun
  | [d1, d2, d3] => { results := [.lit (.bool true)], args := [d1, d2, d3] }
  | _ => none }
def packOneWayRow : OpenClaim := { program := "ytngceddlieimmaa", sum := "80034033104b7d7434469551f3d2b03eaa8dcb564e1243be21db0cda98142956", func := "scrivener/scrivenerlaw02.PackOneWay", spec := "packOneWay", unfollowed := true, recurses := true, apart := false }
def PackOneWaySaid : Prop := packOneWayRow.holds Try.pinned (OpenSpec.ofChange packOneWaySpec)

/-- ITS FALSE NEIGHBOUR: 'it returns false'. Refute it at one input. -/
def packOneWayWrong : ChangeSpec := { name := "packOneWay", fn := fun _ => fun
  | [d1, d2, d3] => { results := [.lit (.bool false)], args := [d1, d2, d3] }
  | _ => none }
def PackOneWayWrongFalsely : Prop := packOneWayRow.holds Try.pinned (OpenSpec.ofChange packOneWayWrong)

/-- 'scrivenerlaw02.PackCut': WHATEVER THE INPUT: true; the input reads as it did. -/
def packCutSpec : ChangeSpec := { name := "packCut", fn := fun _ => fun
  | [d1, d2, d3] => { results := [.lit (.bool true)], args := [d1, d2, d3] }
  | _ => none }
def packCutRow : OpenClaim := { program := "ytngceddlieimmaa", sum := "80034033104b7d7434469551f3d2b03eaa8dcb564e1243be21db0cda98142956", func := "scrivener/scrivenerlaw02.PackCut", spec := "packCut", unfollowed := true, recurses := true, apart := false }
def PackCutSaid : Prop := packCutRow.holds Try.pinned (OpenSpec.ofChange packCutSpec)

/-- ITS FALSE NEIGHBOUR: 'it returns false'. Refute it at one input. -/
def packCutWrong : ChangeSpec := { name := "packCut", fn := fun _ => fun
  | [d1, d2, d3] => { results := [.lit (.bool false)], args := [d1, d2, d3] }
  | _ => none }
def PackCutWrongFalsely : Prop := packCutRow.holds Try.pinned (OpenSpec.ofChange packCutWrong)

/-- 'scrivenerlaw02.PackLeaves': WHATEVER THE INPUT: true; the input reads as it did. -/
def packLeavesSpec : ChangeSpec := { name := "packLeaves", fn := fun _ => fun
  | [d] => { results := [.lit (.bool true)], args := [d] }
  | _ => none }
def packLeavesRow : OpenClaim := { program := "ytngceddlieimmaa", sum := "80034033104b7d7434469551f3d2b03eaa8dcb564e1243be21db0cda98142956", func := "scrivener/scrivenerlaw02.PackLeaves", spec := "packLeaves", unfollowed := true, recurses := true, apart := false }
def PackLeavesSaid : Prop := packLeavesRow.holds Try.pinned (OpenSpec.ofChange packLeavesSpec)

/-- ITS FALSE NEIGHBOUR: 'it returns false'. Refute it at one input. -/
def packLeavesWrong : ChangeSpec := { name := "packLeaves", fn := fun _ => fun
  | [d] => { results := [.lit (.bool false)], args := [d] }
  | _ => none }
def PackLeavesWrongFalsely : Prop := packLeavesRow.holds Try.pinned (OpenSpec.ofChange packLeavesWrong)

/-- 'scrivenerlaw02.PackNums': WHATEVER THE INPUT: true; the input reads as it did. -/
def packNumsSpec : ChangeSpec := { name := "packNums", fn := fun _ => fun
  | [d1, d2] => { results := [.lit (.bool true)], args := [d1, d2] }
  | _ => none }
def packNumsRow : OpenClaim := { program := "ytngceddlieimmaa", sum := "80034033104b7d7434469551f3d2b03eaa8dcb564e1243be21db0cda98142956", func := "scrivener/scrivenerlaw02.PackNums", spec := "packNums", unfollowed := true, recurses := true, apart := false }
def PackNumsSaid : Prop := packNumsRow.holds Try.pinned (OpenSpec.ofChange packNumsSpec)

/-- ITS FALSE NEIGHBOUR: 'it returns false'. Refute it at one input. -/
def packNumsWrong : ChangeSpec := { name := "packNums", fn := fun _ => fun
  | [d1, d2] => { results := [.lit (.bool false)], args := [d1, d2] }
  | _ => none }
def PackNumsWrongFalsely : Prop := packNumsRow.holds Try.pinned (OpenSpec.ofChange packNumsWrong)

/-- 'scrivenerlaw02.PackKinds': WHATEVER THE INPUT: true; the input reads as it did. -/
def packKindsSpec : ChangeSpec := { name := "packKinds", fn := fun _ => fun
  | [d] => { results := [.lit (.bool true)], args := [d] }
  | _ => none }
def packKindsRow : OpenClaim := { program := "ytngceddlieimmaa", sum := "80034033104b7d7434469551f3d2b03eaa8dcb564e1243be21db0cda98142956", func := "scrivener/scrivenerlaw02.PackKinds", spec := "packKinds", unfollowed := true, recurses := true, apart := false }
def PackKindsSaid : Prop := packKindsRow.holds Try.pinned (OpenSpec.ofChange packKindsSpec)

/-- ITS FALSE NEIGHBOUR: 'it returns false'. Refute it at one input. -/
def packKindsWrong : ChangeSpec := { name := "packKinds", fn := fun _ => fun
  | [d] => { results := [.lit (.bool false)], args := [d] }
  | _ => none }
def PackKindsWrongFalsely : Prop := packKindsRow.holds Try.pinned (OpenSpec.ofChange packKindsWrong)

/- THE SECOND FORM. 'bulk': how many values and letters a reading holds, each counted each time it is reached (what is shared counts as often as it is met; a slice's spare places count too). A statement '..UptoSaid' is the law's where the arguments, and the package variables that the reading takes, are together of bulk at most 1048576: NARROWER than '..Said'. Prove '..Said' where nothing that the law and all that it calls make is longer than what came in: it says more and counts as full. Else prove '..UptoSaid'. A law counts once. -/
mutual
def uptoBulk {H : Type} : DataW H → Nat
  | .lit (.string bytes) => bytes.length + 1
  | .lit _ => 1
  | .nil => 1
  | .ptr d => uptoBulk d + 1
  | .slice elems spare => uptoBulkAll elems + uptoBulkAll spare + 1
  | .agg parts => uptoBulkAll parts + 1
  | .iface _ d => uptoBulk d + 1
  | .map entries => uptoBulkEntries entries + 1
  | .held _ => 1
def uptoBulkAll {H : Type} : List (DataW H) → Nat
  | [] => 0
  | d :: r => uptoBulk d + uptoBulkAll r
def uptoBulkEntries {H : Type} : List (Lit × DataW H) → Nat
  | [] => 0
  | x :: r => uptoBulkEntry x + uptoBulkEntries r
def uptoBulkEntry {H : Type} : Lit × DataW H → Nat
  | (.string bytes, d) => bytes.length + uptoBulk d + 1
  | (_, d) => uptoBulk d + 1
 end
def uptoSmall : (H : Type) → List (DataW H) → Bool := fun _ ds => decide (uptoBulkAll ds ≤ 1048576)
def OpenSpec.upto (s : _root_.Go.ChangeSpec) : _root_.Go.OpenSpec := { _root_.Go.OpenSpec.ofChange s with cond := some uptoSmall }

/-- 'scrivenerlaw02.PackWrites', WHERE WHAT IT READS IS OF BULK AT MOST 1048576: true; the input reads as it did. -/
def packWritesUptoRow : OpenClaim := { program := "ytngceddlieimmaa", sum := "80034033104b7d7434469551f3d2b03eaa8dcb564e1243be21db0cda98142956", func := "scrivener/scrivenerlaw02.PackWrites", spec := "packWrites", unfollowed := true, recurses := true, apart := false, narrowed := true }
def PackWritesUptoSaid : Prop := packWritesUptoRow.holds Try.pinned (OpenSpec.upto packWritesSpec)

/-- 'scrivenerlaw02.PackReads', WHERE WHAT IT READS IS OF BULK AT MOST 1048576: true; the input reads as it did. -/
def packReadsUptoRow : OpenClaim := { program := "ytngceddlieimmaa", sum := "80034033104b7d7434469551f3d2b03eaa8dcb564e1243be21db0cda98142956", func := "scrivener/scrivenerlaw02.PackReads", spec := "packReads", unfollowed := true, recurses := true, apart := false, narrowed := true }
def PackReadsUptoSaid : Prop := packReadsUptoRow.holds Try.pinned (OpenSpec.upto packReadsSpec)

/-- 'scrivenerlaw02.PackOneWay', WHERE WHAT IT READS IS OF BULK AT MOST 1048576: true; the input reads as it did. -/
def packOneWayUptoRow : OpenClaim := { program := "ytngceddlieimmaa", sum := "80034033104b7d7434469551f3d2b03eaa8dcb564e1243be21db0cda98142956", func := "scrivener/scrivenerlaw02.PackOneWay", spec := "packOneWay", unfollowed := true, recurses := true, apart := false, narrowed := true }
def PackOneWayUptoSaid : Prop := packOneWayUptoRow.holds Try.pinned (OpenSpec.upto packOneWaySpec)

/-- 'scrivenerlaw02.PackCut', WHERE WHAT IT READS IS OF BULK AT MOST 1048576: true; the input reads as it did. -/
def packCutUptoRow : OpenClaim := { program := "ytngceddlieimmaa", sum := "80034033104b7d7434469551f3d2b03eaa8dcb564e1243be21db0cda98142956", func := "scrivener/scrivenerlaw02.PackCut", spec := "packCut", unfollowed := true, recurses := true, apart := false, narrowed := true }
def PackCutUptoSaid : Prop := packCutUptoRow.holds Try.pinned (OpenSpec.upto packCutSpec)

/-- 'scrivenerlaw02.PackLeaves', WHERE WHAT IT READS IS OF BULK AT MOST 1048576: true; the input reads as it did. -/
def packLeavesUptoRow : OpenClaim := { program := "ytngceddlieimmaa", sum := "80034033104b7d7434469551f3d2b03eaa8dcb564e1243be21db0cda98142956", func := "scrivener/scrivenerlaw02.PackLeaves", spec := "packLeaves", unfollowed := true, recurses := true, apart := false, narrowed := true }
def PackLeavesUptoSaid : Prop := packLeavesUptoRow.holds Try.pinned (OpenSpec.upto packLeavesSpec)

/-- 'scrivenerlaw02.PackNums', WHERE WHAT IT READS IS OF BULK AT MOST 1048576: true; the input reads as it did. -/
def packNumsUptoRow : OpenClaim := { program := "ytngceddlieimmaa", sum := "80034033104b7d7434469551f3d2b03eaa8dcb564e1243be21db0cda98142956", func := "scrivener/scrivenerlaw02.PackNums", spec := "packNums", unfollowed := true, recurses := true, apart := false, narrowed := true }
def PackNumsUptoSaid : Prop := packNumsUptoRow.holds Try.pinned (OpenSpec.upto packNumsSpec)

/-- 'scrivenerlaw02.PackKinds', WHERE WHAT IT READS IS OF BULK AT MOST 1048576: true; the input reads as it did. -/
def packKindsUptoRow : OpenClaim := { program := "ytngceddlieimmaa", sum := "80034033104b7d7434469551f3d2b03eaa8dcb564e1243be21db0cda98142956", func := "scrivener/scrivenerlaw02.PackKinds", spec := "packKinds", unfollowed := true, recurses := true, apart := false, narrowed := true }
def PackKindsUptoSaid : Prop := packKindsUptoRow.holds Try.pinned (OpenSpec.upto packKindsSpec)

end Rows
end Go.Proofs.Ytngceddlieimmaa
