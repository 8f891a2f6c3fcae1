/-
  No cell of these rows narrows 'for every input' (looked for: loops, veiled, ifaces, maps, wideKeys, modest, calm, conditions, laid).
  DERIVED. THE GIVEN ROWS OF THIS SEAT. 5 by the template 'for every input the law returns true; each argument reads behind the call as it read before'; 0 by the template 'total and deterministic' (their statements: YtnkaapghjgnliaaTotals.lean).
  GIVEN WITH THE SEED: the statements are not yours to turn. If you find one false, say at which input.
  Laid BY PROGRAM, IN A SANDBOX (cutbox-rows.mjs): the forced cells as the released guide's own fill.sh prints them over the translation 1c3fadab3d4a1c0e… (all of the seat's roots in one cut). By AI agents, Wed Nov 11 2026. No macro, syntax, notation, axiom, sorry.
-/
import Derived.Test.YtnkaapghjgnliaaChecked
import GoSem.Claim
import GoSem.ClaimJoined
import GoSem.ClaimMapViews
import Derived.JoinedTies
import Derived.KernelRfl
namespace Go.Proofs.Ytnkaapghjgnliaa
/- THE CELL 'sum', in the pinned program and in every row, IS THE sha256 OF THE DUMP (.gsa) THAT YtnkaapghjgnliaaProg.lean LOADS. Nothing in Lean hashes anything: it is a label: what it is worth is what the hold of that sum in a sandbox is worth. -/
noncomputable def Try.pinned : Pinned := { name := "ytnkaapghjgnliaa", sum := "1c3fadab3d4a1c0e08bfec2910da3140a5821a2f11f499c41a9eeff7f6214336", checked := Try.checked }
namespace Rows
def none {H : Type} : Left H := { results := [], args := [] }

/-- 'scrivenerlaw09.SlabPlays': WHATEVER THE INPUT: true; the input reads as it did. -/
def slabPlaysSpec : ChangeSpec := { name := "slabPlays", fn := fun _ => fun
  | [d1, d2] => { results := [.lit (.bool true)], args := [d1, d2] }
  | _ => none }
def slabPlaysRow : OpenClaim := { program := "ytnkaapghjgnliaa", sum := "1c3fadab3d4a1c0e08bfec2910da3140a5821a2f11f499c41a9eeff7f6214336", func := "scrivener/scrivenerlaw09.SlabPlays", spec := "slabPlays", apart := false }
def SlabPlaysSaid : Prop := slabPlaysRow.holds Try.pinned (OpenSpec.ofChange slabPlaysSpec)

/-- ITS FALSE NEIGHBOUR: 'it returns false'. Refute it at one input. -/
def slabPlaysWrong : ChangeSpec := { name := "slabPlays", fn := fun _ => fun
  | [d1, d2] => { results := [.lit (.bool false)], args := [d1, d2] }
  | _ => none }
def SlabPlaysWrongFalsely : Prop := slabPlaysRow.holds Try.pinned (OpenSpec.ofChange slabPlaysWrong)

/-- 'scrivenerlaw09.SlabSure': WHATEVER THE INPUT: true; the input reads as it did. -/
def slabSureSpec : ChangeSpec := { name := "slabSure", fn := fun _ => fun
  | [d1, d2, d3] => { results := [.lit (.bool true)], args := [d1, d2, d3] }
  | _ => none }
def slabSureRow : OpenClaim := { program := "ytnkaapghjgnliaa", sum := "1c3fadab3d4a1c0e08bfec2910da3140a5821a2f11f499c41a9eeff7f6214336", func := "scrivener/scrivenerlaw09.SlabSure", spec := "slabSure", apart := false }
def SlabSureSaid : Prop := slabSureRow.holds Try.pinned (OpenSpec.ofChange slabSureSpec)

/-- ITS FALSE NEIGHBOUR: 'it returns false'. Refute it at one input. -/
def slabSureWrong : ChangeSpec := { name := "slabSure", fn := fun _ => fun
  | [d1, d2, d3] => { results := [.lit (.bool false)], args := [d1, d2, d3] }
  | _ => none }
def SlabSureWrongFalsely : Prop := slabSureRow.holds Try.pinned (OpenSpec.ofChange slabSureWrong)

/-- 'scrivenerlaw09.SlabOwn': WHATEVER THE INPUT: true; the input reads as it did. -/
def slabOwnSpec : ChangeSpec := { name := "slabOwn", fn := fun _ => fun
  | [d] => { results := [.lit (.bool true)], args := [d] }
  | _ => none }
def slabOwnRow : OpenClaim := { program := "ytnkaapghjgnliaa", sum := "1c3fadab3d4a1c0e08bfec2910da3140a5821a2f11f499c41a9eeff7f6214336", func := "scrivener/scrivenerlaw09.SlabOwn", spec := "slabOwn", apart := false }
def SlabOwnSaid : Prop := slabOwnRow.holds Try.pinned (OpenSpec.ofChange slabOwnSpec)

/-- ITS FALSE NEIGHBOUR: 'it returns false'. Refute it at one input. -/
def slabOwnWrong : ChangeSpec := { name := "slabOwn", fn := fun _ => fun
  | [d] => { results := [.lit (.bool false)], args := [d] }
  | _ => none }
def SlabOwnWrongFalsely : Prop := slabOwnRow.holds Try.pinned (OpenSpec.ofChange slabOwnWrong)

/-- 'scrivenerlaw09.SlabSteps': WHATEVER THE INPUT: true; the input reads as it did. -/
def slabStepsSpec : ChangeSpec := { name := "slabSteps", fn := fun _ => fun
  | [d1, d2, d3] => { results := [.lit (.bool true)], args := [d1, d2, d3] }
  | _ => none }
def slabStepsRow : OpenClaim := { program := "ytnkaapghjgnliaa", sum := "1c3fadab3d4a1c0e08bfec2910da3140a5821a2f11f499c41a9eeff7f6214336", func := "scrivener/scrivenerlaw09.SlabSteps", spec := "slabSteps", apart := false }
def SlabStepsSaid : Prop := slabStepsRow.holds Try.pinned (OpenSpec.ofChange slabStepsSpec)

/-- ITS FALSE NEIGHBOUR: 'it returns false'. Refute it at one input. -/
def slabStepsWrong : ChangeSpec := { name := "slabSteps", fn := fun _ => fun
  | [d1, d2, d3] => { results := [.lit (.bool false)], args := [d1, d2, d3] }
  | _ => none }
def SlabStepsWrongFalsely : Prop := slabStepsRow.holds Try.pinned (OpenSpec.ofChange slabStepsWrong)

/-- 'scrivenerlaw09.SlabCuts': WHATEVER THE INPUT: true; the input reads as it did. -/
def slabCutsSpec : ChangeSpec := { name := "slabCuts", fn := fun _ => fun
  | [d1, d2, d3] => { results := [.lit (.bool true)], args := [d1, d2, d3] }
  | _ => none }
def slabCutsRow : OpenClaim := { program := "ytnkaapghjgnliaa", sum := "1c3fadab3d4a1c0e08bfec2910da3140a5821a2f11f499c41a9eeff7f6214336", func := "scrivener/scrivenerlaw09.SlabCuts", spec := "slabCuts", apart := false }
def SlabCutsSaid : Prop := slabCutsRow.holds Try.pinned (OpenSpec.ofChange slabCutsSpec)

/-- ITS FALSE NEIGHBOUR: 'it returns false'. Refute it at one input. -/
def slabCutsWrong : ChangeSpec := { name := "slabCuts", fn := fun _ => fun
  | [d1, d2, d3] => { results := [.lit (.bool false)], args := [d1, d2, d3] }
  | _ => none }
def SlabCutsWrongFalsely : Prop := slabCutsRow.holds Try.pinned (OpenSpec.ofChange slabCutsWrong)

/- THE SECOND FORM. 'bulk': how many values and letters a reading holds, each counted each time it is reached (what is shared counts as often as it is met; a slice's spare places count too). A statement '..UptoSaid' is the law's where the arguments, and the package variables that the reading takes, are together of bulk at most 1048576: NARROWER than '..Said'. Prove '..Said' where nothing that the law and all that it calls make is longer than what came in: it says more and counts as full. Else prove '..UptoSaid'. A law counts once. -/
mutual
def uptoBulk {H : Type} : DataW H → Nat
  | .lit (.string bytes) => bytes.length + 1
  | .lit _ => 1
  | .nil => 1
  | .ptr d => uptoBulk d + 1
  | .slice elems spare => uptoBulkAll elems + uptoBulkAll spare + 1
  | .agg parts => uptoBulkAll parts + 1
  | .iface _ d => uptoBulk d + 1
  | .map entries => uptoBulkEntries entries + 1
  | .held _ => 1
def uptoBulkAll {H : Type} : List (DataW H) → Nat
  | [] => 0
  | d :: r => uptoBulk d + uptoBulkAll r
def uptoBulkEntries {H : Type} : List (Lit × DataW H) → Nat
  | [] => 0
  | x :: r => uptoBulkEntry x + uptoBulkEntries r
def uptoBulkEntry {H : Type} : Lit × DataW H → Nat
  | (.string bytes, d) => bytes.length + uptoBulk d + 1
  | (_, d) => uptoBulk d + 1
 end
def uptoSmall : (H : Type) → List (DataW H) → Bool := fun _ ds => decide (uptoBulkAll ds ≤ 1048576)
def OpenSpec.upto (s : _root_.Go.ChangeSpec) : _root_.Go.OpenSpec := { _root_.Go.OpenSpec.ofChange s with cond := some uptoSmall }

/-- 'scrivenerlaw09.SlabPlays', WHERE WHAT IT READS IS OF BULK AT MOST 1048576: true; the input reads as it did. -/
def slabPlaysUptoRow : OpenClaim := { program := "ytnkaapghjgnliaa", sum := "1c3fadab3d4a1c0e08bfec2910da3140a5821a2f11f499c41a9eeff7f6214336", func := "scrivener/scrivenerlaw09.SlabPlays", spec := "slabPlays", apart := false, narrowed := true }
def SlabPlaysUptoSaid : Prop := slabPlaysUptoRow.holds Try.pinned (OpenSpec.upto slabPlaysSpec)

/-- 'scrivenerlaw09.SlabSure', WHERE WHAT IT READS IS OF BULK AT MOST 1048576: true; the input reads as it did. -/
def slabSureUptoRow : OpenClaim := { program := "ytnkaapghjgnliaa", sum := "1c3fadab3d4a1c0e08bfec2910da3140a5821a2f11f499c41a9eeff7f6214336", func := "scrivener/scrivenerlaw09.SlabSure", spec := "slabSure", apart := false, narrowed := true }
def SlabSureUptoSaid : Prop := slabSureUptoRow.holds Try.pinned (OpenSpec.upto slabSureSpec)

/-- 'scrivenerlaw09.SlabOwn', WHERE WHAT IT READS IS OF BULK AT MOST 1048576: true; the input reads as it did. -/
def slabOwnUptoRow : OpenClaim := { program := "ytnkaapghjgnliaa", sum := "1c3fadab3d4a1c0e08bfec2910da3140a5821a2f11f499c41a9eeff7f6214336", func := "scrivener/scrivenerlaw09.SlabOwn", spec := "slabOwn", apart := false, narrowed := true }
def SlabOwnUptoSaid : Prop := slabOwnUptoRow.holds Try.pinned (OpenSpec.upto slabOwnSpec)

/-- 'scrivenerlaw09.SlabSteps', WHERE WHAT IT READS IS OF BULK AT MOST 1048576: true; the input reads as it did. -/
def slabStepsUptoRow : OpenClaim := { program := "ytnkaapghjgnliaa", sum := "1c3fadab3d4a1c0e08bfec2910da3140a5821a2f11f499c41a9eeff7f6214336", func := "scrivener/scrivenerlaw09.SlabSteps", spec := "slabSteps", apart := false, narrowed := true }
def SlabStepsUptoSaid : Prop := slabStepsUptoRow.holds Try.pinned (OpenSpec.upto slabStepsSpec)

/-- 'scrivenerlaw09.SlabCuts', WHERE WHAT IT READS IS OF BULK AT MOST 1048576: true; the input reads as it did. -/
def slabCutsUptoRow : OpenClaim := { program := "ytnkaapghjgnliaa", sum := "1c3fadab3d4a1c0e08bfec2910da3140a5821a2f11f499c41a9eeff7f6214336", func := "scrivener/scrivenerlaw09.SlabCuts", spec := "slabCuts", apart := false, narrowed := true }
def SlabCutsUptoSaid : Prop := slabCutsUptoRow.holds Try.pinned (OpenSpec.upto slabCutsSpec)

end Rows
end Go.Proofs.Ytnkaapghjgnliaa
