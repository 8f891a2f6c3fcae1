/-
  No cell of these rows narrows 'for every input' (looked for: loops, veiled, ifaces, maps, wideKeys, modest, calm, conditions, laid).
  DERIVED. THE GIVEN ROWS OF THIS SEAT. 12 by the template 'for every input the law returns true; each argument reads behind the call as it read before'; 0 by the template 'total and deterministic' (their statements: YtbgojlcciealiaaTotals.lean).
  GIVEN WITH THE SEED: the statements are not yours to turn. If you find one false, say at which input.
  Laid BY PROGRAM, IN A SANDBOX (cutbox-rows.mjs): the forced cells as the released guide's own fill.sh prints them over the translation f1fdb57bebe67e7d… (all of the seat's roots in one cut). By AI agents, Wed Nov 11 2026. No macro, syntax, notation, axiom, sorry.
-/
import Derived.Test.YtbgojlcciealiaaChecked
import GoSem.Claim
import GoSem.ClaimJoined
import GoSem.ClaimMapViews
import Derived.JoinedTies
import Derived.KernelRfl
namespace Go.Proofs.Ytbgojlcciealiaa
/- THE CELL 'sum', in the pinned program and in every row, IS THE sha256 OF THE DUMP (.gsa) THAT YtbgojlcciealiaaProg.lean LOADS. Nothing in Lean hashes anything: it is a label: what it is worth is what the hold of that sum in a sandbox is worth. -/
noncomputable def Try.pinned : Pinned := { name := "ytbgojlcciealiaa", sum := "f1fdb57bebe67e7d2a7e7df6a59f95555ff4ca3ed1d67ef8b07b0e6b936fe614", checked := Try.checked }
namespace Rows
def none {H : Type} : Left H := { results := [], args := [] }

/-- 'scrivenerlaw13.CountPlays': WHATEVER THE INPUT: true; the input reads as it did. -/
def countPlaysSpec : ChangeSpec := { name := "countPlays", fn := fun _ => fun
  | [d1, d2, d3] => { results := [.lit (.bool true)], args := [d1, d2, d3] }
  | _ => none }
def countPlaysRow : OpenClaim := { program := "ytbgojlcciealiaa", sum := "f1fdb57bebe67e7d2a7e7df6a59f95555ff4ca3ed1d67ef8b07b0e6b936fe614", func := "scrivener/scrivenerlaw13.CountPlays", spec := "countPlays", unfollowed := true, recurses := true, plainKeys := false, apart := false }
def CountPlaysSaid : Prop := countPlaysRow.holds Try.pinned (OpenSpec.ofChange countPlaysSpec)

/-- ITS FALSE NEIGHBOUR: 'it returns false'. Refute it at one input. -/
def countPlaysWrong : ChangeSpec := { name := "countPlays", fn := fun _ => fun
  | [d1, d2, d3] => { results := [.lit (.bool false)], args := [d1, d2, d3] }
  | _ => none }
def CountPlaysWrongFalsely : Prop := countPlaysRow.holds Try.pinned (OpenSpec.ofChange countPlaysWrong)

/-- 'scrivenerlaw13.CountOne': WHATEVER THE INPUT: true; the input reads as it did. -/
def countOneSpec : ChangeSpec := { name := "countOne", fn := fun _ => fun
  | [d1, d2, d3] => { results := [.lit (.bool true)], args := [d1, d2, d3] }
  | _ => none }
def countOneRow : OpenClaim := { program := "ytbgojlcciealiaa", sum := "f1fdb57bebe67e7d2a7e7df6a59f95555ff4ca3ed1d67ef8b07b0e6b936fe614", func := "scrivener/scrivenerlaw13.CountOne", spec := "countOne", unfollowed := true, recurses := true, plainKeys := false, apart := false }
def CountOneSaid : Prop := countOneRow.holds Try.pinned (OpenSpec.ofChange countOneSpec)

/-- ITS FALSE NEIGHBOUR: 'it returns false'. Refute it at one input. -/
def countOneWrong : ChangeSpec := { name := "countOne", fn := fun _ => fun
  | [d1, d2, d3] => { results := [.lit (.bool false)], args := [d1, d2, d3] }
  | _ => none }
def CountOneWrongFalsely : Prop := countOneRow.holds Try.pinned (OpenSpec.ofChange countOneWrong)

/-- 'scrivenerlaw13.CountOrder': WHATEVER THE INPUT: true; the input reads as it did. -/
def countOrderSpec : ChangeSpec := { name := "countOrder", fn := fun _ => fun
  | [d1, d2, d3] => { results := [.lit (.bool true)], args := [d1, d2, d3] }
  | _ => none }
def countOrderRow : OpenClaim := { program := "ytbgojlcciealiaa", sum := "f1fdb57bebe67e7d2a7e7df6a59f95555ff4ca3ed1d67ef8b07b0e6b936fe614", func := "scrivener/scrivenerlaw13.CountOrder", spec := "countOrder", unfollowed := true, recurses := true, plainKeys := false, apart := false }
def CountOrderSaid : Prop := countOrderRow.holds Try.pinned (OpenSpec.ofChange countOrderSpec)

/-- ITS FALSE NEIGHBOUR: 'it returns false'. Refute it at one input. -/
def countOrderWrong : ChangeSpec := { name := "countOrder", fn := fun _ => fun
  | [d1, d2, d3] => { results := [.lit (.bool false)], args := [d1, d2, d3] }
  | _ => none }
def CountOrderWrongFalsely : Prop := countOrderRow.holds Try.pinned (OpenSpec.ofChange countOrderWrong)

/-- 'scrivenerlaw13.CountStays': WHATEVER THE INPUT: true; the input reads as it did. -/
def countStaysSpec : ChangeSpec := { name := "countStays", fn := fun _ => fun
  | [d1, d2] => { results := [.lit (.bool true)], args := [d1, d2] }
  | _ => none }
def countStaysRow : OpenClaim := { program := "ytbgojlcciealiaa", sum := "f1fdb57bebe67e7d2a7e7df6a59f95555ff4ca3ed1d67ef8b07b0e6b936fe614", func := "scrivener/scrivenerlaw13.CountStays", spec := "countStays", unfollowed := true, recurses := true, plainKeys := false, apart := false }
def CountStaysSaid : Prop := countStaysRow.holds Try.pinned (OpenSpec.ofChange countStaysSpec)

/-- ITS FALSE NEIGHBOUR: 'it returns false'. Refute it at one input. -/
def countStaysWrong : ChangeSpec := { name := "countStays", fn := fun _ => fun
  | [d1, d2] => { results := [.lit (.bool false)], args := [d1, d2] }
  | _ => none }
def CountStaysWrongFalsely : Prop := countStaysRow.holds Try.pinned (OpenSpec.ofChange countStaysWrong)

/-- 'scrivenerlaw13.CountNeeds': WHATEVER THE INPUT: true; the input reads as it did. -/
def countNeedsSpec : ChangeSpec := { name := "countNeeds", fn := fun _ => fun
  | [d] => { results := [.lit (.bool true)], args := [d] }
  | _ => none }
def countNeedsRow : OpenClaim := { program := "ytbgojlcciealiaa", sum := "f1fdb57bebe67e7d2a7e7df6a59f95555ff4ca3ed1d67ef8b07b0e6b936fe614", func := "scrivener/scrivenerlaw13.CountNeeds", spec := "countNeeds", unfollowed := true, recurses := true, plainKeys := false, apart := false }
def CountNeedsSaid : Prop := countNeedsRow.holds Try.pinned (OpenSpec.ofChange countNeedsSpec)

/-- ITS FALSE NEIGHBOUR: 'it returns false'. Refute it at one input. -/
def countNeedsWrong : ChangeSpec := { name := "countNeeds", fn := fun _ => fun
  | [d] => { results := [.lit (.bool false)], args := [d] }
  | _ => none }
def CountNeedsWrongFalsely : Prop := countNeedsRow.holds Try.pinned (OpenSpec.ofChange countNeedsWrong)

/-- 'scrivenerlaw14.RoundOnce': WHATEVER THE INPUT: true; the input reads as it did. -/
def roundOnceSpec : ChangeSpec := { name := "roundOnce", fn := fun _ => fun
  | [d1, d2] => { results := [.lit (.bool true)], args := [d1, d2] }
  | _ => none }
def roundOnceRow : OpenClaim := { program := "ytbgojlcciealiaa", sum := "f1fdb57bebe67e7d2a7e7df6a59f95555ff4ca3ed1d67ef8b07b0e6b936fe614", func := "scrivener/scrivenerlaw14.RoundOnce", spec := "roundOnce", unfollowed := true, recurses := true, plainKeys := false, apart := false }
def RoundOnceSaid : Prop := roundOnceRow.holds Try.pinned (OpenSpec.ofChange roundOnceSpec)

/-- ITS FALSE NEIGHBOUR: 'it returns false'. Refute it at one input. -/
def roundOnceWrong : ChangeSpec := { name := "roundOnce", fn := fun _ => fun
  | [d1, d2] => { results := [.lit (.bool false)], args := [d1, d2] }
  | _ => none }
def RoundOnceWrongFalsely : Prop := roundOnceRow.holds Try.pinned (OpenSpec.ofChange roundOnceWrong)

/-- 'scrivenerlaw14.RoundLocks': WHATEVER THE INPUT: true; the input reads as it did. -/
def roundLocksSpec : ChangeSpec := { name := "roundLocks", fn := fun _ => fun
  | [d1, d2] => { results := [.lit (.bool true)], args := [d1, d2] }
  | _ => none }
def roundLocksRow : OpenClaim := { program := "ytbgojlcciealiaa", sum := "f1fdb57bebe67e7d2a7e7df6a59f95555ff4ca3ed1d67ef8b07b0e6b936fe614", func := "scrivener/scrivenerlaw14.RoundLocks", spec := "roundLocks", unfollowed := true, recurses := true, plainKeys := false, apart := false }
def RoundLocksSaid : Prop := roundLocksRow.holds Try.pinned (OpenSpec.ofChange roundLocksSpec)

/-- ITS FALSE NEIGHBOUR: 'it returns false'. Refute it at one input. -/
def roundLocksWrong : ChangeSpec := { name := "roundLocks", fn := fun _ => fun
  | [d1, d2] => { results := [.lit (.bool false)], args := [d1, d2] }
  | _ => none }
def RoundLocksWrongFalsely : Prop := roundLocksRow.holds Try.pinned (OpenSpec.ofChange roundLocksWrong)

/-- 'scrivenerlaw14.RoundAgree': WHATEVER THE INPUT: true; the input reads as it did. -/
def roundAgreeSpec : ChangeSpec := { name := "roundAgree", fn := fun _ => fun
  | [d1, d2] => { results := [.lit (.bool true)], args := [d1, d2] }
  | _ => none }
def roundAgreeRow : OpenClaim := { program := "ytbgojlcciealiaa", sum := "f1fdb57bebe67e7d2a7e7df6a59f95555ff4ca3ed1d67ef8b07b0e6b936fe614", func := "scrivener/scrivenerlaw14.RoundAgree", spec := "roundAgree", unfollowed := true, recurses := true, plainKeys := false, apart := false }
def RoundAgreeSaid : Prop := roundAgreeRow.holds Try.pinned (OpenSpec.ofChange roundAgreeSpec)

/-- ITS FALSE NEIGHBOUR: 'it returns false'. Refute it at one input. -/
def roundAgreeWrong : ChangeSpec := { name := "roundAgree", fn := fun _ => fun
  | [d1, d2] => { results := [.lit (.bool false)], args := [d1, d2] }
  | _ => none }
def RoundAgreeWrongFalsely : Prop := roundAgreeRow.holds Try.pinned (OpenSpec.ofChange roundAgreeWrong)

/-- 'scrivenerlaw14.RoundLives': WHATEVER THE INPUT: true; the input reads as it did. -/
def roundLivesSpec : ChangeSpec := { name := "roundLives", fn := fun _ => fun
  | [d1, d2] => { results := [.lit (.bool true)], args := [d1, d2] }
  | _ => none }
def roundLivesRow : OpenClaim := { program := "ytbgojlcciealiaa", sum := "f1fdb57bebe67e7d2a7e7df6a59f95555ff4ca3ed1d67ef8b07b0e6b936fe614", func := "scrivener/scrivenerlaw14.RoundLives", spec := "roundLives", unfollowed := true, recurses := true, plainKeys := false, apart := false }
def RoundLivesSaid : Prop := roundLivesRow.holds Try.pinned (OpenSpec.ofChange roundLivesSpec)

/-- ITS FALSE NEIGHBOUR: 'it returns false'. Refute it at one input. -/
def roundLivesWrong : ChangeSpec := { name := "roundLives", fn := fun _ => fun
  | [d1, d2] => { results := [.lit (.bool false)], args := [d1, d2] }
  | _ => none }
def RoundLivesWrongFalsely : Prop := roundLivesRow.holds Try.pinned (OpenSpec.ofChange roundLivesWrong)

/-- 'scrivenerlaw14.RoundRecalls': WHATEVER THE INPUT: true; the input reads as it did. -/
def roundRecallsSpec : ChangeSpec := { name := "roundRecalls", fn := fun _ => fun
  | [d1, d2, d3] => { results := [.lit (.bool true)], args := [d1, d2, d3] }
  | _ => none }
def roundRecallsRow : OpenClaim := { program := "ytbgojlcciealiaa", sum := "f1fdb57bebe67e7d2a7e7df6a59f95555ff4ca3ed1d67ef8b07b0e6b936fe614", func := "scrivener/scrivenerlaw14.RoundRecalls", spec := "roundRecalls", unfollowed := true, recurses := true, plainKeys := false, apart := false }
def RoundRecallsSaid : Prop := roundRecallsRow.holds Try.pinned (OpenSpec.ofChange roundRecallsSpec)

/-- ITS FALSE NEIGHBOUR: 'it returns false'. Refute it at one input. -/
def roundRecallsWrong : ChangeSpec := { name := "roundRecalls", fn := fun _ => fun
  | [d1, d2, d3] => { results := [.lit (.bool false)], args := [d1, d2, d3] }
  | _ => none }
def RoundRecallsWrongFalsely : Prop := roundRecallsRow.holds Try.pinned (OpenSpec.ofChange roundRecallsWrong)

/-- 'scrivenerlaw14.RoundQuiet': WHATEVER THE INPUT: true; the input reads as it did. -/
def roundQuietSpec : ChangeSpec := { name := "roundQuiet", fn := fun _ => fun
  | [d1, d2] => { results := [.lit (.bool true)], args := [d1, d2] }
  | _ => none }
def roundQuietRow : OpenClaim := { program := "ytbgojlcciealiaa", sum := "f1fdb57bebe67e7d2a7e7df6a59f95555ff4ca3ed1d67ef8b07b0e6b936fe614", func := "scrivener/scrivenerlaw14.RoundQuiet", spec := "roundQuiet", unfollowed := true, recurses := true, plainKeys := false, apart := false }
def RoundQuietSaid : Prop := roundQuietRow.holds Try.pinned (OpenSpec.ofChange roundQuietSpec)

/-- ITS FALSE NEIGHBOUR: 'it returns false'. Refute it at one input. -/
def roundQuietWrong : ChangeSpec := { name := "roundQuiet", fn := fun _ => fun
  | [d1, d2] => { results := [.lit (.bool false)], args := [d1, d2] }
  | _ => none }
def RoundQuietWrongFalsely : Prop := roundQuietRow.holds Try.pinned (OpenSpec.ofChange roundQuietWrong)

/-- 'scrivenertop.WholeVotes': WHATEVER THE INPUT: true; the input reads as it did. -/
def wholeVotesSpec : ChangeSpec := { name := "wholeVotes", fn := fun _ => fun
  | [d1, d2] => { results := [.lit (.bool true)], args := [d1, d2] }
  | _ => none }
def wholeVotesRow : OpenClaim := { program := "ytbgojlcciealiaa", sum := "f1fdb57bebe67e7d2a7e7df6a59f95555ff4ca3ed1d67ef8b07b0e6b936fe614", func := "scrivener/scrivenertop.WholeVotes", spec := "wholeVotes", unfollowed := true, recurses := true, plainKeys := false, apart := false }
def WholeVotesSaid : Prop := wholeVotesRow.holds Try.pinned (OpenSpec.ofChange wholeVotesSpec)

/-- ITS FALSE NEIGHBOUR: 'it returns false'. Refute it at one input. -/
def wholeVotesWrong : ChangeSpec := { name := "wholeVotes", fn := fun _ => fun
  | [d1, d2] => { results := [.lit (.bool false)], args := [d1, d2] }
  | _ => none }
def WholeVotesWrongFalsely : Prop := wholeVotesRow.holds Try.pinned (OpenSpec.ofChange wholeVotesWrong)

/- THE SECOND FORM. 'bulk': how many values and letters a reading holds, each counted each time it is reached (what is shared counts as often as it is met; a slice's spare places count too). A statement '..UptoSaid' is the law's where the arguments, and the package variables that the reading takes, are together of bulk at most 1048576: NARROWER than '..Said'. Prove '..Said' where nothing that the law and all that it calls make is longer than what came in: it says more and counts as full. Else prove '..UptoSaid'. A law counts once. -/
mutual
def uptoBulk {H : Type} : DataW H → Nat
  | .lit (.string bytes) => bytes.length + 1
  | .lit _ => 1
  | .nil => 1
  | .ptr d => uptoBulk d + 1
  | .slice elems spare => uptoBulkAll elems + uptoBulkAll spare + 1
  | .agg parts => uptoBulkAll parts + 1
  | .iface _ d => uptoBulk d + 1
  | .map entries => uptoBulkEntries entries + 1
  | .held _ => 1
def uptoBulkAll {H : Type} : List (DataW H) → Nat
  | [] => 0
  | d :: r => uptoBulk d + uptoBulkAll r
def uptoBulkEntries {H : Type} : List (Lit × DataW H) → Nat
  | [] => 0
  | x :: r => uptoBulkEntry x + uptoBulkEntries r
def uptoBulkEntry {H : Type} : Lit × DataW H → Nat
  | (.string bytes, d) => bytes.length + uptoBulk d + 1
  | (_, d) => uptoBulk d + 1
 end
def uptoSmall : (H : Type) → List (DataW H) → Bool := fun _ ds => decide (uptoBulkAll ds ≤ 1048576)
def OpenSpec.upto (s : _root_.Go.ChangeSpec) : _root_.Go.OpenSpec := { _root_.Go.OpenSpec.ofChange s with cond := some uptoSmall }

/-- 'scrivenerlaw13.CountPlays', WHERE WHAT IT READS IS OF BULK AT MOST 1048576: true; the input reads as it did. -/
def countPlaysUptoRow : OpenClaim := { program := "ytbgojlcciealiaa", sum := "f1fdb57bebe67e7d2a7e7df6a59f95555ff4ca3ed1d67ef8b07b0e6b936fe614", func := "scrivener/scrivenerlaw13.CountPlays", spec := "countPlays", unfollowed := true, recurses := true, plainKeys := false, apart := false, narrowed := true }
def CountPlaysUptoSaid : Prop := countPlaysUptoRow.holds Try.pinned (OpenSpec.upto countPlaysSpec)

/-- 'scrivenerlaw13.CountOne', WHERE WHAT IT READS IS OF BULK AT MOST 1048576: true; the input reads as it did. -/
def countOneUptoRow : OpenClaim := { program := "ytbgojlcciealiaa", sum := "f1fdb57bebe67e7d2a7e7df6a59f95555ff4ca3ed1d67ef8b07b0e6b936fe614", func := "scrivener/scrivenerlaw13.CountOne", spec := "countOne", unfollowed := true, recurses := true, plainKeys := false, apart := false, narrowed := true }
def CountOneUptoSaid : Prop := countOneUptoRow.holds Try.pinned (OpenSpec.upto countOneSpec)

/-- 'scrivenerlaw13.CountOrder', WHERE WHAT IT READS IS OF BULK AT MOST 1048576: true; the input reads as it did. -/
def countOrderUptoRow : OpenClaim := { program := "ytbgojlcciealiaa", sum := "f1fdb57bebe67e7d2a7e7df6a59f95555ff4ca3ed1d67ef8b07b0e6b936fe614", func := "scrivener/scrivenerlaw13.CountOrder", spec := "countOrder", unfollowed := true, recurses := true, plainKeys := false, apart := false, narrowed := true }
def CountOrderUptoSaid : Prop := countOrderUptoRow.holds Try.pinned (OpenSpec.upto countOrderSpec)

/-- 'scrivenerlaw13.CountStays', WHERE WHAT IT READS IS OF BULK AT MOST 1048576: true; the input reads as it did. -/
def countStaysUptoRow : OpenClaim := { program := "ytbgojlcciealiaa", sum := "f1fdb57bebe67e7d2a7e7df6a59f95555ff4ca3ed1d67ef8b07b0e6b936fe614", func := "scrivener/scrivenerlaw13.CountStays", spec := "countStays", unfollowed := true, recurses := true, plainKeys := false, apart := false, narrowed := true }
def CountStaysUptoSaid : Prop := countStaysUptoRow.holds Try.pinned (OpenSpec.upto countStaysSpec)

/-- 'scrivenerlaw13.CountNeeds', WHERE WHAT IT READS IS OF BULK AT MOST 1048576: true; the input reads as it did. -/
def countNeedsUptoRow : OpenClaim := { program := "ytbgojlcciealiaa", sum := "f1fdb57bebe67e7d2a7e7df6a59f95555ff4ca3ed1d67ef8b07b0e6b936fe614", func := "scrivener/scrivenerlaw13.CountNeeds", spec := "countNeeds", unfollowed := true, recurses := true, plainKeys := false, apart := false, narrowed := true }
def CountNeedsUptoSaid : Prop := countNeedsUptoRow.holds Try.pinned (OpenSpec.upto countNeedsSpec)

/-- 'scrivenerlaw14.RoundOnce', WHERE WHAT IT READS IS OF BULK AT MOST 1048576: true; the input reads as it did. -/
def roundOnceUptoRow : OpenClaim := { program := "ytbgojlcciealiaa", sum := "f1fdb57bebe67e7d2a7e7df6a59f95555ff4ca3ed1d67ef8b07b0e6b936fe614", func := "scrivener/scrivenerlaw14.RoundOnce", spec := "roundOnce", unfollowed := true, recurses := true, plainKeys := false, apart := false, narrowed := true }
def RoundOnceUptoSaid : Prop := roundOnceUptoRow.holds Try.pinned (OpenSpec.upto roundOnceSpec)

/-- 'scrivenerlaw14.RoundLocks', WHERE WHAT IT READS IS OF BULK AT MOST 1048576: true; the input reads as it did. -/
def roundLocksUptoRow : OpenClaim := { program := "ytbgojlcciealiaa", sum := "f1fdb57bebe67e7d2a7e7df6a59f95555ff4ca3ed1d67ef8b07b0e6b936fe614", func := "scrivener/scrivenerlaw14.RoundLocks", spec := "roundLocks", unfollowed := true, recurses := true, plainKeys := false, apart := false, narrowed := true }
def RoundLocksUptoSaid : Prop := roundLocksUptoRow.holds Try.pinned (OpenSpec.upto roundLocksSpec)

/-- 'scrivenerlaw14.RoundAgree', WHERE WHAT IT READS IS OF BULK AT MOST 1048576: true; the input reads as it did. -/
def roundAgreeUptoRow : OpenClaim := { program := "ytbgojlcciealiaa", sum := "f1fdb57bebe67e7d2a7e7df6a59f95555ff4ca3ed1d67ef8b07b0e6b936fe614", func := "scrivener/scrivenerlaw14.RoundAgree", spec := "roundAgree", unfollowed := true, recurses := true, plainKeys := false, apart := false, narrowed := true }
def RoundAgreeUptoSaid : Prop := roundAgreeUptoRow.holds Try.pinned (OpenSpec.upto roundAgreeSpec)

/-- 'scrivenerlaw14.RoundLives', WHERE WHAT IT READS IS OF BULK AT MOST 1048576: true; the input reads as it did. -/
def roundLivesUptoRow : OpenClaim := { program := "ytbgojlcciealiaa", sum := "f1fdb57bebe67e7d2a7e7df6a59f95555ff4ca3ed1d67ef8b07b0e6b936fe614", func := "scrivener/scrivenerlaw14.RoundLives", spec := "roundLives", unfollowed := true, recurses := true, plainKeys := false, apart := false, narrowed := true }
def RoundLivesUptoSaid : Prop := roundLivesUptoRow.holds Try.pinned (OpenSpec.upto roundLivesSpec)

/-- 'scrivenerlaw14.RoundRecalls', WHERE WHAT IT READS IS OF BULK AT MOST 1048576: true; the input reads as it did. -/
def roundRecallsUptoRow : OpenClaim := { program := "ytbgojlcciealiaa", sum := "f1fdb57bebe67e7d2a7e7df6a59f95555ff4ca3ed1d67ef8b07b0e6b936fe614", func := "scrivener/scrivenerlaw14.RoundRecalls", spec := "roundRecalls", unfollowed := true, recurses := true, plainKeys := false, apart := false, narrowed := true }
def RoundRecallsUptoSaid : Prop := roundRecallsUptoRow.holds Try.pinned (OpenSpec.upto roundRecallsSpec)

/-- 'scrivenerlaw14.RoundQuiet', WHERE WHAT IT READS IS OF BULK AT MOST 1048576: true; the input reads as it did. -/
def roundQuietUptoRow : OpenClaim := { program := "ytbgojlcciealiaa", sum := "f1fdb57bebe67e7d2a7e7df6a59f95555ff4ca3ed1d67ef8b07b0e6b936fe614", func := "scrivener/scrivenerlaw14.RoundQuiet", spec := "roundQuiet", unfollowed := true, recurses := true, plainKeys := false, apart := false, narrowed := true }
def RoundQuietUptoSaid : Prop := roundQuietUptoRow.holds Try.pinned (OpenSpec.upto roundQuietSpec)

/-- 'scrivenertop.WholeVotes', WHERE WHAT IT READS IS OF BULK AT MOST 1048576: true; the input reads as it did. -/
def wholeVotesUptoRow : OpenClaim := { program := "ytbgojlcciealiaa", sum := "f1fdb57bebe67e7d2a7e7df6a59f95555ff4ca3ed1d67ef8b07b0e6b936fe614", func := "scrivener/scrivenertop.WholeVotes", spec := "wholeVotes", unfollowed := true, recurses := true, plainKeys := false, apart := false, narrowed := true }
def WholeVotesUptoSaid : Prop := wholeVotesUptoRow.holds Try.pinned (OpenSpec.upto wholeVotesSpec)

end Rows
end Go.Proofs.Ytbgojlcciealiaa
