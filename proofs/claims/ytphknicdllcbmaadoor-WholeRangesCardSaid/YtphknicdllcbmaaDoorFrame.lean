/-
  A great frame as a function from places to values, for a loop's relation: no letters for what nobody reads. No condition.
-/
import Derived.Test.YtphknicdllcbmaaDoorBlk
import Derived.WalkKit
import Derived.Deep.LoopGhost
import Derived.Laws.AppendOwn
namespace Go.Proofs.YtphknicdllcbmaaDoor
open Go Go.RowKit

theorem arr_list (n : Nat) (f : Nat → Value) : arr n f = ((List.range n).map f).toArray := by
  unfold arr
  apply Array.ext_getElem?
  intro i
  by_cases h : i < n <;> simp [h]
end Go.Proofs.YtphknicdllcbmaaDoor
