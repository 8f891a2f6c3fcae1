/-
  A great frame as a function from places to values, for a loop's relation: no letters for what nobody reads. No condition.
-/
import Derived.Test.YtjdgcciemlfapaaBlk
import Derived.WalkKit
import Derived.Deep.LoopGhost
import Derived.Laws.AppendOwn
namespace Go.Proofs.Ytjdgcciemlfapaa
open Go Go.RowKit

theorem arr_list (n : Nat) (f : Nat → Value) : arr n f = ((List.range n).map f).toArray := by
  unfold arr
  apply Array.ext_getElem?
  intro i
  by_cases h : i < n <;> simp [h]
theorem arr_getD (xs : Array Value) {n : Nat} (h : xs.size = n) : xs = arr n (fun i => xs.getD i undef) :=
  arr_of n xs _ h fun i hi => by simp [Array.getD_eq_getD_getElem?, Array.getElem?_eq_getElem (show i < xs.size by omega)]
end Go.Proofs.Ytjdgcciemlfapaa
