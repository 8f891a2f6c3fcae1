/-
  One's way to agreement, as plain mathematics: who is locked votes early for nothing else, unless that is sure. Nothing here speaks of the program. No condition.
-/
import Derived.Test.YtbgojlcciealiaaRndMQuiet
namespace Go.Proofs.Ytbgojlcciealiaa
open Go Go.RowKit Go.Maps

theorem putT_far {n : Int} {V : Vt} {r k q : Int} {id : List UInt8} {r' k' q' : Int} (h : ¬ (r' = r ∧ k' = k ∧ q' = q)) : putT n V r k q id r' k' q' = V r' k' q' := by
  unfold putT
  split
  · unfold putC
    rw [if_neg h]
  · rfl
end Go.Proofs.Ytbgojlcciealiaa
