/-
  One's way to agreement, as plain mathematics: who is locked votes early for nothing else, unless that is sure. Nothing here speaks of the program. No condition.
-/
import Derived.Test.YtclhfokflagopaaRndMQuiet
namespace Go.Proofs.Ytclhfokflagopaa
open Go Go.RowKit Go.Maps

theorem putT_bad {n : Int} {V : Vt} {r k q : Int} {id : List UInt8} (h : putCode n V r k q id ≠ 0) : putT n V r k q id = V := by
  unfold putT
  rw [if_neg]
  rintro ⟨h1, h2⟩
  unfold putCode at h
  rw [h1, h2] at h
  simp at h
end Go.Proofs.Ytclhfokflagopaa
