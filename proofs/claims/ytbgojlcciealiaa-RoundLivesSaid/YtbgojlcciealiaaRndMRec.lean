/-
  One's way to agreement, as plain mathematics: who recalls all acts of before is locked, and has voted, as then; what is voted for is never voted for again. Nothing here speaks of the program. No condition.
-/
import Derived.Test.YtbgojlcciealiaaRndMLocks
namespace Go.Proofs.Ytbgojlcciealiaa
open Go Go.RowKit Go.Maps

theorem putT_new {n : Int} {V : Vt} {r k q : Int} {id : List UInt8} (h : putCode n V r k q id = 0) : putT n V r k q id r k q = some id := by
  unfold putCode at h
  unfold putT
  have h1 : okPut n r k q id = true := Classical.byContradiction fun e => by
    have e' : okPut n r k q id = false := by cases hq : okPut n r k q id with | true => exact absurd hq e | false => rfl
    rw [if_pos e'] at h
    cases h
  have h2 : (V r k q).isSome = false := Classical.byContradiction fun e => by
    have e' : (V r k q).isSome = true := by cases hq : (V r k q).isSome with | true => rfl | false => exact absurd hq e
    rw [if_neg (by rw [h1]; decide), if_pos e'] at h
    cases h
  rw [if_pos ⟨h1, h2⟩]
  unfold putC
  rw [if_pos ⟨rfl, rfl, rfl⟩]
end Go.Proofs.Ytbgojlcciealiaa
