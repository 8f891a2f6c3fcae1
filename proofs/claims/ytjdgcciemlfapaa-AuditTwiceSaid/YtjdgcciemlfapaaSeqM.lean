/-
  A range over a function whose body writes memory of its own that may move (a slice that is appended to): what the body may write is a set of blocks that goes with the caller's invariant; the iterator's own blocks lie outside of it. The iterator's contract ('SeqM': the elements are known, in order, their values by a relation) and the law for the caller. No condition.
-/
import Derived.Test.YtjdgcciemlfapaaSeq
namespace Go.Proofs.Ytjdgcciemlfapaa
open Go Go.RowKit

/-- What may be written goes on: nothing of what others made meanwhile. -/
def Goes (o o' : Nat → Prop) (W : World) : Prop := ∀ b, o' b → o b ∨ W.heap.size ≤ b

def ownPostM {α : Type} (B : Nat) (o : Nat → Prop) (I : List α → (Nat → Prop) → World → Prop) (Ix : Code → List α → (Nat → Prop) → World → Prop) (xs : List α) (W : World) : Exit → Act → World → Prop
  | .normal, _, W' => KeepsFrom B W W' ∧ Keep o W W' ∧ ∃ o', I xs o' W' ∧ Goes o o' W
  | .ret, _, W' => KeepsFrom B W W' ∧ ∃ o', Ix .ret xs o' W'
  | .exit id, _, W' => KeepsFrom B W W' ∧ ∃ o', Ix (.exit id) xs o' W'
  | .goto t, _, W' => KeepsFrom B W W' ∧ ∃ o', Ix (.goto t) xs o' W'
  | .panic _, _, _ => False
  | .outgrown, _, _ => False

variable {P : Program}
end Go.Proofs.Ytjdgcciemlfapaa
