/-
  pack.appendRun once more: behind a row of the call's own, with what else may lie about: nothing but the row and new memory turns. For every run shorter than 2^24.
-/
import Derived.Test.YtjdgcciemlfapaaRd
import Derived.Test.YtjdgcciemlfapaaPackKit
import Derived.Deep.DeepMust
namespace Go.Proofs.Ytjdgcciemlfapaa
open Go Go.RowKit PackMath

theorem grown_trans {w w1 w2 : World} {row row1 : Option Nat} (h : w.grownBy w1 row) (k : w1.grownBy w2 row1) (hr : row1 = row ∨ ∀ b, row1 = some b → w.heap.size ≤ b) : w.grownBy w2 row :=
  ⟨k.os.trans h.os, k.tape.trans h.tape, k.output.trans h.output, Nat.le_trans h.size k.size, fun b hb hne => (k.block b (Nat.lt_of_lt_of_le hb h.size) (by
    rcases hr with rfl | hr
    · exact hne
    · intro e
      have := hr b e.symm
      omega)).trans (h.block b hb hne)⟩
theorem grown_alloc (w : World) (o : Obj) (row : Option Nat) : w.grownBy (w.alloc o) row := ⟨rfl, rfl, rfl, by simp, fun b hb _ => Below.heap_alloc w o b hb⟩
end Go.Proofs.Ytjdgcciemlfapaa
