/-
  The iterator over a message's fields: for every message that can be written, in whatever memory, whatever the loop's body does without writing what the iterator reads: the fields that aren't empty come in order, each as its tag and a slice that reads as its bytes; a body may leave.
-/
import Derived.Test.YtjdgcciemlfapaaPackCheck
import Derived.Test.YtjdgcciemlfapaaPackKit
import Derived.Test.YtjdgcciemlfapaaOps
import Derived.Test.YtjdgcciemlfapaaFrame
import Derived.Test.YtjdgcciemlfapaaRd
import Derived.Test.YtjdgcciemlfapaaPackID
import Derived.Deep.DeepMust
import Derived.Test.YtjdgcciemlfapaaSeqM
import Derived.Deep.RegionHeld3
import Derived.Shelf.Abstract
import Derived.Shelf.RegionOpen
import Derived.TacticsInMore
import Derived.LoopNIn
import Derived.LoopIn
import Derived.Deep.RegionWith
namespace Go.Proofs.Ytjdgcciemlfapaa
open Go Go.RowKit PackMath
set_option linter.unusedSimpArgs false

/-- The slices in the iterator's variable read as the fields; none of them lies where the body may write. -/
def Runs (wr : World) (o : Nat → Prop) (fv : Nat → Value) (ps : List (List UInt8)) : Prop := ∀ k, k < 10 → RdB wr (fun b => b < wr.heap.size ∧ ¬ o b) (fv k) (ps.getD k [])
end Go.Proofs.Ytjdgcciemlfapaa
