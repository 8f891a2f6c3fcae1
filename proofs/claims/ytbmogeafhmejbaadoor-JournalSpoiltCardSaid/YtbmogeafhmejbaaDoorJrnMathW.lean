/-
  Layer 10: what is there again of a record that was written when the power went. Mathematics; no condition.
-/
import Derived.Test.YtbmogeafhmejbaaDoorJrnLawG
namespace Go.Proofs.YtbmogeafhmejbaaDoor
open Go Go.RowKit

/-- A slab on which all is sure. -/
def sF (n : Nat) (l : List (List UInt8)) : SlabS := sL n l (recsT zeroD l).length
end Go.Proofs.YtbmogeafhmejbaaDoor
