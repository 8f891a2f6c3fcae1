/-
  A row of bytes of the call's own that may bear the run-time's mark behind its last cell (what '[]byte(s)' makes): appends onto it, whether there is room or not; it as a string. No condition of its own.
  How many blocks bytes have; make of bytes. No condition.
  The reference's filled-up string: for every string of at most 2^40 bytes, in whatever memory.
  The filled-up bytes, cut in blocks of 64, are the standard's blocks.
  The reference's sum of a string: the standard's, for every string of at most 2^40 bytes, in whatever memory.
  The reference's Text, For, Leaf and Node: for whatever sums, texts and lists of texts, in whatever memory.
  The reference's Leaf and Node: for whatever text, whatever two sums, in whatever memory.
-/
import Derived.Test.YtphknicdllcbmaaDoorRd
import Derived.Test.YtphknicdllcbmaaDoorStrT
import Derived.Deep.AppendSrc
import Derived.Deep.MidRow
import Derived.Deep.Upon
import Derived.Lib.SlBuf
import Derived.Deep.DeepAppendWide
import Derived.Test.YtphknicdllcbmaaDoorOfT
import Derived.Test.YtphknicdllcbmaaDoorRefSha
import Derived.Deep.AppendLies
import Derived.Test.YtphknicdllcbmaaDoorLeafT
import Derived.Deep.RegionLaw
namespace Go.Proofs.YtphknicdllcbmaaDoor
open Go Go.RowKit

variable {P : Program}
section
variable {F : Fence} {n : Nat} {P : Program} {ops : Array Oper} {rest : List Oper} {o : Oper} {a : Act} {w : World} {Q : Exit → Act → World → Prop}
end
end Go.Proofs.YtphknicdllcbmaaDoor
namespace Go.Proofs.YtphknicdllcbmaaDoor
open Go Go.RowKit Go.Shelf

end Go.Proofs.YtphknicdllcbmaaDoor
namespace Go.Proofs.YtphknicdllcbmaaDoor
open Go Go.RowKit Go.Shelf
attribute [local go_sem] Oper.semAt_some

/-- How many zeros stand between the 128 and the count. -/
def gapZ (n : Nat) : Nat := (119 - n % 64) % 64
def cntBytes (c : Nat) : List UInt8 := (List.range 8).map (cntByte c)
def filled (L : List UInt8) : List UInt8 := L ++ [128] ++ List.replicate (gapZ L.length) 0 ++ cntBytes (L.length * 8)

end Go.Proofs.YtphknicdllcbmaaDoor
namespace Go.Proofs.YtphknicdllcbmaaDoor
open Go Go.RowKit Go.Shelf

end Go.Proofs.YtphknicdllcbmaaDoor
namespace Go.Proofs.YtphknicdllcbmaaDoor
open Go Go.RowKit

end Go.Proofs.YtphknicdllcbmaaDoor
namespace Go.Proofs.YtphknicdllcbmaaDoor
open Go Go.RowKit Go.Shelf

end Go.Proofs.YtphknicdllcbmaaDoor
namespace Go.Proofs.YtphknicdllcbmaaDoor
open Go Go.RowKit Go.Shelf

end Go.Proofs.YtphknicdllcbmaaDoor
