/-
  The reference's turn of a word, and its list of constants; for every word of 32 bits, in whatever memory.
  The reference's words: plain mathematics, 32 bits in a uint64, against the standard's words. No condition.
  The reference's sum, the innermost loop: four bytes into a word.
  The reference's sum, the schedule's loop.
  The reference's sum, the loop over the rounds of a block.
  The reference's sum, the two short loops: the state behind a block; a state's bytes.
  The reference's list of constants: in whatever memory.
-/
import Derived.Test.YtphknicdllcbmaaDoorProg
import Derived.Test.YtphknicdllcbmaaDoorOps
import Derived.WalkKit
import Derived.WalkSpells
import Derived.WalkLawsBesides
import Derived.Deep.QuietTactic
import Derived.BigQuiet
import Derived.Lib.Hide
import Derived.Test.YtphknicdllcbmaaDoorMath
import Derived.Test.YtphknicdllcbmaaDoorFrame
import Derived.StillTailTactics
import Derived.Outline
namespace Go.Proofs.YtphknicdllcbmaaDoor
open Go Go.RowKit

end Go.Proofs.YtphknicdllcbmaaDoor
namespace Go.Proofs.YtphknicdllcbmaaDoor
open Go

/-- A word of a block, its first c bytes read. -/
def part (b : Nat → UInt8) (i : Nat) : Nat → Nat
  | 0 => 0
  | c + 1 => part b i c * 256 + (b (4 * i + c)).toNat
theorem w_lt64 (x : W32) : x.toNat < 18446744073709551616 := by have := x.isLt; omega
theorem xor6 (x y : W32) : bits .xor .u64 (x.toNat : Int) (y.toNat : Int) = ((xo x y).toNat : Int) := by rw [u64_xor_nat _ _ (w_lt64 x) (w_lt64 y), xo, BitVec.toNat_xor]
theorem and6 (x y : W32) : bits .and .u64 (x.toNat : Int) (y.toNat : Int) = ((an x y).toNat : Int) := by rw [u64_and_nat _ _ (w_lt64 x) (w_lt64 y), an, BitVec.toNat_and]
theorem or6 (x y : W32) : bits .or .u64 (x.toNat : Int) (y.toNat : Int) = ((ro x y).toNat : Int) := by rw [u64_or_nat _ _ (w_lt64 x) (w_lt64 y), ro, BitVec.toNat_or]
theorem not6 (x : W32) : (4294967295 - (x.toNat : Int)) = ((no x).toNat : Int) := by
  have := x.isLt
  rw [no, BitVec.toNat_not]
  omega
theorem not6' (x : W32) : IntKind.u64.wrap (4294967295 - (x.toNat : Int)) = ((no x).toNat : Int) := by
  rw [not6, IntKind.wrap_u64]
  have := (no x).isLt
  omega
end Go.Proofs.YtphknicdllcbmaaDoor
namespace Go.Proofs.YtphknicdllcbmaaDoor
open Go Go.RowKit

end Go.Proofs.YtphknicdllcbmaaDoor
namespace Go.Proofs.YtphknicdllcbmaaDoor
open Go Go.RowKit
attribute [local go_sem] xor6 and6 or6 shr_w3 shr_w10

end Go.Proofs.YtphknicdllcbmaaDoor
namespace Go.Proofs.YtphknicdllcbmaaDoor
open Go Go.RowKit
attribute [local go_sem] xor6 and6 or6 not6 not6'

end Go.Proofs.YtphknicdllcbmaaDoor
namespace Go.Proofs.YtphknicdllcbmaaDoor
open Go Go.RowKit

end Go.Proofs.YtphknicdllcbmaaDoor
namespace Go.Proofs.YtphknicdllcbmaaDoor
open Go Go.RowKit

end Go.Proofs.YtphknicdllcbmaaDoor
