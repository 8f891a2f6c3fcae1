/-
  math/bits.RotateLeft32 by a negative number of bits is the turn to the right; for every word, in whatever memory.
-/
import Derived.Test.YtphknicdllcbmaaDoorProg
import Derived.Test.YtphknicdllcbmaaDoorMath
import Derived.WalkKit
import Derived.WalkSpells
import Derived.WalkLawsBesides
namespace Go.Proofs.YtphknicdllcbmaaDoor
open Go Go.RowKit
set_option maxHeartbeats 400000 in
theorem rot_any (x : W32) (k : Int) (n m : Nat) (w : World) (h0 : bits BinOp.and IntKind.u64 (IntKind.u64.wrap k) 31 = (m : Int)) (hm : m + n = 32) (hn : n ≤ 31) :
    Calls Tryd.prog 58 #[.int .u32 (x.toNat : Int), .int .i64 k] w fun e w' => e = .returned (.int .u32 ((rr x n).toNat : Int)) ∧ w = w' := by
  have h1 : IntKind.u64.wrap (32 - (m : Int)) = (n : Int) := by
    rw [IntKind.wrap_u64]; omega
  have h2 : bits .or .u32 ((x.toNat : Int) * 2 ^ m % 4294967296) ((x.toNat : Int) / 2 ^ n) = ((rr x n).toNat : Int) := rot_w x m n hm hn
  go_enter Tryd.func58, Tryd.ntmps58
  go_wp2
  go_ret
  exact ⟨rfl, rfl⟩
/-- For each of the numbers of bits that the program asks for. -/
theorem rot_at (n : Nat) (h0 : 1 ≤ n) (h1 : n ≤ 31) (x : W32) (w : World) :
    Calls Tryd.prog 58 #[.int .u32 (x.toNat : Int), .int .i64 (-(n : Int))] w fun e w' => e = .returned (.int .u32 ((rr x n).toNat : Int)) ∧ w = w' := by
  refine rot_any x _ n (32 - n) w ?_ (by omega) h1
  obtain rfl | rfl | rfl | rfl | rfl | rfl | rfl | rfl | rfl | rfl | rfl | rfl | rfl | rfl | rfl | rfl | rfl | rfl | rfl | rfl | rfl | rfl | rfl | rfl | rfl | rfl | rfl | rfl | rfl | rfl | rfl : n = 1 ∨ n = 2 ∨ n = 3 ∨ n = 4 ∨ n = 5 ∨ n = 6 ∨ n = 7 ∨ n = 8 ∨ n = 9 ∨ n = 10 ∨ n = 11 ∨ n = 12 ∨ n = 13 ∨ n = 14 ∨ n = 15 ∨ n = 16 ∨ n = 17 ∨ n = 18 ∨ n = 19 ∨ n = 20 ∨ n = 21 ∨ n = 22 ∨ n = 23 ∨ n = 24 ∨ n = 25 ∨ n = 26 ∨ n = 27 ∨ n = 28 ∨ n = 29 ∨ n = 30 ∨ n = 31 := by omega
  all_goals decide
theorem rot_k (x : W32) (k : Int) (hk : -31 ≤ k ∧ k ≤ -1) (w : World) :
    Calls Tryd.prog 58 #[.int .u32 (x.toNat : Int), .int .i64 k] w fun e w' => e = .returned (.int .u32 ((rr x (-k).toNat).toNat : Int)) ∧ w = w' := by
  obtain ⟨n, rfl⟩ : ∃ n : Nat, k = -(n : Int) := ⟨(-k).toNat, by omega⟩
  have := rot_at n (by omega) (by omega) x w
  simpa using this
end Go.Proofs.YtphknicdllcbmaaDoor
