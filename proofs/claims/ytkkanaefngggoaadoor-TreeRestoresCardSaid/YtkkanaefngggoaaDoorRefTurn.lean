/-
  The reference's turn of a word, and its list of constants; for every word of 32 bits, in whatever memory.
-/
import Derived.Test.YtkkanaefngggoaaDoorProg
import Derived.Test.YtkkanaefngggoaaDoorOps
import Derived.WalkKit
import Derived.WalkSpells
import Derived.WalkLawsBesides
import Derived.Deep.QuietTactic
import Derived.BigQuiet
import Derived.Lib.Hide
namespace Go.Proofs.YtkkanaefngggoaaDoor
open Go Go.RowKit

/-- A word as the reference has it: 32 bits in a uint64. -/
def u6 (x : W32) : Value := .int .u64 (x.toNat : Int)

theorem turn_w (x : W32) (n : Nat) (h0 : 1 ≤ n) (h1 : n ≤ 31) : (bits .or .u64 ((x.toNat : Int) / 2 ^ n) (IntKind.u64.wrap ((x.toNat : Int) * 2 ^ (32 - n)))).tmod 4294967296 = ((rr x n).toNat : Int) := by
  have hx := x.isLt
  have e1 : ((x.toNat : Int) / 2 ^ n) = ((x.toNat / 2 ^ n : Nat) : Int) := by simp
  have hle : x.toNat * 2 ^ (32 - n) < 18446744073709551616 := by
    have h2 : 2 ^ (32 - n) ≤ 2 ^ 31 := Nat.pow_le_pow_right (by omega) (by omega)
    have h3 : x.toNat * 2 ^ (32 - n) ≤ 4294967295 * 2 ^ 31 := Nat.mul_le_mul (by omega) h2
    omega
  have e2 : IntKind.u64.wrap ((x.toNat : Int) * 2 ^ (32 - n)) = ((x.toNat * 2 ^ (32 - n) : Nat) : Int) := by
    rw [IntKind.wrap_u64]
    have : ((x.toNat : Int) * 2 ^ (32 - n)) = ((x.toNat * 2 ^ (32 - n) : Nat) : Int) := by simp
    rw [this]
    omega
  have hd : x.toNat / 2 ^ n < 18446744073709551616 := Nat.lt_of_le_of_lt (Nat.div_le_self _ _) (by omega)
  rw [e1, e2, u64_or_nat _ _ hd hle, Int.tmod_eq_emod_of_nonneg (by omega)]
  have e3 : ((((x.toNat / 2 ^ n) ||| (x.toNat * 2 ^ (32 - n)) : Nat) : Int) % 4294967296) = ((((x.toNat / 2 ^ n) ||| (x.toNat * 2 ^ (32 - n))) % 4294967296 : Nat) : Int) := by simp
  rw [e3]
  congr 1
  rw [rr, BitVec.rotateRight_def, Nat.mod_eq_of_lt (by omega : n < 32), BitVec.toNat_or, BitVec.toNat_ushiftRight, BitVec.toNat_shiftLeft, Nat.shiftRight_eq_div_pow, Nat.shiftLeft_eq]
  rw [show (4294967296 : Nat) = 2 ^ 32 from rfl, Nat.or_mod_two_pow]
  congr 1
  exact Nat.mod_eq_of_lt (Nat.lt_of_le_of_lt (Nat.div_le_self _ _) (by omega))

set_option maxHeartbeats 400000 in
theorem turn_any (x : W32) (n : Nat) (h0 : 1 ≤ n) (h1 : n ≤ 31) (w : World) :
    Calls Tryd.prog 65 #[.int .u64 (x.toNat : Int), .int .i64 (n : Int)] w fun e w' => e = .returned (.int .u64 ((rr x n).toNat : Int)) ∧ ∃ k, w' = w.drewN k := by
  have hw := turn_w x n h0 h1
  have e1 : IntKind.i64.wrap (32 - (n : Int)) = ((32 - n : Nat) : Int) := by rw [IntKind.wrap_i64]; omega
  go_enter Tryd.func65, Tryd.ntmps65
  go_wp2
  go_quiet (fail)
  go_wp2
  go_ret
  exact ⟨rfl, _, rfl⟩
theorem turn_k (x : W32) (k : Int) (h0 : 1 ≤ k) (h1 : k ≤ 31) (w : World) :
    Calls Tryd.prog 65 #[.int .u64 (x.toNat : Int), .int .i64 k] w fun e w' => e = .returned (.int .u64 ((rr x k.toNat).toNat : Int)) ∧ ∃ n, w' = w.drewN n := by
  obtain ⟨n, rfl⟩ := Int.eq_ofNat_of_zero_le (show 0 ≤ k by omega)
  exact turn_any x n (by omega) (by omega) w
end Go.Proofs.YtkkanaefngggoaaDoor
