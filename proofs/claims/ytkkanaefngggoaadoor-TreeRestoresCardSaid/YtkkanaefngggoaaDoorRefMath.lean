/-
  The reference's words: plain mathematics, 32 bits in a uint64, against the standard's words. No condition.
-/
import Derived.Test.YtkkanaefngggoaaDoorMath
namespace Go.Proofs.YtkkanaefngggoaaDoor
open Go

/-- A word of a block, its first c bytes read. -/
def part (b : Nat → UInt8) (i : Nat) : Nat → Nat
  | 0 => 0
  | c + 1 => part b i c * 256 + (b (4 * i + c)).toNat
theorem part_lt (b : Nat → UInt8) (i c : Nat) : part b i c < 256 ^ c := by
  induction c with
  | zero => simp [part]
  | succ c ih =>
    have := (b (4 * i + c)).toNat_lt
    rw [part, Nat.pow_succ]
    omega
theorem part_lt4 (b : Nat → UInt8) (i c : Nat) (h : c ≤ 4) : part b i c < 4294967296 :=
  Nat.lt_of_lt_of_le (part_lt b i c) (Nat.le_trans (Nat.pow_le_pow_right (by omega) h) (by decide))
theorem part_lt3 (b : Nat → UInt8) (i c : Nat) (h : c < 4) : part b i c < 16777216 :=
  Nat.lt_of_lt_of_le (part_lt b i c) (Nat.le_trans (Nat.pow_le_pow_right (by omega) (show c ≤ 3 by omega)) (by decide))
theorem or_add (a b n : Nat) (h : b < 2 ^ n) : a <<< n ||| b = a * 2 ^ n + b := by
  rw [← Nat.shiftLeft_add_eq_or_of_lt h, Nat.shiftLeft_eq]
theorem part_word (b : Nat → UInt8) (i : Nat) : part b i 4 = (word b i).toNat := by
  have h0 := (b (4 * i)).toNat_lt
  have h1 := (b (4 * i + 1)).toNat_lt
  have h2 := (b (4 * i + 2)).toNat_lt
  have h3 := (b (4 * i + 3)).toNat_lt
  simp only [part, word, ro, sl, BitVec.toNat_or, BitVec.toNat_shiftLeft, w8_toNat, Nat.add_zero]
  generalize (b (4 * i)).toNat = x0 at *
  generalize (b (4 * i + 1)).toNat = x1 at *
  generalize (b (4 * i + 2)).toNat = x2 at *
  generalize (b (4 * i + 3)).toNat = x3 at *
  rw [Nat.mod_eq_of_lt (show x0 <<< 24 < 2 ^ 32 by rw [Nat.shiftLeft_eq]; omega), Nat.mod_eq_of_lt (show x1 <<< 16 < 2 ^ 32 by rw [Nat.shiftLeft_eq]; omega), Nat.mod_eq_of_lt (show x2 <<< 8 < 2 ^ 32 by rw [Nat.shiftLeft_eq]; omega)]
  rw [or_add x0 (x1 <<< 16) 24 (by rw [Nat.shiftLeft_eq]; omega), Nat.shiftLeft_eq x1]
  rw [show x0 * 2 ^ 24 + x1 * 2 ^ 16 = (x0 * 256 + x1) <<< 16 from by rw [Nat.shiftLeft_eq]; omega, or_add _ (x2 <<< 8) 16 (by rw [Nat.shiftLeft_eq]; omega), Nat.shiftLeft_eq x2]
  rw [show (x0 * 256 + x1) * 2 ^ 16 + x2 * 2 ^ 8 = ((x0 * 256 + x1) * 256 + x2) <<< 8 from by rw [Nat.shiftLeft_eq]; omega, or_add _ x3 8 (by omega)]
  omega

theorem w_lt (x : W32) : ((x.toNat : Nat) : Int) < 4294967296 := by have := x.isLt; omega
theorem w_lt64 (x : W32) : x.toNat < 18446744073709551616 := by have := x.isLt; omega
theorem xor6 (x y : W32) : bits .xor .u64 (x.toNat : Int) (y.toNat : Int) = ((xo x y).toNat : Int) := by rw [u64_xor_nat _ _ (w_lt64 x) (w_lt64 y), xo, BitVec.toNat_xor]
theorem and6 (x y : W32) : bits .and .u64 (x.toNat : Int) (y.toNat : Int) = ((an x y).toNat : Int) := by rw [u64_and_nat _ _ (w_lt64 x) (w_lt64 y), an, BitVec.toNat_and]
theorem or6 (x y : W32) : bits .or .u64 (x.toNat : Int) (y.toNat : Int) = ((ro x y).toNat : Int) := by rw [u64_or_nat _ _ (w_lt64 x) (w_lt64 y), ro, BitVec.toNat_or]
theorem not6 (x : W32) : (4294967295 - (x.toNat : Int)) = ((no x).toNat : Int) := by
  have := x.isLt
  rw [no, BitVec.toNat_not]
  omega
theorem not6' (x : W32) : IntKind.u64.wrap (4294967295 - (x.toNat : Int)) = ((no x).toNat : Int) := by
  rw [not6, IntKind.wrap_u64]
  have := (no x).isLt
  omega
theorem ch_eq (e f g : W32) : ro (an e f) (an (no e) g) = xo (an e f) (an (no e) g) := by
  unfold ro an no xo
  apply BitVec.eq_of_getLsbD_eq
  intro i hi
  simp only [BitVec.getLsbD_or, BitVec.getLsbD_xor, BitVec.getLsbD_and, BitVec.getLsbD_not, hi, decide_true, Bool.true_and]
  cases e.getLsbD i <;> simp
theorem maj_eq (a b c : W32) : ro (ro (an a b) (an a c)) (an b c) = xo (xo (an a b) (an a c)) (an b c) := by
  unfold ro an xo
  apply BitVec.eq_of_getLsbD_eq
  intro i hi
  simp only [BitVec.getLsbD_or, BitVec.getLsbD_xor, BitVec.getLsbD_and]
  cases a.getLsbD i <;> cases b.getLsbD i <;> cases c.getLsbD i <;> rfl
theorem add4 (a b c d : W32) : ((a.toNat : Int) + (b.toNat : Int) + (c.toNat : Int) + (d.toNat : Int)) % 4294967296 = ((ad (ad (ad a b) c) d).toNat : Int) := by
  simp only [ad, BitVec.toNat_add]
  omega
theorem add2 (a b : W32) : ((a.toNat : Int) + (b.toNat : Int)) % 4294967296 = ((ad a b).toNat : Int) := by
  simp only [ad, BitVec.toNat_add]
  omega
/-- What the reference calls one and two, unreduced. -/
theorem one_two (s : St) (k w : W32) : ((s.h.toNat : Int) + ((big1 s.e).toNat : Int) + ((ro (an s.e s.f) (an (no s.e) s.g)).toNat : Int) + (k.toNat : Int) + (w.toNat : Int) + (((big0 s.a).toNat : Int) + ((ro (ro (an s.a s.b) (an s.a s.c)) (an s.b s.c)).toNat : Int))) % 4294967296 = ((step s k w).a.toNat : Int) := by
  rw [ch_eq, maj_eq]
  simp only [step, stepOne, stepTwo, ad, BitVec.toNat_add]
  omega
theorem three_one (s : St) (k w : W32) : ((s.d.toNat : Int) + ((s.h.toNat : Int) + ((big1 s.e).toNat : Int) + ((ro (an s.e s.f) (an (no s.e) s.g)).toNat : Int) + (k.toNat : Int) + (w.toNat : Int))) % 4294967296 = ((step s k w).e.toNat : Int) := by
  rw [ch_eq]
  simp only [step, stepOne, stepTwo, ad, BitVec.toNat_add]
  omega
theorem id_w (x : W32) (n : Nat) : IntKind.u8.wrap (((x.toNat : Int) / 2 ^ n) % 256) = ((byteOf x n).toNat : Int) := by
  rw [IntKind.wrap_u8']
  unfold byteOf
  simp
end Go.Proofs.YtkkanaefngggoaaDoor
