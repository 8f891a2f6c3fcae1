/-
  Plain mathematics for the sums: SHA-256 on words of 32 bits, written over functions from places to words; nothing here speaks of the program. No condition.
-/
import Derived.Laws.BitsAllLaws
import Derived.Laws.World
import Derived.Laws.Rows
namespace Go.Proofs.Ytalacjmcllfdhaa
open Go

abbrev W32 := BitVec 32
/-- A word, a byte, as values. -/
def u (x : W32) : Value := .int .u32 (x.toNat : Int)
def bv (b : UInt8) : Value := .int .u8 (b.toNat : Int)

/-- An array of n places. -/
def arr (n : Nat) (f : Nat → Value) : Array Value := (Array.range n).map f
theorem arr_get (n : Nat) (f : Nat → Value) (i : Nat) : (arr n f)[i]? = if i < n then some (f i) else none := by
  unfold arr
  by_cases h : i < n
  · simp [h]
  · simp [h]
theorem arr_size (n : Nat) (f : Nat → Value) : (arr n f).size = n := by simp [arr]
theorem arr_set (n : Nat) (f : Nat → Value) (k : Nat) (v : Value) (hk : k < n) : (arr n f).setIfInBounds k v = arr n (fun i => if i = k then v else f i) := by
  apply Array.ext_getElem?
  intro i
  rw [Array.getElem?_setIfInBounds, arr_get, arr_get, arr_size]
  by_cases hi : k = i
  · subst hi; simp [hk]
  · have : ¬ i = k := fun e => hi e.symm
    simp [hi, this]
theorem arr_of (n : Nat) (a : Array Value) (f : Nat → Value) (hs : a.size = n) (h : ∀ i, i < n → a[i]? = some (f i)) : a = arr n f := by
  apply Array.ext_getElem?
  intro i
  rw [arr_get]
  by_cases hi : i < n
  · simp [hi, h i hi]
  · simp [hi]; omega

/-! ### Operations on words, each under a name that simp does not open; the walk's spellings of them -/
def an (x y : W32) : W32 := x &&& y
def ro (x y : W32) : W32 := x ||| y
def ad (x y : W32) : W32 := x + y
def sl (x : W32) (n : Nat) : W32 := x <<< n
/-! ### The rounds of a block -/
/-! ### The schedule of a block -/
def w8 (b : UInt8) : W32 := BitVec.ofNat 32 b.toNat
/-- The word at a place of a block's bytes. -/
def word (b : Nat → UInt8) (i : Nat) : W32 := ro (ro (ro (sl (w8 (b (4 * i))) 24) (sl (w8 (b (4 * i + 1))) 16)) (sl (w8 (b (4 * i + 2))) 8)) (w8 (b (4 * i + 3)))
/-! ### The last blocks -/
/-! ### Parts, one behind the other; the blocks of bytes -/
def pos (ps : List (List UInt8)) (k : Nat) : Nat := (ps.take k).flatten.length
/-! ### The sum -/
end Go.Proofs.Ytalacjmcllfdhaa
