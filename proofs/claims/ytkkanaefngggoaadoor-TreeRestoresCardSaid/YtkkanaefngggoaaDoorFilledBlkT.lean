/-
  The filled-up bytes, cut in blocks of 64, are the standard's blocks.
-/
import Derived.Test.YtkkanaefngggoaaDoorFilledT
namespace Go.Proofs.YtkkanaefngggoaaDoor
open Go Go.RowKit Go.Shelf

theorem filled_length (L : List UInt8) : (filled L).length = 64 * (allBlocks L).length := by
  rw [allBlocks_length]
  unfold filled cntBytes gapZ
  simp only [List.length_append, List.length_cons, List.length_nil, List.length_replicate, List.length_map, List.length_range]
  omega
theorem filled_getD (L : List UInt8) (k : Nat) : (filled L).getD k 0 = if k < L.length then L.getD k 0 else if k = L.length then 128 else if k < L.length + 1 + gapZ L.length then 0 else if k < L.length + 1 + gapZ L.length + 8 then cntByte (L.length * 8) (k - (L.length + 1 + gapZ L.length)) else 0 := by
  unfold filled
  simp only [List.getD_eq_getElem?_getD]
  by_cases h1 : k < L.length
  · rw [if_pos h1, List.getElem?_append_left (by simp; omega), List.getElem?_append_left (by simp; omega), List.getElem?_append_left h1]
  rw [if_neg h1]
  by_cases h2 : k = L.length
  · rw [if_pos h2, List.getElem?_append_left (by simp; omega), List.getElem?_append_left (by simp; omega), List.getElem?_append_right (by omega)]
    subst h2
    simp
  rw [if_neg h2]
  by_cases h3 : k < L.length + 1 + gapZ L.length
  · rw [if_pos h3, List.getElem?_append_left (by simp; omega), List.getElem?_append_right (by simp; omega), List.getElem?_replicate]
    split <;> rfl
  rw [if_neg h3, List.getElem?_append_right (by simp; omega)]
  have e : (L ++ [128] ++ List.replicate (gapZ L.length) (0 : UInt8)).length = L.length + 1 + gapZ L.length := by simp; omega
  rw [e]
  unfold cntBytes
  by_cases h4 : k < L.length + 1 + gapZ L.length + 8
  · rw [if_pos h4, List.getElem?_map, List.getElem?_range (by omega)]
    rfl
  · rw [if_neg h4, List.getElem?_eq_none (by simp; omega)]
    rfl

theorem filled_blk (L : List UInt8) (j i : Nat) (hj : j < (allBlocks L).length) (hi : i < 64) : (filled L).getD (64 * j + i) 0 = ((allBlocks L).getD j (fun _ => 0)) i := by
  have hn := allBlocks_length L
  rw [hn] at hj
  rw [filled_getD]
  obtain ⟨q, hq⟩ : ∃ q, L.length / 64 = q := ⟨_, rfl⟩
  obtain ⟨r, hr⟩ : ∃ r, L.length % 64 = r := ⟨_, rfl⟩
  have hL : L.length = 64 * q + r := by omega
  have hr64 : r < 64 := by omega
  have hg : gapZ L.length = (119 - r) % 64 := by unfold gapZ; rw [hr]
  have hgv : (r < 56 ∧ gapZ L.length = 55 - r) ∨ (56 ≤ r ∧ gapZ L.length = 119 - r) := by rw [hg]; omega
  unfold allBlocks fulls lasts
  have eD : ∀ l : List (Nat → UInt8), l.getD j (fun _ => 0) = l[j]?.getD (fun _ => 0) := fun l => List.getD_eq_getElem?_getD
  rw [hq, hr, eD]
  by_cases h1 : j < q
  · rw [List.getElem?_append_left (by simpa using h1), List.getElem?_map, List.getElem?_range h1, if_pos (by omega)]
    rfl
  rw [List.getElem?_append_right (by simpa using h1)]
  simp only [List.length_map, List.length_range]
  have hfull : ∀ k, fullBlk L q k = L.getD (64 * q + k) 0 := fun k => rfl
  unfold endBlocks
  rcases hgv with ⟨h2, h3⟩ | ⟨h2, h3⟩
  · obtain rfl : j = q := by omega
    rw [if_pos h2, h3]
    simp only [Nat.sub_self, List.getElem?_cons_zero, Option.getD_some]
    unfold tailB headB
    by_cases c1 : i < r
    · rw [if_pos (by omega), if_pos (by omega), if_pos c1, hfull]
    by_cases c2 : i = r
    · rw [if_neg (by omega), if_pos (by omega), if_pos (by omega), if_neg c1, if_pos c2]
    by_cases c3 : i < 56
    · rw [if_neg (by omega), if_neg (by omega), if_pos (by omega), if_pos c3, if_neg c1, if_neg c2]
    · rw [if_neg (by omega), if_neg (by omega), if_neg (by omega), if_pos (by omega), if_neg c3, show 64 * j + i - (L.length + 1 + (55 - r)) = i - 56 from by omega]
  · rw [if_neg (show ¬ r < 56 by omega), h3]
    by_cases hjq : j = q
    · subst hjq
      simp only [Nat.sub_self, List.getElem?_cons_zero, Option.getD_some]
      unfold headB
      by_cases c1 : i < r
      · rw [if_pos (by omega), if_pos c1, hfull]
      by_cases c2 : i = r
      · rw [if_neg (by omega), if_pos (by omega), if_neg c1, if_pos c2]
      · rw [if_neg (by omega), if_neg (by omega), if_pos (by omega), if_neg c1, if_neg c2]
    · obtain rfl : j = q + 1 := by omega
      rw [show q + 1 - q = 1 from by omega]
      simp only [List.getElem?_cons_succ, List.getElem?_cons_zero, Option.getD_some]
      unfold tailB
      by_cases c3 : i < 56
      · rw [if_neg (by omega), if_neg (by omega), if_pos (by omega), if_pos c3]
      · rw [if_neg (by omega), if_neg (by omega), if_neg (by omega), if_pos (by omega), if_neg c3, show 64 * (q + 1) + i - (L.length + 1 + (119 - r)) = i - 56 from by omega]

/-- The bytes of blocks, one behind the other. -/
def row64 (x : Nat → UInt8) : List UInt8 := (List.range 64).map x
def bytesOf (pre : List (Nat → UInt8)) : List UInt8 := pre.flatMap row64
theorem bytesOf_snoc (pre : List (Nat → UInt8)) (x : Nat → UInt8) : bytesOf (pre ++ [x]) = bytesOf pre ++ row64 x := by simp [bytesOf]
theorem bytesOf_length (pre : List (Nat → UInt8)) : (bytesOf pre).length = 64 * pre.length := by
  induction pre with
  | nil => rfl
  | cons x l ih => rw [show bytesOf (x :: l) = row64 x ++ bytesOf l from rfl, List.length_append, ih]; simp [row64]; omega
theorem bytesOf_getD (pre : List (Nat → UInt8)) (j i : Nat) (hj : j < pre.length) (hi : i < 64) : (bytesOf pre).getD (64 * j + i) 0 = (pre.getD j (fun _ => 0)) i := by
  induction pre generalizing j with
  | nil => simp at hj
  | cons x l ih =>
    rw [show bytesOf (x :: l) = row64 x ++ bytesOf l from rfl, List.getD_eq_getElem?_getD]
    have hx : (row64 x).length = 64 := by simp [row64]
    cases j with
    | zero =>
      rw [List.getElem?_append_left (by omega)]
      simp [row64, hi]
    | succ j =>
      rw [List.getElem?_append_right (by omega), hx, show 64 * (j + 1) + i - 64 = 64 * j + i from by omega, ← List.getD_eq_getElem?_getD, ih j (by simpa using hj)]
      rfl
theorem bytesOf_pre (L : List UInt8) (pre : List (Nat → UInt8)) (hp : pre <+: allBlocks L) : bytesOf pre = (filled L).take (64 * pre.length) := by
  have hlen := hp.length_le
  refine List.ext_getElem? fun k => ?_
  by_cases hk : k < 64 * pre.length
  · have e1 := bytesOf_getD pre (k / 64) (k % 64) (by omega) (by omega)
    have e2 := filled_blk L (k / 64) (k % 64) (by omega) (by omega)
    rw [show 64 * (k / 64) + k % 64 = k from by omega] at e1 e2
    have e3 : (allBlocks L).getD (k / 64) (fun _ => 0) = pre.getD (k / 64) (fun _ => 0) := by
      obtain ⟨t, ht⟩ := hp
      rw [← ht, List.getD_eq_getElem?_getD, List.getElem?_append_left (by omega), ← List.getD_eq_getElem?_getD]
    rw [e3] at e2
    rw [List.getElem?_take, if_pos hk]
    have l1 : k < (bytesOf pre).length := by rw [bytesOf_length]; exact hk
    have l2 : k < (filled L).length := by rw [filled_length]; omega
    rw [List.getD_eq_getElem?_getD, List.getElem?_eq_getElem l1] at e1
    rw [List.getD_eq_getElem?_getD, List.getElem?_eq_getElem l2] at e2
    rw [List.getElem?_eq_getElem l1, List.getElem?_eq_getElem l2]
    exact congrArg some (e1.trans e2.symm)
  · rw [List.getElem?_eq_none (by rw [bytesOf_length]; omega), List.getElem?_eq_none (by rw [List.length_take]; omega)]
theorem bytesOf_all (L : List UInt8) : bytesOf (allBlocks L) = filled L := by
  rw [bytesOf_pre L _ (List.prefix_refl _), ← filled_length, List.take_length]
end Go.Proofs.YtkkanaefngggoaaDoor
