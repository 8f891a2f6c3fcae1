/-
  Layer 10: what is there again of a record that was written when the power went. Mathematics; no condition.
-/
import Derived.Test.YtbfapabjglipoaaDoorJrnLawG
namespace Go.Proofs.YtbfapabjglipoaaDoor
open Go Go.RowKit

theorem cut_ever (n : Nat) (bs : List UInt8) (sure k : Nat) (hk : k ≤ bs.length) : (SlabS.mk n bs sure (-1)).cut (k : Int) = (⟨n, bs.take k, min sure k, -1⟩, 0) := by
  unfold SlabS.cut
  rw [if_neg (show ¬ ((k : Int) < 0 ∨ (bs.length : Int) < (k : Int)) by omega), if_neg (show ¬ (-1 : Int) = 0 by decide), decP_neg (show (-1 : Int) < 0 by decide), Int.toNat_natCast]
/-- What is there again of records and a part of one more. -/
theorem open_part (n : Nat) (l : List (List UInt8)) (d : List UInt8) (m sure : Nat) (hl : ∀ x ∈ l, x.length < 16777216) (hd : d.length < 16777216) (hm : m ≤ 35 + d.length) :
    ∃ l1 sure1, (l1 = l ∨ l1 = l ++ [d]) ∧ (m = 35 + d.length → l1 = l ++ [d]) ∧ openJ ⟨n, recsT zeroD l ++ (recB (lastT zeroD l) d).take m, sure, -1⟩ = (some (jL l1), sL n l1 sure1, 0) := by
  by_cases hf : m = 35 + d.length
  · refine ⟨l ++ [d], sure, .inr rfl, fun _ => rfl, ?_⟩
    rw [hf, List.take_of_length_le (by rw [recB_length]; omega), ← recsT_snoc]
    exact openJ_all n (l ++ [d]) sure (-1) (fun x hx => by
      rcases List.mem_append.1 hx with hx | hx
      · exact hl x hx
      · rw [List.mem_singleton.1 hx]
        exact hd)
  · have hr : readJ zeroD (recsT zeroD l ++ (recB (lastT zeroD l) d).take m) = (l, lastT zeroD l, (recB (lastT zeroD l) d).take m, 20) := by
      rw [readJ_recs _ l zeroD hl, readJ_part _ d hd m (by omega), List.append_nil]
    have hlen : ((recB (lastT zeroD l) d).take m).length = m := by rw [List.length_take, recB_length]; omega
    by_cases h0 : m = 0
    · refine ⟨l, sure, .inl rfl, fun h => absurd h hf, ?_⟩
      unfold openJ
      rw [hr]
      dsimp only
      rw [if_neg (by decide), if_pos (by rw [hlen]; exact h0), h0, List.take_zero, List.append_nil]
      rfl
    · refine ⟨l, min sure (recsT zeroD l).length, .inl rfl, fun h => absurd h hf, ?_⟩
      have e : (recsT zeroD l ++ (recB (lastT zeroD l) d).take m).length - ((recB (lastT zeroD l) d).take m).length = (recsT zeroD l).length := by rw [List.length_append]; omega
      unfold openJ
      rw [hr]
      dsimp only
      rw [if_neg (by decide), if_neg (by rw [hlen]; exact h0), e, cut_ever _ _ _ _ (by rw [List.length_append]; omega), take_app _ _ _ rfl, if_pos rfl]
      rfl
/-- A slab on which all is sure. -/
def sF (n : Nat) (l : List (List UInt8)) : SlabS := sL n l (recsT zeroD l).length
theorem left_full (bs : List UInt8) (n : Nat) (p keep : Int) : (SlabS.mk n bs bs.length p).left keep = bs.length := by
  unfold SlabS.left
  dsimp only
  omega
theorem write_crash (n : Nat) (l : List (List UInt8)) (d : List UInt8) (p keep : Int) (hd : d.length ≤ 262144) (h : (recsT zeroD l).length + 35 + d.length ≤ n) :
    ∃ m sure, ((writeJ (jL l) ((sF n l).brk p) d).2.1).crash keep = ⟨n, recsT zeroD l ++ (recB (lastT zeroD l) d).take m, sure, -1⟩ ∧ m ≤ 35 + d.length ∧ (p < 0 ∨ 1 < p → m = 35 + d.length) := by
  have hslab : (writeJ (jL l) ((sF n l).brk p) d).2.1 = (((sF n l).brk p).lay (recB (lastT zeroD l) d)).1 := by
    unfold writeJ
    rw [if_neg (show ¬ (jL l).down = true from by show ¬ (false = true); decide), if_neg (by omega)]
    split
    · rfl
    · split <;> rfl
  rw [hslab]
  have hrl := recB_length (lastT zeroD l) d
  have happ : ((sF n l).brk p).app (recB (lastT zeroD l) d) = if p = 0 then (((sF n l).brk p), 90) else (⟨n, recsT zeroD l ++ recB (lastT zeroD l) d, (recsT zeroD l).length, decP p⟩, 0) := by
    unfold SlabS.app
    rw [if_neg (show ¬ ((sF n l).brk p).room - ((sF n l).brk p).bs.length < (recB (lastT zeroD l) d).length from by rw [hrl]; show ¬ n - (recsT zeroD l).length < 35 + d.length; omega)]
    rfl
  by_cases h0 : p = 0
  · refine ⟨0, (recsT zeroD l).length, ?_, Nat.zero_le _, fun h => by omega⟩
    unfold SlabS.lay
    rw [happ, if_pos h0, if_neg (show ¬ (90 : Int) = 0 by decide)]
    show SlabS.crash ⟨n, recsT zeroD l, (recsT zeroD l).length, p⟩ keep = _
    unfold SlabS.crash
    rw [left_full, List.take_zero, List.append_nil]
    dsimp only
    rw [List.take_of_length_le (Nat.le_refl _)]
  · have hlay : ((sF n l).brk p).lay (recB (lastT zeroD l) d) = (SlabS.mk n (recsT zeroD l ++ recB (lastT zeroD l) d) (recsT zeroD l).length (decP p)).sync := by
      unfold SlabS.lay
      rw [happ, if_neg h0, if_pos rfl]
    rw [hlay]
    by_cases h1 : p = 1
    · have hdp : decP p = 0 := by rw [h1]; rfl
      have hs : (SlabS.mk n (recsT zeroD l ++ recB (lastT zeroD l) d) (recsT zeroD l).length (decP p)).sync = (⟨n, recsT zeroD l ++ recB (lastT zeroD l) d, (recsT zeroD l).length, decP p⟩, 90) := by
        unfold SlabS.sync
        rw [if_pos hdp]
      rw [hs]
      refine ⟨(min (max keep 0) ((35 + d.length : Nat) : Int)).toNat, (recsT zeroD l).length + (min (max keep 0) ((35 + d.length : Nat) : Int)).toNat, ?_, by omega, fun h => by omega⟩
      unfold SlabS.crash SlabS.left
      dsimp only
      have e : ((recsT zeroD l ++ recB (lastT zeroD l) d).length : Int) - ((recsT zeroD l).length : Int) = ((35 + d.length : Nat) : Int) := by rw [List.length_append, hrl]; omega
      rw [e, List.take_append, Nat.add_sub_cancel_left, List.take_of_length_le (Nat.le_add_right _ _)]
    · have hdp : ¬ decP p = 0 := by unfold decP; split <;> omega
      have hs : (SlabS.mk n (recsT zeroD l ++ recB (lastT zeroD l) d) (recsT zeroD l).length (decP p)).sync = (⟨n, recsT zeroD l ++ recB (lastT zeroD l) d, (recsT zeroD l ++ recB (lastT zeroD l) d).length, decP (decP p)⟩, 0) := by
        unfold SlabS.sync
        rw [if_neg hdp]
      rw [hs]
      refine ⟨35 + d.length, (recsT zeroD l ++ recB (lastT zeroD l) d).length, ?_, Nat.le_refl _, fun _ => rfl⟩
      unfold SlabS.crash
      dsimp only
      rw [left_full, List.take_of_length_le (Nat.le_refl _), List.take_of_length_le (l := recB (lastT zeroD l) d) (by omega)]
end Go.Proofs.YtbfapabjglipoaaDoor
