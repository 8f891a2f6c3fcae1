/-
  Layer 10: what is read from what was written. Mathematics; no condition.
-/
import Derived.Test.YtkbdkeclbokhdaaDoorJrnOpen
import Derived.Test.YtkbdkeclbokhdaaDoorJrnWr
namespace Go.Proofs.YtkbdkeclbokhdaaDoor
open Go Go.RowKit

theorem len3_get {n : Nat} (h : n < 16777216) (r : List UInt8) : sizeJ (len3 n ++ r) = n := by
  unfold sizeJ len3
  simp only [List.cons_append, List.getD_cons_zero, List.getD_cons_succ, UInt8.toNat_ofNat']
  omega
theorem frontB_split (a : Nat → UInt8) (n : Nat) : ∃ r, frontB a n = len3 n ++ r := ⟨_, rfl⟩
theorem take_app {α : Type} (a b : List α) (n : Nat) (h : a.length = n) : (a ++ b).take n = a := by
  subst h
  simp
theorem drop_app {α : Type} (a b : List α) (n : Nat) (h : a.length = n) : (a ++ b).drop n = b := by
  subst h
  simp
theorem id16_length (f : Nat → UInt8) : ((id32 f).take 16).length = 16 := by rw [List.length_take, id32_length]; rfl
/-- What begins with a record's first bytes. -/
theorem sizeJ_front {a : Nat → UInt8} {n : Nat} (h : n < 16777216) (r : List UInt8) : sizeJ (frontB a n ++ r) = n := by
  obtain ⟨q, e⟩ := frontB_split a n
  rw [e, List.append_assoc]
  exact len3_get h _
section
variable {a : Nat → UInt8} {d : List UInt8} (h : d.length < 16777216) (rest : List UInt8)
include h
theorem sizeJ_rec : sizeJ (recB a d ++ rest) = d.length := by
  unfold recB
  rw [List.append_assoc]
  exact sizeJ_front h _
omit h in
theorem drop35_rec : (recB a d ++ rest).drop 35 = d ++ rest := by
  have e : recB a d ++ rest = (frontB a d.length ++ (id32 (withD a d)).take 16) ++ (d ++ rest) := by unfold recB; simp only [List.append_assoc]
  rw [e]
  exact drop_app _ _ _ (by rw [List.length_append, frontB_length, id16_length])
theorem dataJ_rec : dataJ (recB a d ++ rest) = d := by
  unfold dataJ
  rw [sizeJ_rec h, drop35_rec]
  exact take_app _ _ _ rfl
omit h in
theorem rest_rec : (recB a d ++ rest).drop (35 + d.length) = rest := drop_app _ _ _ (recB_length a d)
theorem codeJ_rec : codeJ a (recB a d ++ rest) = 0 := by
  unfold codeJ
  have hl : (recB a d ++ rest).length = 35 + d.length + rest.length := by rw [List.length_append, recB_length]
  rw [if_neg (by omega), sizeJ_rec h, dataJ_rec h]
  have e1 : (recB a d ++ rest).take 19 = frontB a d.length := by
    unfold recB
    rw [List.append_assoc]
    exact take_app _ _ _ (frontB_length _ _)
  have e2 : ((recB a d ++ rest).take 35).drop 19 = (id32 (withD a d)).take 16 := by
    have e : recB a d ++ rest = (frontB a d.length ++ (id32 (withD a d)).take 16) ++ (d ++ rest) := by unfold recB; simp only [List.append_assoc]
    rw [e, take_app _ _ _ (by rw [List.length_append, frontB_length, id16_length])]
    exact drop_app _ _ _ (frontB_length _ _)
  rw [e1, e2, if_neg (by simp), if_neg (by omega), if_neg (by simp)]
theorem readJ_rec : readJ a (recB a d ++ rest) = (d :: (readJ (withD a d) rest).1, (readJ (withD a d) rest).2) := by
  rw [readJ_yes (codeJ_rec h rest), dataJ_rec h, sizeJ_rec h, rest_rec]
end
theorem readJ_nil (a : Nat → UInt8) : readJ a [] = ([], a, [], 20) := readJ_no (by unfold codeJ; rw [if_pos (by decide)]; decide) |>.trans (by unfold codeJ; rw [if_pos (by decide)])
/-- Records as they lie, one behind the other; the sum of all of them. -/
def recsT : (Nat → UInt8) → List (List UInt8) → List UInt8
  | _, [] => []
  | a, d :: l => recB a d ++ recsT (withD a d) l
def lastT : (Nat → UInt8) → List (List UInt8) → Nat → UInt8
  | a, [] => a
  | a, d :: l => lastT (withD a d) l
theorem recsT_snoc (d : List UInt8) : ∀ (l : List (List UInt8)) (a : Nat → UInt8), recsT a (l ++ [d]) = recsT a l ++ recB (lastT a l) d
  | [], a => by show recB a d ++ [] = [] ++ recB a d; simp
  | x :: l, a => by
    show recB a x ++ recsT (withD a x) (l ++ [d]) = (recB a x ++ recsT (withD a x) l) ++ recB (lastT (withD a x) l) d
    rw [recsT_snoc d l, List.append_assoc]
theorem lastT_snoc (d : List UInt8) : ∀ (l : List (List UInt8)) (a : Nat → UInt8), lastT a (l ++ [d]) = withD (lastT a l) d
  | [], _ => rfl
  | _ :: l, _ => lastT_snoc d l _
theorem readJ_recs (rest : List UInt8) : ∀ (l : List (List UInt8)) (a : Nat → UInt8), (∀ d ∈ l, d.length < 16777216) → readJ a (recsT a l ++ rest) = (l ++ (readJ (lastT a l) rest).1, (readJ (lastT a l) rest).2)
  | [], a, _ => by show readJ a ([] ++ rest) = _; rw [List.nil_append]; rfl
  | d :: l, a, h => by
    show readJ a ((recB a d ++ recsT (withD a d) l) ++ rest) = _
    rw [List.append_assoc, readJ_rec (h d (List.mem_cons_self ..)), readJ_recs rest l (withD a d) (fun x hx => h x (List.mem_cons_of_mem _ hx))]
    rfl
theorem readJ_all (l : List (List UInt8)) (a : Nat → UInt8) (h : ∀ d ∈ l, d.length < 16777216) : readJ a (recsT a l) = (l, lastT a l, [], 20) := by
  have := readJ_recs [] l a h
  rw [List.append_nil, readJ_nil, List.append_nil] at this
  exact this
/-- A record that isn't there whole. -/
theorem codeJ_part (a : Nat → UInt8) (d : List UInt8) (h : d.length < 16777216) (k : Nat) (hk : k < 35 + d.length) : codeJ a ((recB a d).take k) = 20 := by
  have hl : ((recB a d).take k).length = k := by rw [List.length_take, recB_length]; omega
  unfold codeJ
  by_cases h35 : k < 35
  · rw [if_pos (by omega)]
  · obtain ⟨m, rfl⟩ : ∃ m, k = 35 + m := ⟨k - 35, by omega⟩
    have e : (recB a d).take (35 + m) = frontB a d.length ++ ((id32 (withD a d)).take 16 ++ d.take m) := by
      have e : recB a d = (frontB a d.length ++ (id32 (withD a d)).take 16) ++ d := by unfold recB; simp only [List.append_assoc]
      have hl' : (frontB a d.length ++ (id32 (withD a d)).take 16).length = 35 := by rw [List.length_append, frontB_length, id16_length]
      rw [e, List.take_append, hl', List.take_of_length_le (by omega), show 35 + m - 35 = m by omega, List.append_assoc]
    rw [if_neg (by omega), hl]
    rw [e, sizeJ_front h, take_app _ _ _ (frontB_length _ _), if_neg (by simp), if_pos (by omega)]
theorem readJ_part (a : Nat → UInt8) (d : List UInt8) (h : d.length < 16777216) (k : Nat) (hk : k < 35 + d.length) : readJ a ((recB a d).take k) = ([], a, (recB a d).take k, 20) := by
  rw [readJ_no (by rw [codeJ_part a d h k hk]; decide), codeJ_part a d h k hk]
theorem recsT_length : ∀ (l : List (List UInt8)) (a : Nat → UInt8), (recsT a l).length = 35 * l.length + l.flatten.length
  | [], _ => rfl
  | d :: l, a => by
    show (recB a d ++ recsT (withD a d) l).length = _
    rw [List.length_append, recB_length, recsT_length l, List.flatten_cons, List.length_append, List.length_cons]
    omega
end Go.Proofs.YtkbdkeclbokhdaaDoor
