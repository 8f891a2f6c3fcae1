/-
  Votes put one after the other, as plain mathematics: each voter's first counts; where no two are of one voter, kind and round, the order is nothing. Nothing here speaks of the program. No condition.
-/
import Derived.Test.YtpjeildiahklpaaCntMath
namespace Go.Proofs.Ytpjeildiahklpaa

/-- Somebody's vote. -/
structure VoteT where
  r : Int
  k : Int
  s : Int
  id : List UInt8
def noVotes : Vt := fun _ _ _ => none
def foldV (n : Int) (l : List VoteT) (V : Vt) : Vt := l.foldl (fun V v => putT n V v.r v.k v.s v.id) V
def hitV (n r k s : Int) (v : VoteT) : Bool := decide (v.r = r) && decide (v.k = k) && decide (v.s = s) && okPut n v.r v.k v.s v.id
theorem putT_at (n : Int) (V : Vt) (v : VoteT) (r k s : Int) : putT n V v.r v.k v.s v.id r k s = (V r k s).or (if hitV n r k s v = true then some v.id else none) := by
  unfold putT hitV
  by_cases he : v.r = r ∧ v.k = k ∧ v.s = s
  · obtain ⟨rfl, rfl, rfl⟩ := he
    cases hv : V v.r v.k v.s with
    | some x => simp [hv]
    | none =>
      cases ho : okPut n v.r v.k v.s v.id
      · simp [hv]
      · simp [putC]
  · have h2 : (decide (v.r = r) && decide (v.k = k) && decide (v.s = s)) = false := by
      rw [← Bool.not_eq_true]
      intro h
      simp only [Bool.and_eq_true, decide_eq_true_eq] at h
      exact he ⟨h.1.1, h.1.2, h.2⟩
    rw [h2]
    simp only [Bool.false_and, Bool.false_eq_true, if_false, Option.or_none]
    split
    · unfold putC
      rw [if_neg (by rintro ⟨rfl, rfl, rfl⟩; exact he ⟨rfl, rfl, rfl⟩)]
    · rfl
theorem foldV_at (n : Int) : ∀ (l : List VoteT) (V : Vt) (r k s : Int), foldV n l V r k s = (V r k s).or ((l.find? (hitV n r k s)).map (·.id)) := by
  intro l
  induction l with
  | nil => intro V r k s; simp [foldV]
  | cons v l ih =>
    intro V r k s
    show foldV n l (putT n V v.r v.k v.s v.id) r k s = _
    rw [ih, putT_at, List.find?_cons]
    cases hv : V r k s with
    | some x => simp
    | none =>
      cases hh : hitV n r k s v <;> simp
def apartV (u v : VoteT) : Prop := ¬ (u.r = v.r ∧ u.k = v.k ∧ u.s = v.s)
theorem hit_alike {n r k s : Int} {u v : VoteT} (hu : hitV n r k s u = true) (hv : hitV n r k s v = true) : ¬ apartV u v := by
  unfold hitV at hu hv
  simp only [Bool.and_eq_true, decide_eq_true_eq] at hu hv
  intro h
  exact h ⟨hu.1.1.1.trans hv.1.1.1.symm, hu.1.1.2.trans hv.1.1.2.symm, hu.1.2.trans hv.1.2.symm⟩
/-- Turned round, they come to the same. -/
theorem foldV_turn (n : Int) (l : List VoteT) (h : l.Pairwise apartV) (t : Nat) : foldV n (l.drop t ++ l.take t) noVotes = foldV n l noVotes := by
  funext r k s
  rw [foldV_at, foldV_at, List.find?_append]
  have e : l.find? (hitV n r k s) = ((l.take t).find? (hitV n r k s)).or ((l.drop t).find? (hitV n r k s)) := by
    rw [← List.find?_append, List.take_append_drop]
  rw [e]
  congr 1
  cases ha : (l.take t).find? (hitV n r k s) with
  | none => simp
  | some u =>
    cases hb : (l.drop t).find? (hitV n r k s) with
    | none => simp
    | some v =>
      have h1 := List.find?_some ha
      have h2 := List.find?_some hb
      rw [← List.take_append_drop t l] at h
      exact absurd ((List.pairwise_append.1 h).2.2 u (List.mem_of_find?_eq_some ha) v (List.mem_of_find?_eq_some hb)) (hit_alike h1 h2)
theorem sureO_congr {n : Nat} {V V' : Vt} (h : V = V') (r k : Int) : sureO n V r k = sureO n V' r k := by rw [h]
end Go.Proofs.Ytpjeildiahklpaa
