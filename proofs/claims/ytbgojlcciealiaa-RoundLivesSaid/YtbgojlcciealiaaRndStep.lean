/-
  One's way to agreement, as plain mathematics: what is done next, till nothing is due; it comes to an end. Nothing here speaks of the program. No condition.
-/
import Derived.Test.YtbgojlcciealiaaRndNew
namespace Go.Proofs.Ytbgojlcciealiaa
open Go Go.RowKit Go.Maps

def choiceS (s : RdS) : Option (List UInt8) :=
  if s.step ≠ 0 then none else
  let o := s.offers s.round.toNat
  if o.there = false ∨ hasI s.known o.id = false then none
  else if s.round < o.valid then some nilId
  else if 0 < o.valid ∧ backedS s o = false then none
  else if o.valid < s.lockR ∧ s.lock ≠ o.id then some nilId
  else some o.id
def inS (s : RdS) (m : Int) : RdS := { s with round := m, step := 0 }
def overS (s : RdS) : RdS := { s with step := 3 }
def offS (s : RdS) (k : Nat) (o : OfferS) : RdS := { s with offers := fun j => if j = k then o else s.offers j }
def beginS (s : RdS) (m : Int) : RdS :=
  if 0 ≤ m ∧ m < 12 then
    if proposer s.voters s.height m ≠ s.me then timerS (inS s m) m.toNat 0
    else if (s.offers m.toNat).there = true then inS s m
    else if (propS s).there = false then timerS (inS s m) m.toNat 0
    else offS (inS s m) m.toNat (propS s)
  else overS s
def beginA (s : RdS) (m : Int) : List ActS :=
  if 0 ≤ m ∧ m < 12 then
    if proposer s.voters s.height m ≠ s.me then timerA (inS s m) m.toNat 0
    else if (s.offers m.toNat).there = true then []
    else if (propS s).there = false then timerA (inS s m) m.toNat 0
    else [⟨1, m, 0, (propS s).valid, (propS s).id⟩]
  else []
def sure0 (s : RdS) : Option (List UInt8) := if s.step ≠ 0 ∧ s.bestR ≠ s.round + 1 then sureS s s.round 0 else none
def nilDue (s : RdS) : Bool := decide (s.step = 1) && decide (need s.voters ≤ (forN s.voters s.votes s.round 0 nilId : Int))
def nextS (s : RdS) : Option (RdS × List ActS) :=
  match agreedS s with
  | some (k, id) => some (overS s, [⟨4, (k : Int), 0, 0, id⟩])
  | none => match aheadO s.voters s.votes s.round with
    | some m => some (beginS s m, beginA s m)
    | none => match choiceS s with
      | some id => some (castS s 0 id, castA s 0 id)
      | none => match sure0 s with
        | some id => some (betterS s id, betterA s id)
        | none => if nilDue s = true then some (castS s 1 nilId, castA s 1 nilId) else none
def wait1 (s : RdS) : Bool := decide (s.step = 1) && decide (need s.voters ≤ (allN s.voters s.votes s.round 0 : Int))
def wait2 (s : RdS) : Bool := decide (need s.voters ≤ (allN s.voters s.votes s.round 1 : Int))
def wS1 (s : RdS) : RdS := if wait1 s = true then timerS s s.round.toNat 1 else s
def wA1 (s : RdS) : List ActS := if wait1 s = true then timerA s s.round.toNat 1 else []
def wS2 (s : RdS) : RdS := if wait2 s = true then timerS s s.round.toNat 2 else s
def wA2 (s : RdS) : List ActS := if wait2 s = true then timerA s s.round.toNat 2 else []
def waitS (s : RdS) : RdS := wS2 (wS1 s)
def waitA (s : RdS) : List ActS := wA1 s ++ wA2 (wS1 s)
/-- How much is to come at most. -/
def mu (s : RdS) : Nat := if s.step = 3 then 0 else (12 - s.round.toNat) * 8 + (3 - s.step.toNat) * 2 + (if s.bestR = s.round + 1 then 0 else 1)
def settleF : Nat → RdS → RdS × List ActS
  | 0, s => (s, [])
  | f + 1, s => if s.step = 3 then (s, []) else match nextS s with
    | none => (waitS s, waitA s)
    | some (s', l) => ((settleF f s').1, l ++ (settleF f s').2)
def settleS (s : RdS) : RdS := (settleF 200 s).1
def settleA (s : RdS) : List ActS := (settleF 200 s).2
theorem ahead_in {n : Nat} {V : Vt} {r : Int} {m : Nat} (h : aheadO n V r = some m) : r < (m : Int) ∧ m < 12 := by
  have := List.mem_of_getLast? h
  rw [List.mem_filter, List.mem_range, Bool.and_eq_true, decide_eq_true_eq] at this
  exact ⟨this.2.1, this.1⟩
theorem choice_step {s : RdS} {x : List UInt8} (h : choiceS s = some x) : s.step = 0 := by
  unfold choiceS at h
  split at h
  · cases h
  · rename_i h0
    exact Classical.byContradiction fun e => h0 e
theorem sure0_step {s : RdS} {x : List UInt8} (h : sure0 s = some x) : s.step ≠ 0 ∧ s.bestR ≠ s.round + 1 ∧ sureS s s.round 0 = some x := by
  unfold sure0 at h
  split at h
  · rename_i h0
    exact ⟨h0.1, h0.2, h⟩
  · cases h
theorem timerS_step (s : RdS) (k t : Nat) : (timerS s k t).step = s.step ∧ (timerS s k t).round = s.round ∧ (timerS s k t).bestR = s.bestR := by
  unfold timerS timS
  split <;> exact ⟨rfl, rfl, rfl⟩
theorem begin_mu {s : RdS} {m : Int} : (beginS s m).step = 3 ∨ ((beginS s m).step = 0 ∧ (beginS s m).round = m ∧ 0 ≤ m ∧ m < 12) := by
  unfold beginS
  split
  · rename_i h
    right
    have ht := timerS_step (inS s m) m.toNat 0
    split
    · exact ⟨ht.1, ht.2.1, h⟩
    split
    · exact ⟨rfl, rfl, h⟩
    split
    · exact ⟨ht.1, ht.2.1, h⟩
    · exact ⟨rfl, rfl, h⟩
  · exact .inl rfl
theorem next_mu {s s' : RdS} {l : List ActS} (hok : RdOk s) (hr : 0 ≤ s.round) (hs : s.step ≠ 3) (h : nextS s = some (s', l)) : mu s' < mu s := by
  have h12 := hok.round.2
  have hst := hok.step
  have hm : mu s = (12 - s.round.toNat) * 8 + (3 - s.step.toNat) * 2 + (if s.bestR = s.round + 1 then 0 else 1) := if_neg hs
  rw [hm]
  have hr2 : s.round.toNat < 12 := by omega
  unfold nextS at h
  split at h
  · injection h with h
    injection h with h
    subst h
    show (if (3 : Int) = 3 then 0 else _) < _
    rw [if_pos rfl]
    omega
  split at h
  · rename_i m ha
    injection h with h
    injection h with h
    subst h
    have hin := ahead_in ha
    unfold mu
    rcases begin_mu (s := s) (m := (m : Int)) with e | ⟨e1, e2, _, _⟩
    · rw [if_pos e]
      omega
    · rw [if_neg (by omega), e1, e2, Int.toNat_natCast]
      have : (if (beginS s (m : Int)).bestR = (m : Int) + 1 then 0 else 1) ≤ 1 := by split <;> omega
      have : (0 : Int).toNat = 0 := rfl
      omega
  split at h
  · rename_i x hc
    injection h with h
    injection h with h
    subst h
    have h0 := choice_step hc
    unfold mu
    show (if (1 : Int) = 3 then 0 else (12 - s.round.toNat) * 8 + (3 - (1 : Int).toNat) * 2 + (if s.bestR = s.round + 1 then 0 else 1)) < _
    rw [if_neg (by decide), h0]
    have : (1 : Int).toNat = 1 := rfl
    have : (0 : Int).toNat = 0 := rfl
    omega
  split at h
  · rename_i x hc
    injection h with h
    injection h with h
    subst h
    obtain ⟨h0, h1, _⟩ := sure0_step hc
    rw [if_neg h1]
    unfold betterS mu
    split
    · rename_i h3
      show (if (2 : Int) = 3 then 0 else (12 - s.round.toNat) * 8 + (3 - (2 : Int).toNat) * 2 + (if s.round + 1 = s.round + 1 then 0 else 1)) < _
      rw [if_neg (by decide), if_pos rfl, h3]
      have : (2 : Int).toNat = 2 := rfl
      have : (1 : Int).toNat = 1 := rfl
      omega
    · show (if s.step = 3 then 0 else (12 - s.round.toNat) * 8 + (3 - s.step.toNat) * 2 + (if s.round + 1 = s.round + 1 then 0 else 1)) < _
      rw [if_neg hs, if_pos rfl]
      omega
  split at h
  · rename_i hn
    injection h with h
    injection h with h
    subst h
    have h1 : s.step = 1 := by
      unfold nilDue at hn
      simp only [Bool.and_eq_true, decide_eq_true_eq] at hn
      exact hn.1
    unfold mu
    show (if (2 : Int) = 3 then 0 else (12 - s.round.toNat) * 8 + (3 - (2 : Int).toNat) * 2 + (if s.bestR = s.round + 1 then 0 else 1)) < _
    rw [if_neg (by decide), h1]
    have : (2 : Int).toNat = 2 := rfl
    have : (1 : Int).toNat = 1 := rfl
    omega
  · cases h
theorem mu_lt {s : RdS} (hok : RdOk s) : mu s < 200 := by
  unfold mu
  split
  · omega
  · have := hok.step
    have : (if s.bestR = s.round + 1 then 0 else 1) ≤ 1 := by split <;> omega
    omega
theorem settleF_over (f : Nat) {s : RdS} (h : s.step = 3) : settleF f s = (s, []) := by
  cases f with
  | zero => rfl
  | succ f => exact if_pos h
theorem settleF_none (f : Nat) {s : RdS} (h : s.step ≠ 3) (hn : nextS s = none) : settleF (f + 1) s = (waitS s, waitA s) := by
  unfold settleF
  rw [if_neg h, hn]
theorem settleF_some (f : Nat) {s s' : RdS} {l : List ActS} (h : s.step ≠ 3) (hn : nextS s = some (s', l)) : settleF (f + 1) s = ((settleF f s').1, l ++ (settleF f s').2) := by
  rw [settleF, if_neg h, hn]
end Go.Proofs.Ytbgojlcciealiaa
