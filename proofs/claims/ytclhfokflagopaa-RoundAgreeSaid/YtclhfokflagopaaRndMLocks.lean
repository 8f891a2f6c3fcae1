/-
  One's way to agreement, as plain mathematics: who is locked votes early for nothing else, unless that is sure. Nothing here speaks of the program. No condition.
-/
import Derived.Test.YtclhfokflagopaaRndMQuiet
namespace Go.Proofs.Ytclhfokflagopaa
open Go Go.RowKit Go.Maps

theorem putT_far {n : Int} {V : Vt} {r k q : Int} {id : List UInt8} {r' k' q' : Int} (h : ¬ (r' = r ∧ k' = k ∧ q' = q)) : putT n V r k q id r' k' q' = V r' k' q' := by
  unfold putT
  split
  · unfold putC
    rw [if_neg h]
  · rfl
theorem putT_bad {n : Int} {V : Vt} {r k q : Int} {id : List UInt8} (h : putCode n V r k q id ≠ 0) : putT n V r k q id = V := by
  unfold putT
  rw [if_neg]
  rintro ⟨h1, h2⟩
  unfold putCode at h
  rw [h1, h2] at h
  simp at h
/-- One's own votes: none of rounds to come, nor of steps to come. -/
structure OwnV (s : RdS) : Prop where
  later : ∀ r k, s.round < r → s.votes r k s.me = none
  step0 : s.step = 0 → s.votes s.round 0 s.me = none ∧ s.votes s.round 1 s.me = none
  step1 : s.step = 1 → s.votes s.round 1 s.me = none
theorem begin_votes (s : RdS) (m : Int) : (beginS s m).votes = s.votes ∧ (beginS s m).voters = s.voters ∧ (beginS s m).me = s.me ∧ (beginS s m).lockR = s.lockR ∧ (beginS s m).lock = s.lock := by
  have ht : ∀ k t, (timerS (inS s m) k t).votes = s.votes ∧ (timerS (inS s m) k t).voters = s.voters ∧ (timerS (inS s m) k t).me = s.me ∧ (timerS (inS s m) k t).lockR = s.lockR ∧ (timerS (inS s m) k t).lock = s.lock := fun k t => by
    unfold timerS
    split <;> exact ⟨rfl, rfl, rfl, rfl, rfl⟩
  unfold beginS
  repeat' split
  all_goals first | exact ht _ _ | exact ⟨rfl, rfl, rfl, rfl, rfl⟩
theorem own_begin {s : RdS} (h : OwnV s) {m : Int} (hm : s.round < m) : OwnV (beginS s m) := by
  obtain ⟨e1, e2, e3, _⟩ := begin_votes s m
  rcases begin_mu (s := s) (m := m) with h3 | ⟨h0, hr, _⟩
  · have hr : (beginS s m).round = s.round ∨ (beginS s m).round = m := by
      unfold beginS
      repeat' split
      all_goals first | (right; rw [timerS_round]; rfl) | (right; rfl) | (left; rfl)
    refine ⟨fun r k hlt => ?_, fun e => by omega, fun e => by omega⟩
    rw [e1, e3]
    exact h.later r k (by omega)
  · refine ⟨fun r k hlt => ?_, fun _ => ?_, fun e => by omega⟩
    · rw [e1, e3]
      exact h.later r k (by omega)
    · rw [e1, e3, hr]
      exact ⟨h.later m 0 hm, h.later m 1 hm⟩
theorem choice_free {s : RdS} {id : List UInt8} (hok : RdOk s) (hr : 0 ≤ s.round) (hc : choiceS s = some id) (hne : id ≠ nilId) : s.lockR = 0 ∨ s.lock = id ∨ ∃ j : Int, s.lockR - 1 ≤ j ∧ 0 ≤ j ∧ j < s.round ∧ sureO s.voters s.votes j 0 = some id := by
  have hr2 := hok.round.2
  have ho := hok.offers s.round.toNat (by omega)
  unfold choiceS at hc
  split at hc
  · cases hc
  dsimp only at hc
  split at hc
  · cases hc
  split at hc
  · injection hc with hc
    exact absurd hc.symm hne
  split at hc
  · cases hc
  rename_i h1 h2 h3 h4
  split at hc
  · injection hc with hc
    exact absurd hc.symm hne
  · rename_i h5
    injection hc with hc
    by_cases hl : (s.offers s.round.toNat).valid < s.lockR
    · right; left
      rw [← hc]
      exact Classical.byContradiction fun e => h5 ⟨hl, e⟩
    · by_cases h0 : 0 < (s.offers s.round.toNat).valid
      · right; right
        have hb : backedS s (s.offers s.round.toNat) = true := by
          cases hbb : backedS s (s.offers s.round.toNat) with
          | true => rfl
          | false => exact absurd ⟨h0, hbb⟩ h4
        unfold backedS at hb
        have hs : sureS s ((s.offers s.round.toNat).valid - 1) 0 = some (s.offers s.round.toNat).id := by simpa using hb
        refine ⟨(s.offers s.round.toNat).valid - 1, by omega, by omega, by omega, ?_⟩
        rw [← hc]
        exact (sureS_some hs).1
      · left
        have := hok.lockR.1
        omega
end Go.Proofs.Ytclhfokflagopaa
