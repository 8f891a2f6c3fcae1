/-
  One's way to agreement, as plain mathematics: who recalls all acts of before is locked, and has voted, as then; what is voted for is never voted for again. Nothing here speaks of the program. No condition.
-/
import Derived.Test.YtclhfokflagopaaRndMLocks
namespace Go.Proofs.Ytclhfokflagopaa
open Go Go.RowKit Go.Maps

theorem putT_new {n : Int} {V : Vt} {r k q : Int} {id : List UInt8} (h : putCode n V r k q id = 0) : putT n V r k q id r k q = some id := by
  unfold putCode at h
  unfold putT
  have h1 : okPut n r k q id = true := Classical.byContradiction fun e => by
    have e' : okPut n r k q id = false := by cases hq : okPut n r k q id with | true => exact absurd hq e | false => rfl
    rw [if_pos e'] at h
    cases h
  have h2 : (V r k q).isSome = false := Classical.byContradiction fun e => by
    have e' : (V r k q).isSome = true := by cases hq : (V r k q).isSome with | true => rfl | false => exact absurd hq e
    rw [if_neg (by rw [h1]; decide), if_pos e'] at h
    cases h
  rw [if_pos ⟨h1, h2⟩]
  unfold putC
  rw [if_pos ⟨rfl, rfl, rfl⟩]
theorem putCode_zero {n : Int} {V : Vt} {r k q : Int} {id : List UInt8} (h : putCode n V r k q id = 0) : id ≠ zeroId ∧ V r k q = none ∧ okPut n r k q id = true := by
  unfold putCode at h
  have h1 : okPut n r k q id = true := Classical.byContradiction fun e => by
    have e' : okPut n r k q id = false := by cases hq : okPut n r k q id with | true => exact absurd hq e | false => rfl
    rw [if_pos e'] at h
    cases h
  have h2 : (V r k q).isSome = false := Classical.byContradiction fun e => by
    have e' : (V r k q).isSome = true := by cases hq : (V r k q).isSome with | true => rfl | false => exact absurd hq e
    rw [if_neg (by rw [h1]; decide), if_pos e'] at h
    cases h
  refine ⟨fun e => ?_, by simpa using h2, h1⟩
  subst e
  unfold okPut at h1
  simp at h1
/-- One's own votes behind one that is cast. -/
theorem own_cast {s s1 : RdS} (hown : OwnV s) (k : Int) (id : List UInt8) (e1 : s1.voters = s.voters) (e2 : s1.me = s.me) (e3 : s1.votes = s.votes) (e4 : s1.round = s.round) (hstep : s.step = 0 ∨ (s.step = 1 ∧ k = 1)) : OwnV (castS s1 k id) := by
  have hvs : (castS s1 k id).votes = putT s.voters s.votes s.round k s.me id := by
    show putT s1.voters s1.votes s1.round k s1.me id = _
    rw [e1, e2, e3, e4]
  have hbeh : (castS s1 k id).step = behS k := rfl
  have hrd : (castS s1 k id).round = s.round := e4
  have hmm : (castS s1 k id).me = s.me := e2
  refine ⟨fun r j hlt => ?_, fun e => ?_, fun e => ?_⟩
  · rw [hvs, hmm, putT_far (by rw [hrd] at hlt; omega)]
    exact hown.later r j (by omega)
  · rw [hbeh] at e
    unfold behS at e
    split at e <;> omega
  · rw [hbeh] at e
    have hk0 : k = 0 := by
      unfold behS at e
      split at e
      · assumption
      · omega
    rw [hvs, hmm, hrd, putT_far (by omega)]
    rcases hstep with h0 | ⟨_, h1⟩
    · exact (hown.step0 h0).2
    · omega
/-- What is sure, and better than what was, can be voted for. -/
theorem better_code {s : RdS} (hg : GoodS s) (hr : 0 ≤ s.round) (hown : OwnV s) (hs1 : s.step = 1) {id : List UInt8} (hz : id ≠ zeroId) : putCode s.voters s.votes s.round 1 s.me id = 0 := by
  unfold putCode
  have hok : okPut s.voters s.round 1 s.me id = true := by
    have := hg.ok.me
    have := hg.ok.round
    have hzb : (id == zeroId) = false := by rw [beq_eq_false_iff_ne]; exact hz
    unfold okPut
    rw [hzb]
    simp
    omega
  rw [hok, hown.step1 hs1]
  rfl
end Go.Proofs.Ytclhfokflagopaa
