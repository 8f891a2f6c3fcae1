/-
  One's way to agreement: offers and timers, their cases joined. No condition.
-/
import Derived.Test.YtbgojlcciealiaaRndBet
namespace Go.Proofs.Ytbgojlcciealiaa
open Go Go.RowKit Go.Maps

/-- An offer laid, if there is none. -/
def layS (s : RdS) (k : Nat) (vv : Int) (id : List UInt8) : RdS := if (s.offers k).there = false ∧ 0 ≤ vv ∧ vv ≤ (k : Int) then { s with offers := fun j => if j = k then ⟨true, vv, id⟩ else s.offers j } else s
theorem lay_any {W : World} {B C M n : Nat} {kv : Value} {s : RdS} (h : RoundAt W B C M n kv s) (k : Nat) (hk : k < 12) (vv : Int) (id : List UInt8) (hid : IdOk id) : Calls Try.prog 64 #[.pointer (some ⟨B, 0, none⟩), .int .i64 (k : Int), .int .i64 vv, .agg (idC id)] W fun e w' => (∃ v, e = .returned v) ∧ RoundAt w' B C M n kv (layS s k vv id) ∧ W.grownBy w' (some B) := by
  unfold layS
  cases ht : (s.offers k).there with
  | true =>
    rw [if_neg (by simp)]
    exact (lay_there h k hk vv id hid ht).mono fun e w' ⟨h1, h2⟩ => ⟨h1, h.below h2, grown_of_below h2 _⟩
  | false =>
    by_cases h0 : 0 ≤ vv
    · by_cases h1 : vv ≤ (k : Int)
      · rw [if_pos ⟨rfl, h0, h1⟩]
        exact lay_new h k hk vv id hid ht h0 h1
      · rw [if_neg (fun e => h1 e.2.2)]
        exact (lay_high h k hk vv id hid ht h0 (by omega)).mono fun e w' ⟨h1, h2⟩ => ⟨h1, h.below h2, grown_of_below h2 _⟩
    · rw [if_neg (fun e => h0 e.2.1)]
      exact (lay_low h k hk vv id hid ht (by omega)).mono fun e w' ⟨h1, h2⟩ => ⟨h1, h.below h2, grown_of_below h2 _⟩
def timerS (s : RdS) (k t : Nat) : RdS := if s.timers k t = true then s else timS s k t
def timerA (s : RdS) (k t : Nat) : List ActS := if s.timers k t = true then [] else [⟨3, (k : Int), (t : Int), 0, zeroId⟩]
theorem timer_any {W : World} {B C M n : Nat} {kv : Value} {s : RdS} (h : RoundAt W B C M n kv s) (k t : Nat) (hk : s.round = (k : Int)) (ht : t < 3) : Calls Try.prog 73 #[.pointer (some ⟨B, 0, none⟩), .int .i64 (t : Int)] W fun e w' => (∃ v, e = .returned v ∧ ActsR W w' v (timerA s k t)) ∧ RoundAt w' B C M n kv (timerS s k t) ∧ W.grownBy w' (some B) := by
  unfold timerS timerA
  by_cases hs : s.timers k t = true
  · rw [if_pos hs, if_pos hs]
    exact (timer_set h k t hk ht hs).mono fun e w' ⟨h1, h2⟩ => ⟨⟨_, h1, actsR_nil _ _⟩, h.below h2, grown_of_below h2 _⟩
  · rw [if_neg hs, if_neg hs]
    exact timer_new h k t hk ht (by simpa using hs)
theorem timerS_round (s : RdS) (k t : Nat) : (timerS s k t).round = s.round := by
  unfold timerS timS
  split <;> rfl
end Go.Proofs.Ytbgojlcciealiaa
