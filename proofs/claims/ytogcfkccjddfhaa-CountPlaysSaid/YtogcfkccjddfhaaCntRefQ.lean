/-
  The reference's count against votes as a function: each answer of both is the same. No condition.
-/
import Derived.Test.YtogcfkccjddfhaaCntRefP
namespace Go.Proofs.Ytogcfkccjddfhaa
open Go Go.RowKit Go.Maps

theorem refput_any {n : Int} (v : Value) (L : List VoteT) (x : VoteT) (hx : VoteOk x) (w : World) (hr : RdW w w.heap.size v L) (hg : GoodL n L) (hlen : L.length ≤ 1000000) :
    Calls Try.prog 20 #[.int .i64 n, v, .agg (voteA x)] w fun e w' => ∃ v' L', e = .returned (.tuple #[v', .int .i64 (putCode n (vtOf L) x.r x.k x.s x.id)]) ∧ RdW w' w'.heap.size v' L' ∧ vtOf L' = putT n (vtOf L) x.r x.k x.s x.id ∧ GoodL n L' ∧ L'.length ≤ L.length + 1 ∧ Below w.heap.size w w' := by
  cases ho : okPut n x.r x.k x.s x.id with
  | false =>
    refine (refput_bad n v x hx w ho).mono ?_
    rintro e w' ⟨rfl, hb⟩
    refine ⟨v, L, ?_, (hr.old hb).mono hb.size, ?_, hg, Nat.le_succ _, hb⟩
    · unfold putCode
      rw [if_pos ho]
    · unfold putT
      rw [if_neg (by rw [ho]; simp)]
  | true =>
    cases hz : refGet L x.r x.k x.s == zeroId with
    | false =>
      have hs : (vtOf L x.r x.k x.s).isSome = true := by
        rw [get_zero hg] at hz
        cases hv : vtOf L x.r x.k x.s
        · rw [hv] at hz; cases hz
        · rfl
      refine (refput_twice n v L x hx w hr ho hz).mono ?_
      rintro e w' ⟨rfl, hb⟩
      refine ⟨v, L, ?_, (hr.old hb).mono hb.size, ?_, hg, Nat.le_succ _, hb⟩
      · unfold putCode
        rw [if_neg (by rw [ho]; simp), if_pos hs]
      · unfold putT
        rw [if_neg (by rw [hs]; simp)]
    | true =>
      have hs : vtOf L x.r x.k x.s = none := by
        rw [get_zero hg] at hz
        simpa using hz
      refine (refput_new n v L x hx w hr ho hz hlen).mono ?_
      rintro e w' ⟨v', rfl, hr', hb⟩
      refine ⟨v', L ++ [x], ?_, hr', ?_, good_put hg ho hs, by simp, hb⟩
      · unfold putCode
        rw [if_neg (by rw [ho]; simp), if_neg (by rw [hs]; simp)]
      · rw [put_eqv x hs]
        unfold putT
        rw [if_pos ⟨ho, by rw [hs]; rfl⟩]
theorem noVotes_eqv : vtOf [] = noVotes := rfl
theorem good_nil (n : Int) : GoodL n [] := ⟨fun v h => by simp at h, List.Pairwise.nil⟩
/-- The reference's answers, said by votes as a function. -/
theorem refsure_v {N : Nat} (v : Value) (L : List VoteT) (hg : GoodL N L) (hf : 0 ≤ faults N) (r k : Int) (w : World) (hr : RdW w w.heap.size v L) : Calls Try.prog 23 #[.int .i64 N, v, .int .i64 r, .int .i64 k] w fun e w' => e = .returned (.tuple #[idv ((sureO N (vtOf L) r k).getD zeroId), .bool (sureO N (vtOf L) r k).isSome]) ∧ Below w.heap.size w w' := by
  have := refsure_any N v L r k w hr
  rw [sure_eqv hg hf] at this
  exact this
theorem refall_v {N : Nat} (v : Value) (L : List VoteT) (hg : GoodL N L) (r k : Int) (w : World) (hr : RdW w w.heap.size v L) : Calls Try.prog 25 #[v, .int .i64 r, .int .i64 k] w fun e w' => e = .returned (.int .i64 ((allN N (vtOf L) r k : Nat) : Int)) ∧ w' = w := by
  have := refall_any v L r k w hr
  rw [all_eqv hg] at this
  exact this
theorem reffor_v {N : Nat} (v : Value) (L : List VoteT) (hg : GoodL N L) (r k : Int) (id : List UInt8) (hid : IdOk id) (w : World) (hr : RdW w w.heap.size v L) : Calls Try.prog 27 #[v, .int .i64 r, .int .i64 k, idv id] w fun e w' => e = .returned (.int .i64 ((forN N (vtOf L) r k id : Nat) : Int)) ∧ Below w.heap.size w w' := by
  have := reffor_any v L r k id hid w hr
  rw [for_eqv hg] at this
  exact this
theorem refget_v (v : Value) (L : List VoteT) (r k s : Int) (w : World) (hr : RdW w w.heap.size v L) : Calls Try.prog 31 #[v, .int .i64 r, .int .i64 k, .int .i64 s] w fun e w' => e = .returned (idv ((vtOf L r k s).getD zeroId)) ∧ Below w.heap.size w w' := by
  have := refget_any v L r k s w hr
  rw [get_eqv] at this
  exact this
theorem refahead_v {N : Nat} (hN : N ≤ 1000) (v : Value) (L : List VoteT) (hg : GoodL N L) (r : Int) (w : World) (hr : RdW w w.heap.size v L) : Calls Try.prog 29 #[.int .i64 N, v, .int .i64 r] w fun e w' => e = .returned (.tuple #[.int .i64 (((aheadO N (vtOf L) r).getD 0 : Nat) : Int), .bool (aheadO N (vtOf L) r).isSome]) ∧ Below w.heap.size w w' := by
  have := refahead_any N hN v L r w hr
  rw [ahead_eqv hg] at this
  exact this
end Go.Proofs.Ytogcfkccjddfhaa
