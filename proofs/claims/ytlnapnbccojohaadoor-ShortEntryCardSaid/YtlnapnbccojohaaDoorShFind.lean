/-
  Plain mathematics: where a path leads to the root, and no level has two unlike texts with one sum, entry and path are the list's own. Nothing here speaks of the program. No condition.
-/
import Derived.Test.YtlnapnbccojohaaDoorShMath
namespace Go.Proofs.YtlnapnbccojohaaDoor
open Go Go.RowKit Go.Shelf TreeM

/-- Two unlike texts with one sum. -/
def Bad (c : Int) (s t : List UInt8) : Prop := s ≠ t ∧ id32 (cutD c (sha s)) = id32 (cutD c (sha t))
theorem id32_length (f : D) : (id32 f).length = 32 := by simp [id32]
theorem side_inj {c : Int} {s t : List UInt8} {b : Bool} {x y : D} (h : side c s b x = side c t b y) : id32 x = id32 y ∧ id32 (cutD c (sha s)) = id32 (cutD c (sha t)) := by
  unfold side at h
  cases b with
  | true =>
    simp only [if_true, List.cons.injEq, true_and] at h
    exact List.append_inj h (by rw [id32_length, id32_length])
  | false =>
    simp only [Bool.false_eq_true, if_false, List.cons.injEq, true_and] at h
    have := List.append_inj h (by rw [id32_length, id32_length])
    exact ⟨this.2, this.1⟩
theorem no_bad (c : Int) : ∀ (bs : List Bool) (xs ys : List D) (s t : List UInt8), bs.length = xs.length → bs.length = ys.length →
    id32 (cutD c (sha (topP c bs xs s))) = id32 (cutD c (sha (topP c bs ys t))) →
    (∀ i, i < bs.length + 1 → ¬ Bad c ((textsP c bs xs s).getD i []) ((textsP c bs ys t).getD i [])) → s = t ∧ xs.map id32 = ys.map id32 := by
  intro bs
  induction bs with
  | nil =>
    intro xs ys s t hx hy htop hno
    obtain rfl : xs = [] := List.eq_nil_of_length_eq_zero hx.symm
    obtain rfl : ys = [] := List.eq_nil_of_length_eq_zero hy.symm
    have h0 := hno 0 (by simp)
    simp only [textsP, topP] at h0 htop
    refine ⟨Classical.byContradiction fun hne => h0 ⟨hne, htop⟩, rfl⟩
  | cons b bs ih =>
    intro xs ys s t hx hy htop hno
    match xs, hx with
    | x :: xs, hx =>
      match ys, hy with
      | y :: ys, hy =>
        simp only [List.length_cons, Nat.add_right_cancel_iff] at hx hy
        simp only [topP] at htop
        have hi := ih xs ys (side c s b x) (side c t b y) hx hy htop (fun i hi => by
          have := hno (i + 1) (by simp; omega)
          simpa [textsP] using this)
        have hs := side_inj hi.1
        have h0 := hno 0 (by simp)
        simp only [textsP, List.getD_cons_zero] at h0
        refine ⟨Classical.byContradiction fun hne => h0 ⟨hne, hs.2⟩, ?_⟩
        simp only [List.map_cons]
        rw [hs.1, hi.2]
end Go.Proofs.YtlnapnbccojohaaDoor
