/-
  TreeApart: for every list of leaves and every two more, in whatever memory in which the tables lie. No condition.
-/
import Derived.Test.YtphknicdllcbmaaDoorTreeFnL
import Derived.Test.YtphknicdllcbmaaDoorTreeGo
import Derived.Test.YtphknicdllcbmaaDoorTreeLawE
import Derived.Test.YtphknicdllcbmaaDoorRegT
import Derived.Test.YtphknicdllcbmaaDoorRefSumT
import Derived.Deep.CutRange
namespace Go.Proofs.YtphknicdllcbmaaDoor
open Go Go.RowKit Go.Shelf TreeM

section
variable {P : Program}
end
/-- An append of a slice of IDs, of whatever address. -/
theorem app_idsO {B : Nat} {w : World} (hB : B ≤ w.heap.size) {v : Value} {n : Nat} {xs : List Value} (hown : w.ownsRow B 30 32 v n xs) {ok : Nat → Prop} {A : Option Addr} {m c : Nat} {l : List D} (hr : RdI w ok (.slice A m c) l) (hn : n + m ≤ 4398046511104) :
    ∃ v' w', (Builtin.append_ #[22, 22] 22 #[v, .slice A m c]).run Tryd.prog w = .ok v' w' ∧
      w'.ownsRow B 30 32 v' (n + m) (xs ++ idCells l) ∧ w.grownBy w' v.ownBlock ∧ (v'.ownBlock = v.ownBlock ∨ v'.ownBlock = some w.heap.size) := by
  rcases A with _ | ad
  · have hm : l.length = 0 := by
      rcases Nat.eq_zero_or_pos l.length with h0 | h0
      · exact h0
      · obtain ⟨ad, h, _⟩ := hr.at_ (k := 0) (by rw [hr.len]; exact h0)
        cases h
    have hl := List.eq_nil_of_length_eq_zero hm
    have hmm : m = 0 := by rw [hr.len, hm]
    subst hl hmm
    obtain ⟨i0, hi, hz0, hz1, hz2⟩ := info_parts info_id
    refine ⟨v, w, ?_, by simpa [idCells] using hown, World.grownBy.refl w _, .inl rfl⟩
    have ht := Tryd.underlying22
    rcases hown.2 with ⟨rfl, rfl⟩ | ⟨g, cap, cur, rfl, _, _, hnc, _⟩
    · simp [Builtin.append_, run_underlying ht, sizeOf, typeInfo, hi, Builtin.lenOf, Builtin.firstCells]
    · simp [Builtin.append_, run_underlying ht, sizeOf, typeInfo, hi, Builtin.lenOf, Builtin.firstCells, hnc, storeCells]
  · exact app_ids hB hown hr hn
end Go.Proofs.YtphknicdllcbmaaDoor
