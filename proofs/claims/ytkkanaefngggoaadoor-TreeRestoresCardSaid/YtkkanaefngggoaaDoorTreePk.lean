/-
  Plain mathematics: where whole trees begin, and how many leaves they have. Nothing here speaks of the program. No condition.
-/
import Derived.Test.YtkkanaefngggoaaDoorTreeMath
namespace Go.Proofs.YtkkanaefngggoaaDoor
namespace TreeM
/-- From f on, of r leaves: each whole tree's first leaf, and how many it has. -/
def pk (f r : Nat) : List (Nat × Nat) := if _h : r = 0 then [] else (f, top2 r) :: pk (f + top2 r) (r - top2 r)
termination_by r
decreasing_by
  have := top2_pos r
  omega
theorem pk_zero (f : Nat) : pk f 0 = [] := by rw [pk]; rfl
theorem pk_cons (f : Nat) {r : Nat} (h : r ≠ 0) : pk f r = (f, top2 r) :: pk (f + top2 r) (r - top2 r) := by
  conv => lhs; rw [pk]
  rw [dif_neg h]
theorem tops_pk : ∀ (r f : Nat) (l : List D), l.length = f + r → tops (l.drop f) = (pk f r).map fun p => mth ((l.drop p.1).take p.2) := by
  intro r
  induction r using Nat.strongRecOn with
  | _ r ih =>
    intro f l hl
    have hd : (l.drop f).length = r := by rw [List.length_drop]; omega
    by_cases h : r = 0
    · subst h
      rw [List.length_eq_zero_iff.1 hd, tops_nil, pk_zero]
      rfl
    · have hne : l.drop f ≠ [] := by intro e; rw [e] at hd; simp at hd; omega
      have hp := top2_pos r
      have hle := top2_le h
      rw [tops_cons hne, pk_cons f h, hd, List.drop_drop, ih (r - top2 r) (by omega) (f + top2 r) l (by omega)]
      rfl
theorem tops_all (l : List D) : tops l = (pk 0 l.length).map fun p => mth ((l.drop p.1).take p.2) := by
  have := tops_pk l.length 0 l (by omega)
  rwa [List.drop_zero] at this
theorem pk_length (n : Nat) : (pk 0 n).length = pop n := by
  have h := tops_all (List.replicate n fun _ => 0)
  have h2 := congrArg List.length h
  rw [List.length_map, List.length_replicate, tops_length n _ (by simp)] at h2
  exact h2.symm
/-- What a part's bounds are. -/
theorem pk_mem : ∀ (r f : Nat) (p : Nat × Nat), p ∈ pk f r → f ≤ p.1 ∧ 0 < p.2 ∧ p.1 + p.2 ≤ f + r := by
  intro r
  induction r using Nat.strongRecOn with
  | _ r ih =>
    intro f p hp
    by_cases h : r = 0
    · subst h
      rw [pk_zero] at hp
      cases hp
    · have hpos := top2_pos r
      have hle := top2_le h
      rw [pk_cons f h] at hp
      rcases List.mem_cons.1 hp with rfl | hp
      · exact ⟨Nat.le_refl _, hpos, by simp only; omega⟩
      · have := ih (r - top2 r) (by omega) _ _ hp
        omega
end TreeM
end Go.Proofs.YtkkanaefngggoaaDoor
