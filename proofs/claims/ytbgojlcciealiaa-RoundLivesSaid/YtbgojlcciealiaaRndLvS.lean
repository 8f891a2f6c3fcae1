/-
  Rows of whole numbers as arguments, opened. No condition.
-/
import Derived.Test.YtbgojlcciealiaaRndArgs
import Derived.Test.YtbgojlcciealiaaQLv
namespace Go.Proofs.Ytbgojlcciealiaa
open Go Go.RowKit Go.ChangeShapes Go.WideShapes Go.ChangeAt

section
variable {H : Type} {enc : TypeId × Value → H}
/-- []int. -/
theorem open_nums {W : World} {fuel : Nat} {cs : List Value} {d : DataW H} {p : List MemPlace} (h : DataW.trod enc Try.prog W 0 (fun _ => true) true fuel 95 cs = some (d, p)) :
    ∃ (v : Value) (l : List Int), cs = [v] ∧ RdQ W v l := by
  rcases open_ints Try.underlying95 Try.underlying3 cellsInt' h with ⟨rfl, hx⟩ | ⟨a, len, cap, zs, rfl, _, hle, hm, hz, hx, hcell, hwz⟩
  · exact ⟨_, [], rfl, none, 0, rfl, by unfold maxLen; simp, fun x hx => (by cases hx), fun h => by simp at h⟩
  · simp only [if_true] at hz
    have hlen : (zs.take len).length = len := by rw [List.length_take]; omega
    refine ⟨_, zs.take len, rfl, some a, cap, by rw [hlen], by omega, fun x hx => hwz x (List.mem_of_mem_take hx), fun h0 => ⟨a, rfl, ?_, fun j n hj => ?_⟩⟩
    · have h6 := hcell 0 (by omega)
      have := block_lt_of_cell h6
      rwa [block_add] at this
    · have hjl := (List.getElem?_eq_some_iff.1 hj).1
      rw [hlen] at hjl
      rw [hcell j (by omega), List.getD_eq_getElem?_getD]
      rw [List.getElem?_take_of_lt (by omega)] at hj
      rw [hj]
      rfl
end
end Go.Proofs.Ytbgojlcciealiaa
