/-
  TreeRestores: for every two lists of leaves and every size, in whatever memory in which the tables lie. No condition.
-/
import Derived.Test.YtphknicdllcbmaaDoorTreeFnL
import Derived.Test.YtphknicdllcbmaaDoorTreeGo
import Derived.Test.YtphknicdllcbmaaDoorTreePart
import Derived.Test.YtphknicdllcbmaaDoorRefSumT
import Derived.Deep.DeepMust
namespace Go.Proofs.YtphknicdllcbmaaDoor
open Go Go.RowKit Go.Shelf TreeM

/-- Tops, read. -/
theorem tops_rd (Z : Nat → Prop) (g : Nat) (L : List D) (W : World) (h : TreeAt W Z g L) :
    Calls Tryd.prog 18 #[.pointer (some ⟨g, 0, none⟩)] W fun e w' => ∃ A c, e = .returned (.slice A (pop L.length) c) ∧ RdI w' (fun b => b < w'.heap.size) (.slice A (pop L.length) c) (tops L) ∧ Below W.heap.size W w' := by
  obtain ⟨_, _, _, _, _, _, hp, hle⟩ := id h
  refine (treeTops_any Z g L W h).mono ?_
  rintro e w' ⟨v', rfl, ho, hb⟩
  obtain ⟨A, c, rfl, _⟩ := own_len ho
  rw [hp] at ho ⊢
  have := pop_le 41 L.length (by omega)
  exact ⟨A, c, rfl, (own_rd ho (by omega)).mono fun b hb => hb.2.2, hb⟩
theorem restore_yes (m : Nat) (hm : m ≤ 1099511627776) (v : Value) (ts : List D) (W : World) (hr : RdI W (fun b => b < W.heap.size) v ts) (h : ts.length = pop m) : Calls Tryd.prog 21 #[.int .i64 (m : Int), v] W fun e w' => ∃ g Z, e = .returned (.tuple #[.pointer (some ⟨g, 0, none⟩), .int .i64 0]) ∧ RangeAt w' Z g m ts ∧ (∀ i, Z i → W.heap.size ≤ i) ∧ Below W.heap.size W w' := by
  refine (callsIn_wide.1 (restore_any m hm v ts W hr)).mono ?_
  rintro e w' ⟨h1, h2⟩
  rw [if_pos h] at h2
  obtain ⟨g, Z, rfl, h3, h4⟩ := h2
  exact ⟨g, Z, rfl, h3, h4, h1⟩
/-- Of a list's own tops. -/
theorem restore_tree (L : List D) (hL : L.length ≤ 1099511627776) (v : Value) (W : World) (hr : RdI W (fun b => b < W.heap.size) v (tops L)) : Calls Tryd.prog 21 #[.int .i64 (L.length : Int), v] W fun e w' => ∃ g Z, e = .returned (.tuple #[.pointer (some ⟨g, 0, none⟩), .int .i64 0]) ∧ TreeAt w' Z g L ∧ (∀ i, Z i → W.heap.size ≤ i) ∧ Below W.heap.size W w' :=
  restore_yes L.length hL v (tops L) W hr (tops_length _ L rfl)
theorem RangeAt.lt {w : World} {Z : Nat → Prop} {g n : Nat} {ts : List D} (h : RangeAt w Z g n ts) : ∀ i, Z i → i < w.heap.size := by
  obtain ⟨_, _, _, _, _, h5, _⟩ := h
  exact h5
end Go.Proofs.YtphknicdllcbmaaDoor
