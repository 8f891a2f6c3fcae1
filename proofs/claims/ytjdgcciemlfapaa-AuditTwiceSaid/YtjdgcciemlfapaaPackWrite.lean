/-
  pack.Write: for every message, in whatever memory: its bytes in new memory, or why it can't be written.
-/
import Derived.Test.YtjdgcciemlfapaaPackFields
import Derived.Test.YtjdgcciemlfapaaPackGrow
namespace Go.Proofs.Ytjdgcciemlfapaa
open Go Go.RowKit PackMath
attribute [local go_sem] Oper.semAt_some

section
variable {F : Fence} {n : Nat} {P : Program} {ops : Array Oper} {rest : List Oper} {o : Oper} {a : Act} {w : World} {Q : Exit → Act → World → Prop}
end
/-- What stands in the bytes when some fields are done. -/
def soFar (k : UInt8) (xs : List (Nat × List UInt8)) : List UInt8 := k :: xs.flatMap fun x => UInt8.ofNat x.1 :: run x.2
theorem ownsRow_block {B : Nat} {e : TypeId} {k : Nat} {v : Value} {n : Nat} {xs : List Value} {w w' : World} (h : w.ownsRow B e k v n xs) (hb : ∀ g, v.ownBlock = some g → w'.heap[g]? = w.heap[g]?) : w'.ownsRow B e k v n xs := by
  refine ⟨h.1, ?_⟩
  rcases h.2 with h0 | ⟨g, cap, cur, h1, h2, h3, h4⟩
  · exact .inl h0
  · exact .inr ⟨g, cap, cur, h1, h2, (hb g (by rw [h1]; rfl)).trans h3, h4⟩
theorem ownsRow_cells {B : Nat} {e : TypeId} {g n cap : Nat} {xs : List Value} {w : World} (h : w.ownsRow B e 1 (.slice (some ⟨g, 0, none⟩) n cap) n xs) : ∃ cs, w.heap[g]? = some (.cells cs e (0, 0)) := by
  rcases h.2 with ⟨h0, _⟩ | ⟨g', cap', cur, h1, h2, h3, h4⟩
  · cases h0
  · injection h1 with e1
    injection e1 with e1
    injection e1 with e1
    subst e1
    exact ⟨_, h3⟩
theorem cell_putObj {W : World} {l : Nat} {b : Obj} (hl : W.heap[l]? = some b) (hb : b.isCells = false) (b' : Obj) {a : Addr} {x : Value} (h : W.cell? a = some x) : (W.putObj l b').cell? a = some x := by
  obtain ⟨o, ho, hc⟩ := cells_of_cell h
  have hne : a.block ≠ l := fun e => by
    rw [e, hl] at ho
    cases ho
    rw [hb] at hc
    cases hc
  exact (World.cell?_of_block (World.putObj_heap_other hne)).trans h
/-- The loop's invariant: the bytes so far in a row of the call's own, the row in its variable. -/
def Inv (w : World) (B gb : Nat) (k : UInt8) (pre : List (Nat × List UInt8)) (o : Nat → Prop) (W : World) : Prop :=
  ∃ g n cap, Blk W gb 24 #[.slice (some ⟨g, 0, none⟩) n cap] ∧ W.ownsRow B 5 1 (.slice (some ⟨g, 0, none⟩) n cap) n ((soFar k pre).map bv) ∧ n = (soFar k pre).length ∧ o = (fun b => b = gb ∨ b = g) ∧ g ≠ gb ∧ B ≤ g ∧ B ≤ gb ∧ Below B w W
end Go.Proofs.Ytjdgcciemlfapaa
