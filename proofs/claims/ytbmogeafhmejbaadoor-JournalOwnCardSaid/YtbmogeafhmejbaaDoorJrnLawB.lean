/-
  Layer 10: the law JournalBound. In whatever memory in which the tables lie. No condition.
-/
import Derived.Test.YtbmogeafhmejbaaDoorJrnHall
namespace Go.Proofs.YtbmogeafhmejbaaDoor
open Go Go.RowKit Go.Shelf

theorem js_lastL {w : World} {S : Nat → Prop} {g gd : Nat} {l : List (List UInt8)} {sd : SlabS} (h : JS w S g gd (jL l) sd) : Calls Tryd.prog 25 #[.pointer (some ⟨g, 0, none⟩)] w fun e w' => e = .returned (.agg (arr 32 fun i => bv (lastT zeroD l i))) ∧ Below w.heap.size w w' := js_last h
theorem neq_sameJ (f : Nat → UInt8) (w : World) : (binOp .neq 37 (.agg (arr 32 fun i => bv (f i))) (.agg (arr 32 fun i => bv (f i)))).run Tryd.prog w = .ok (.bool false) w := by
  have := neq_idJ f f w
  rw [beq_self_eq_true] at this
  exact this
end Go.Proofs.YtbmogeafhmejbaaDoor
