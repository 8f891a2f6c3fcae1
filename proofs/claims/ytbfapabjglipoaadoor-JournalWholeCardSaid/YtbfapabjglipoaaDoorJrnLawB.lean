/-
  Layer 10: the law JournalBound. In whatever memory in which the tables lie. No condition.
-/
import Derived.Test.YtbfapabjglipoaaDoorJrnHall
namespace Go.Proofs.YtbfapabjglipoaaDoor
open Go Go.RowKit Go.Shelf

theorem new_100000 (w : World) : Calls Tryd.prog 11 #[.int .i64 100000] w fun e w' => e = .returned (.tuple #[.pointer (some ⟨w.heap.size, 0, none⟩), .int .i64 0]) ∧ SlabAt w' (fun i => i = w.heap.size) w.heap.size ⟨100000, [], 0, -1⟩ ∧ Below w.heap.size w w' := by
  have h := slabNew_any 100000 (by omega) w
  rw [Int.cast_ofNat_Int] at h
  exact h
theorem js_lenL {w : World} {S : Nat → Prop} {g gd : Nat} {l : List (List UInt8)} {sd : SlabS} (h : JS w S g gd (jL l) sd) : Calls Tryd.prog 24 #[.pointer (some ⟨g, 0, none⟩)] w fun e w' => e = .returned (.int .i64 (l.length : Int)) ∧ w' = w := js_len h
end Go.Proofs.YtbfapabjglipoaaDoor
