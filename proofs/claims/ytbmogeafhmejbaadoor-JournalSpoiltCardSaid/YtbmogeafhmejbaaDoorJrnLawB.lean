/-
  Layer 10: the law JournalBound. In whatever memory in which the tables lie. No condition.
-/
import Derived.Test.YtbmogeafhmejbaaDoorJrnHall
namespace Go.Proofs.YtbmogeafhmejbaaDoor
open Go Go.RowKit Go.Shelf

theorem new_100000 (w : World) : Calls Tryd.prog 11 #[.int .i64 100000] w fun e w' => e = .returned (.tuple #[.pointer (some ⟨w.heap.size, 0, none⟩), .int .i64 0]) ∧ SlabAt w' (fun i => i = w.heap.size) w.heap.size ⟨100000, [], 0, -1⟩ ∧ Below w.heap.size w w' := by
  have h := slabNew_any 100000 (by omega) w
  rw [Int.cast_ofNat_Int] at h
  exact h
end Go.Proofs.YtbmogeafhmejbaaDoor
