/-
  The reference's slab: for every slab as a value and every argument: what it answers; nothing old turns. No condition.
-/
import Derived.Test.YtbmogeafhmejbaaDoorSlabJ
import Derived.Test.YtbmogeafhmejbaaDoorPackOps
namespace Go.Proofs.YtbmogeafhmejbaaDoor
open Go Go.RowKit Go.Shelf

/-- The end of a function whose results are a slab in a variable and a number, or a bool. -/
theorem ref_end {F : Func} {p q : Tmp} (hF : F.results = #[.cell p 29, .tmp q]) {R : Ending → World → Prop} {a : Act} {w : World} (g : Nat) (x y z t : Value) (hp : a.tmps.getD p undef = .pointer (some ⟨g, 0, none⟩)) (hg : Blk w g 29 #[x, y, z, t]) (hd : a.defers = [])
    (hR : R (.returned (.tuple #[.agg #[x, y, z, t], a.tmps.getD q undef])) w) : bodyPost Tryd.prog F R .ret a w :=
  bodyPost_ret (results_cell_tmp (p := p) (q := q) hF _ _ g _ _ _ hp hg Tryd.underlying29 rfl (by kernel_rfl)) hd hR
theorem b2 (w : World) (t t' : TypeId) (a b : Array Value) : Below w.heap.size w ((w.alloc (.cells a t)).alloc (.cells b t')) := ((Below.refl _ _).alloc (Nat.le_refl _) _).alloc (by simp) _
set_option maxHeartbeats 1000000 in
theorem refStep_no (room su : Int) (bs : List UInt8) (w : World) :
    Calls Tryd.prog 57 #[.agg #[.int .i64 room, .int .i64 su, .int .i64 0, .string ⟨bs.toArray⟩]] w fun e w' => e = .returned (.tuple #[.agg #[.int .i64 room, .int .i64 su, .int .i64 0, .string ⟨bs.toArray⟩], .bool false]) ∧ Below w.heap.size w w' := by
  go_enter Tryd.func57, Tryd.ntmps57
  go_wp2
  exact ref_end rfl (w.heap.size + 1) _ _ _ _ rfl (Blk.newAt _ _ (by simp) rfl) rfl ⟨rfl, b2 _ _ _ _ _⟩
set_option maxHeartbeats 1000000 in
theorem refStep_yes (room su st : Int) (bs : List UInt8) (h0 : st ≠ 0) (h2 : st ≤ 9223372036854775807) (w : World) :
    Calls Tryd.prog 57 #[.agg #[.int .i64 room, .int .i64 su, .int .i64 st, .string ⟨bs.toArray⟩]] w fun e w' => e = .returned (.tuple #[.agg #[.int .i64 room, .int .i64 su, .int .i64 (decP st), .string ⟨bs.toArray⟩], .bool true]) ∧ Below w.heap.size w w' := by
  have d0 : (st == 0) = false := by simpa using h0
  clear h0
  by_cases h1 : 0 < st
  · have HD : Hid (decP st = st - 1) := Lib.hid (by unfold decP; rw [if_pos h1])
    rw [HD.out]
    go_enter Tryd.func57, Tryd.ntmps57
    go_wp2
    exact ref_end rfl (w.heap.size + 1) _ _ _ _ rfl (Blk.newAt _ _ (by simp) rfl) rfl ⟨rfl, b2 _ _ _ _ _⟩
  · have HD : Hid (decP st = st) := Lib.hid (by unfold decP; rw [if_neg h1])
    rw [HD.out]
    go_enter Tryd.func57, Tryd.ntmps57
    go_wp2
    exact ref_end rfl (w.heap.size + 1) _ _ _ _ rfl (Blk.newAt _ _ (by simp) rfl) rfl ⟨rfl, b2 _ _ _ _ _⟩
end Go.Proofs.YtbmogeafhmejbaaDoor
