/-
  The reference's slab: for every slab as a value and every argument: what it answers; nothing old turns. No condition.
-/
import Derived.Test.YtnkaapghjgnliaaSlab
import Derived.Test.YtnkaapghjgnliaaPackOps
namespace Go.Proofs.Ytnkaapghjgnliaa
open Go Go.RowKit Go.Shelf

def refV (room su st : Int) (bs : List UInt8) : Value := .agg #[.int .i64 room, .int .i64 su, .int .i64 st, .string ⟨bs.toArray⟩]
/-- The end of a function whose results are a slab in a variable and a number, or a bool. -/
theorem ref_end {F : Func} {p q : Tmp} (hF : F.results = #[.cell p 29, .tmp q]) {R : Ending → World → Prop} {a : Act} {w : World} (g : Nat) (x y z t : Value) (hp : a.tmps.getD p undef = .pointer (some ⟨g, 0, none⟩)) (hg : Blk w g 29 #[x, y, z, t]) (hd : a.defers = [])
    (hR : R (.returned (.tuple #[.agg #[x, y, z, t], a.tmps.getD q undef])) w) : bodyPost Try.prog F R .ret a w :=
  bodyPost_ret (results_cell_tmp (p := p) (q := q) hF _ _ g _ _ _ hp hg Try.underlying29 rfl (by kernel_rfl)) hd hR
theorem ref_end1 {F : Func} {p : Tmp} (hF : F.results = #[.cell p 29]) {R : Ending → World → Prop} {a : Act} {w : World} (g : Nat) (x y z t : Value) (hp : a.tmps.getD p undef = .pointer (some ⟨g, 0, none⟩)) (hg : Blk w g 29 #[x, y, z, t]) (hd : a.defers = [])
    (hR : R (.returned (.agg #[x, y, z, t])) w) : bodyPost Try.prog F R .ret a w :=
  bodyPost_ret (results_cell_row (p := p) hF _ _ g _ _ (0, 0) _ hp hg Try.underlying29 rfl (by kernel_rfl)) hd hR
theorem b2 (w : World) (t t' : TypeId) (a b : Array Value) : Below w.heap.size w ((w.alloc (.cells a t)).alloc (.cells b t')) := ((Below.refl _ _).alloc (Nat.le_refl _) _).alloc (by simp) _
set_option maxHeartbeats 1000000 in
theorem refStep_no (room su : Int) (bs : List UInt8) (w : World) :
    Calls Try.prog 25 #[.agg #[.int .i64 room, .int .i64 su, .int .i64 0, .string ⟨bs.toArray⟩]] w fun e w' => e = .returned (.tuple #[.agg #[.int .i64 room, .int .i64 su, .int .i64 0, .string ⟨bs.toArray⟩], .bool false]) ∧ Below w.heap.size w w' := by
  go_enter Try.func25, Try.ntmps25
  go_wp2
  exact ref_end rfl (w.heap.size + 1) _ _ _ _ rfl (Blk.newAt _ _ (by simp) rfl) rfl ⟨rfl, b2 _ _ _ _ _⟩
set_option maxHeartbeats 1000000 in
theorem refStep_yes (room su st : Int) (bs : List UInt8) (h0 : st ≠ 0) (h2 : st ≤ 9223372036854775807) (w : World) :
    Calls Try.prog 25 #[.agg #[.int .i64 room, .int .i64 su, .int .i64 st, .string ⟨bs.toArray⟩]] w fun e w' => e = .returned (.tuple #[.agg #[.int .i64 room, .int .i64 su, .int .i64 (decP st), .string ⟨bs.toArray⟩], .bool true]) ∧ Below w.heap.size w w' := by
  have d0 : (st == 0) = false := by simpa using h0
  clear h0
  by_cases h1 : 0 < st
  · have HD : Hid (decP st = st - 1) := Lib.hid (by unfold decP; rw [if_pos h1])
    rw [HD.out]
    go_enter Try.func25, Try.ntmps25
    go_wp2
    exact ref_end rfl (w.heap.size + 1) _ _ _ _ rfl (Blk.newAt _ _ (by simp) rfl) rfl ⟨rfl, b2 _ _ _ _ _⟩
  · have HD : Hid (decP st = st) := Lib.hid (by unfold decP; rw [if_neg h1])
    rw [HD.out]
    go_enter Try.func25, Try.ntmps25
    go_wp2
    exact ref_end rfl (w.heap.size + 1) _ _ _ _ rfl (Blk.newAt _ _ (by simp) rfl) rfl ⟨rfl, b2 _ _ _ _ _⟩
set_option maxHeartbeats 1000000 in
theorem refNew_ok (n : Int) (h0 : 0 ≤ n) (h1 : n ≤ 4194304) (w : World) :
    Calls Try.prog 10 #[.int .i64 n] w fun e w' => e = .returned (.tuple #[.agg #[.int .i64 n, .int .i64 0, .int .i64 (-1), .string ⟨#[]⟩], .int .i64 0]) ∧ Below w.heap.size w w' := by
  have d0 : decide (n < 0) = false := decide_eq_false (by omega)
  have d1 : decide (4194304 < n) = false := decide_eq_false (by omega)
  go_enter Try.func10, Try.ntmps10
  go_wp2
  exact ref_end rfl w.heap.size _ _ _ _ rfl (Blk.newAt _ _ (by simp) rfl) rfl ⟨rfl, (Below.refl _ _).alloc (Nat.le_refl _) _⟩
set_option maxHeartbeats 1000000 in
theorem refNew_no (n : Int) (hn : n < 0 ∨ 4194304 < n) (w : World) :
    Calls Try.prog 10 #[.int .i64 n] w fun e w' => e = .returned (.tuple #[.agg #[.int .i64 0, .int .i64 0, .int .i64 0, .string ⟨#[]⟩], .int .i64 1]) ∧ Below w.heap.size w w' := by
  by_cases h0 : n < 0
  · have d0 : decide (n < 0) = true := decide_eq_true h0
    clear hn
    go_enter Try.func10, Try.ntmps10
    go_wp2
    exact ref_end rfl w.heap.size _ _ _ _ rfl (Blk.newAt _ _ (by simp) rfl) rfl ⟨rfl, (Below.refl _ _).alloc (Nat.le_refl _) _⟩
  · have d0 : decide (n < 0) = false := decide_eq_false h0
    have d1 : decide (4194304 < n) = true := decide_eq_true (by omega)
    clear hn
    go_enter Try.func10, Try.ntmps10
    go_wp2
    exact ref_end rfl w.heap.size _ _ _ _ rfl (Blk.newAt _ _ (by simp) rfl) rfl ⟨rfl, (Below.refl _ _).alloc (Nat.le_refl _) _⟩
set_option maxHeartbeats 1000000 in
theorem refBreak_any (room su st n : Int) (bs : List UInt8) (w : World) :
    Calls Try.prog 17 #[.agg #[.int .i64 room, .int .i64 su, .int .i64 st, .string ⟨bs.toArray⟩], .int .i64 n] w fun e w' => e = .returned (.agg #[.int .i64 room, .int .i64 su, .int .i64 (if n < 0 then -1 else n), .string ⟨bs.toArray⟩]) ∧ Below w.heap.size w w' := by
  by_cases h0 : n < 0
  · have HD : Hid ((if n < 0 then -1 else n) = -1) := Lib.hid (by rw [if_pos h0])
    rw [HD.out]
    go_enter Try.func17, Try.ntmps17
    go_wp2
    exact ref_end1 rfl (w.heap.size + 1) _ _ _ _ rfl (Blk.newAt _ _ (by simp) rfl) rfl ⟨rfl, b2 _ _ _ _ _⟩
  · have HD : Hid ((if n < 0 then -1 else n) = n) := Lib.hid (by rw [if_neg h0])
    rw [HD.out]
    go_enter Try.func17, Try.ntmps17
    go_wp2
    exact ref_end1 rfl (w.heap.size + 1) _ _ _ _ rfl (Blk.newAt _ _ (by simp) rfl) rfl ⟨rfl, b2 _ _ _ _ _⟩
end Go.Proofs.Ytnkaapghjgnliaa
