/-
  SlabPlays' walk, whole: rooms that can't be, and more steps than are played. No condition.
-/
import Derived.Test.YtnkaapghjgnliaaSlabLawP
import Derived.Test.YtnkaapghjgnliaaSlabLawQ
namespace Go.Proofs.Ytnkaapghjgnliaa
open Go Go.RowKit Go.Shelf

set_option maxRecDepth 100000 in
set_option maxHeartbeats 2000000 in
theorem plays_no (room : Int) (hr : room < 0 ∨ 4194304 < room) (A : Option Addr) (c n : Nat) (w : World) :
    Calls Try.prog 3 #[.int .i64 room, .slice A n c] w fun e w' => e = .returned (.bool true) ∧ Below w.heap.size w w' := by
  have N1 := Lib.hid (slabNew_no room hr)
  have N2 := Lib.hid (refNew_no room hr)
  by_cases h5 : 5000 < room
  · have d1 : decide ((5000 : Int) < room) = true := decide_eq_true h5
    have d2 : decide (room ≤ 4194304) = false := decide_eq_false (by omega)
    clear hr
    go_enter Try.func3, Try.ntmps3
    go_wp2_with (first
      | (go_at_call 8; refine (keeps_any _).mono ?_; rintro e w1 ⟨rfl, hb1⟩; have B1 := Lib.hid hb1; clear hb1)
      | (go_at_call 9; refine (N1.out _).mono ?_; rintro e w2 ⟨rfl, rfl⟩)
      | (go_at_call 10; refine (N2.out _).mono ?_; rintro e w3 ⟨rfl, hb3⟩; have B3 := Lib.hid (B1.out.trans (hb3.mono B1.out.size)); clear hb3))
    go_ret
    exact ⟨rfl, B3.out.alloc B3.out.size _⟩
  · have d1 : decide ((5000 : Int) < room) = false := decide_eq_false h5
    clear hr
    go_enter Try.func3, Try.ntmps3
    go_wp2_with (first
      | (go_at_call 8; refine (keeps_any _).mono ?_; rintro e w1 ⟨rfl, hb1⟩; have B1 := Lib.hid hb1; clear hb1)
      | (go_at_call 9; refine (N1.out _).mono ?_; rintro e w2 ⟨rfl, rfl⟩)
      | (go_at_call 10; refine (N2.out _).mono ?_; rintro e w3 ⟨rfl, hb3⟩; have B3 := Lib.hid (B1.out.trans (hb3.mono B1.out.size)); clear hb3))
    go_ret
    exact ⟨rfl, B3.out.alloc B3.out.size _⟩
set_option maxRecDepth 100000 in
set_option maxHeartbeats 2000000 in
theorem plays_long (room : Int) (h0 : 0 ≤ room) (h1 : room ≤ 4194304) (A : Option Addr) (c n : Nat) (hn : 100 < n) (w : World) :
    Calls Try.prog 3 #[.int .i64 room, .slice A n c] w fun e w' => e = .returned (.bool true) ∧ Below w.heap.size w w' := by
  have hn' : (100 : Int) < (n : Int) := by omega
  by_cases h5 : 5000 < room
  · have d1 : decide ((5000 : Int) < room) = true := decide_eq_true h5
    have d2 : decide (room ≤ 4194304) = true := decide_eq_true h1
    go_enter Try.func3, Try.ntmps3
    go_wp2_with (first
      | (go_at_call 8; refine (keeps_any _).mono ?_; rintro e w1 ⟨rfl, hb1⟩; have B1 := Lib.hid hb1; clear hb1)
      | (go_at_call 9; refine (slabNew_any 5000 (by omega) _).mono ?_; rintro e w2 ⟨rfl, h2, hb2⟩; have B2 := Lib.hid (B1.out.trans (hb2.mono B1.out.size)); clear h2 hb2)
      | (go_at_call 10; refine (refNew_ok 5000 (by omega) (by omega) _).mono ?_; rintro e w3 ⟨rfl, hb3⟩; have B3 := Lib.hid (B2.out.trans (hb3.mono B2.out.size)); clear hb3))
    go_ret
    exact ⟨rfl, B3.out.alloc B3.out.size _⟩
  · have d1 : decide ((5000 : Int) < room) = false := decide_eq_false h5
    obtain ⟨R, rfl⟩ := Int.eq_ofNat_of_zero_le h0
    go_enter Try.func3, Try.ntmps3
    go_wp2_with (first
      | (go_at_call 8; refine (keeps_any _).mono ?_; rintro e w1 ⟨rfl, hb1⟩; have B1 := Lib.hid hb1; clear hb1)
      | (go_at_call 9; refine (slabNew_any R (by omega) _).mono ?_; rintro e w2 ⟨rfl, h2, hb2⟩; have B2 := Lib.hid (B1.out.trans (hb2.mono B1.out.size)); clear h2 hb2)
      | (go_at_call 10; refine (refNew_ok (R : Int) (by omega) (by omega) _).mono ?_; rintro e w3 ⟨rfl, hb3⟩; have B3 := Lib.hid (B2.out.trans (hb3.mono B2.out.size)); clear hb3))
    go_ret
    exact ⟨rfl, B3.out.alloc B3.out.size _⟩
theorem plays_any (room : Int) (A : Option Addr) (c : Nat) (ops : List OpR) (w : World) (hr : RdOps w (fun b => b < w.heap.size) A ops) :
    Calls Try.prog 3 #[.int .i64 room, .slice A ops.length c] w fun e w' => e = .returned (.bool true) ∧ Below w.heap.size w w' := by
  by_cases h0 : room < 0 ∨ 4194304 < room
  · exact plays_no room h0 A c _ w
  · by_cases hn : 100 < ops.length
    · exact plays_long room (by omega) (by omega) A c _ hn w
    · by_cases h5 : 5000 < room
      · exact plays_big room h5 (by omega) A c _ ops w (by omega) rfl hr
      · obtain ⟨R, rfl⟩ := Int.eq_ofNat_of_zero_le (show 0 ≤ room by omega)
        exact plays_in R (by omega) A c _ ops w (by omega) rfl hr
end Go.Proofs.Ytnkaapghjgnliaa
