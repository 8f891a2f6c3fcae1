/-
  The law JournalPlays, for whatever room and steps. In whatever memory in which the tables lie. No condition.
-/
import Derived.Test.YtgpbpdjamimbfaaDoorJrnLawP
namespace Go.Proofs.YtgpbpdjamimbfaaDoor
open Go Go.RowKit Go.Shelf

set_option maxRecDepth 100000 in
theorem plays_law (room : Int) (A : Option Addr) (c : Nat) (ops : List OpR) (w : World) (hT : Tables w) (hr : RdOps w (fun b => b < w.heap.size) A ops) :
    Calls Tryd.prog 3 #[.int .i64 room, .slice A ops.length c] w fun e w' => e = .returned (.bool true) ∧ Below w.heap.size w w' := by
  by_cases h0 : room < 0
  · have HWR := Lib.hid (writes_any w hT)
    have e1 : decide (room < 0) = true := decide_eq_true h0
    generalize ops.length = n
    clear hT hr h0
    go_enter Tryd.func3, Tryd.ntmps3
    go_wp2_with (go_at_call 10; refine HWR.out.mono ?_; rintro e W1 ⟨rfl, hb1⟩)
    go_ret
    exact ⟨rfl, hb1⟩
  · by_cases h1 : 3000 < room
    · have HWR := Lib.hid (writes_any w hT)
      have e1 : decide (room < 0) = false := decide_eq_false h0
      have e2 : decide (room > 3000) = true := decide_eq_true h1
      generalize ops.length = n
      clear hT hr h0 h1
      go_enter Tryd.func3, Tryd.ntmps3
      go_wp2_with (go_at_call 10; refine HWR.out.mono ?_; rintro e W1 ⟨rfl, hb1⟩)
      go_ret
      exact ⟨rfl, hb1⟩
    · obtain ⟨R, rfl⟩ : ∃ R : Nat, room = (R : Int) := ⟨room.toNat, by omega⟩
      by_cases h2 : 40 < ops.length
      · have HWR := Lib.hid (writes_any w hT)
        have e1 : decide ((R : Int) < 0) = false := decide_eq_false h0
        have e2 : decide ((R : Int) > 3000) = false := decide_eq_false h1
        have e3 : decide ((ops.length : Int) > 40) = true := decide_eq_true (by omega)
        obtain ⟨n, hn⟩ : ∃ n, ops.length = n := ⟨_, rfl⟩
        rw [hn] at e3 ⊢
        clear hT hr hn h2 h0 h1
        go_enter Tryd.func3, Tryd.ntmps3
        go_wp2_with (go_at_call 10; refine HWR.out.mono ?_; rintro e W1 ⟨rfl, hb1⟩)
        go_ret
        exact ⟨rfl, hb1⟩
      · exact plays_in R (by omega) A c ops.length ops w hT (by omega) rfl hr
end Go.Proofs.YtgpbpdjamimbfaaDoor
