/-
  CountNeeds: walked. No condition.
-/
import Derived.Test.YtogcfkccjddfhaaCntGuard
namespace Go.Proofs.Ytogcfkccjddfhaa
open Go Go.RowKit Go.Maps

set_option maxRecDepth 100000 in
set_option maxHeartbeats 4000000 in
theorem countneeds_1 (w : World) : Calls Try.prog 7 #[.int .i64 1] w fun e w' => e = .returned (.bool true) ∧ Below w.heap.size w w' := by
  have hf : faults 1 = 0 := by decide
  have hn : need 1 = 1 := by decide
  have HF := Lib.hid fun W => faults_any 1 W
  have HN := Lib.hid fun W => need_any 1 W
  rw [hf] at HF
  rw [hn] at HN
  go_enter Try.func7, Try.ntmps7
  go_wp2_with (first
    | (go_at_call 15; refine (counts_any w).mono ?_; rintro e W1 ⟨rfl, hb1⟩; have HB := Lib.hid hb1; clear hb1)
    | (go_at_call 18; refine (HF.out _).mono ?_; rintro e W2 ⟨rfl, h2⟩; obtain rfl := h2.symm)
    | (go_at_call 19; refine (HN.out _).mono ?_; rintro e W3 ⟨rfl, h3⟩; obtain rfl := h3.symm))
  go_ret
  exact ⟨rfl, HB.out⟩
set_option maxRecDepth 100000 in
set_option maxHeartbeats 4000000 in
theorem countneeds_4 (w : World) : Calls Try.prog 7 #[.int .i64 4] w fun e w' => e = .returned (.bool true) ∧ Below w.heap.size w w' := by
  have hf : faults 4 = 1 := by decide
  have hn : need 4 = 3 := by decide
  have HF := Lib.hid fun W => faults_any 4 W
  have HN := Lib.hid fun W => need_any 4 W
  rw [hf] at HF
  rw [hn] at HN
  go_enter Try.func7, Try.ntmps7
  go_wp2_with (first
    | (go_at_call 15; refine (counts_any w).mono ?_; rintro e W1 ⟨rfl, hb1⟩; have HB := Lib.hid hb1; clear hb1)
    | (go_at_call 18; refine (HF.out _).mono ?_; rintro e W2 ⟨rfl, h2⟩; obtain rfl := h2.symm)
    | (go_at_call 19; refine (HN.out _).mono ?_; rintro e W3 ⟨rfl, h3⟩; obtain rfl := h3.symm))
  go_ret
  exact ⟨rfl, HB.out⟩
set_option maxRecDepth 100000 in
set_option maxHeartbeats 4000000 in
theorem countneeds_7 (w : World) : Calls Try.prog 7 #[.int .i64 7] w fun e w' => e = .returned (.bool true) ∧ Below w.heap.size w w' := by
  have hf : faults 7 = 2 := by decide
  have hn : need 7 = 5 := by decide
  have HF := Lib.hid fun W => faults_any 7 W
  have HN := Lib.hid fun W => need_any 7 W
  rw [hf] at HF
  rw [hn] at HN
  go_enter Try.func7, Try.ntmps7
  go_wp2_with (first
    | (go_at_call 15; refine (counts_any w).mono ?_; rintro e W1 ⟨rfl, hb1⟩; have HB := Lib.hid hb1; clear hb1)
    | (go_at_call 18; refine (HF.out _).mono ?_; rintro e W2 ⟨rfl, h2⟩; obtain rfl := h2.symm)
    | (go_at_call 19; refine (HN.out _).mono ?_; rintro e W3 ⟨rfl, h3⟩; obtain rfl := h3.symm))
  go_ret
  exact ⟨rfl, HB.out⟩
set_option maxRecDepth 100000 in
set_option maxHeartbeats 4000000 in
theorem countneeds_law (n : Int) (w : World) : Calls Try.prog 7 #[.int .i64 n] w fun e w' => e = .returned (.bool true) ∧ Below w.heap.size w w' := by
  by_cases h1 : n = 1
  · rw [h1]; exact countneeds_1 w
  by_cases h4 : n = 4
  · rw [h4]; exact countneeds_4 w
  by_cases h7 : n = 7
  · rw [h7]; exact countneeds_7 w
  have hf : faults n = -1 := by unfold faults; rw [if_neg h1, if_neg h4, if_neg h7]
  have HF := Lib.hid fun W => faults_any n W
  rw [hf] at HF
  have e1 : (n == 1) = false := beq_eq_false_iff_ne.2 h1
  have e4 : (n == 4) = false := beq_eq_false_iff_ne.2 h4
  have e7 : (n == 7) = false := beq_eq_false_iff_ne.2 h7
  clear hf
  go_enter Try.func7, Try.ntmps7
  go_wp2_with (first
    | (go_at_call 15; refine (counts_any w).mono ?_; rintro e W1 ⟨rfl, hb1⟩; have HB := Lib.hid hb1; clear hb1)
    | (go_at_call 18; refine (HF.out _).mono ?_; rintro e W2 ⟨rfl, h2⟩; obtain rfl := h2.symm))
  go_ret
  refine ⟨?_, HB.out⟩
  show Ending.returned (.bool (n != 1 && n != 4 && n != 7)) = _
  simp [h1, h4, h7]
end Go.Proofs.Ytogcfkccjddfhaa
