/-
  RoundLives: of every number of voters and every list of picks, in whatever memory. No condition.
-/
import Derived.Test.YtbgojlcciealiaaRndLives
namespace Go.Proofs.Ytbgojlcciealiaa
open Go Go.RowKit Go.Maps

set_option maxRecDepth 100000 in
set_option maxHeartbeats 8000000 in
theorem lives_none (a : Int) (A : Option Addr) (mm cc : Nat) (w : World) (h : faults a < 0) : Calls Try.prog 11 #[.int .i64 a, .slice A mm cc] w fun e w' => e = .returned (.bool true) ∧ Below w.heap.size w w' := by
  go_enter Try.func11, Try.ntmps11
  go_upto_region 3 with (go_at_call 32; refine (agrees_any _).mono ?_; rintro e W1 ⟨rfl, hb1⟩; have HB1 := Lib.hid hb1; clear hb1)
  go_wp2_with (go_at_call 18; refine (faults_any _ _).mono ?_; rintro e Wf ⟨rfl, h1⟩; obtain rfl := h1.symm)
  go_ret
  exact ⟨rfl, HB1.out⟩
theorem roundlives_law (a : Int) (v : Value) (L : List Int) (w : World) (hr : RdQ w v L) : Calls Try.prog 11 #[.int .i64 a, v] w fun e w' => e = .returned (.bool true) ∧ Below w.heap.size w w' := by
  obtain ⟨Aq, cq, rfl, _⟩ := id hr
  by_cases hf : faults a < 0
  · exact lives_none a _ _ _ w hf
  · rcases faults_cases (n := a) (by omega) with ⟨rfl, _⟩ | ⟨rfl, _⟩ | ⟨rfl, _⟩
    · exact lives_go 1 0 (by decide) (by omega) (by omega) (by decide) (by omega) _ _ _ L w hr rfl
    · exact lives_go 4 1 (by decide) (by omega) (by omega) (by decide) (by omega) _ _ _ L w hr rfl
    · exact lives_go 7 5 (by decide) (by omega) (by omega) (by decide) (by omega) _ _ _ L w hr rfl
end Go.Proofs.Ytbgojlcciealiaa
