/-
  The law PostPlays, for whatever steps. In whatever memory. No condition.
-/
import Derived.Test.YtekakelkjnhehaaPstLaw
namespace Go.Proofs.Ytekakelkjnhehaa
open Go Go.RowKit PackMath

set_option maxRecDepth 100000 in
theorem plays_law (A : Option Addr) (c : Nat) (ops : List OpP) (w : World) (hr : RdOpsP w (fun b => b < w.heap.size) A ops) :
    Calls Try.prog 3 #[.slice A ops.length c] w fun e w' => e = .returned (.bool true) ∧ Below w.heap.size w w' := by
  by_cases h2 : 100 < ops.length
  · have e3 : decide ((ops.length : Int) > 100) = true := decide_eq_true (by omega)
    obtain ⟨n, hn⟩ : ∃ n, ops.length = n := ⟨_, rfl⟩
    rw [hn] at e3 ⊢
    clear hr hn h2
    go_enter Try.func3, Try.ntmps3
    go_wp2_with (go_at_call 6; refine (carries_any _).mono ?_; rintro e W1 ⟨rfl, hb1⟩)
    go_ret
    exact ⟨rfl, hb1⟩
  · exact playsP_in A c ops.length ops w (by omega) rfl hr
end Go.Proofs.Ytekakelkjnhehaa
