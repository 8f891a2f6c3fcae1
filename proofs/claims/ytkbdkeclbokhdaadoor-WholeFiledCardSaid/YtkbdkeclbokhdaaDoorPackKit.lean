/-
  pack's small functions: is a kind, a number's bytes. For every argument, in whatever memory.
-/
import Derived.Test.YtkbdkeclbokhdaaDoorQ1
import Derived.Test.YtkbdkeclbokhdaaDoorPackMath
import Derived.Test.YtkbdkeclbokhdaaDoorProg
import Derived.Below
import Derived.IntWalk
import Derived.KernelRfl
import Derived.WalkLawsBesides
import Derived.StillTailTactics
import Derived.Deep.QuietTactic
import Derived.WalkSpells
import Derived.Lib.Hide
namespace Go.Proofs.YtkbdkeclbokhdaaDoor
open Go Go.RowKit

theorem isKind_any (k : Int) (w : World) : Calls Tryd.prog 52 #[.int .i64 k] w fun e w' => e = .returned (.bool (decide (1 ≤ k ∧ k ≤ 31))) ∧ w' = w := by
  by_cases h1 : 1 ≤ k
  · by_cases h2 : k ≤ 31
    · go_enter Tryd.func52, Tryd.ntmps52
      go_wp2
      go_ret
      simp [h1, h2]
    · have d2 : decide (k ≤ 31) = false := by simpa using h2
      go_enter Tryd.func52, Tryd.ntmps52
      go_wp2
      go_ret
      simp
  · have d1 : decide (1 ≤ k) = false := by simpa using h1
    go_enter Tryd.func52, Tryd.ntmps52
    go_wp2
    go_ret
    simp
end Go.Proofs.YtkbdkeclbokhdaaDoor
