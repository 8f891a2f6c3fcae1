/-
  Arguments opened: slices of slices of bytes. No condition.
-/
import Derived.Test.YtgpbpdjamimbfaaDoorLaidT
import Derived.Test.YtgpbpdjamimbfaaDoorCards
import Derived.Test.YtgpbpdjamimbfaaDoorTie
namespace Go.Proofs.YtgpbpdjamimbfaaDoor
open Go Go.RowKit Go.ChangeShapes Go.WideShapes Go.ChangeAt

theorem cellsS : Tryd.prog.cellsOf 42 = 1 := by kernel_rfl
section
variable {H : Type} {enc : TypeId × Value → H}
end
end Go.Proofs.YtgpbpdjamimbfaaDoor
