/-
  What comes to somebody, in memory; rows of it. As arguments, opened. No condition.
-/
import Derived.Test.YtbgojlcciealiaaQBits
import Derived.Test.YtbgojlcciealiaaRndIn
namespace Go.Proofs.Ytbgojlcciealiaa
open Go Go.RowKit Go.ChangeShapes Go.WideShapes Go.ChangeAt

theorem cellsInt' : Try.prog.cellsOf 3 = 1 := by kernel_rfl
section
variable {H : Type} {enc : TypeId × Value → H}
end
section
variable {H : Type} {enc : TypeId × Value → H}
end
end Go.Proofs.Ytbgojlcciealiaa
