/-
  What comes to somebody, in memory; rows of it. As arguments, opened. No condition.
-/
import Derived.Test.YtclhfokflagopaaQBits
import Derived.Test.YtclhfokflagopaaRndIn
namespace Go.Proofs.Ytclhfokflagopaa
open Go Go.RowKit Go.ChangeShapes Go.WideShapes Go.ChangeAt

theorem cellsInt' : Try.prog.cellsOf 3 = 1 := by kernel_rfl
section
variable {H : Type} {enc : TypeId × Value → H}
theorem open_i64' {W : World} {fuel : Nat} {cs : List Value} {x : DataW H × List MemPlace} (h : DataW.trod enc Try.prog W 0 (fun _ => true) true fuel 3 cs = some x) : ∃ n : Int, cs = [.int .i64 n] ∧ (Lit.int .i64 n).wf = true := by
  obtain ⟨n, hn, _, hw⟩ := DataW.trod_int Try.underlying3 h
  exact ⟨n, hn, hw⟩
end
section
variable {H : Type} {enc : TypeId × Value → H}
end
end Go.Proofs.Ytclhfokflagopaa
