/-
  A load as one operation of a region that draws its order. Nothing here names the program. No condition.
-/
import Derived.Test.YtkkanaefngggoaaDoorRd
namespace Go.Proofs.YtkkanaefngggoaaDoor
open Go Go.RowKit
section
variable {P : Program} {o : Oper} {a : Act} {w : World} {K : Act → World → Prop} {Q : Exit → Act → World → Prop}
theorem oper_load (ty : TypeId) (x : Operand) (ho : o.op = .load ty x) (p v : Value) (hx : a.eval x = p) (hl : (Instr.loadAt ty p).run P w = .ok v w) (h : K (a.put o.dst v) w) : o.wp P a w K Q := by
  subst hx
  unfold Oper.wp
  simp [execOp, ho, hl, Result.andThen, Oper.upon]
  exact h
end
end Go.Proofs.YtkkanaefngggoaaDoor
