/-
  The reference's Same: of any two messages, wherever they lie: whether they are alike.
-/
import Derived.Test.YtjdgcciemlfapaaPackRefParts
namespace Go.Proofs.Ytjdgcciemlfapaa
open Go Go.RowKit PackMath

section
variable {P : Program} {ops : Array Oper} {rest : List Oper} {o : Oper} {a : Act} {w : World} {Q : Exit → Act → World → Prop}
/-- A binary operation by its run equation, of an operation with a guard that is met. -/
theorem wpList_binG (hw : Region.wanted o (yielded ops a.tmps) = true) (op : BinOp) (t rt : TypeId) (x y : Operand) (ho : o.op = .binOp op t x y rt)
    (vx vy : Value) (hx : a.eval x = vx) (hy : a.eval y = vy) (v : Value) (hg : (eqGuard op t x y vx vy).run P w = .ok () w) (hrun : (binOp op t vx vy).run P w = .ok v w)
    (h : wpList P ops Q rest (a.put o.dst v) w) : wpList P ops Q (o :: rest) a w :=
  wpList_step fun K hK => by
    rw [if_pos hw]
    unfold Oper.wp
    simp [execOp, ho, hx, hy, hg, hrun, Result.andThen, Oper.upon]
    exact hK _ _ h
end
end Go.Proofs.Ytjdgcciemlfapaa
