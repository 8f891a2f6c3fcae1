/-
  The reference's Same: of any two messages, wherever they lie: whether they are alike.
-/
import Derived.Test.YtngceddlieimmaaPackRefParts
namespace Go.Proofs.Ytngceddlieimmaa
open Go Go.RowKit PackMath

section
variable {P : Program} {ops : Array Oper} {rest : List Oper} {o : Oper} {a : Act} {w : World} {Q : Exit → Act → World → Prop}
/-- A load from within a row, of an operation with a guard that is met. -/
theorem wpList_load_midG (hw : Region.wanted o (yielded ops a.tmps) = true) (ty : TypeId) (x : Operand) (ho : o.op = .load ty x)
    (b off : Nat) (hx : a.eval x = .pointer (some ⟨b, off, none⟩)) (cs : List Value) (d : TypeDesc) (hc : w.rangeAt b off cs)
    (hu : P.underlying ty = some d) (hd : d.isRow = true) (hi : (P.info? ty).map (·.size) = some cs.length)
    (h : wpList P ops Q rest (a.put o.dst (.agg cs.toArray)) w) : wpList P ops Q (o :: rest) a w :=
  wpList_step fun K hK => by
    rw [if_pos hw]
    exact wp_load_mid ty x ho b off hx cs d hc hu hd hi (hK _ _ h)
/-- A binary operation by its run equation, of an operation with a guard that is met. -/
theorem wpList_binG (hw : Region.wanted o (yielded ops a.tmps) = true) (op : BinOp) (t rt : TypeId) (x y : Operand) (ho : o.op = .binOp op t x y rt)
    (vx vy : Value) (hx : a.eval x = vx) (hy : a.eval y = vy) (v : Value) (hg : (eqGuard op t x y vx vy).run P w = .ok () w) (hrun : (binOp op t vx vy).run P w = .ok v w)
    (h : wpList P ops Q rest (a.put o.dst v) w) : wpList P ops Q (o :: rest) a w :=
  wpList_step fun K hK => by
    rw [if_pos hw]
    unfold Oper.wp
    simp [execOp, ho, hx, hy, hg, hrun, Result.andThen, Oper.upon]
    exact hK _ _ h
end
theorem id_range {W : World} {g : Nat} {r : Raw} {d i l : Value} (h : Blk W g 28 (msgA r d i l)) : W.rangeAt g 6 ((id32 r.id).map Extern.Stop.cell) := fun j v hv => by
  have hj : j < 32 := by
    have := (List.getElem?_eq_some_iff.1 hv).1
    simpa [id32] using this
  rw [h.cell, msgA, arr_get, if_pos (by omega)]
  rw [show 6 + j = j + 6 by omega]
  have e : msgF r d i l (j + 6) = bv (r.id j) := by
    show (if j + 6 < 38 then bv (r.id (j + 6 - 6)) else _) = _
    rw [if_pos (by omega), Nat.add_sub_cancel]
  rw [e, ← hv]
  simp [id32, hj]
  rfl
theorem neq_str (a b : List UInt8) (w : World) : (binOp .neq 9 (.string ⟨a.toArray⟩) (.string ⟨b.toArray⟩)).run Try.prog w = .ok (.bool (!(a == b))) w := by
  show (Op.stringOp .neq ⟨a.toArray⟩ ⟨b.toArray⟩).run Try.prog w = _
  simp [Op.stringOp, ByteArray.toList_eq]
/-- Alike: all ten fields read the same. -/
structure Raw.Like (r r' : Raw) : Prop where
  kind : r.kind = r'.kind
  who : r.who = r'.who
  height : r.height = r'.height
  round : r.round = r'.round
  valid : r.valid = r'.valid
  num : r.num = r'.num
  id : id32 r.id = id32 r'.id
  data : r.data = r'.data
  ids : r.ids.map id32 = r'.ids.map id32
  list : r.list = r'.list
end Go.Proofs.Ytngceddlieimmaa
