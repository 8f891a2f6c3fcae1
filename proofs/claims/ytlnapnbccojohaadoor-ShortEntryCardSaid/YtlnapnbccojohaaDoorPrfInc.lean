/-
  proof's CheckInclusion: of any leaf, place, size, path and root, in whatever memory in which the tables lie. No condition.
-/
import Derived.Test.YtlnapnbccojohaaDoorPrfMath
import Derived.Test.YtlnapnbccojohaaDoorRegT
import Derived.Deep.CutRange
import Derived.Test.YtlnapnbccojohaaDoorTreeGo
import Derived.Test.YtlnapnbccojohaaDoorPartBase
namespace Go.Proofs.YtlnapnbccojohaaDoor
open Go Go.RowKit Go.Shelf TreeM

section
variable {P : Program} {ops : Array Oper} {rest : List Oper} {o : Oper} {a : Act} {w : World} {Q : Exit → Act → World → Prop}
set_option maxRecDepth 100000 in
theorem wpList_load_run (hgd : o.guard = none) (ty : TypeId) (x : Operand) (ho : o.op = .load ty x) (p v : Value) (hx : a.eval x = p) (hl : (Instr.loadAt ty p).run P w = .ok v w)
    (h : wpList P ops Q rest (a.put o.dst v) w) : wpList P ops Q (o :: rest) a w :=
  wpList_plain hgd fun _ hK => oper_load ty x ho p v hx hl (hK _ _ h)
end
set_option maxRecDepth 100000 in
theorem load_blk {w : World} {g : Nat} {f : D} (h : Blk w g 23 (arr 32 fun i => bv (f i))) : (Instr.loadAt 23 (.pointer (some ⟨g, 0, none⟩))).run Tryd.prog w = .ok (.agg (arr 32 fun i => bv (f i))) w :=
  run_loadAt_cells 23 ⟨g, 0, none⟩ 32 (fun i => bv (f i)) 5 w (fun i hi => by rw [add_zero_block, h.cell, arr_get, if_pos hi]) Tryd.underlying23 (by kernel_rfl)
set_option maxRecDepth 100000 in
theorem load_rdi {w : World} {ok : Nat → Prop} {ad : Addr} {n c k : Nat} {l : List D} (h : RdI w ok (.slice (some ad) n c) l) (hk : k < n) : (Instr.loadAt 23 (.pointer (some (ad.add (k * 32))))).run Tryd.prog w = .ok (.agg (arr 32 fun i => bv (l.getD k dz i))) w := by
  obtain ⟨ad', e, _, hc⟩ := h.at_ hk
  injection e with e
  subst e
  rw [Nat.mul_comm 32 k] at hc
  exact run_loadAt_cells 23 (ad.add (k * 32)) 32 (fun i => bv (l.getD k dz i)) 5 w hc Tryd.underlying23 (by kernel_rfl)
end Go.Proofs.YtlnapnbccojohaaDoor
