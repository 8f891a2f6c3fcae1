/-
  A load as one operation of a region that draws its order. Nothing here names the program. No condition.
-/
import Derived.Test.YtkkanaefngggoaaDoorRd
namespace Go.Proofs.YtkkanaefngggoaaDoor
open Go Go.RowKit
section
variable {P : Program} {o : Oper} {a : Act} {w : World} {K : Act → World → Prop} {Q : Exit → Act → World → Prop}
theorem oper_load (ty : TypeId) (x : Operand) (ho : o.op = .load ty x) (p v : Value) (hx : a.eval x = p) (hl : (Instr.loadAt ty p).run P w = .ok v w) (h : K (a.put o.dst v) w) : o.wp P a w K Q := by
  subst hx
  unfold Oper.wp
  simp [execOp, ho, hl, Result.andThen, Oper.upon]
  exact h
end
theorem alloc_gen {K : Act → World → Prop} {a : Act} {w : World} {o : Obj} (h : ∀ w', w'.heap[w.heap.size]? = some o → Below w.heap.size w w' → K a w') : K a (w.alloc o) := h _ (World.alloc_heap_new w o) ((Below.refl _ _).alloc (Nat.le_refl _) o)
theorem alloc_genD {K : Act → World → Prop} {a : Act} {w : World} {o : Obj} (h : ∀ w', w'.heap[w.heap.size]? = some o → Below w.heap.size w w' → K a w') : K a (w.alloc o).drew := h _ (World.alloc_heap_new w o) (((Below.refl _ _).alloc (Nat.le_refl _) o).drew)
theorem loadVar_one {P : Program} {ty : TypeId} {d : TypeDesc} {a : Addr} {v : Value} {w : World} (hu : P.underlying ty = some d) (hd : (match d with | .struct _ | .array _ _ => true | _ => false) = false) (hc : w.cell? a = some v) :
    (Go.loadVar ty a).run P w = .ok v w := by
  have hagg : (isAgg ty).run P w = .ok false w := by
    unfold isAgg
    rw [Sem.run_bind, run_underlying hu w]
    cases d <;> simp_all
  simp [loadVar, Sem.run_bind, hagg, hc, go_sem]
/-- The only result lies in a cell. -/
theorem results_one {P : Program} {fn : Func} {p : Tmp} {ty : TypeId} {d : TypeDesc} (h : fn.results = #[.cell p ty]) (tmps : Array Value) (w : World) (a : Addr) (x : Value)
    (hp : tmps.getD p undef = .pointer (some a)) (hu : P.underlying ty = some d) (hd : (match d with | .struct _ | .array _ _ => true | _ => false) = false) (hc : w.cell? a = some x) :
    (results fn tmps).run P w = .ok x w := by
  have hp' : tmps[p]?.getD undef = .pointer (some a) := by simpa using hp
  simp [results, h, hp', asAddr, loadVar_one (P := P) hu hd hc]
end Go.Proofs.YtkkanaefngggoaaDoor
