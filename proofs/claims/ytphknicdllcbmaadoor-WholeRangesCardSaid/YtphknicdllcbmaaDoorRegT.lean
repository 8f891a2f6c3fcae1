/-
  A load of an array in a region that draws its order, where the cells are known in every world that comes up. No condition.
-/
import Derived.Test.YtphknicdllcbmaaDoorTreeFn
import Derived.Test.YtphknicdllcbmaaDoorPartBase
import Derived.Deep.RegionHeld3
import Derived.Laws.Tables
namespace Go.Proofs.YtphknicdllcbmaaDoor
open Go Go.RowKit
theorem yieldsIf_load_at {P : Program} {ops : Array Oper} {S : World → Prop} {op : Oper} {a : Act} (hw : Region.wanted op (yielded ops a.tmps) = true) (ty : TypeId) (x : Operand) (ho : op.op = .load ty x)
    (ad : Addr) (hx : a.eval x = .pointer (some ad)) (N : Nat) (f : Nat → Value) (e : TypeId) (hS : ∀ w, S w → ∀ i, i < N → w.cell? (ad.add i) = some (f i))
    (hu : P.underlying ty = some (.array N e)) (hi : (P.info? ty).map (·.size) = some N) : YieldsIf P ops S op (.agg (arr N f)) a :=
  .inl ⟨hw, fun w hw' => by
    have hl := run_loadAt_cells (P := P) ty ad N f e w (hS w hw') hu hi
    unfold execOp
    simp only [ho, hx, Sem.run_bind, hl, Sem.run_pure, Result.andThen_ok]⟩
theorem yieldsIf_load_blk {P : Program} {ops : Array Oper} {S : World → Prop} {op : Oper} {a : Act} (hw : Region.wanted op (yielded ops a.tmps) = true) (ty : TypeId) (x : Operand) (ho : op.op = .load ty x)
    (g : Nat) (hx : a.eval x = .pointer (some ⟨g, 0, none⟩)) (t : TypeId) (cs : Array Value) (d : TypeDesc) (hS : ∀ w, S w → Blk w g t cs)
    (hu : P.underlying ty = some d) (hd : d.isRow = true) (hi : (P.info? ty).map (·.size) = some cs.size) : YieldsIf P ops S op (.agg cs) a := by
  have := yieldsIf_load_mid (S := S) hw ty x ho g 0 hx cs.toList d (fun w h => by
    refine fun j v hv => ?_
    rw [Array.getElem?_toList] at hv
    rw [Nat.zero_add, (hS w h).cell]
    exact hv) hu hd (by simpa using hi)
  rw [Array.toArray_toList] at this
  exact this
end Go.Proofs.YtphknicdllcbmaaDoor
