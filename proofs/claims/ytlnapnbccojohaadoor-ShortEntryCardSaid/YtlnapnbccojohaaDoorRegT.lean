/-
  A load of an array in a region that draws its order, where the cells are known in every world that comes up. No condition.
-/
import Derived.Test.YtlnapnbccojohaaDoorTreeFn
import Derived.Test.YtlnapnbccojohaaDoorPartBase
import Derived.Deep.RegionHeld3
import Derived.Laws.Tables
namespace Go.Proofs.YtlnapnbccojohaaDoor
open Go Go.RowKit
theorem yieldsIf_load_at {P : Program} {ops : Array Oper} {S : World → Prop} {op : Oper} {a : Act} (hw : Region.wanted op (yielded ops a.tmps) = true) (ty : TypeId) (x : Operand) (ho : op.op = .load ty x)
    (ad : Addr) (hx : a.eval x = .pointer (some ad)) (N : Nat) (f : Nat → Value) (e : TypeId) (hS : ∀ w, S w → ∀ i, i < N → w.cell? (ad.add i) = some (f i))
    (hu : P.underlying ty = some (.array N e)) (hi : (P.info? ty).map (·.size) = some N) : YieldsIf P ops S op (.agg (arr N f)) a :=
  .inl ⟨hw, fun w hw' => by
    have hl := run_loadAt_cells (P := P) ty ad N f e w (hS w hw') hu hi
    unfold execOp
    simp only [ho, hx, Sem.run_bind, hl, Sem.run_pure, Result.andThen_ok]⟩
end Go.Proofs.YtlnapnbccojohaaDoor
