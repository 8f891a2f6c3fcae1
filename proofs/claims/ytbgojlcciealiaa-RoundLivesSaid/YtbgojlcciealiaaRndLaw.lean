/-
  Layer 14's laws: what they share. No condition.
-/
import Derived.Test.YtbgojlcciealiaaRndAgs
import Derived.Test.YtbgojlcciealiaaRndMQuiet
namespace Go.Proofs.Ytbgojlcciealiaa
open Go Go.RowKit Go.Maps

theorem RoundAt.good {W : World} {B C M n : Nat} {kv : Value} {s : RdS} (h : RoundAt W B C M n kv s) : GoodS s := ⟨h.ok, fun r k q x hx => h.cnt.ids r k q x hx⟩
section
variable {ops : Array Oper} {rest : List Oper} {o : Oper} {a : Act} {w : World} {Q : Exit → Act → World → Prop}
theorem wpList_store_actL (hgd : o.guard = none) (x y : Operand) (ho : o.op = .store 71 x y) (g : Nat) (v : ActS) (hx : a.eval x = .pointer (some ⟨g, 0, none⟩)) (hy : a.eval y = .agg (actA v)) (hv : ActOk v)
    (t : TypeId) (old : Array Value) (hg : Blk w g t old) (hold : old.size = 36)
    (h : ∀ w', Blk w' g t (actA v) → w'.heap.size = w.heap.size → Below g w w' → (∀ b, b ≠ g → w'.heap[b]? = w.heap[b]?) → wpList Try.prog ops Q rest (a.put o.dst undef) w') : wpList Try.prog ops Q (o :: rest) a w :=
  wpList_store_arrW hgd 71 x y ho g (actA v) hx hy t old hg (by rw [actA_size hv]; exact act_info) (by rw [actA_size hv]; exact hold) (actA_one v) h
end
set_option maxRecDepth 100000 in
theorem load_act {W : World} {g t : Nat} {v : ActS} (h : Blk W g t (actA v)) (hv : ActOk v) : (Instr.loadAt 71 (.pointer (some ⟨g, 0, none⟩))).run Try.prog W = .ok (.agg (actA v)) W := run_loadVar_row W g t 71 (actA v) (0, 0) _ h Try.underlying71 rfl (by rw [actA_size hv]; exact act_info)
theorem OwnA.rd {b : Nat} {w : World} {v : Value} {l : List ActS} (h : OwnA b w v l) : RdA w w.heap.size v l := rdA_own h.2.2 h.1 rfl (by have := h.2.1; omega)
end Go.Proofs.Ytbgojlcciealiaa
