/-
  A row of IDs of the call's own, and one ID more behind it. No condition.
-/
import Derived.Test.YtlnapnbccojohaaDoorTreeGo
import Derived.Test.YtlnapnbccojohaaDoorIdRow
import Derived.Deep.DeepMust
namespace Go.Proofs.YtlnapnbccojohaaDoor
open Go Go.RowKit Go.Shelf TreeM

/-- An ID more, behind the others. -/
theorem id_more {w W6 : World} {B m : Nat} {v : Value} {L : List D} {f : D} (hw : B ≤ W6.heap.size) (hb : Below w.heap.size w W6) (hBw : w.heap.size ≤ B) (ho : W6.ownsRow B 23 32 v m (idCells L)) (hm : m ≤ 1000000) :
    ∃ g cap W7, (Builtin.append_ #[24, 24] 24 #[v, .slice (some ⟨W6.heap.size, 0, none⟩) 1 1]).run Tryd.prog (W6.alloc (.cells (arr 32 fun i => bv (f i)) 23)) = .ok (.slice (some ⟨g, 0, none⟩) (m + 1) cap) W7 ∧
      W7.ownsRow B 23 32 (.slice (some ⟨g, 0, none⟩) (m + 1) cap) (m + 1) (idCells (L ++ [f])) ∧ Below w.heap.size w W7 := by
  have h1 : Below W6.heap.size W6 (W6.alloc (.cells (arr 32 fun i => bv (f i)) 23)) := (Below.refl _ _).alloc (Nat.le_refl _) _
  have o6 := Turn.own (Turn.of_below h1) ho (fun i hi => by have := (ho.lt i hi).2; omega)
  obtain ⟨g, cap, W7, r, o7, gr, _⟩ := app_id (Nat.le_trans hw h1.size) o6 f (Blk.new _ _ _) (by omega)
  have t7 : Turn (fun i => B ≤ i) W6 W7 := ((Turn.refl _ W6).alloc _).grown gr (fun i hi _ => (ho.lt i hi).1)
  have b7 : Below B W6 W7 := t7.below hw (fun i hi => by omega)
  exact ⟨g, cap, W7, r, by rw [idCells_append, idCells_one]; exact o7, hb.trans (b7.mono hBw)⟩
theorem id_more2 {w W2 : World} {m : Nat} {v : Value} {L : List D} {f : D} (hb : Below w.heap.size w W2) (ho : W2.ownsRow w.heap.size 23 32 v m (idCells L)) (hm : m ≤ 1000000) :
    ∃ g cap W7, (Builtin.append_ #[24, 24] 24 #[v, .slice (some ⟨(W2.alloc (.cells (arr 32 fun i => bv (f i)) 23)).heap.size, 0, none⟩) 1 1]).run Tryd.prog ((W2.alloc (.cells (arr 32 fun i => bv (f i)) 23)).alloc (.cells (arr 32 fun i => bv (f i)) 23)) = .ok (.slice (some ⟨g, 0, none⟩) (m + 1) cap) W7 ∧
      W7.ownsRow w.heap.size 23 32 (.slice (some ⟨g, 0, none⟩) (m + 1) cap) (m + 1) (idCells (L ++ [f])) ∧ Below w.heap.size w W7 := by
  have h1 : Below W2.heap.size W2 (W2.alloc (.cells (arr 32 fun i => bv (f i)) 23)) := (Below.refl _ _).alloc (Nat.le_refl _) _
  have h2 := hb.trans (h1.mono hb.size)
  exact id_more h2.size h2 (Nat.le_refl _) (Turn.own (Turn.of_below h1) ho (fun i hi => by have := (ho.lt i hi).2; omega)) hm
theorem wpList_build_idI {ops : Array Oper} {rest : List Oper} {o : Oper} {a : Act} {w : World} {Q : Exit → Act → World → Prop} (hgd : o.guard = none) (x : Operand) (ho : o.op = .buildSlice 24 1 #[(0, x)]) (f : D) (hx : a.eval x = .agg (arr 32 fun i => bv (f i)))
    (h : wpList Tryd.prog ops Q rest (a.put o.dst (.slice (some ⟨w.heap.size, 0, none⟩) 1 1)) (w.alloc (.cells (arr 32 fun i => bv (f i)) 23))) : wpList Tryd.prog ops Q (o :: rest) a w :=
  wpList_plain hgd fun _ hK => wp_build_idc x ho f (by rw [hx, idc_arr]) (hK _ _ h)
end Go.Proofs.YtlnapnbccojohaaDoor
