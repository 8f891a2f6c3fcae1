/-
  What the last laws on messages share: loads under a guard, an empty row, alike messages. No condition.
-/
import Derived.Test.YtngceddlieimmaaPackSame
import Derived.Test.YtngceddlieimmaaPackReadMath
import Derived.Test.YtngceddlieimmaaPackLawW
namespace Go.Proofs.Ytngceddlieimmaa
open Go Go.RowKit PackMath

theorem blk_range {w : World} {g : Nat} {t : TypeId} {cs : Array Value} (h : Blk w g t cs) : w.rangeAt g 0 cs.toList := fun j v hv => by
  rw [Nat.zero_add, h.cell]
  simpa using hv
section
variable {P : Program} {ops : Array Oper} {rest : List Oper} {o : Oper} {a : Act} {w : World} {Q : Exit → Act → World → Prop}
/-- A whole block loaded, of an operation with a guard that is met. -/
theorem wpList_load_blkG (hw : Region.wanted o (yielded ops a.tmps) = true) (ty : TypeId) (x : Operand) (ho : o.op = .load ty x)
    (g : Nat) (hx : a.eval x = .pointer (some ⟨g, 0, none⟩)) (t : TypeId) (cs : Array Value) (d : TypeDesc) (hg : Blk w g t cs)
    (hu : P.underlying ty = some d) (hd : d.isRow = true) (hi : (P.info? ty).map (·.size) = some cs.size)
    (h : wpList P ops Q rest (a.put o.dst (.agg cs)) w) : wpList P ops Q (o :: rest) a w := by
  refine wpList_load_midG hw ty x ho g 0 hx cs.toList d (blk_range hg) hu hd (by simpa using hi) ?_
  rw [Array.toArray_toList]
  exact h
end
theorem own_none (w : World) : (w.alloc (.cells #[] 5)).ownsRow w.heap.size 5 1 (.slice (some ⟨w.heap.size, 0, none⟩) 0 0) 0 (([] : List UInt8).map bv) := ⟨rfl, .inr ⟨w.heap.size, 0, #[], rfl, Nat.le_refl _, heap_alloc_new w _, Nat.le_refl _, by unfold maxLen; omega, rfl, rfl⟩⟩
theorem like_of {r r' : Raw} (h : r.m = r'.m) (hN : r.NN) (hN' : r'.NN) : r.Like r' := by
  obtain ⟨q0, q1, q2, q3, q4, q5, q6, q7, q8, q9⟩ := Raw.alike h hN hN'
  exact ⟨q0, q1, q2, q3, q4, q5, q6, q7, q8, q9⟩
theorem like_m {r r' : Raw} (h : r.Like r') : r.m = r'.m := by
  obtain ⟨q0, q1, q2, q3, q4, q5, q6, q7, q8, q9⟩ := h
  simp only [Raw.m, M.mk.injEq]
  exact ⟨by rw [q0], by rw [q1], by rw [q2], by rw [q3], by rw [q4], by rw [q5], q6, q7, q8, q9⟩
theorem writeM_pos (m : M) : 1 ≤ (writeM m).length := by simp [writeM]
open Classical in
theorem same_yes {r r' : Raw} (h : r.Like r') (d i l d' i' l' : Value) (w : World) (hr : RdR w (fun b => b < w.heap.size) r d i l) (hr' : RdR w (fun b => b < w.heap.size) r' d' i' l') :
    Calls Try.prog 15 #[.agg (msgA r d i l), .agg (msgA r' d' i' l')] w fun e w' => e = .returned (.bool true) ∧ Below w.heap.size w w' := by
  have := same_any r r' d i l d' i' l' w hr hr'
  rw [decide_eq_true h] at this
  exact this
open Classical in
theorem same_not {r r' : Raw} (h : ¬ r.Like r') (d i l d' i' l' : Value) (w : World) (hr : RdR w (fun b => b < w.heap.size) r d i l) (hr' : RdR w (fun b => b < w.heap.size) r' d' i' l') :
    Calls Try.prog 15 #[.agg (msgA r d i l), .agg (msgA r' d' i' l')] w fun e w' => e = .returned (.bool false) ∧ Below w.heap.size w w' := by
  have := same_any r r' d i l d' i' l' w hr hr'
  rw [decide_eq_false h] at this
  exact this
/-- What Read answers of bytes that are a message. -/
theorem read_ok {bs : List UInt8} {r : Raw} (h : readP bs = .ok r) (A : Option Addr) (c : Nat) (w : World) (hr : RdB w (fun b => b < w.heap.size) (.slice A bs.length c) bs) :
    Calls Try.prog 13 #[.slice A bs.length c] w fun e w' => (∃ d i l, e = .returned (.tuple #[.agg (msgA r d i l), .int .i64 0]) ∧ RdR w' (fresh w w') r d i l) ∧ Below w.heap.size w w' := by
  refine (read_any A c bs w hr).mono ?_
  rintro e w' ⟨h1, h2⟩
  unfold ReadOut at h1
  rw [h] at h1
  exact ⟨h1, h2⟩
/-- What Read answers of other bytes. -/
theorem read_no {bs : List UInt8} {k : Nat} (h : readP bs = .error k) (A : Option Addr) (c : Nat) (w : World) (hr : RdB w (fun b => b < w.heap.size) (.slice A bs.length c) bs) :
    Calls Try.prog 13 #[.slice A bs.length c] w fun e w' => (e = .returned (.tuple #[.agg (msgA (zeroRaw 0) nilS nilS nilS), .int .i64 (k : Int)]) ∧ k ≠ 0) ∧ Below w.heap.size w w' := by
  refine (read_any A c bs w hr).mono ?_
  rintro e w' ⟨h1, h2⟩
  unfold ReadOut at h1
  rw [h] at h1
  exact ⟨h1, h2⟩
end Go.Proofs.Ytngceddlieimmaa
