/-
  What happens among several, in memory; rows of it. No condition.
-/
import Derived.Test.YtclhfokflagopaaQBits
namespace Go.Proofs.Ytclhfokflagopaa
open Go Go.RowKit Go.Maps

/-- What comes. -/
structure MoveS where
  kind : Int
  i : Int
  atm : Int
  num : Int
  round : Int
  valid : Int
  id : List UInt8
/-- Its cells. -/
def movC (v : MoveS) : List Value := .int .i64 v.kind :: .int .i64 v.i :: .int .i64 v.atm :: .int .i64 v.num :: .int .i64 v.round :: .int .i64 v.valid :: v.id.map Extern.Stop.cell
def movA (v : MoveS) : Array Value := (movC v).toArray
structure MoveSOk (v : MoveS) : Prop where
  id : IdOk v.id
  kind : wfi v.kind
  i : wfi v.i
  atm : wfi v.atm
  num : wfi v.num
  round : wfi v.round
  valid : wfi v.valid
theorem movA_size {v : MoveS} (h : MoveSOk v) : (movA v).size = 38 := by
  have := h.id
  unfold IdOk at this
  simp [movA, movC, this]
theorem movC_length {v : MoveS} (h : MoveSOk v) : (movC v).length = 38 := by
  have := h.id
  unfold IdOk at this
  simp [movC, this]
theorem movA_one (v : MoveS) : (movA v).all (·.oneCell') = true := by
  unfold movA movC
  rw [Array.all_eq_true_iff_forall_mem]
  intro x hx
  simp only [List.mem_toArray, List.mem_cons, List.mem_map] at hx
  rcases hx with rfl | rfl | rfl | rfl | rfl | rfl | ⟨b, _, rfl⟩ <;> rfl
theorem movC_id {v : MoveS} (h : MoveSOk v) {i : Nat} (hi : i < 32) : (movC v)[6 + i]? = some (Extern.Stop.cell (v.id.getD i 0)) := by
  have := h.id
  unfold IdOk at this
  unfold movC
  rw [Nat.add_comm]
  simp only [List.getElem?_cons_succ]
  rw [List.getElem?_map, List.getElem?_eq_getElem (by omega), List.getD_eq_getElem?_getD, List.getElem?_eq_getElem (by omega)]
  rfl
theorem mov_info : (Try.prog.info? 78).map (·.size) = some 38 := by kernel_rfl
/-- A slice of votes that reads as l, its cells in blocks below B. -/
def RdMv (W : World) (B : Nat) (v : Value) (l : List MoveS) : Prop :=
  (∀ x ∈ l, MoveSOk x) ∧ ∃ A c, v = .slice A l.length c ∧ l.length ≤ c ∧ l.length ≤ 1759218604441 ∧ (0 < l.length → ∃ ad : Addr, A = some ad ∧ ad.block < B ∧ ∀ k x, l[k]? = some x → ∀ i, i < 38 → W.cell? (ad.add (38 * k + i)) = (movC x)[i]?)
theorem run_load_mov (w : World) (ad : Addr) (v : MoveS) (hv : MoveSOk v) (h : ∀ i, i < 38 → w.cell? (ad.add i) = (movC v)[i]?) : (Instr.loadAt 78 (.pointer (some ad))).run Try.prog w = .ok (.agg (movA v)) w := by
  have hl := run_loadCells_list (P := Try.prog) w ad (movC v) (fun j x hx => by
    have hj : j < 38 := by
      have := (List.getElem?_eq_some_iff.1 hx).1
      rw [movC_length hv] at this
      exact this
    rw [h j hj, hx])
  rw [movC_length hv] at hl
  cases hq : Try.prog.info? 78 with
  | none => have := mov_info; simp [hq] at this
  | some i =>
    have hs : i.size = 38 := by have := mov_info; simpa [hq] using this
    have hagg : (isAgg 78).run Try.prog w = .ok true w := by
      unfold isAgg
      rw [Sem.run_bind, run_underlying Try.underlying78 w]
      rfl
    simp [Instr.loadAt, Instr.sureAddr, loadVar, Sem.run_bind, hagg, sizeOf, typeInfo, hq, hs, hl, movA]
theorem RdMv.here {W : World} {B : Nat} {v : Value} {l : List MoveS} (h : RdMv W B v l) {k : Nat} {x : MoveS} (hk : l[k]? = some x) : ∃ ad c, v = .slice (some ad) l.length c ∧ MoveSOk x ∧ ad.block < B ∧ ∀ W', Below B W W' → (Instr.loadAt 78 (.pointer (some (ad.add (k * 38))))).run Try.prog W' = .ok (.agg (movA x)) W' := by
  have hlt := (List.getElem?_eq_some_iff.1 hk).1
  have h' := h
  obtain ⟨h0, A, c, rfl, h2, h3, h4⟩ := h
  obtain ⟨ad, rfl, q2, q3⟩ := h4 (by omega)
  have hv : MoveSOk x := h0 _ (List.mem_of_getElem? hk)
  refine ⟨ad, c, rfl, hv, q2, fun W' hb => run_load_mov W' _ _ hv fun i hi => ?_⟩
  rw [add_add', Nat.mul_comm k 38]
  have h5 := q3 k x hk i hi
  have hx := movC_length hv
  rw [List.getElem?_eq_getElem (by omega)] at h5 ⊢
  exact (hb.cell (p := ad.add (38 * k + i)) (by rw [block_add]; exact q2)).trans h5
section
variable {ops : Array Oper} {rest : List Oper} {o : Oper} {a : Act} {w : World} {Q : Exit → Act → World → Prop}
theorem wpList_load_mov (hw : Region.wanted o (yielded ops a.tmps) = true) (x : Operand) (ho : o.op = .load 78 x) (ad : Addr) (v : MoveS) (hx : a.eval x = .pointer (some ad)) (hl : (Instr.loadAt 78 (.pointer (some ad))).run Try.prog w = .ok (.agg (movA v)) w)
    (h : wpList Try.prog ops Q rest (a.put o.dst (.agg (movA v))) w) : wpList Try.prog ops Q (o :: rest) a w :=
  wpList_load_runS hw 78 x ho _ _ hx hl h
theorem wpList_store_mov (hgd : o.guard = none) (x y : Operand) (ho : o.op = .store 78 x y) (g : Nat) (v : MoveS) (hx : a.eval x = .pointer (some ⟨g, 0, none⟩)) (hy : a.eval y = .agg (movA v)) (hv : MoveSOk v)
    (t : TypeId) (old : Array Value) (hg : Blk w g t old) (hold : old.size = 38)
    (h : ∀ w', Blk w' g t (movA v) → w'.heap.size = w.heap.size → Below g w w' → (∀ b, b ≠ g → w'.heap[b]? = w.heap[b]?) → wpList Try.prog ops Q rest (a.put o.dst undef) w') : wpList Try.prog ops Q (o :: rest) a w :=
  wpList_store_arrW hgd 78 x y ho g (movA v) hx hy t old hg (by rw [movA_size hv]; exact mov_info) (by rw [movA_size hv]; exact hold) (movA_one v) h
end
end Go.Proofs.Ytclhfokflagopaa
