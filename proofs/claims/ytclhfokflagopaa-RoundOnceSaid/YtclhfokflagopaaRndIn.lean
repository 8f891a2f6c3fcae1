/-
  What comes to somebody, in memory; rows of it. No condition.
-/
import Derived.Test.YtclhfokflagopaaQBits
namespace Go.Proofs.Ytclhfokflagopaa
open Go Go.RowKit Go.Maps

/-- What comes. -/
structure InS where
  kind : Int
  round : Int
  num : Int
  who : Int
  valid : Int
  id : List UInt8
/-- Its cells. -/
def innC (v : InS) : List Value := .int .i64 v.kind :: .int .i64 v.round :: .int .i64 v.num :: .int .i64 v.who :: .int .i64 v.valid :: v.id.map Extern.Stop.cell
def innA (v : InS) : Array Value := (innC v).toArray
structure InSOk (v : InS) : Prop where
  id : IdOk v.id
  kind : wfi v.kind
  round : wfi v.round
  num : wfi v.num
  who : wfi v.who
  valid : wfi v.valid
theorem innA_size {v : InS} (h : InSOk v) : (innA v).size = 37 := by
  have := h.id
  unfold IdOk at this
  simp [innA, innC, this]
theorem innC_length {v : InS} (h : InSOk v) : (innC v).length = 37 := by
  have := h.id
  unfold IdOk at this
  simp [innC, this]
theorem innA_one (v : InS) : (innA v).all (·.oneCell') = true := by
  unfold innA innC
  rw [Array.all_eq_true_iff_forall_mem]
  intro x hx
  simp only [List.mem_toArray, List.mem_cons, List.mem_map] at hx
  rcases hx with rfl | rfl | rfl | rfl | rfl | ⟨b, _, rfl⟩ <;> rfl
theorem innC_id {v : InS} (h : InSOk v) {i : Nat} (hi : i < 32) : (innC v)[5 + i]? = some (Extern.Stop.cell (v.id.getD i 0)) := by
  have := h.id
  unfold IdOk at this
  unfold innC
  rw [Nat.add_comm]
  simp only [List.getElem?_cons_succ]
  rw [List.getElem?_map, List.getElem?_eq_getElem (by omega), List.getD_eq_getElem?_getD, List.getElem?_eq_getElem (by omega)]
  rfl
theorem inn_info : (Try.prog.info? 67).map (·.size) = some 37 := by kernel_rfl
/-- A slice of votes that reads as l, its cells in blocks below B. -/
def RdG (W : World) (B : Nat) (v : Value) (l : List InS) : Prop :=
  (∀ x ∈ l, InSOk x) ∧ ∃ A c, v = .slice A l.length c ∧ l.length ≤ c ∧ l.length ≤ 1954687338268 ∧ (0 < l.length → ∃ ad : Addr, A = some ad ∧ ad.block < B ∧ ∀ k x, l[k]? = some x → ∀ i, i < 37 → W.cell? (ad.add (37 * k + i)) = (innC x)[i]?)
theorem run_load_inn (w : World) (ad : Addr) (v : InS) (hv : InSOk v) (h : ∀ i, i < 37 → w.cell? (ad.add i) = (innC v)[i]?) : (Instr.loadAt 67 (.pointer (some ad))).run Try.prog w = .ok (.agg (innA v)) w := by
  have hl := run_loadCells_list (P := Try.prog) w ad (innC v) (fun j x hx => by
    have hj : j < 37 := by
      have := (List.getElem?_eq_some_iff.1 hx).1
      rw [innC_length hv] at this
      exact this
    rw [h j hj, hx])
  rw [innC_length hv] at hl
  cases hq : Try.prog.info? 67 with
  | none => have := inn_info; simp [hq] at this
  | some i =>
    have hs : i.size = 37 := by have := inn_info; simpa [hq] using this
    have hagg : (isAgg 67).run Try.prog w = .ok true w := by
      unfold isAgg
      rw [Sem.run_bind, run_underlying Try.underlying67 w]
      rfl
    simp [Instr.loadAt, Instr.sureAddr, loadVar, Sem.run_bind, hagg, sizeOf, typeInfo, hq, hs, hl, innA]
theorem RdG.here {W : World} {B : Nat} {v : Value} {l : List InS} (h : RdG W B v l) {k : Nat} {x : InS} (hk : l[k]? = some x) : ∃ ad c, v = .slice (some ad) l.length c ∧ InSOk x ∧ ad.block < B ∧ ∀ W', Below B W W' → (Instr.loadAt 67 (.pointer (some (ad.add (k * 37))))).run Try.prog W' = .ok (.agg (innA x)) W' := by
  have hlt := (List.getElem?_eq_some_iff.1 hk).1
  have h' := h
  obtain ⟨h0, A, c, rfl, h2, h3, h4⟩ := h
  obtain ⟨ad, rfl, q2, q3⟩ := h4 (by omega)
  have hv : InSOk x := h0 _ (List.mem_of_getElem? hk)
  refine ⟨ad, c, rfl, hv, q2, fun W' hb => run_load_inn W' _ _ hv fun i hi => ?_⟩
  rw [add_add', Nat.mul_comm k 37]
  have h5 := q3 k x hk i hi
  have hx := innC_length hv
  rw [List.getElem?_eq_getElem (by omega)] at h5 ⊢
  exact (hb.cell (p := ad.add (37 * k + i)) (by rw [block_add]; exact q2)).trans h5
section
variable {ops : Array Oper} {rest : List Oper} {o : Oper} {a : Act} {w : World} {Q : Exit → Act → World → Prop}
theorem wpList_load_inn (hw : Region.wanted o (yielded ops a.tmps) = true) (x : Operand) (ho : o.op = .load 67 x) (ad : Addr) (v : InS) (hx : a.eval x = .pointer (some ad)) (hl : (Instr.loadAt 67 (.pointer (some ad))).run Try.prog w = .ok (.agg (innA v)) w)
    (h : wpList Try.prog ops Q rest (a.put o.dst (.agg (innA v))) w) : wpList Try.prog ops Q (o :: rest) a w :=
  wpList_load_runS hw 67 x ho _ _ hx hl h
theorem wpList_store_inn (hgd : o.guard = none) (x y : Operand) (ho : o.op = .store 67 x y) (g : Nat) (v : InS) (hx : a.eval x = .pointer (some ⟨g, 0, none⟩)) (hy : a.eval y = .agg (innA v)) (hv : InSOk v)
    (t : TypeId) (old : Array Value) (hg : Blk w g t old) (hold : old.size = 37)
    (h : ∀ w', Blk w' g t (innA v) → w'.heap.size = w.heap.size → Below g w w' → (∀ b, b ≠ g → w'.heap[b]? = w.heap[b]?) → wpList Try.prog ops Q rest (a.put o.dst undef) w') : wpList Try.prog ops Q (o :: rest) a w :=
  wpList_store_arrW hgd 67 x y ho g (innA v) hx hy t old hg (by rw [innA_size hv]; exact inn_info) (by rw [innA_size hv]; exact hold) (innA_one v) h
end
end Go.Proofs.Ytclhfokflagopaa
