/-
  Votes in memory: a vote's cells, rows of votes; how they are loaded. No condition.
-/
import Derived.Test.YtpjeildiahklpaaCntRow
namespace Go.Proofs.Ytpjeildiahklpaa
open Go Go.RowKit Go.Maps

/-- A vote's cells. -/
def voteC (v : VoteT) : List Value := .int .i64 v.r :: .int .i64 v.k :: .int .i64 v.s :: v.id.map Extern.Stop.cell
def voteA (v : VoteT) : Array Value := (voteC v).toArray
structure VoteOk (v : VoteT) : Prop where
  id : IdOk v.id
  r : wfi v.r
  k : wfi v.k
  s : wfi v.s
theorem voteA_size {v : VoteT} (h : VoteOk v) : (voteA v).size = 35 := by
  have := h.id
  unfold IdOk at this
  simp [voteA, voteC, this]
theorem voteC_length {v : VoteT} (h : VoteOk v) : (voteC v).length = 35 := by
  have := h.id
  unfold IdOk at this
  simp [voteC, this]
theorem voteA_one (v : VoteT) : (voteA v).all (·.oneCell') = true := by
  unfold voteA voteC
  rw [Array.all_eq_true_iff_forall_mem]
  intro x hx
  simp only [List.mem_toArray, List.mem_cons, List.mem_map] at hx
  rcases hx with rfl | rfl | rfl | ⟨b, _, rfl⟩ <;> rfl
theorem voteC_id {v : VoteT} (h : VoteOk v) {i : Nat} (hi : i < 32) : (voteC v)[3 + i]? = some (Extern.Stop.cell (v.id.getD i 0)) := by
  have := h.id
  unfold IdOk at this
  unfold voteC
  rw [Nat.add_comm]
  simp only [List.getElem?_cons_succ]
  rw [List.getElem?_map, List.getElem?_eq_getElem (by omega), List.getD_eq_getElem?_getD, List.getElem?_eq_getElem (by omega)]
  rfl
theorem vote_info : (Try.prog.info? 26).map (·.size) = some 35 := by kernel_rfl
/-- What a vote's block holds. -/
theorem vote_cells {W : World} {g t : Nat} {v : VoteT} (h : Blk W g t (voteA v)) (hv : VoteOk v) : W.cell? ⟨g, 0, none⟩ = some (.int .i64 v.r) ∧ W.cell? ⟨g, 1, none⟩ = some (.int .i64 v.k) ∧ W.cell? ⟨g, 2, none⟩ = some (.int .i64 v.s) ∧
    (Instr.loadAt 24 (.pointer (some ⟨g, 3, none⟩))).run Try.prog W = .ok (idv v.id) W := by
  refine ⟨by rw [h.cell]; rfl, by rw [h.cell]; rfl, by rw [h.cell]; rfl, run_load_id W _ _ hv.id fun i hi => ?_⟩
  have e : (⟨g, 3, none⟩ : Addr).add i = ⟨g, 3 + i, none⟩ := by unfold Addr.add; split <;> simp_all
  rw [e, h.cell]
  unfold voteA
  rw [List.getElem?_toArray]
  exact voteC_id hv hi
/-- A slice of votes that reads as l, its cells in blocks below B. -/
def RdW (W : World) (B : Nat) (v : Value) (l : List VoteT) : Prop :=
  (∀ x ∈ l, VoteOk x) ∧ ∃ A c, v = .slice A l.length c ∧ l.length ≤ c ∧ l.length ≤ 2513169434916 ∧ (0 < l.length → ∃ ad : Addr, A = some ad ∧ ad.block < B ∧ ∀ k x, l[k]? = some x → ∀ i, i < 35 → W.cell? (ad.add (35 * k + i)) = (voteC x)[i]?)
theorem RdW.old {W W' : World} {B : Nat} {v : Value} {l : List VoteT} (h : RdW W B v l) (hb : Below B W W') : RdW W' B v l := by
  obtain ⟨h0, A, c, h1, h2, h3, h4⟩ := h
  refine ⟨h0, A, c, h1, h2, h3, fun hl => ?_⟩
  obtain ⟨ad, q1, q2, q3⟩ := h4 hl
  refine ⟨ad, q1, q2, fun k x hk i hi => ?_⟩
  have h5 := q3 k x hk i hi
  have hx := voteC_length (h0 x (List.mem_of_getElem? hk))
  rw [List.getElem?_eq_getElem (by omega)] at h5 ⊢
  exact (hb.cell (p := ad.add (35 * k + i)) (by rw [block_add]; exact q2)).trans h5
theorem RdW.mono {W : World} {B B' : Nat} {v : Value} {l : List VoteT} (h : RdW W B v l) (hB : B ≤ B') : RdW W B' v l := by
  obtain ⟨h0, A, c, h1, h2, h3, h4⟩ := h
  refine ⟨h0, A, c, h1, h2, h3, fun hl => ?_⟩
  obtain ⟨ad, q1, q2, q3⟩ := h4 hl
  exact ⟨ad, q1, Nat.lt_of_lt_of_le q2 hB, q3⟩
theorem run_load_vote (w : World) (ad : Addr) (v : VoteT) (hv : VoteOk v) (h : ∀ i, i < 35 → w.cell? (ad.add i) = (voteC v)[i]?) : (Instr.loadAt 26 (.pointer (some ad))).run Try.prog w = .ok (.agg (voteA v)) w := by
  have hl := run_loadCells_list (P := Try.prog) w ad (voteC v) (fun j x hx => by
    have hj : j < 35 := by
      have := (List.getElem?_eq_some_iff.1 hx).1
      rw [voteC_length hv] at this
      exact this
    rw [h j hj, hx])
  rw [voteC_length hv] at hl
  cases hq : Try.prog.info? 26 with
  | none => have := vote_info; simp [hq] at this
  | some i =>
    have hs : i.size = 35 := by have := vote_info; simpa [hq] using this
    have hagg : (isAgg 26).run Try.prog w = .ok true w := by
      unfold isAgg
      rw [Sem.run_bind, run_underlying Try.underlying26 w]
      rfl
    simp [Instr.loadAt, Instr.sureAddr, loadVar, Sem.run_bind, hagg, sizeOf, typeInfo, hq, hs, hl, voteA]
theorem RdW.here {W : World} {B : Nat} {v : Value} {l : List VoteT} (h : RdW W B v l) {k : Nat} {x : VoteT} (hk : l[k]? = some x) : ∃ ad c, v = .slice (some ad) l.length c ∧ VoteOk x ∧ ad.block < B ∧ ∀ W', Below B W W' → (Instr.loadAt 26 (.pointer (some (ad.add (k * 35))))).run Try.prog W' = .ok (.agg (voteA x)) W' := by
  have hlt := (List.getElem?_eq_some_iff.1 hk).1
  have h' := h
  obtain ⟨h0, A, c, rfl, h2, h3, h4⟩ := h
  obtain ⟨ad, rfl, q2, q3⟩ := h4 (by omega)
  have hv : VoteOk x := h0 _ (List.mem_of_getElem? hk)
  refine ⟨ad, c, rfl, hv, q2, fun W' hb => run_load_vote W' _ _ hv fun i hi => ?_⟩
  rw [add_add', Nat.mul_comm k 35]
  have h5 := q3 k x hk i hi
  have hx := voteC_length hv
  rw [List.getElem?_eq_getElem (by omega)] at h5 ⊢
  exact (hb.cell (p := ad.add (35 * k + i)) (by rw [block_add]; exact q2)).trans h5
section
variable {ops : Array Oper} {rest : List Oper} {o : Oper} {a : Act} {w : World} {Q : Exit → Act → World → Prop}
theorem wpList_load_vote (hw : Region.wanted o (yielded ops a.tmps) = true) (x : Operand) (ho : o.op = .load 26 x) (ad : Addr) (v : VoteT) (hx : a.eval x = .pointer (some ad)) (hl : (Instr.loadAt 26 (.pointer (some ad))).run Try.prog w = .ok (.agg (voteA v)) w)
    (h : wpList Try.prog ops Q rest (a.put o.dst (.agg (voteA v))) w) : wpList Try.prog ops Q (o :: rest) a w :=
  wpList_load_runS hw 26 x ho _ _ hx hl h
theorem wpList_store_vote (hgd : o.guard = none) (x y : Operand) (ho : o.op = .store 26 x y) (g : Nat) (v : VoteT) (hx : a.eval x = .pointer (some ⟨g, 0, none⟩)) (hy : a.eval y = .agg (voteA v)) (hv : VoteOk v)
    (t : TypeId) (old : Array Value) (hg : Blk w g t old) (hold : old.size = 35)
    (h : ∀ w', Blk w' g t (voteA v) → w'.heap.size = w.heap.size → Below g w w' → (∀ b, b ≠ g → w'.heap[b]? = w.heap[b]?) → wpList Try.prog ops Q rest (a.put o.dst undef) w') : wpList Try.prog ops Q (o :: rest) a w :=
  wpList_store_arrW hgd 26 x y ho g (voteA v) hx hy t old hg (by rw [voteA_size hv]; exact vote_info) (by rw [voteA_size hv]; exact hold) (voteA_one v) h
end
end Go.Proofs.Ytpjeildiahklpaa
