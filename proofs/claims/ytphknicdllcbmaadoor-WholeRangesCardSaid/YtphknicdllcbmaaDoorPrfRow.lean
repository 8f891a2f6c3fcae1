/-
  Rows of parts: an append, a part more; a row's cells; slices.Reverse of parts. No condition.
-/
import Derived.Test.YtphknicdllcbmaaDoorPrfHalve
namespace Go.Proofs.YtphknicdllcbmaaDoor
open Go Go.RowKit Go.Shelf TreeM

def ptCells (L : List Pt) : List Value := L.flatMap fun p => [.int .i64 (p.1 : Int), .int .i64 (p.2 : Int)]
theorem ptCells_length (L : List Pt) : (ptCells L).length = L.length * 2 := by
  induction L with
  | nil => rfl
  | cons t ts ih => rw [ptCells, List.flatMap_cons, List.length_append, ← ptCells, ih, List.length_cons]; simp; omega
theorem ptCells_append (a b : List Pt) : ptCells (a ++ b) = ptCells a ++ ptCells b := by simp [ptCells]
theorem ptCells_get (L : List Pt) (k i : Nat) (hk : k < L.length) (hi : i < 2) : (ptCells L)[2 * k + i]? = (ptc (L[k]))[i]? := by
  conv => lhs; rw [← List.take_append_drop k L]
  rw [ptCells_append, List.getElem?_append_right (by rw [ptCells_length, List.length_take]; omega), List.drop_eq_getElem_cons hk]
  rw [ptCells_length, List.length_take, show 2 * k + i - min k L.length * 2 = i from by omega]
  show (ptCells (L[k] :: L.drop (k + 1)))[i]? = _
  rw [ptCells, List.flatMap_cons, List.getElem?_append_left (by simpa using hi)]
  rcases i with _ | _ | i
  · rfl
  · rfl
  · omega
theorem info_pt : (Tryd.prog.info? 75).map (fun i => (i.zero, i.size, i.bytes)) = some (some (.agg #[.int .i64 0, .int .i64 0]), 2, 16) := by kernel_rfl
/-- An append of one part. -/
theorem app_pt {B : Nat} {w : World} (hB : B ≤ w.heap.size) {v : Value} {n : Nat} {xs : List Value} (hown : w.ownsRow B 75 2 v n xs) (p : Pt) {g0 : Nat} (hg0 : Blk w g0 75 (ptc p)) (hn : n ≤ 1000000) :
    ∃ g cap w', (Builtin.append_ #[72, 72] 72 #[v, .slice (some ⟨g0, 0, none⟩) 1 1]).run Tryd.prog w = .ok (.slice (some ⟨g, 0, none⟩) (n + 1) cap) w' ∧
      w'.ownsRow B 75 2 (.slice (some ⟨g, 0, none⟩) (n + 1) cap) (n + 1) (xs ++ ptCells [p]) ∧ w.grownBy w' v.ownBlock ∧ (v.ownBlock = some g ∨ w.heap.size ≤ g) := by
  obtain ⟨i0, hi, hz0, hz1, hz2⟩ := info_parts info_pt
  obtain ⟨v', w', hrun, hown', hgr, _, hv'⟩ := run_append_own_at (P := Tryd.prog) w B 72 72 75 i0 _ 2 16 Tryd.underlying72 hi hz0 hz1 hz2 (by simp [Value.cells]) (by omega) v n xs hown ⟨g0, 0, none⟩ 1 1 (ptCells [p]) (by simp [ptCells])
    (fun j u hu => by
      rw [add_zero_block, hg0.cell, ← hu]
      simp [ptCells, ptc]) (fun u hu => by
      simp only [ptCells, List.flatMap_cons, List.flatMap_nil, List.append_nil, List.mem_cons, List.not_mem_nil, or_false] at hu
      rcases hu with rfl | rfl <;> rfl) (by unfold maxLen; omega) (by omega) hB
  rcases ownsRow_forms' hown' with ⟨_, h0⟩ | ⟨g, cap, rfl⟩
  · omega
  · refine ⟨g, cap, w', hrun, hown', hgr, ?_⟩
    rcases hv' with h | h
    · exact .inl h.symm
    · simp only [Value.ownBlock, Option.some.injEq] at h
      exact .inr (by omega)
theorem wpList_build_pt {ops : Array Oper} {rest : List Oper} {o : Oper} {a : Act} {w : World} {Q : Exit → Act → World → Prop} (hgd : o.guard = none) (x : Operand) (ho : o.op = .buildSlice 72 1 #[(0, x)]) (p : Pt) (hx : a.eval x = .agg (ptc p))
    (h : wpList Tryd.prog ops Q rest (a.put o.dst (.slice (some ⟨w.heap.size, 0, none⟩) 1 1)) (w.alloc (.cells (ptc p) 75))) : wpList Tryd.prog ops Q (o :: rest) a w :=
  wpList_plain hgd fun _ hK => by
    obtain ⟨i0, hi, hz0, hz1, hz2⟩ := info_parts info_pt
    refine wp_buildSlice 72 75 1 _ ho (ptc p) i0 _ Tryd.underlying72 hi hz0 (by rw [hz1]; decide) (by rw [hz1]; decide) ?_ (hK _ _ h)
    rw [hz1]
    simp only [List.map_toArray, List.map_cons, List.map_nil, hx]
    kernel_rfl
/-- Parts, read. -/
def RdPt (w : World) (v : Value) (L : List Pt) : Prop := ∃ A c, v = .slice A L.length c ∧ L.length ≤ c ∧ (0 < L.length → ∃ g, A = some ⟨g, 0, none⟩ ∧ ∀ k, k < L.length → w.cell? ⟨g, 2 * k, none⟩ = some (.int .i64 ((L.getD k (0, 0)).1 : Int)) ∧ w.cell? ⟨g, 2 * k + 1, none⟩ = some (.int .i64 ((L.getD k (0, 0)).2 : Int)))
theorem rdPt_own {w : World} {B n : Nat} {v : Value} {L : List Pt} (h : w.ownsRow B 75 2 v n (ptCells L)) : RdPt w v L := by
  have hn : L.length = n := by
    have := h.1
    rw [ptCells_length] at this
    omega
  subst hn
  obtain ⟨A, c, rfl, hc⟩ := own_len h
  refine ⟨A, c, rfl, hc, fun h0 => ?_⟩
  obtain ⟨G, rfl⟩ := own_addrN h h0
  refine ⟨G, rfl, fun k hk => ?_⟩
  have e : L.getD k (0, 0) = L[k] := by rw [List.getD_eq_getElem?_getD, List.getElem?_eq_getElem hk]; rfl
  rw [e]
  constructor
  · rw [h.cellAt (2 * k) (by omega)]
    have := ptCells_get L k 0 hk (by omega)
    rw [Nat.add_zero] at this
    rw [this]; rfl
  · rw [h.cellAt (2 * k + 1) (by omega), ptCells_get L k 1 hk (by omega)]
    rfl
end Go.Proofs.YtphknicdllcbmaaDoor
