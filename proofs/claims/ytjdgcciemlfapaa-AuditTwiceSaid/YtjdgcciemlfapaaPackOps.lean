/-
  Laws for single operations outside of a fence: a whole array loaded, stored, copied into, the world behind it under a name; results of which the first lies in a variable. No condition of their own.
-/
import Derived.Test.YtjdgcciemlfapaaOps
import Derived.Laws.Tables
namespace Go.Proofs.Ytjdgcciemlfapaa
open Go Go.RowKit

section
variable {P : Program} {ops : Array Oper} {rest : List Oper} {o : Oper} {a : Act} {w : World} {Q : Exit → Act → World → Prop}
theorem wpList_load_arr (hgd : o.guard = none) (ty : TypeId) (x : Operand) (ho : o.op = .load ty x) (g : Nat) (hx : a.eval x = .pointer (some ⟨g, 0, none⟩)) (t : TypeId) (cs : Array Value) (d : TypeDesc) (hg : Blk w g t cs)
    (hu : P.underlying ty = some d) (hd : (match d with | .struct _ | .array _ _ => true | _ => false) = true) (hi : (P.info? ty).map (·.size) = some cs.size)
    (h : wpList P ops Q rest (a.put o.dst (.agg cs)) w) : wpList P ops Q (o :: rest) a w := wpList_load_row hgd ty x ho g hx t cs (0, 0) d hg hu hd hi h
theorem wpList_store_arrW (hgd : o.guard = none) (ty : TypeId) (x y : Operand) (ho : o.op = .store ty x y) (g : Nat) (cells : Array Value) (hx : a.eval x = .pointer (some ⟨g, 0, none⟩)) (hy : a.eval y = .agg cells)
    (t : TypeId) (old : Array Value) (hg : Blk w g t old) (hi : (P.info? ty).map (·.size) = some cells.size) (hold : old.size = cells.size) (h1 : cells.all (·.oneCell') = true)
    (h : ∀ w', Blk w' g t cells → w'.heap.size = w.heap.size → Below g w w' → (∀ b, b ≠ g → w'.heap[b]? = w.heap[b]?) → wpList P ops Q rest (a.put o.dst undef) w') : wpList P ops Q (o :: rest) a w :=
  wpList_store_row hgd ty x y ho g cells hx hy t old hg hi hold h1 (h _ (hg.setRow _) (size_setRow _ _ _) (below_setRow (Below.refl _ _) (Nat.le_refl _) _) (fun b hb => setRow_other w g b cells hb))
theorem wpList_copy_arrW (hgd : o.guard = none) (d s : Operand) (dT sT : TypeId)
    (ho : o.op = .call { callee := .builtin .copy, args := #[d, s], argTypes := #[dT, sT] }) (elem : TypeId) (hu : P.underlying dT = some (.slice elem)) (hsz : (P.info? elem).map (·.size) = some 1)
    (g off dLen dCap : Nat) (hd : a.eval d = .slice (some ⟨g, off, none⟩) dLen dCap) (A : Option Addr) (sLen sCap : Nat) (hs : a.eval s = .slice A sLen sCap)
    (m N : Nat) (f : Nat → Value) (t : TypeId) (hg : Blk w g t (arr N f)) (hm : Nat.min sLen dLen = m) (c : Nat → Value)
    (hsrc : 0 < m → ∃ ad, A = some ad ∧ ∀ j, j < m → w.cell? (ad.add j) = some (c j)) (hfit : off + m ≤ N) (h1 : ∀ j, j < m → (c j).oneCell' = true)
    (f' : Nat → Value) (hf' : ∀ i, i < N → (if off ≤ i ∧ i < off + m then c (i - off) else f i) = f' i)
    (h : ∀ w', Blk w' g t (arr N f') → w'.heap.size = w.heap.size → Below g w w' → (∀ b, b ≠ g → w'.heap[b]? = w.heap[b]?) → wpList P ops Q rest (a.put o.dst (goInt m)) w') : wpList P ops Q (o :: rest) a w := by
  refine wpList_plain hgd fun K hK => ?_
  unfold Oper.wp
  rcases Nat.eq_zero_or_pos m with h0 | h0
  · have hrun := run_copy_none (P := P) w dT sT o.type elem (some ⟨g, off, none⟩) A dLen dCap sLen sCap hu hsz (by omega)
    simp [execOp, ho, resolve, invoke, builtin, hd, hs, hrun, Result.andThen, Oper.upon]
    have e : arr N f = arr N f' := arr_congr fun i hi => by rw [← hf' i hi, if_neg (by omega)]
    have := h w (hg.same e) rfl (Below.refl _ _) (fun _ _ => rfl)
    rw [h0] at this
    exact hK _ _ this
  · obtain ⟨ad, rfl, hc⟩ := hsrc h0
    have hrun := run_copy_row (P := P) w dT sT o.type elem g off dLen dCap ad sLen sCap (arr N f) t ((List.range m).map c) hu hsz hg (by simp [hm])
      (fun j v hv => by
        have hj : j < m := by
          by_cases hj : j < m
          · exact hj
          · simp [List.getElem?_eq_none (show ((List.range m).map c).length ≤ j by simp; omega)] at hv
        rw [List.getElem?_map, List.getElem?_range hj] at hv
        cases hv
        exact hc j hj) (by simp [arr_size]; omega) (fun v hv => by
        simp only [List.mem_map, List.mem_range] at hv
        obtain ⟨j, hj, rfl⟩ := hv
        exact h1 j hj)
    rw [List.append_assoc] at hrun
    simp only [List.length_map, List.length_range] at hrun
    rw [splice_arr N off m f c hfit] at hrun
    simp [execOp, ho, resolve, invoke, builtin, hd, hs, hrun, Result.andThen, Oper.upon]
    refine hK _ _ (h _ ((hg.setRow _).same (arr_congr hf')) (size_setRow _ _ _) (below_setRow (Below.refl _ _) (Nat.le_refl _) _) (fun b hb => setRow_other w g b _ hb))
end
theorem results_cell_tmp {P : Program} {fn : Func} {p q : Tmp} {ty : TypeId} (h : fn.results = #[.cell p ty, .tmp q]) (tmps : Array Value) (w : World) (g : Nat) (t : TypeId) (cs : Array Value) (d : TypeDesc)
    (hp : tmps.getD p undef = .pointer (some ⟨g, 0, none⟩)) (hg : Blk w g t cs)
    (hu : P.underlying ty = some d) (hd : (match d with | .struct _ | .array _ _ => true | _ => false) = true) (hi : (P.info? ty).map (·.size) = some cs.size) :
    (results fn tmps).run P w = .ok (.tuple #[.agg cs, tmps.getD q undef]) w := by
  have hp' : tmps[p]?.getD undef = .pointer (some ⟨g, 0, none⟩) := by simpa using hp
  simp [results, h, hp', asAddr, run_loadVar_row w g t ty cs (0, 0) d hg hu hd hi]
end Go.Proofs.Ytjdgcciemlfapaa
