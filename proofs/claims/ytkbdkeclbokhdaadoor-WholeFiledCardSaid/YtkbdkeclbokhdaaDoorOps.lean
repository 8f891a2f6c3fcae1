/-
  Laws for single operations inside a fence that lets every function in: a whole array loaded and stored, the builtin copy into a block that is known whole. No condition of their own.
-/
import Derived.Test.YtkbdkeclbokhdaaDoorQ1
import Derived.OwnWalkIn
import Derived.Laws.CopyOwn
import Derived.Laws.IdiomCopy
namespace Go.Proofs.YtkbdkeclbokhdaaDoor
open Go Go.RowKit

variable {F : Fence} {n : Nat} {P : Program} {ops : Array Oper} {rest : List Oper} {o : Oper} {a : Act} {w : World} {Q : Exit → Act → World → Prop}

theorem wpListIn_val (hF : ∀ f, F.fn f) (hgd : o.guard = none) (hd : ∀ c, o.op ≠ .defer c) (v : Value) (w' : World) (h : (execOp a.eval o).run P w = .ok (.value v) w')
    (k : wpListIn F n P ops Q rest (a.put o.dst v) w') : wpListIn F n P ops Q (o :: rest) a w := by
  refine wpListIn_plain hgd fun K hK => ?_
  unfold Oper.wpIn
  refine ⟨fun f _ => hF f, ?_⟩
  rw [Oper.semAt_plain F _ _ hd, h]
  exact hK _ _ k

theorem wpListIn_load_arr (hF : ∀ f, F.fn f) (hgd : o.guard = none) (ty : TypeId) (x : Operand) (ho : o.op = .load ty x)
    (g : Nat) (hx : a.eval x = .pointer (some ⟨g, 0, none⟩)) (t : TypeId) (cs : Array Value) (d : TypeDesc) (hg : Blk w g t cs)
    (hu : P.underlying ty = some d) (hd : (match d with | .struct _ | .array _ _ => true | _ => false) = true) (hi : (P.info? ty).map (·.size) = some cs.size)
    (h : wpListIn F n P ops Q rest (a.put o.dst (.agg cs)) w) : wpListIn F n P ops Q (o :: rest) a w := by
  refine wpListIn_val hF hgd (by rw [ho]; intro c hc; cases hc) _ w ?_ h
  simp only [execOp, ho, hx, Instr.loadAt, Instr.sureAddr, Sem.run_bind, Sem.run_pure, Result.andThen_ok, run_loadVar_row w g t ty cs (0, 0) d hg hu hd hi]

theorem wpListIn_store_arr (hF : ∀ f, F.fn f) (hgd : o.guard = none) (ty : TypeId) (x y : Operand) (ho : o.op = .store ty x y)
    (g : Nat) (cells : Array Value) (hx : a.eval x = .pointer (some ⟨g, 0, none⟩)) (hy : a.eval y = .agg cells)
    (t : TypeId) (old : Array Value) (hg : Blk w g t old) (hi : (P.info? ty).map (·.size) = some cells.size)
    (hold : old.size = cells.size) (h1 : cells.all (·.oneCell') = true)
    (h : wpListIn F n P ops Q rest (a.put o.dst undef) (w.setRow g cells)) : wpListIn F n P ops Q (o :: rest) a w := by
  refine wpListIn_plain hgd fun K hK => ?_
  unfold Oper.wpIn
  refine ⟨fun f _ => hF f, ?_⟩
  rw [Oper.semAt_plain F _ _ (by rw [ho]; intro c hc; cases hc)]
  simp only [execOp, ho, hx, hy, Instr.storeAt, Instr.sureAddr, Sem.run_bind, Sem.run_pure, Result.andThen_ok, run_storeVar_row w g t ty old cells hg hi hold h1]
  exact hK _ _ h

theorem wpListIn_store_arrW (hF : ∀ f, F.fn f) (hgd : o.guard = none) (ty : TypeId) (x y : Operand) (ho : o.op = .store ty x y)
    (g : Nat) (cells : Array Value) (hx : a.eval x = .pointer (some ⟨g, 0, none⟩)) (hy : a.eval y = .agg cells)
    (t : TypeId) (old : Array Value) (hg : Blk w g t old) (hi : (P.info? ty).map (·.size) = some cells.size)
    (hold : old.size = cells.size) (h1 : cells.all (·.oneCell') = true)
    (h : ∀ w', Blk w' g t cells → w'.heap.size = w.heap.size → Below g w w' → Keep (fun b => b = g) w w' → (∀ b, b ≠ g → w'.heap[b]? = w.heap[b]?) → wpListIn F n P ops Q rest (a.put o.dst undef) w') : wpListIn F n P ops Q (o :: rest) a w :=
  wpListIn_store_arr hF hgd ty x y ho g cells hx hy t old hg hi hold h1 (h _ (hg.setRow _) (size_setRow _ _ _) (Go.below_setRow (Below.refl _ _) (Nat.le_refl _) _) (.setRow _ _ _ rfl) (fun b hb => setRow_other w g b cells hb))

theorem splice_arr (N off m : Nat) (f c : Nat → Value) (hfit : off + m ≤ N) :
    ((arr N f).toList.take off ++ ((List.range m).map c ++ (arr N f).toList.drop (off + m))).toArray = arr N (fun i => if off ≤ i ∧ i < off + m then c (i - off) else f i) := by
  refine arr_of _ _ _ ?_ ?_
  · simp [arr_size]; omega
  · intro i hi
    simp only [List.getElem?_toArray]
    by_cases h1 : i < off
    · rw [List.getElem?_append_left (by simp [arr_size]; omega), List.getElem?_take_of_lt h1, Array.getElem?_toList, arr_get, if_pos hi, if_neg (by omega)]
    · rw [List.getElem?_append_right (by simp [arr_size]; omega)]
      have hl : ((arr N f).toList.take off).length = off := by simp [arr_size]; omega
      rw [hl]
      by_cases h2 : i < off + m
      · rw [List.getElem?_append_left (by simp; omega), List.getElem?_map, List.getElem?_range (by omega), if_pos ⟨by omega, h2⟩]
        rfl
      · rw [List.getElem?_append_right (by simp; omega)]
        simp only [List.length_map, List.length_range]
        rw [List.getElem?_drop, Array.getElem?_toList, arr_get, show off + m + (i - off - m) = i from by omega, if_pos hi, if_neg (by omega)]

theorem wpListIn_copy_arr (hF : ∀ f, F.fn f) (hgd : o.guard = none) (d s : Operand) (dT sT : TypeId)
    (ho : o.op = .call { callee := .builtin .copy, args := #[d, s], argTypes := #[dT, sT] }) (elem : TypeId) (hu : P.underlying dT = some (.slice elem)) (hsz : (P.info? elem).map (·.size) = some 1)
    (g off dLen dCap : Nat) (hd : a.eval d = .slice (some ⟨g, off, none⟩) dLen dCap) (A : Option Addr) (sLen sCap : Nat) (hs : a.eval s = .slice A sLen sCap)
    (m N : Nat) (f : Nat → Value) (t : TypeId) (hg : Blk w g t (arr N f)) (hm : Nat.min sLen dLen = m) (c : Nat → Value)
    (hsrc : 0 < m → ∃ ad, A = some ad ∧ ∀ j, j < m → w.cell? (ad.add j) = some (c j)) (hfit : off + m ≤ N) (h1 : ∀ j, j < m → (c j).oneCell' = true)
    (h : wpListIn F n P ops Q rest (a.put o.dst (goInt m)) (w.setRow g (arr N fun i => if off ≤ i ∧ i < off + m then c (i - off) else f i))) : wpListIn F n P ops Q (o :: rest) a w := by
  refine wpListIn_plain hgd fun K hK => ?_
  unfold Oper.wpIn
  refine ⟨fun f _ => hF f, ?_⟩
  rw [Oper.semAt_plain F _ _ (by rw [ho]; intro c hc; cases hc)]
  rcases Nat.eq_zero_or_pos m with h0 | h0
  · have hrun := run_copy_none (P := P) w dT sT o.type elem (some ⟨g, off, none⟩) A dLen dCap sLen sCap hu hsz (by omega)
    simp [execOp, ho, resolve, invoke, builtin, hd, hs, hrun, Result.andThen]
    have e : (arr N fun i => if off ≤ i ∧ i < off + m then c (i - off) else f i) = arr N f := arr_congr fun i _ => if_neg (by omega)
    rw [e, setRow_self w g _ t (0, 0) hg, h0] at h
    exact hK _ _ h
  · obtain ⟨ad, rfl, hc⟩ := hsrc h0
    have hrun := run_copy_row (P := P) w dT sT o.type elem g off dLen dCap ad sLen sCap (arr N f) t ((List.range m).map c) hu hsz hg (by simp [hm])
      (fun j v hv => by
        have hj : j < m := by
          by_cases hj : j < m
          · exact hj
          · simp [List.getElem?_eq_none (show ((List.range m).map c).length ≤ j by simp; omega)] at hv
        rw [List.getElem?_map, List.getElem?_range hj] at hv
        cases hv
        exact hc j hj) (by simp [arr_size]; omega) (fun v hv => by
        simp only [List.mem_map, List.mem_range] at hv
        obtain ⟨j, hj, rfl⟩ := hv
        exact h1 j hj)
    rw [List.append_assoc] at hrun
    simp only [List.length_map, List.length_range] at hrun
    rw [splice_arr N off m f c hfit] at hrun
    simp [execOp, ho, resolve, invoke, builtin, hd, hs, hrun, Result.andThen]
    exact hK _ _ h
/-- The same, the world behind it under a name. -/
theorem wpListIn_copy_arrW (hF : ∀ f, F.fn f) (hgd : o.guard = none) (d s : Operand) (dT sT : TypeId)
    (ho : o.op = .call { callee := .builtin .copy, args := #[d, s], argTypes := #[dT, sT] }) (elem : TypeId) (hu : P.underlying dT = some (.slice elem)) (hsz : (P.info? elem).map (·.size) = some 1)
    (g off dLen dCap : Nat) (hd : a.eval d = .slice (some ⟨g, off, none⟩) dLen dCap) (A : Option Addr) (sLen sCap : Nat) (hs : a.eval s = .slice A sLen sCap)
    (m N : Nat) (f : Nat → Value) (t : TypeId) (hg : Blk w g t (arr N f)) (hm : Nat.min sLen dLen = m) (c : Nat → Value)
    (hsrc : 0 < m → ∃ ad, A = some ad ∧ ∀ j, j < m → w.cell? (ad.add j) = some (c j)) (hfit : off + m ≤ N) (h1 : ∀ j, j < m → (c j).oneCell' = true)
    (f' : Nat → Value) (hf' : ∀ i, i < N → (if off ≤ i ∧ i < off + m then c (i - off) else f i) = f' i)
    (h : ∀ w', Blk w' g t (arr N f') → w'.heap.size = w.heap.size → Below g w w' → wpListIn F n P ops Q rest (a.put o.dst (goInt m)) w') : wpListIn F n P ops Q (o :: rest) a w := by
  refine wpListIn_copy_arr hF hgd d s dT sT ho elem hu hsz g off dLen dCap hd A sLen sCap hs m N f t hg hm c hsrc hfit h1 (h _ ?_ ?_ ?_)
  · exact (hg.setRow _).same (arr_congr hf')
  · rw [size_setRow]
  · exact Go.below_setRow (Below.refl _ _) (Nat.le_refl _) _

/-! ### Slices of arrays and of slices, by numbers that fit -/
theorem size_one {P : Program} {e : TypeId} (hs : (P.info? e).map (·.size) = some 1) (w : World) : (sizeOf e).run P w = .ok 1 w := by
  cases hq : P.info? e with
  | none => simp [hq] at hs
  | some i => simp [sizeOf, typeInfo, hq]; simpa [hq] using hs
theorem run_arr_from {P : Program} (t e : TypeId) (N : Nat) (ht : P.underlying t = some (.array N e)) (hs : (P.info? e).map (·.size) = some 1) (g f : Nat) (hf : f < N) (w : World) :
    (Instr.sliceAt t (.pointer (some ⟨g, 0, none⟩)) (some (.int .i64 (f : Int))) none none).run P w = .ok (.slice (some ⟨g, f, none⟩) (N - f) (N - f)) w := by
  have h1 : (f : Int) ≤ N := by omega
  have h2 : ¬ N = f := by omega
  have h3 : (⟨g, 0, none⟩ : Addr).add f = ⟨g, f, none⟩ := by unfold Addr.add; split <;> simp_all
  simp [Instr.sliceAt, Instr.sureAddr, run_underlying ht, Instr.sliceBounds, Instr.sliceBound, asIntOf, Sem.run_bind, h2, size_one hs, h3]
  intro hx
  omega
theorem run_arr_to {P : Program} (t e : TypeId) (N : Nat) (ht : P.underlying t = some (.array N e)) (hs : (P.info? e).map (·.size) = some 1) (g f : Nat) (hf : f ≤ N) (w : World) :
    (Instr.sliceAt t (.pointer (some ⟨g, 0, none⟩)) none (some (.int .i64 (f : Int))) none).run P w = .ok (.slice (some ⟨g, 0, none⟩) f N) w := by
  have h1 : (f : Int) ≤ N := by omega
  have h3 : (⟨g, 0, none⟩ : Addr).add 0 = ⟨g, 0, none⟩ := by simp [Addr.add]
  simp [Instr.sliceAt, Instr.sureAddr, run_underlying ht, Instr.sliceBounds, Instr.sliceBound, asIntOf, Sem.run_bind, size_one hs, h3]
  intro hx
  omega
def cutA (A : Option Addr) (cap l : Nat) : Option Addr := if cap = l then A else A.map (·.add l)
theorem run_slice_from {P : Program} (t e : TypeId) (ht : P.underlying t = some (.slice e)) (hs : (P.info? e).map (·.size) = some 1) (A : Option Addr) (len cap l : Nat) (hl : l ≤ len) (w : World) :
    (Instr.sliceAt t (.slice A len cap) (some (.int .i64 (l : Int))) none none).run P w = .ok (.slice (cutA A cap l) (len - l) (cap - l)) w := by
  have h1 : (l : Int) ≤ len := by omega
  simp [Instr.sliceAt, Instr.slice, run_underlying ht, Instr.sliceBounds, Instr.sliceBound, asIntOf, Sem.run_bind, size_one hs, cutA]
  intro hx
  omega
theorem run_slice_to {P : Program} (t e : TypeId) (ht : P.underlying t = some (.slice e)) (hs : (P.info? e).map (·.size) = some 1) (A : Option Addr) (len cap h : Nat) (hh : h ≤ cap) (w : World) :
    (Instr.sliceAt t (.slice A len cap) none (some (.int .i64 (h : Int))) none).run P w = .ok (.slice A h cap) w := by
  have h1 : (h : Int) ≤ cap := by omega
  have h3 : A.map (·.add 0) = A := by cases A <;> simp [Addr.add]
  simp [Instr.sliceAt, Instr.slice, run_underlying ht, Instr.sliceBounds, Instr.sliceBound, asIntOf, Sem.run_bind, size_one hs, h3]
  intro hx
  omega
theorem add_add (a : Addr) (i j : Nat) : (a.add i).add j = a.add (i + j) := by
  unfold Addr.add
  by_cases hi : i = 0 <;> by_cases hj : j = 0 <;> simp [hi, hj, Nat.add_assoc]

variable {F : Fence} {n : Nat} {P : Program} {ops : Array Oper} {rest : List Oper} {o : Oper} {a : Act} {w : World} {Q : Exit → Act → World → Prop}
/-- A whole array loaded where its cells are known one by one. -/
theorem wpListIn_load_cells (hF : ∀ f, F.fn f) (hgd : o.guard = none) (ty : TypeId) (x : Operand) (ho : o.op = .load ty x)
    (g : Nat) (hx : a.eval x = .pointer (some ⟨g, 0, none⟩)) (N : Nat) (f : Nat → Value) (e : TypeId) (hg : ∀ i, i < N → w.cell? ⟨g, i, none⟩ = some (f i))
    (hu : P.underlying ty = some (.array N e)) (hi : (P.info? ty).map (·.size) = some N)
    (h : wpListIn F n P ops Q rest (a.put o.dst (.agg (arr N f))) w) : wpListIn F n P ops Q (o :: rest) a w := by
  refine wpListIn_val hF hgd (by rw [ho]; intro c hc; cases hc) _ w ?_ h
  have hl := run_loadCells_list (P := P) w ⟨g, 0, none⟩ (arr N f).toList (fun j v hv => by
    have hadd : (⟨g, 0, none⟩ : Addr).add j = ⟨g, j, none⟩ := by unfold Addr.add; split <;> simp_all
    rw [Array.getElem?_toList, arr_get] at hv
    by_cases hj : j < N
    · rw [if_pos hj] at hv
      cases hv
      rw [hadd]
      exact hg j hj
    · rw [if_neg hj] at hv; cases hv)
  simp only [Array.length_toList, arr_size, Array.toArray_toList] at hl
  cases hq : P.info? ty with
  | none => simp [hq] at hi
  | some i =>
    have hs : i.size = N := by simpa [hq] using hi
    have hagg : (isAgg ty).run P w = .ok true w := by
      unfold isAgg
      rw [Sem.run_bind, run_underlying hu w]
      rfl
    simp [execOp, ho, hx, Instr.loadAt, Instr.sureAddr, loadVar, Sem.run_bind, hagg, sizeOf, typeInfo, hq, hs, hl]
end Go.Proofs.YtkbdkeclbokhdaaDoor
