/-
  A row of IDs that is made and filled ID by ID. No condition.
-/
import Derived.Test.YtphknicdllcbmaaDoorTreeFn
namespace Go.Proofs.YtphknicdllcbmaaDoor
open Go Go.RowKit Go.Shelf TreeM

theorem run_mk_ids (n : Nat) (hn : n ≤ 1099511627776) (w : World) : (Instr.makeSlice 22 (.int .i64 (n : Int)) (.int .i64 (n : Int))).run Tryd.prog w = .ok (.slice (some ⟨w.heap.size, 0, none⟩) n n) (w.alloc (.cells (arr (32 * n) fun _ => bv 0) 30)) := by
  obtain ⟨i0, hi, hz0, hz1, hz2⟩ := info_parts info_id
  have h := run_make (P := Tryd.prog) w 22 30 i0 (.agg (Array.replicate 32 (.int .u8 0))) Tryd.underlying22 hi hz0 .i64 .i64 n n (by omega) (Int.le_refl _) (by rw [hz2]; omega) (by omega)
  simp only [Int.toNat_natCast] at h
  rw [h]
  have e : madeCells (Value.agg (Array.replicate 32 (.int .u8 0))).cells (n * i0.size) = arr (32 * n) fun _ => bv 0 := by
    rw [hz1, Nat.mul_comm]
    refine arr_of _ _ _ (by simp [size_madeCells]) (fun i hi => ?_)
    have hm : i % 32 < 32 := Nat.mod_lt _ (by omega)
    simp [madeCells, hi, Value.cells, hm]
    rfl
  rw [e]
/-- What stands there when these IDs are in. -/
def rowF (L : List D) (i : Nat) : Value := if i / 32 < L.length then bv (L.getD (i / 32) dz (i % 32)) else bv 0
def IdRow (w : World) (g n : Nat) (L : List D) : Prop := Blk w g 30 (arr (32 * n) (rowF L))
theorem idRow_new (w : World) (n : Nat) : IdRow (w.alloc (.cells (arr (32 * n) fun _ => bv 0) 30)) w.heap.size n [] := by
  refine (Blk.new w _ _).same (arr_congr fun i _ => ?_)
  simp [rowF]
theorem IdRow.below {w w' : World} {g n : Nat} {L : List D} (h : IdRow w g n L) (hb : Below w.heap.size w w') : IdRow w' g n L := Blk.below h hb h.lt
theorem rowF_snoc (L : List D) (f : D) (i : Nat) : (if L.length * 32 ≤ i ∧ i < L.length * 32 + 32 then (fun j => bv (f j)) (i - L.length * 32) else rowF L i) = rowF (L ++ [f]) i := by
  unfold rowF
  by_cases h : L.length * 32 ≤ i ∧ i < L.length * 32 + 32
  · have e : i / 32 = L.length := by omega
    have e2 : i % 32 = i - L.length * 32 := by omega
    rw [if_pos h, e, e2, if_pos (by simp)]
    simp
  · rw [if_neg h]
    by_cases h2 : i / 32 < L.length
    · rw [if_pos h2, if_pos (by simp; omega), List.getD_eq_getElem?_getD, List.getD_eq_getElem?_getD, List.getElem?_append_left h2]
    · rw [if_neg h2, if_neg (by simp; omega)]
section
variable {P : Program} {ops : Array Oper} {rest : List Oper} {o : Oper} {a : Act} {w : World} {Q : Exit → Act → World → Prop}
theorem wpList_store_id (hgd : o.guard = none) (ty : TypeId) (x y : Operand) (ho : o.op = .store ty x y)
    (g n k off : Nat) (L : List D) (f : D) (hx : a.eval x = .pointer (some ⟨g, off, none⟩)) (hoff : off = k * 32) (hy : a.eval y = .agg (arr 32 fun i => bv (f i)))
    (hg : IdRow w g n L) (hL : L.length = k) (hk : k < n) (hi : (P.info? ty).map (·.size) = some 32)
    (h : ∀ w', IdRow w' g n (L ++ [f]) → w'.heap.size = w.heap.size → Below g w w' → (∀ b, b ≠ g → w'.heap[b]? = w.heap[b]?) → wpList P ops Q rest (a.put o.dst undef) w') : wpList P ops Q (o :: rest) a w := by
  refine wpList_plain hgd fun K hK => ?_
  unfold Oper.wp
  subst hL hoff
  have hl : (arr 32 fun i => bv (f i)).toList = (List.range 32).map fun i => bv (f i) := by rw [arr_list]
  have hst := run_storeCells_at (P := P) g (L.length * 32) 30 ((List.range 32).map fun i => bv (f i)) 0 (arr (32 * n) (rowF L)) w hg (by rw [List.length_map, List.length_range, arr_size]; omega) (fun v hv => by
    simp only [List.mem_map, List.mem_range] at hv
    obtain ⟨j, hj, rfl⟩ := hv
    rfl)
  rw [List.append_assoc, Nat.add_zero, List.length_map, List.length_range, splice_arr (32 * n) (L.length * 32) 32 (rowF L) (fun i => bv (f i)) (by omega)] at hst
  rw [arr_congr (fun i _ => rowF_snoc L f i)] at hst
  cases hq : P.info? ty with
  | none => simp [hq] at hi
  | some i =>
    have hs : 32 = i.size := by simp [hq] at hi; omega
    have hsz : (arr 32 fun i => bv (f i)).size = i.size := by rw [arr_size, hs]
    have := hK _ _ (h _ (hg.setRow _) (size_setRow _ _ _) (below_setRow (Below.refl _ _) (Nat.le_refl _) _) (fun b hb => setRow_other w g b _ hb))
    simp [execOp, ho, hx, hy, Instr.storeAt, Instr.sureAddr, Sem.run_bind, storeVar, sizeOf, typeInfo, hq, Value.cells, hsz, hl, hst, Result.andThen, Oper.upon]
    exact this
end
/-- A full row, read. -/
theorem idRow_rd {w : World} {g n : Nat} {L : List D} (h : IdRow w g n L) (hn : L.length = n) (hm : n ≤ 4398046511104) : RdI w (fun b => b = g) (.slice (some ⟨g, 0, none⟩) n n) L := by
  subst hn
  refine ⟨_, _, rfl, Nat.le_refl _, hm, fun h0 => ⟨⟨g, 0, none⟩, rfl, rfl, fun k hk i hi => ?_⟩⟩
  rw [add_zero_block, Blk.cell h, arr_get, if_pos (by omega)]
  unfold rowF
  rw [show (32 * k + i) / 32 = k from by omega, show (32 * k + i) % 32 = i from by omega, if_pos hk]
theorem RdI.part {W : World} {ok : Nat → Prop} {A : Option Addr} {n c : Nat} {l : List D} (h : RdI W ok (.slice A n c) l) {k m : Nat} (hk : k + m ≤ n) : RdI W ok (.slice (cutI A c k) m (c - k)) ((l.drop k).take m) := by
  have h1 := h.drop (k := k) (by omega)
  exact h1.take (by omega)
theorem run_slice_partI {P : Program} (t e : TypeId) (ht : P.underlying t = some (.slice e)) (hs : (P.info? e).map (·.size) = some 32) (A : Option Addr) (len cap l m : Nat) (hh : l + m ≤ cap) (w : World) :
    (Instr.sliceAt t (.slice A len cap) (some (.int .i64 (l : Int))) (some (.int .i64 ((l : Int) + (m : Int)))) none).run P w = .ok (.slice (cutI A cap l) m (cap - l)) w := by
  have e0 : (l : Int) + (m : Int) = ((l + m : Nat) : Int) := by omega
  rw [e0]
  have h1 : l ≤ l + m := by omega
  have h3 : l + m - l = m := by omega
  generalize l + m = h at *
  have hsz : (sizeOf e).run P w = .ok 32 w := by
    cases hq : P.info? e with
    | none => simp [hq] at hs
    | some i => simp [sizeOf, typeInfo, hq]; simpa [hq] using hs
  simp [Instr.sliceAt, Instr.slice, run_underlying ht, Instr.sliceBounds, Instr.sliceBound, asIntOf, Sem.run_bind, hsz, cutI]
  rw [if_pos hh, if_pos h1, h3]
end Go.Proofs.YtphknicdllcbmaaDoor
