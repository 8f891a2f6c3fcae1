/-
  Laws for single operations inside a fence that lets every function in: a whole array loaded and stored, the builtin copy into a block that is known whole. No condition of their own.
-/
import Derived.Test.YtjdgcciemlfapaaSeq
import Derived.OwnWalkIn
import Derived.Laws.CopyOwn
import Derived.Laws.IdiomCopy
namespace Go.Proofs.Ytjdgcciemlfapaa
open Go Go.RowKit

variable {F : Fence} {n : Nat} {P : Program} {ops : Array Oper} {rest : List Oper} {o : Oper} {a : Act} {w : World} {Q : Exit → Act → World → Prop}

theorem wpListIn_val (hF : ∀ f, F.fn f) (hgd : o.guard = none) (hd : ∀ c, o.op ≠ .defer c) (v : Value) (w' : World) (h : (execOp a.eval o).run P w = .ok (.value v) w')
    (k : wpListIn F n P ops Q rest (a.put o.dst v) w') : wpListIn F n P ops Q (o :: rest) a w := by
  refine wpListIn_plain hgd fun K hK => ?_
  unfold Oper.wpIn
  refine ⟨fun f _ => hF f, ?_⟩
  rw [Oper.semAt_plain F _ _ hd, h]
  exact hK _ _ k

theorem wpListIn_load_arr (hF : ∀ f, F.fn f) (hgd : o.guard = none) (ty : TypeId) (x : Operand) (ho : o.op = .load ty x)
    (g : Nat) (hx : a.eval x = .pointer (some ⟨g, 0, none⟩)) (t : TypeId) (cs : Array Value) (d : TypeDesc) (hg : Blk w g t cs)
    (hu : P.underlying ty = some d) (hd : (match d with | .struct _ | .array _ _ => true | _ => false) = true) (hi : (P.info? ty).map (·.size) = some cs.size)
    (h : wpListIn F n P ops Q rest (a.put o.dst (.agg cs)) w) : wpListIn F n P ops Q (o :: rest) a w := by
  refine wpListIn_val hF hgd (by rw [ho]; intro c hc; cases hc) _ w ?_ h
  simp only [execOp, ho, hx, Instr.loadAt, Instr.sureAddr, Sem.run_bind, Sem.run_pure, Result.andThen_ok, run_loadVar_row w g t ty cs (0, 0) d hg hu hd hi]

theorem splice_arr (N off m : Nat) (f c : Nat → Value) (hfit : off + m ≤ N) :
    ((arr N f).toList.take off ++ ((List.range m).map c ++ (arr N f).toList.drop (off + m))).toArray = arr N (fun i => if off ≤ i ∧ i < off + m then c (i - off) else f i) := by
  refine arr_of _ _ _ ?_ ?_
  · simp [arr_size]; omega
  · intro i hi
    simp only [List.getElem?_toArray]
    by_cases h1 : i < off
    · rw [List.getElem?_append_left (by simp [arr_size]; omega), List.getElem?_take_of_lt h1, Array.getElem?_toList, arr_get, if_pos hi, if_neg (by omega)]
    · rw [List.getElem?_append_right (by simp [arr_size]; omega)]
      have hl : ((arr N f).toList.take off).length = off := by simp [arr_size]; omega
      rw [hl]
      by_cases h2 : i < off + m
      · rw [List.getElem?_append_left (by simp; omega), List.getElem?_map, List.getElem?_range (by omega), if_pos ⟨by omega, h2⟩]
        rfl
      · rw [List.getElem?_append_right (by simp; omega)]
        simp only [List.length_map, List.length_range]
        rw [List.getElem?_drop, Array.getElem?_toList, arr_get, show off + m + (i - off - m) = i from by omega, if_pos hi, if_neg (by omega)]

/-! ### Slices of arrays and of slices, by numbers that fit -/
theorem size_one {P : Program} {e : TypeId} (hs : (P.info? e).map (·.size) = some 1) (w : World) : (sizeOf e).run P w = .ok 1 w := by
  cases hq : P.info? e with
  | none => simp [hq] at hs
  | some i => simp [sizeOf, typeInfo, hq]; simpa [hq] using hs
theorem run_arr_to {P : Program} (t e : TypeId) (N : Nat) (ht : P.underlying t = some (.array N e)) (hs : (P.info? e).map (·.size) = some 1) (g f : Nat) (hf : f ≤ N) (w : World) :
    (Instr.sliceAt t (.pointer (some ⟨g, 0, none⟩)) none (some (.int .i64 (f : Int))) none).run P w = .ok (.slice (some ⟨g, 0, none⟩) f N) w := by
  have h1 : (f : Int) ≤ N := by omega
  have h3 : (⟨g, 0, none⟩ : Addr).add 0 = ⟨g, 0, none⟩ := by simp [Addr.add]
  simp [Instr.sliceAt, Instr.sureAddr, run_underlying ht, Instr.sliceBounds, Instr.sliceBound, asIntOf, Sem.run_bind, size_one hs, h3]
  intro hx
  omega
def cutA (A : Option Addr) (cap l : Nat) : Option Addr := if cap = l then A else A.map (·.add l)
theorem run_slice_from {P : Program} (t e : TypeId) (ht : P.underlying t = some (.slice e)) (hs : (P.info? e).map (·.size) = some 1) (A : Option Addr) (len cap l : Nat) (hl : l ≤ len) (w : World) :
    (Instr.sliceAt t (.slice A len cap) (some (.int .i64 (l : Int))) none none).run P w = .ok (.slice (cutA A cap l) (len - l) (cap - l)) w := by
  have h1 : (l : Int) ≤ len := by omega
  simp [Instr.sliceAt, Instr.slice, run_underlying ht, Instr.sliceBounds, Instr.sliceBound, asIntOf, Sem.run_bind, size_one hs, cutA]
  intro hx
  omega
theorem run_slice_to {P : Program} (t e : TypeId) (ht : P.underlying t = some (.slice e)) (hs : (P.info? e).map (·.size) = some 1) (A : Option Addr) (len cap h : Nat) (hh : h ≤ cap) (w : World) :
    (Instr.sliceAt t (.slice A len cap) none (some (.int .i64 (h : Int))) none).run P w = .ok (.slice A h cap) w := by
  have h1 : (h : Int) ≤ cap := by omega
  have h3 : A.map (·.add 0) = A := by cases A <;> simp [Addr.add]
  simp [Instr.sliceAt, Instr.slice, run_underlying ht, Instr.sliceBounds, Instr.sliceBound, asIntOf, Sem.run_bind, size_one hs, h3]
  intro hx
  omega
theorem add_add (a : Addr) (i j : Nat) : (a.add i).add j = a.add (i + j) := by
  unfold Addr.add
  by_cases hi : i = 0 <;> by_cases hj : j = 0 <;> simp [hi, hj, Nat.add_assoc]

variable {F : Fence} {n : Nat} {P : Program} {ops : Array Oper} {rest : List Oper} {o : Oper} {a : Act} {w : World} {Q : Exit → Act → World → Prop}
end Go.Proofs.Ytjdgcciemlfapaa
