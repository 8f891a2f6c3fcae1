/-
  How many blocks bytes have; make of bytes. No condition.
-/
import Derived.Test.YtkkanaefngggoaaDoorStrT
import Derived.Test.YtkkanaefngggoaaDoorOfT
namespace Go.Proofs.YtkkanaefngggoaaDoor
open Go Go.RowKit Go.Shelf

theorem allBlocks_length (L : List UInt8) : (allBlocks L).length = (L.length + 9 + 63) / 64 := by
  unfold allBlocks fulls lasts endBlocks
  rw [List.length_append, List.length_map, List.length_range]
  split <;> simp <;> omega

theorem run_make_bytes (n : Nat) (hn : n ≤ 1099511627776) (w : World) : (Instr.makeSlice 51 (.int .i64 (n : Int)) (.int .i64 (n : Int))).run Tryd.prog w = .ok (.slice (some ⟨w.heap.size, 0, none⟩) n n) (w.alloc (.cells (arr n fun _ => bv 0) 5)) := by
  obtain ⟨i0, hi, hz0, hz1, hz2⟩ := info_parts info_u8
  have h := run_make (P := Tryd.prog) w 51 5 i0 (.int .u8 0) Tryd.underlying51 hi hz0 .i64 .i64 n n (by omega) (Int.le_refl _) (by rw [hz2]; omega) (by omega)
  simp only [Int.toNat_natCast] at h
  rw [h]
  have e : madeCells (Value.int .u8 0).cells (n * i0.size) = arr n fun _ => bv 0 := by
    rw [hz1, Nat.mul_one]
    refine arr_of n _ _ (by simp [size_madeCells]) (fun i hi => ?_)
    have := congrArg (fun l : List Value => l[i]?) (toList_madeCells_one (Value.int .u8 0) n)
    simp only [Array.getElem?_toList] at this
    show (madeCells #[Value.int .u8 0] n)[i]? = _
    rw [this]
    simp [hi]
    rfl
  rw [e]
end Go.Proofs.YtkkanaefngggoaaDoor
