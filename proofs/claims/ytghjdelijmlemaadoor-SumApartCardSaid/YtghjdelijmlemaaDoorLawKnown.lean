/-
  The head that the statements of layer 1 ask first: the sum of 'a', 'bc' begins and ends as the standard says; in whatever memory in which the tables read as they are laid.
-/
import Derived.Test.YtghjdelijmlemaaDoorOf
import Derived.Test.YtghjdelijmlemaaDoorKnown
import Derived.Lib.SlBytesConst
import Derived.Lib.SmallJoins
namespace Go.Proofs.YtghjdelijmlemaaDoor
open Go Go.RowKit Go.Shelf
attribute [local go_sem] Oper.semAt_some

set_option maxRecDepth 100000 in
set_option maxHeartbeats 1000000 in
theorem known_any (w : World) (hT : Tables w) : CallsIn Fence.wide 0 Tryd.prog 9 #[] w fun e w' => e = .returned (.bool true) ∧ Below w.heap.size w w' := by
  have HT := Lib.hid hT
  clear hT
  refine callsIn_of_wp Tryd.func9 rfl trivial ?_ rfl
  simp only [Tryd.ntmps9, List.size_toArray, List.length_cons, List.length_nil, Nat.reduceAdd, Nat.reduceSub, Array.replicate_succ, Array.replicate_zero, List.push_toArray, List.append_toArray, List.nil_append, List.cons_append]
  have kc1 := fun (C : Array Value) (n c : Nat) => Go.Lib.run_convert_bytes_const (P := Tryd.prog) w 24 5 C n c Tryd.underlying24 Tryd.underlying5
  have kc2 := fun (C : Array Value) (n c : Nat) => Go.Joins.run_convert_bytes_const_at (P := Tryd.prog) (w.alloc (Obj.cells #[Value.int IntKind.u8 97] 5 (1, 2))) 24 5 C n c (w.heap.size + 1) (by simp) Tryd.underlying24 Tryd.underlying5
  have HX : Hid (Below w.heap.size w (((w.alloc (Obj.cells #[bv 97] 5 (1, 2))).alloc (Obj.cells #[bv 98, bv 99] 5 (2, 3))).alloc (Obj.cells #[Value.slice (some ⟨w.heap.size, 0, none⟩) 1 1, Value.slice (some ⟨w.heap.size + 1, 0, none⟩) 2 2] 24)) ∧ RdP (((w.alloc (Obj.cells #[bv 97] 5 (1, 2))).alloc (Obj.cells #[bv 98, bv 99] 5 (2, 3))).alloc (Obj.cells #[Value.slice (some ⟨w.heap.size, 0, none⟩) 1 1, Value.slice (some ⟨w.heap.size + 1, 0, none⟩) 2 2] 24)) (fun b => b < (((w.alloc (Obj.cells #[bv 97] 5 (1, 2))).alloc (Obj.cells #[bv 98, bv 99] 5 (2, 3))).alloc (Obj.cells #[Value.slice (some ⟨w.heap.size, 0, none⟩) 1 1, Value.slice (some ⟨w.heap.size + 1, 0, none⟩) 2 2] 24)).heap.size) (some ⟨w.heap.size + 1 + 1, 0, none⟩) [[97], [98, 99]]) := Lib.hid (by
    refine ⟨(((Below.refl _ w).alloc (Nat.le_refl _) _).alloc (by simp) _).alloc (by simp; omega) _, ?_⟩
    have b0 : ∀ j, (((w.alloc (Obj.cells #[bv 97] 5 (1, 2))).alloc (Obj.cells #[bv 98, bv 99] 5 (2, 3))).alloc (Obj.cells #[Value.slice (some ⟨w.heap.size, 0, none⟩) 1 1, Value.slice (some ⟨w.heap.size + 1, 0, none⟩) 2 2] 24)).cell? ⟨w.heap.size, j, none⟩ = (#[bv 97] : Array Value)[j]? := fun j => by
      rw [World.cell?_alloc_lt _ _ _ (by simp; omega), World.cell?_alloc_lt _ _ _ (by simp)]
      exact World.cell?_alloc_mark w _ _ _ j
    have b1 : ∀ j, (((w.alloc (Obj.cells #[bv 97] 5 (1, 2))).alloc (Obj.cells #[bv 98, bv 99] 5 (2, 3))).alloc (Obj.cells #[Value.slice (some ⟨w.heap.size, 0, none⟩) 1 1, Value.slice (some ⟨w.heap.size + 1, 0, none⟩) 2 2] 24)).cell? ⟨w.heap.size + 1, j, none⟩ = (#[bv 98, bv 99] : Array Value)[j]? := fun j => by
      rw [World.cell?_alloc_lt _ _ _ (by simp)]
      exact Go.Joins.cell_alloc_mark_at _ _ _ _ _ j (by simp)
    have b2 : ∀ j, (((w.alloc (Obj.cells #[bv 97] 5 (1, 2))).alloc (Obj.cells #[bv 98, bv 99] 5 (2, 3))).alloc (Obj.cells #[Value.slice (some ⟨w.heap.size, 0, none⟩) 1 1, Value.slice (some ⟨w.heap.size + 1, 0, none⟩) 2 2] 24)).cell? ⟨w.heap.size + 1 + 1, j, none⟩ = (#[Value.slice (some ⟨w.heap.size, 0, none⟩) 1 1, Value.slice (some ⟨w.heap.size + 1, 0, none⟩) 2 2] : Array Value)[j]? := fun j => Go.Joins.cell_alloc_mark_at _ _ _ _ _ j (by simp)
    intro k hk
    obtain rfl | rfl : k = 0 ∨ k = 1 := by simp at hk; omega
    · refine ⟨_, _, rfl, by simp, by rw [add_zero_block, b2]; rfl, rdB_cells (n := 1) (fun i hi => ?_) rfl (by omega) (by omega) (by simp; omega)⟩
      rw [b0]
      obtain rfl : i = 0 := by omega
      rfl
    · refine ⟨_, _, rfl, by simp, by rw [add_zero_block, b2]; rfl, rdB_cells (n := 2) (fun i hi => ?_) rfl (by omega) (by omega) (by simp)⟩
      rw [b1]
      obtain rfl | rfl : i = 0 ∨ i = 1 := by omega
      all_goals rfl)
  have HY : Hid (∀ W4 W5 : World, Blk W5 W4.heap.size 26 (arr 32 fun i => bv (sha abc i)) → W5.cell? ⟨W4.heap.size, 0, none⟩ = some (.int .u8 186) ∧ W5.cell? ⟨W4.heap.size, 1, none⟩ = some (.int .u8 120) ∧ W5.cell? ⟨W4.heap.size, 2, none⟩ = some (.int .u8 22) ∧ W5.cell? ⟨W4.heap.size, 3, none⟩ = some (.int .u8 191) ∧ W5.cell? ⟨W4.heap.size, 31, none⟩ = some (.int .u8 173)) := Lib.hid (by
    intro W4 W5 h
    refine ⟨?_, ?_, ?_, ?_, ?_⟩
    · rw [h.cell, arr_get, if_pos (by omega), abc_0]; rfl
    · rw [h.cell, arr_get, if_pos (by omega), abc_1]; rfl
    · rw [h.cell, arr_get, if_pos (by omega), abc_2]; rfl
    · rw [h.cell, arr_get, if_pos (by omega), abc_3]; rfl
    · rw [h.cell, arr_get, if_pos (by omega), abc_31]; rfl)
  gi_wp2_with (first
    | (refine ⟨trivial, rfl, ?_⟩; gi_at_call 10; refine (of_any (some ⟨w.heap.size + 1 + 1, 0, none⟩) 2 [[97], [98, 99]] (by decide) (by decide) _ (HT.out.below HX.out.1) HX.out.2).mono ?_; rintro e W4 ⟨rfl, hb4⟩; have hB4 := Blk.newAt (t := 26) W4 W4.heap.size rfl (rfl : Array.replicate 32 (bv 0) = _))
    | (refine wpListIn_store_arrW (fun _ => trivial) rfl 26 _ _ rfl W4.heap.size (arr 32 fun i => bv (sha abc i)) rfl rfl 26 _ hB4 (by rw [arr_size]; kernel_rfl) (by rw [arr_size]; rfl) (arr_all_bv _ _) ?_; intro W5 hB5 hz5 hb5 hk5 hq5; obtain ⟨q0, q1, q2, q3, q4⟩ := HY.out W4 W5 hB5))
  go_ret
  exact ⟨rfl, (HX.out.1.trans (hb4.mono HX.out.1.size)).trans (((Below.refl W4.heap.size W4).alloc (Nat.le_refl _) _).trans hb5 |>.mono (Nat.le_trans HX.out.1.size hb4.size))⟩
end Go.Proofs.YtghjdelijmlemaaDoor
