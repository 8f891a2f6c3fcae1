/-
  A state as bytes: for every eight words, in whatever memory, the call returns their 32 bytes, each word's highest byte first; what lay there lies as it lay.
-/
import Derived.Test.YtphknicdllcbmaaDoorRot
import Derived.Test.YtphknicdllcbmaaDoorBlk
import Derived.BigRegion
import Derived.IntWalk
import Derived.Deep.QuietTactic
import Derived.BigQuiet
import Derived.StillTailTactics
import Derived.Lib.Hide
namespace Go.Proofs.YtphknicdllcbmaaDoor
open Go Go.RowKit
attribute [local go_sem] xor_w and_w or_w add_w add_w'

theorem idByte_0 (s : Nat → W32) (k : Nat) : ((idByte s (4 * k)).toNat : Int) = ((s k).toNat : Int) / 16777216 := by
  have := (s k).isLt
  have e1 : 4 * k / 4 = k := by omega
  have e2 : 4 * k % 4 = 0 := by omega
  simp [idByte, byteOf, e1, e2]
  omega
theorem idByte_1 (s : Nat → W32) (k : Nat) : ((idByte s (4 * k + 1)).toNat : Int) = ((s k).toNat : Int) / 65536 % 256 := by
  have e1 : (4 * k + 1) / 4 = k := by omega
  have e2 : (4 * k + 1) % 4 = 1 := by omega
  simp [idByte, byteOf, e1, e2]
theorem idByte_2 (s : Nat → W32) (k : Nat) : ((idByte s (4 * k + 2)).toNat : Int) = ((s k).toNat : Int) / 256 % 256 := by
  have e1 : (4 * k + 2) / 4 = k := by omega
  have e2 : (4 * k + 2) % 4 = 2 := by omega
  simp [idByte, byteOf, e1, e2]
theorem idByte_3 (s : Nat → W32) (k : Nat) : ((idByte s (4 * k + 3)).toNat : Int) = ((s k).toNat : Int) % 256 := by
  have e1 : (4 * k + 3) / 4 = k := by omega
  have e2 : (4 * k + 3) % 4 = 3 := by omega
  simp [idByte, byteOf, e1, e2]
set_option maxRecDepth 100000 in
set_option maxHeartbeats 1000000 in
theorem id_any (s : Nat → W32) (w : World) :
    Calls Tryd.prog 45 #[.agg (arr 8 fun i => u (s i))] w fun e w' => e = .returned (.agg (arr 32 fun i => bv (idByte s i))) ∧ Below w.heap.size w w' := by
  go_enter Tryd.func45, Tryd.ntmps45
  have hBs : Blk (((w.alloc (Obj.cells (arr 8 fun i => u (s i)) 77)).alloc (Obj.cells (Array.replicate 32 (bv 0)) 30)).alloc (Obj.cells (Array.replicate 32 (bv 0)) 30)) w.heap.size 77 (arr 8 fun i => u (s i)) := ((Blk.new w _ _).alloc _).alloc _
  go_wp2_with (refine wpList_load_row rfl 77 _ rfl _ rfl 77 _ (0, 0) _ hBs Tryd.underlying77 rfl (by rw [arr_size]; kernel_rfl) ?_)
  clear hBs
  go_wp2
  go_loopw [8] (fun i wr => ∃ k : Nat, k ≤ 8 ∧ i = .int .i64 k ∧ Blk wr (w.heap.size + 1) 30 (upto 32 0 (fun i => bv (idByte s i)) (bv 0)) ∧ Blk wr (w.heap.size + 1 + 1) 30 (upto 32 (4 * k) (fun i => bv (idByte s i)) (bv 0)) ∧ Below w.heap.size w wr)
    (fun i _ => 8 - (intOf i).toNat)
  case atStart =>
    exact ⟨0, by omega, rfl, (Blk.newAt _ _ (by simp) (by rw [upto_none]; rfl)).alloc _, Blk.newAt _ _ (by simp) (by rw [upto_none]; rfl), (((Below.refl _ w).alloc (Nat.le_refl _) _).alloc (by simp) _).alloc (by simp; omega) _⟩
  case round =>
    obtain ⟨k, hk, rfl, hB2, hB3, hb⟩ := hrel
    by_cases hlt : k < 8
    · have hi : ∀ w', (Instr.index 77 (.agg (arr 8 fun i => u (s i))) (.int .i64 (k : Int))).run Tryd.prog w' = .ok (.int .u32 ((s k).toNat : Int)) w' := fun w' => run_index_arr _ 76 8 _ _ k hlt .u32 Tryd.underlying77 Tryd.underlying76 (by kernel_rfl) w'
      go_wp2
      clear hi
      go_loopw [12] (fun j wr => ∃ m : Nat, m ≤ 4 ∧ j = .int .i64 m ∧ Blk wr (w.heap.size + 1) 30 (upto 32 0 (fun i => bv (idByte s i)) (bv 0)) ∧ Blk wr (w.heap.size + 1 + 1) 30 (upto 32 (4 * k + m) (fun i => bv (idByte s i)) (bv 0)) ∧ Below w.heap.size w wr)
        (fun j _ => 4 - (intOf j).toNat)
      case atStart => exact ⟨0, by omega, rfl, hB2, hB3, hb⟩
      case round =>
        clear hB2 hB3 hb
        obtain ⟨m, hm, rfl, hB2, hB3, hb⟩ := hrel
        by_cases hltm : m < 4
        · have fin : ∀ (wx : World), wx = wr.setCell ⟨w.heap.size + 1 + 1, 4 * k + m, none⟩ (bv (idByte s (4 * k + m))) → Blk wx (w.heap.size + 1) 30 (upto 32 0 (fun i => bv (idByte s i)) (bv 0)) ∧ Blk wx (w.heap.size + 1 + 1) 30 (upto 32 (4 * k + (m + 1)) (fun i => bv (idByte s i)) (bv 0)) ∧ Below w.heap.size w wx := by
            rintro wx rfl
            refine ⟨hB2.far (by simp) _, ?_, hb.setCell (by simp; omega) _⟩
            have := hB3.store (4 * k + m) (bv (idByte s (4 * k + m)))
            rw [upto_set 32 (4 * k + m) (fun i => bv (idByte s i)) (bv 0) (by omega)] at this
            exact this
          have f5 := hB3.frozen (4 * k + m)
          have c5 := hB3.cell (4 * k + m)
          rw [upto_get_any _ _ _ _ _ (by omega), if_neg (by omega)] at c5
          have e5 : (4 * (k : Int) + (m : Int)).toNat = 4 * k + m := by omega
          have hFin := Lib.hid fin
          clear fin
          obtain rfl | rfl | rfl | rfl : m = 0 ∨ m = 1 ∨ m = 2 ∨ m = 3 := by omega
          · replace c5 : wr.cell? ⟨w.heap.size + 1 + 1, 4 * k, none⟩ = some (bv 0) := c5
            replace f5 : wr.frozen? ⟨w.heap.size + 1 + 1, 4 * k, none⟩ = false := f5
            have h := hFin.out _ rfl
            simp only [Nat.add_zero] at h
            rw [bv, idByte_0] at h
            have H := Lib.hid h
            clear h hB2 hB3 hb hFin
            go_wp2
            go_roundw
            case rel => exact ⟨1, by omega, by go_num, H.out⟩
            case measure => simp [intOf]
          · have h := hFin.out _ rfl
            rw [bv, idByte_1] at h
            have H := Lib.hid h
            clear h hB2 hB3 hb hFin
            go_wp2
            go_roundw
            case rel => exact ⟨2, by omega, by go_num, H.out⟩
            case measure => simp [intOf]
          · have h := hFin.out _ rfl
            rw [bv, idByte_2] at h
            have H := Lib.hid h
            clear h hB2 hB3 hb hFin
            go_wp2
            go_roundw
            case rel => exact ⟨3, by omega, by go_num, H.out⟩
            case measure => simp [intOf]
          · have h := hFin.out _ rfl
            rw [bv, idByte_3] at h
            have H := Lib.hid h
            clear h hB2 hB3 hb hFin
            go_wp2
            go_roundw
            case rel => exact ⟨4, by omega, by go_num, H.out⟩
            case measure => simp [intOf]
        · obtain rfl : m = 4 := by omega
          go_wp2
          go_roundw
          case rel => exact ⟨k + 1, by omega, by go_num, hB2, by rw [show 4 * (k + 1) = 4 * k + 4 from by omega]; exact hB3, hb⟩
          case measure => simp [intOf]; omega
    · obtain rfl : k = 8 := by omega
      clear hlt hk
      rw [upto_full] at hB3
      go_wp2_with (first | (refine wpList_load_row rfl 30 _ rfl _ rfl 30 _ (0, 0) _ hB3 Tryd.underlying30 rfl (by rw [arr_size]; kernel_rfl) ?_) | (refine wpList_store_row rfl 30 _ _ rfl _ _ rfl rfl 30 _ hB2 (by rw [arr_size]; kernel_rfl) (by rw [arr_size, upto, arr_size]) ?_ ?_))
      case refine_1 => exact arr_all_bv _ _
      exact bodyPost_ret (results_cell_row (p := 2) (ty := 30) rfl _ _ (w.heap.size + 1) 30 _ (0, 0) _ rfl (setRow_heap _ _ _ _ _ _ hB2) Tryd.underlying30 rfl (by rw [arr_size]; kernel_rfl)) rfl ⟨rfl, below_setRow hb (by omega) _⟩
end Go.Proofs.YtphknicdllcbmaaDoor
