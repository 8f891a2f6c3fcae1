/-
  The state behind a block: for every eight words and every block, in whatever memory in which the table of the rounds' constants reads as it is laid, the call returns the words that the standard says; what lay there lies as it lay.
  A state as bytes: for every eight words, in whatever memory, the call returns their 32 bytes, each word's highest byte first; what lay there lies as it lay.
-/
import Derived.Test.YtkbdkeclbokhdaaDoorQ6
import Derived.Test.YtkbdkeclbokhdaaDoorQ1
import Derived.BigRegion
import Derived.IntWalk
import Derived.Deep.QuietTactic
import Derived.BigQuiet
import Derived.StillTailTactics
import Derived.Lib.Hide
namespace Go.Proofs.YtkbdkeclbokhdaaDoor
open Go Go.RowKit
attribute [local go_sem] xor_w and_w or_w add_w add_w' not_w

set_option maxRecDepth 100000 in
set_option maxHeartbeats 2000000 in
theorem mix_any (s : Nat → W32) (b : Nat → UInt8) (w : World) (hK : ∀ i, i < 64 → w.cell? ⟨1, i, none⟩ = some (u (kAt i))) :
    Calls Tryd.prog 82 #[.agg (arr 8 fun i => u (s i)), .agg (arr 64 fun i => bv (b i))] w fun e w' => e = .returned (.agg (arr 8 fun i => u (mixed s (wv b) i))) ∧ Below w.heap.size w w' := by
  have hg : 1 < w.heap.size := block_lt_of_cell (hK 0 (by omega))
  have HK := Lib.hid hK
  clear hK
  go_enter Tryd.func82, Tryd.ntmps82
  have hBb : Blk (((w.alloc (Obj.cells (arr 8 fun i => u (s i)) 143)).alloc (Obj.cells (arr 64 fun i => bv (b i)) 147)).alloc (Obj.cells (Array.replicate 8 (u 0)) 143)) (w.heap.size + 1) 147 (arr 64 fun i => bv (b i)) := (Blk.newAt _ _ (by simp) rfl).alloc _
  go_wp2_with (refine wpList_load_row rfl 147 _ rfl _ rfl 147 _ (0, 0) _ hBb Tryd.underlying147 rfl (by rw [arr_size]; kernel_rfl) ?_)
  refine (sched_any b _).mono ?_
  rintro e w1 ⟨rfl, hb⟩
  clear hBb
  have hsz : w.heap.size + 2 < w1.heap.size := by have := hb.size; simp at this; omega
  have hb0 : Below w.heap.size w w1 := ((((Below.refl _ w).alloc (Nat.le_refl _) _).alloc (by simp) _).alloc (by simp; omega) _).trans (hb.mono (by simp; omega))
  have hS : Blk w1 w.heap.size 143 (arr 8 fun i => u (s i)) := (((Blk.new w _ _).alloc _).alloc _).below hb (by simp; omega)
  have hR : Blk w1 (w.heap.size + 1 + 1) 143 (Array.replicate 8 (u 0)) := (Blk.newAt _ _ (by simp) rfl).below hb (by simp)
  clear hb
  go_wp2_with (refine wpList_store_row rfl 155 _ _ rfl _ _ rfl rfl 155 _ (heap_alloc_new w1 _) (by rw [arr_size]; kernel_rfl) (by rw [arr_size]; rfl) (arr_all_u _ _) ?_; rw [World.setRow_alloc_new])
  have hb1 : Below w.heap.size w (w1.alloc (.cells (arr 64 fun i => u (wv b i)) 155)) := hb0.alloc hb0.size _
  have hS1 := hS.alloc (.cells (arr 64 fun i => u (wv b i)) 155)
  have hR1 := hR.alloc (.cells (arr 64 fun i => u (wv b i)) 155)
  have hW1 := Blk.new w1 155 (arr 64 fun i => u (wv b i))
  clear hS hR hb0
  obtain ⟨W, hW⟩ : ∃ W, w1.alloc (.cells (arr 64 fun i => u (wv b i)) 155) = W := ⟨_, rfl⟩
  rw [hW] at hb1 hS1 hR1 hW1 ⊢
  obtain ⟨B5, hB5⟩ : ∃ B5, w1.heap.size = B5 := ⟨_, rfl⟩
  rw [hB5] at hsz hW1 ⊢
  clear hW hB5
  have c0 := hS1.cell 0
  have c1 := hS1.cell 1
  have c2 := hS1.cell 2
  have c3 := hS1.cell 3
  have c4 := hS1.cell 4
  have c5 := hS1.cell 5
  have c6 := hS1.cell 6
  have c7 := hS1.cell 7
  rw [arr_get, if_pos (by omega)] at c0 c1 c2 c3 c4 c5 c6 c7
  unfold u at c0 c1 c2 c3 c4 c5 c6 c7
  go_wp2
  go_quiet (fail)
  have hS2 := hS1.drewN nq
  have hR2 := hR1.drewN nq
  have hW2 := hW1.drewN nq
  have hb2 : Below w.heap.size w (W.drewN nq) := ⟨hb1.os, hb1.tape, hb1.output, hb1.size, hb1.block⟩
  clear hS1 hR1 hW1 hb1 c0 c1 c2 c3 c4 c5 c6 c7
  generalize W.drewN nq = W2 at *
  go_wp2_with (refine wpList_load_row rfl 155 _ rfl _ rfl 155 _ (0, 0) _ hW2 Tryd.underlying155 rfl (by rw [arr_size]; kernel_rfl) ?_)
  have HS := Lib.hid hS2
  have HR := Lib.hid hR2
  have HB := Lib.hid hb2
  have HK2 : Hid (∀ i, i < 64 → W2.cell? ⟨1, i, none⟩ = some (u (kAt i))) := Lib.hid fun i hi => (hb2.cell (p := ⟨1, i, none⟩) hg).trans (HK.out i hi)
  clear hS2 hR2 hW2 hb2 HK
  go_loop [6, 7, 8, 9, 10, 11, 12, 13, 38] (fun a b' c d e f g h i => ∃ k : Nat, k ≤ 64 ∧ i = .int .i64 k ∧
      a = .int .u32 ((rounds s (wv b) k).a.toNat : Int) ∧ b' = .int .u32 ((rounds s (wv b) k).b.toNat : Int) ∧ c = .int .u32 ((rounds s (wv b) k).c.toNat : Int) ∧ d = .int .u32 ((rounds s (wv b) k).d.toNat : Int) ∧
      e = .int .u32 ((rounds s (wv b) k).e.toNat : Int) ∧ f = .int .u32 ((rounds s (wv b) k).f.toNat : Int) ∧ g = .int .u32 ((rounds s (wv b) k).g.toNat : Int) ∧ h = .int .u32 ((rounds s (wv b) k).h.toNat : Int))
    (fun _ _ _ _ _ _ _ _ i => 64 - (intOf i).toNat)
  case atStart => exact ⟨0, by omega, rfl, rfl, rfl, rfl, rfl, rfl, rfl, rfl, rfl⟩
  case round =>
    obtain ⟨k, hk, rfl, rfl, rfl, rfl, rfl, rfl, rfl, rfl, rfl⟩ := hrel
    by_cases hlt : k < 64
    · have hi : ∀ w', (Instr.index 155 (.agg (arr 64 fun i => u (wv b i))) (.int .i64 (k : Int))).run Tryd.prog w' = .ok (.int .u32 ((wv b k).toNat : Int)) w' := fun w' => run_index_arr _ 142 64 _ _ k hlt .u32 Tryd.underlying155 Tryd.underlying142 (by kernel_rfl) w'
      have hc := HK2.out k hlt
      unfold u at hc
      have hk64 : (k : Int) < 64 := by omega
      go_wp2_with (go_at_call 88; refine (rot_k _ _ (by omega) _).mono ?_; rintro e w' ⟨rfl, rfl⟩)
      go_round
      case rel => exact ⟨k + 1, by omega, by go_num, rfl, rfl, rfl, rfl, rfl, rfl, rfl, rfl⟩
      case measure => simp [intOf]; omega
    · obtain rfl : k = 64 := by omega
      clear hlt hk
      have c0 := HS.out.cell 0
      have c1 := HS.out.cell 1
      have c2 := HS.out.cell 2
      have c3 := HS.out.cell 3
      have c4 := HS.out.cell 4
      have c5 := HS.out.cell 5
      have c6 := HS.out.cell 6
      have c7 := HS.out.cell 7
      rw [arr_get, if_pos (by omega)] at c0 c1 c2 c3 c4 c5 c6 c7
      unfold u at c0 c1 c2 c3 c4 c5 c6 c7
      have hR := HR.out
      obtain ⟨R, hRR⟩ : ∃ R, rounds s (wv b) 64 = R := ⟨_, rfl⟩
      have HF : Hid ((arr 8 fun i => u (mixed s (wv b) i)) = #[u (ad (s 0) R.a), u (ad (s 1) R.b), u (ad (s 2) R.c), u (ad (s 3) R.d), u (ad (s 4) R.e), u (ad (s 5) R.f), u (ad (s 6) R.g), u (ad (s 7) R.h)]) := Lib.hid (by
        unfold mixed
        rw [hRR]
        exact (arr_of 8 _ _ rfl (fun i hi => by
          obtain rfl | rfl | rfl | rfl | rfl | rfl | rfl | rfl : i = 0 ∨ i = 1 ∨ i = 2 ∨ i = 3 ∨ i = 4 ∨ i = 5 ∨ i = 6 ∨ i = 7 := by omega
          all_goals rfl)).symm)
      have HA : Hid ((#[u (ad (s 0) R.a), u (ad (s 1) R.b), u (ad (s 2) R.c), u (ad (s 3) R.d), u (ad (s 4) R.e), u (ad (s 5) R.f), u (ad (s 6) R.g), u (ad (s 7) R.h)] : Array Value).all (fun x => x.oneCell') = true) := Lib.hid (by rw [← HF.out]; exact arr_all_u _ _)
      rw [hRR]
      clear hRR HK2
      go_wp2_with (refine wpList_store_row rfl 143 _ _ rfl _ #[u (ad (s 0) R.a), u (ad (s 1) R.b), u (ad (s 2) R.c), u (ad (s 3) R.d), u (ad (s 4) R.e), u (ad (s 5) R.f), u (ad (s 6) R.g), u (ad (s 7) R.h)] rfl rfl 143 _ hR (by kernel_rfl) (by rfl) HA.out ?_)
      refine bodyPost_ret (results_cell_row (p := 4) (ty := 143) rfl _ _ (w.heap.size + 1 + 1) 143 #[u (ad (s 0) R.a), u (ad (s 1) R.b), u (ad (s 2) R.c), u (ad (s 3) R.d), u (ad (s 4) R.e), u (ad (s 5) R.f), u (ad (s 6) R.g), u (ad (s 7) R.h)] (0, 0) _ ?_ (setRow_heap _ _ _ _ _ _ hR) Tryd.underlying143 rfl (by kernel_rfl)) rfl ?_
      · rfl
      exact ⟨by rw [HF.out], below_setRow HB.out (by omega) _⟩
end Go.Proofs.YtkbdkeclbokhdaaDoor
namespace Go.Proofs.YtkbdkeclbokhdaaDoor
open Go Go.RowKit
attribute [local go_sem] xor_w and_w or_w add_w add_w'

theorem idByte_0 (s : Nat → W32) (k : Nat) : ((idByte s (4 * k)).toNat : Int) = ((s k).toNat : Int) / 16777216 := by
  have := (s k).isLt
  have e1 : 4 * k / 4 = k := by omega
  have e2 : 4 * k % 4 = 0 := by omega
  simp [idByte, byteOf, e1, e2]
  omega
theorem idByte_1 (s : Nat → W32) (k : Nat) : ((idByte s (4 * k + 1)).toNat : Int) = ((s k).toNat : Int) / 65536 % 256 := by
  have e1 : (4 * k + 1) / 4 = k := by omega
  have e2 : (4 * k + 1) % 4 = 1 := by omega
  simp [idByte, byteOf, e1, e2]
theorem idByte_2 (s : Nat → W32) (k : Nat) : ((idByte s (4 * k + 2)).toNat : Int) = ((s k).toNat : Int) / 256 % 256 := by
  have e1 : (4 * k + 2) / 4 = k := by omega
  have e2 : (4 * k + 2) % 4 = 2 := by omega
  simp [idByte, byteOf, e1, e2]
theorem idByte_3 (s : Nat → W32) (k : Nat) : ((idByte s (4 * k + 3)).toNat : Int) = ((s k).toNat : Int) % 256 := by
  have e1 : (4 * k + 3) / 4 = k := by omega
  have e2 : (4 * k + 3) % 4 = 3 := by omega
  simp [idByte, byteOf, e1, e2]
set_option maxRecDepth 100000 in
set_option maxHeartbeats 1000000 in
theorem id_any (s : Nat → W32) (w : World) :
    Calls Tryd.prog 83 #[.agg (arr 8 fun i => u (s i))] w fun e w' => e = .returned (.agg (arr 32 fun i => bv (idByte s i))) ∧ Below w.heap.size w w' := by
  go_enter Tryd.func83, Tryd.ntmps83
  have hBs : Blk (((w.alloc (Obj.cells (arr 8 fun i => u (s i)) 143)).alloc (Obj.cells (Array.replicate 32 (bv 0)) 37)).alloc (Obj.cells (Array.replicate 32 (bv 0)) 37)) w.heap.size 143 (arr 8 fun i => u (s i)) := ((Blk.new w _ _).alloc _).alloc _
  go_wp2_with (refine wpList_load_row rfl 143 _ rfl _ rfl 143 _ (0, 0) _ hBs Tryd.underlying143 rfl (by rw [arr_size]; kernel_rfl) ?_)
  clear hBs
  go_wp2
  go_loopw [8] (fun i wr => ∃ k : Nat, k ≤ 8 ∧ i = .int .i64 k ∧ Blk wr (w.heap.size + 1) 37 (upto 32 0 (fun i => bv (idByte s i)) (bv 0)) ∧ Blk wr (w.heap.size + 1 + 1) 37 (upto 32 (4 * k) (fun i => bv (idByte s i)) (bv 0)) ∧ Below w.heap.size w wr)
    (fun i _ => 8 - (intOf i).toNat)
  case atStart =>
    exact ⟨0, by omega, rfl, (Blk.newAt _ _ (by simp) (by rw [upto_none]; rfl)).alloc _, Blk.newAt _ _ (by simp) (by rw [upto_none]; rfl), (((Below.refl _ w).alloc (Nat.le_refl _) _).alloc (by simp) _).alloc (by simp; omega) _⟩
  case round =>
    obtain ⟨k, hk, rfl, hB2, hB3, hb⟩ := hrel
    by_cases hlt : k < 8
    · have hi : ∀ w', (Instr.index 143 (.agg (arr 8 fun i => u (s i))) (.int .i64 (k : Int))).run Tryd.prog w' = .ok (.int .u32 ((s k).toNat : Int)) w' := fun w' => run_index_arr _ 142 8 _ _ k hlt .u32 Tryd.underlying143 Tryd.underlying142 (by kernel_rfl) w'
      go_wp2
      clear hi
      go_loopw [12] (fun j wr => ∃ m : Nat, m ≤ 4 ∧ j = .int .i64 m ∧ Blk wr (w.heap.size + 1) 37 (upto 32 0 (fun i => bv (idByte s i)) (bv 0)) ∧ Blk wr (w.heap.size + 1 + 1) 37 (upto 32 (4 * k + m) (fun i => bv (idByte s i)) (bv 0)) ∧ Below w.heap.size w wr)
        (fun j _ => 4 - (intOf j).toNat)
      case atStart => exact ⟨0, by omega, rfl, hB2, hB3, hb⟩
      case round =>
        clear hB2 hB3 hb
        obtain ⟨m, hm, rfl, hB2, hB3, hb⟩ := hrel
        by_cases hltm : m < 4
        · have fin : ∀ (wx : World), wx = wr.setCell ⟨w.heap.size + 1 + 1, 4 * k + m, none⟩ (bv (idByte s (4 * k + m))) → Blk wx (w.heap.size + 1) 37 (upto 32 0 (fun i => bv (idByte s i)) (bv 0)) ∧ Blk wx (w.heap.size + 1 + 1) 37 (upto 32 (4 * k + (m + 1)) (fun i => bv (idByte s i)) (bv 0)) ∧ Below w.heap.size w wx := by
            rintro wx rfl
            refine ⟨hB2.far (by simp) _, ?_, hb.setCell (by simp; omega) _⟩
            have := hB3.store (4 * k + m) (bv (idByte s (4 * k + m)))
            rw [upto_set 32 (4 * k + m) (fun i => bv (idByte s i)) (bv 0) (by omega)] at this
            exact this
          have f5 := hB3.frozen (4 * k + m)
          have c5 := hB3.cell (4 * k + m)
          rw [upto_get_any _ _ _ _ _ (by omega), if_neg (by omega)] at c5
          have e5 : (4 * (k : Int) + (m : Int)).toNat = 4 * k + m := by omega
          have hFin := Lib.hid fin
          clear fin
          obtain rfl | rfl | rfl | rfl : m = 0 ∨ m = 1 ∨ m = 2 ∨ m = 3 := by omega
          · replace c5 : wr.cell? ⟨w.heap.size + 1 + 1, 4 * k, none⟩ = some (bv 0) := c5
            replace f5 : wr.frozen? ⟨w.heap.size + 1 + 1, 4 * k, none⟩ = false := f5
            have h := hFin.out _ rfl
            simp only [Nat.add_zero] at h
            rw [bv, idByte_0] at h
            have H := Lib.hid h
            clear h hB2 hB3 hb hFin
            go_wp2
            go_roundw
            case rel => exact ⟨1, by omega, by go_num, H.out⟩
            case measure => simp [intOf]
          · have h := hFin.out _ rfl
            rw [bv, idByte_1] at h
            have H := Lib.hid h
            clear h hB2 hB3 hb hFin
            go_wp2
            go_roundw
            case rel => exact ⟨2, by omega, by go_num, H.out⟩
            case measure => simp [intOf]
          · have h := hFin.out _ rfl
            rw [bv, idByte_2] at h
            have H := Lib.hid h
            clear h hB2 hB3 hb hFin
            go_wp2
            go_roundw
            case rel => exact ⟨3, by omega, by go_num, H.out⟩
            case measure => simp [intOf]
          · have h := hFin.out _ rfl
            rw [bv, idByte_3] at h
            have H := Lib.hid h
            clear h hB2 hB3 hb hFin
            go_wp2
            go_roundw
            case rel => exact ⟨4, by omega, by go_num, H.out⟩
            case measure => simp [intOf]
        · obtain rfl : m = 4 := by omega
          go_wp2
          go_roundw
          case rel => exact ⟨k + 1, by omega, by go_num, hB2, by rw [show 4 * (k + 1) = 4 * k + 4 from by omega]; exact hB3, hb⟩
          case measure => simp [intOf]; omega
    · obtain rfl : k = 8 := by omega
      clear hlt hk
      rw [upto_full] at hB3
      go_wp2_with (first | (refine wpList_load_row rfl 37 _ rfl _ rfl 37 _ (0, 0) _ hB3 Tryd.underlying37 rfl (by rw [arr_size]; kernel_rfl) ?_) | (refine wpList_store_row rfl 37 _ _ rfl _ _ rfl rfl 37 _ hB2 (by rw [arr_size]; kernel_rfl) (by rw [arr_size, upto, arr_size]) ?_ ?_))
      case refine_1 => exact arr_all_bv _ _
      exact bodyPost_ret (results_cell_row (p := 2) (ty := 37) rfl _ _ (w.heap.size + 1) 37 _ (0, 0) _ rfl (setRow_heap _ _ _ _ _ _ hB2) Tryd.underlying37 rfl (by rw [arr_size]; kernel_rfl)) rfl ⟨rfl, below_setRow hb (by omega) _⟩
end Go.Proofs.YtkbdkeclbokhdaaDoor
