/-
  The state behind a block: for every eight words and every block, in whatever memory in which the table of the rounds' constants reads as it is laid, the call returns the words that the standard says; what lay there lies as it lay.
-/
import Derived.Test.YtphknicdllcbmaaDoorSched
namespace Go.Proofs.YtphknicdllcbmaaDoor
open Go Go.RowKit
attribute [local go_sem] xor_w and_w or_w add_w add_w' not_w

set_option maxRecDepth 100000 in
set_option maxHeartbeats 2000000 in
theorem mix_any (s : Nat → W32) (b : Nat → UInt8) (w : World) (hK : ∀ i, i < 64 → w.cell? ⟨1, i, none⟩ = some (u (kAt i))) :
    Calls Tryd.prog 44 #[.agg (arr 8 fun i => u (s i)), .agg (arr 64 fun i => bv (b i))] w fun e w' => e = .returned (.agg (arr 8 fun i => u (mixed s (wv b) i))) ∧ Below w.heap.size w w' := by
  have hg : 1 < w.heap.size := block_lt_of_cell (hK 0 (by omega))
  have HK := Lib.hid hK
  clear hK
  go_enter Tryd.func44, Tryd.ntmps44
  have hBb : Blk (((w.alloc (Obj.cells (arr 8 fun i => u (s i)) 77)).alloc (Obj.cells (arr 64 fun i => bv (b i)) 81)).alloc (Obj.cells (Array.replicate 8 (u 0)) 77)) (w.heap.size + 1) 81 (arr 64 fun i => bv (b i)) := (Blk.newAt _ _ (by simp) rfl).alloc _
  go_wp2_with (refine wpList_load_row rfl 81 _ rfl _ rfl 81 _ (0, 0) _ hBb Tryd.underlying81 rfl (by rw [arr_size]; kernel_rfl) ?_)
  refine (sched_any b _).mono ?_
  rintro e w1 ⟨rfl, hb⟩
  clear hBb
  have hsz : w.heap.size + 2 < w1.heap.size := by have := hb.size; simp at this; omega
  have hb0 : Below w.heap.size w w1 := ((((Below.refl _ w).alloc (Nat.le_refl _) _).alloc (by simp) _).alloc (by simp; omega) _).trans (hb.mono (by simp; omega))
  have hS : Blk w1 w.heap.size 77 (arr 8 fun i => u (s i)) := (((Blk.new w _ _).alloc _).alloc _).below hb (by simp; omega)
  have hR : Blk w1 (w.heap.size + 1 + 1) 77 (Array.replicate 8 (u 0)) := (Blk.newAt _ _ (by simp) rfl).below hb (by simp)
  clear hb
  go_wp2_with (refine wpList_store_row rfl 97 _ _ rfl _ _ rfl rfl 97 _ (heap_alloc_new w1 _) (by rw [arr_size]; kernel_rfl) (by rw [arr_size]; rfl) (arr_all_u _ _) ?_; rw [World.setRow_alloc_new])
  have hb1 : Below w.heap.size w (w1.alloc (.cells (arr 64 fun i => u (wv b i)) 97)) := hb0.alloc hb0.size _
  have hS1 := hS.alloc (.cells (arr 64 fun i => u (wv b i)) 97)
  have hR1 := hR.alloc (.cells (arr 64 fun i => u (wv b i)) 97)
  have hW1 := Blk.new w1 97 (arr 64 fun i => u (wv b i))
  clear hS hR hb0
  obtain ⟨W, hW⟩ : ∃ W, w1.alloc (.cells (arr 64 fun i => u (wv b i)) 97) = W := ⟨_, rfl⟩
  rw [hW] at hb1 hS1 hR1 hW1 ⊢
  obtain ⟨B5, hB5⟩ : ∃ B5, w1.heap.size = B5 := ⟨_, rfl⟩
  rw [hB5] at hsz hW1 ⊢
  clear hW hB5
  have c0 := hS1.cell 0
  have c1 := hS1.cell 1
  have c2 := hS1.cell 2
  have c3 := hS1.cell 3
  have c4 := hS1.cell 4
  have c5 := hS1.cell 5
  have c6 := hS1.cell 6
  have c7 := hS1.cell 7
  rw [arr_get, if_pos (by omega)] at c0 c1 c2 c3 c4 c5 c6 c7
  unfold u at c0 c1 c2 c3 c4 c5 c6 c7
  go_wp2
  go_quiet (fail)
  have hS2 := hS1.drewN nq
  have hR2 := hR1.drewN nq
  have hW2 := hW1.drewN nq
  have hb2 : Below w.heap.size w (W.drewN nq) := ⟨hb1.os, hb1.tape, hb1.output, hb1.size, hb1.block⟩
  clear hS1 hR1 hW1 hb1 c0 c1 c2 c3 c4 c5 c6 c7
  generalize W.drewN nq = W2 at *
  go_wp2_with (refine wpList_load_row rfl 97 _ rfl _ rfl 97 _ (0, 0) _ hW2 Tryd.underlying97 rfl (by rw [arr_size]; kernel_rfl) ?_)
  have HS := Lib.hid hS2
  have HR := Lib.hid hR2
  have HB := Lib.hid hb2
  have HK2 : Hid (∀ i, i < 64 → W2.cell? ⟨1, i, none⟩ = some (u (kAt i))) := Lib.hid fun i hi => (hb2.cell (p := ⟨1, i, none⟩) hg).trans (HK.out i hi)
  clear hS2 hR2 hW2 hb2 HK
  go_loop [6, 7, 8, 9, 10, 11, 12, 13, 38] (fun a b' c d e f g h i => ∃ k : Nat, k ≤ 64 ∧ i = .int .i64 k ∧
      a = .int .u32 ((rounds s (wv b) k).a.toNat : Int) ∧ b' = .int .u32 ((rounds s (wv b) k).b.toNat : Int) ∧ c = .int .u32 ((rounds s (wv b) k).c.toNat : Int) ∧ d = .int .u32 ((rounds s (wv b) k).d.toNat : Int) ∧
      e = .int .u32 ((rounds s (wv b) k).e.toNat : Int) ∧ f = .int .u32 ((rounds s (wv b) k).f.toNat : Int) ∧ g = .int .u32 ((rounds s (wv b) k).g.toNat : Int) ∧ h = .int .u32 ((rounds s (wv b) k).h.toNat : Int))
    (fun _ _ _ _ _ _ _ _ i => 64 - (intOf i).toNat)
  case atStart => exact ⟨0, by omega, rfl, rfl, rfl, rfl, rfl, rfl, rfl, rfl, rfl⟩
  case round =>
    obtain ⟨k, hk, rfl, rfl, rfl, rfl, rfl, rfl, rfl, rfl, rfl⟩ := hrel
    by_cases hlt : k < 64
    · have hi : ∀ w', (Instr.index 97 (.agg (arr 64 fun i => u (wv b i))) (.int .i64 (k : Int))).run Tryd.prog w' = .ok (.int .u32 ((wv b k).toNat : Int)) w' := fun w' => run_index_arr _ 76 64 _ _ k hlt .u32 Tryd.underlying97 Tryd.underlying76 (by kernel_rfl) w'
      have hc := HK2.out k hlt
      unfold u at hc
      have hk64 : (k : Int) < 64 := by omega
      go_wp2_with (go_at_call 58; refine (rot_k _ _ (by omega) _).mono ?_; rintro e w' ⟨rfl, rfl⟩)
      go_round
      case rel => exact ⟨k + 1, by omega, by go_num, rfl, rfl, rfl, rfl, rfl, rfl, rfl, rfl⟩
      case measure => simp [intOf]; omega
    · obtain rfl : k = 64 := by omega
      clear hlt hk
      have c0 := HS.out.cell 0
      have c1 := HS.out.cell 1
      have c2 := HS.out.cell 2
      have c3 := HS.out.cell 3
      have c4 := HS.out.cell 4
      have c5 := HS.out.cell 5
      have c6 := HS.out.cell 6
      have c7 := HS.out.cell 7
      rw [arr_get, if_pos (by omega)] at c0 c1 c2 c3 c4 c5 c6 c7
      unfold u at c0 c1 c2 c3 c4 c5 c6 c7
      have hR := HR.out
      obtain ⟨R, hRR⟩ : ∃ R, rounds s (wv b) 64 = R := ⟨_, rfl⟩
      have HF : Hid ((arr 8 fun i => u (mixed s (wv b) i)) = #[u (ad (s 0) R.a), u (ad (s 1) R.b), u (ad (s 2) R.c), u (ad (s 3) R.d), u (ad (s 4) R.e), u (ad (s 5) R.f), u (ad (s 6) R.g), u (ad (s 7) R.h)]) := Lib.hid (by
        unfold mixed
        rw [hRR]
        exact (arr_of 8 _ _ rfl (fun i hi => by
          obtain rfl | rfl | rfl | rfl | rfl | rfl | rfl | rfl : i = 0 ∨ i = 1 ∨ i = 2 ∨ i = 3 ∨ i = 4 ∨ i = 5 ∨ i = 6 ∨ i = 7 := by omega
          all_goals rfl)).symm)
      have HA : Hid ((#[u (ad (s 0) R.a), u (ad (s 1) R.b), u (ad (s 2) R.c), u (ad (s 3) R.d), u (ad (s 4) R.e), u (ad (s 5) R.f), u (ad (s 6) R.g), u (ad (s 7) R.h)] : Array Value).all (fun x => x.oneCell') = true) := Lib.hid (by rw [← HF.out]; exact arr_all_u _ _)
      rw [hRR]
      clear hRR HK2
      go_wp2_with (refine wpList_store_row rfl 77 _ _ rfl _ #[u (ad (s 0) R.a), u (ad (s 1) R.b), u (ad (s 2) R.c), u (ad (s 3) R.d), u (ad (s 4) R.e), u (ad (s 5) R.f), u (ad (s 6) R.g), u (ad (s 7) R.h)] rfl rfl 77 _ hR (by kernel_rfl) (by rfl) HA.out ?_)
      refine bodyPost_ret (results_cell_row (p := 4) (ty := 77) rfl _ _ (w.heap.size + 1 + 1) 77 #[u (ad (s 0) R.a), u (ad (s 1) R.b), u (ad (s 2) R.c), u (ad (s 3) R.d), u (ad (s 4) R.e), u (ad (s 5) R.f), u (ad (s 6) R.g), u (ad (s 7) R.h)] (0, 0) _ ?_ (setRow_heap _ _ _ _ _ _ hR) Tryd.underlying77 rfl (by kernel_rfl)) rfl ?_
      · rfl
      exact ⟨by rw [HF.out], below_setRow HB.out (by omega) _⟩
end Go.Proofs.YtphknicdllcbmaaDoor
