/-
  math/bits.RotateLeft32 by a negative number of bits is the turn to the right; for every word, in whatever memory.
  The schedule of a block: for every block of 64 bytes, in whatever memory, the call returns its 64 words; what lay there lies as it lay.
  The state behind a block: for every eight words and every block, in whatever memory in which the table of the rounds' constants reads as it is laid, the call returns the words that the standard says; what lay there lies as it lay.
-/
import Derived.Test.YtgpbpdjamimbfaaDoorProg
import Derived.Test.YtgpbpdjamimbfaaDoorMath
import Derived.WalkKit
import Derived.WalkSpells
import Derived.WalkLawsBesides
import Derived.Test.YtgpbpdjamimbfaaDoorBlk
import Derived.BigRegion
import Derived.Deep.QuietTactic
import Derived.BigQuiet
import Derived.IntWalk
import Derived.StillTailTactics
import Derived.Lib.Hide
namespace Go.Proofs.YtgpbpdjamimbfaaDoor
open Go Go.RowKit
set_option maxHeartbeats 400000 in
theorem rot_any (x : W32) (k : Int) (n m : Nat) (w : World) (h0 : bits BinOp.and IntKind.u64 (IntKind.u64.wrap k) 31 = (m : Int)) (hm : m + n = 32) (hn : n ≤ 31) :
    Calls Tryd.prog 88 #[.int .u32 (x.toNat : Int), .int .i64 k] w fun e w' => e = .returned (.int .u32 ((rr x n).toNat : Int)) ∧ w = w' := by
  have h1 : IntKind.u64.wrap (32 - (m : Int)) = (n : Int) := by
    rw [IntKind.wrap_u64]; omega
  have h2 : bits .or .u32 ((x.toNat : Int) * 2 ^ m % 4294967296) ((x.toNat : Int) / 2 ^ n) = ((rr x n).toNat : Int) := rot_w x m n hm hn
  go_enter Tryd.func88, Tryd.ntmps88
  go_wp2
  go_ret
  exact ⟨rfl, rfl⟩
/-- For each of the numbers of bits that the program asks for. -/
theorem rot_at (n : Nat) (h0 : 1 ≤ n) (h1 : n ≤ 31) (x : W32) (w : World) :
    Calls Tryd.prog 88 #[.int .u32 (x.toNat : Int), .int .i64 (-(n : Int))] w fun e w' => e = .returned (.int .u32 ((rr x n).toNat : Int)) ∧ w = w' := by
  refine rot_any x _ n (32 - n) w ?_ (by omega) h1
  obtain rfl | rfl | rfl | rfl | rfl | rfl | rfl | rfl | rfl | rfl | rfl | rfl | rfl | rfl | rfl | rfl | rfl | rfl | rfl | rfl | rfl | rfl | rfl | rfl | rfl | rfl | rfl | rfl | rfl | rfl | rfl : n = 1 ∨ n = 2 ∨ n = 3 ∨ n = 4 ∨ n = 5 ∨ n = 6 ∨ n = 7 ∨ n = 8 ∨ n = 9 ∨ n = 10 ∨ n = 11 ∨ n = 12 ∨ n = 13 ∨ n = 14 ∨ n = 15 ∨ n = 16 ∨ n = 17 ∨ n = 18 ∨ n = 19 ∨ n = 20 ∨ n = 21 ∨ n = 22 ∨ n = 23 ∨ n = 24 ∨ n = 25 ∨ n = 26 ∨ n = 27 ∨ n = 28 ∨ n = 29 ∨ n = 30 ∨ n = 31 := by omega
  all_goals decide
theorem rot_k (x : W32) (k : Int) (hk : -31 ≤ k ∧ k ≤ -1) (w : World) :
    Calls Tryd.prog 88 #[.int .u32 (x.toNat : Int), .int .i64 k] w fun e w' => e = .returned (.int .u32 ((rr x (-k).toNat).toNat : Int)) ∧ w = w' := by
  obtain ⟨n, rfl⟩ : ∃ n : Nat, k = -(n : Int) := ⟨(-k).toNat, by omega⟩
  have := rot_at n (by omega) (by omega) x w
  simpa using this
end Go.Proofs.YtgpbpdjamimbfaaDoor
namespace Go.Proofs.YtgpbpdjamimbfaaDoor
open Go Go.RowKit
attribute [local go_sem] xor_w and_w or_w add_w add_w' w8_wrap shl_w24 shl_w16 shl_w8 shr_w3 shr_w10

set_option maxRecDepth 100000 in
set_option maxHeartbeats 1000000 in
theorem sched_any (b : Nat → UInt8) (w : World) :
    Calls Tryd.prog 87 #[.agg (arr 64 fun i => bv (b i))] w fun e w' => e = .returned (.agg (arr 64 fun i => u (wv b i))) ∧ Below w.heap.size w w' := by
  go_enter Tryd.func87, Tryd.ntmps87
  go_wp2
  go_loopw [8] (fun i wr => ∃ k : Nat, k ≤ 16 ∧ i = .int .i64 k ∧ Blk wr w.heap.size 147 (arr 64 fun i => bv (b i)) ∧ Blk wr (w.heap.size + 1) 155 (upto 64 0 (fun i => u (wv b i)) (u 0)) ∧ Blk wr (w.heap.size + 1 + 1) 155 (upto 64 k (fun i => u (wv b i)) (u 0)) ∧ Below w.heap.size w wr)
    (fun i _ => 16 - (intOf i).toNat)
  case atStart =>
    exact ⟨0, by omega, rfl, (((Blk.new w 147 _).alloc _).alloc _), (Blk.newAt _ _ (by simp) (by rw [upto_none]; rfl)).alloc _, Blk.newAt _ _ (by simp) (by rw [upto_none]; rfl), (((Below.refl _ w).alloc (Nat.le_refl _) _).alloc (by simp) _).alloc (by simp; omega) _⟩
  case round =>
    obtain ⟨k, hk, rfl, hB1, hB2, hB3, hb⟩ := hrel
    by_cases hlt : k < 16
    · have c0 := hB1.cell (4 * k)
      have c1 := hB1.cell (4 * k + 1)
      have c2 := hB1.cell (4 * k + 2)
      have c3 := hB1.cell (4 * k + 3)
      have c4 := hB3.cell k
      have f4 := hB3.frozen k
      rw [arr_get, if_pos (by omega)] at c0 c1 c2 c3
      rw [upto_get_any _ _ _ _ _ (by omega)] at c4
      unfold bv at c0 c1 c2 c3
      rw [if_neg (by omega)] at c4
      have b0 : (0 : Int) ≤ 4 * (k : Int) := by omega
      have b1 : 4 * (k : Int) < 64 := by omega
      have b2 : 4 * (k : Int) + 1 < 64 := by omega
      have b3 : 4 * (k : Int) + 2 < 64 := by omega
      have b4 : 4 * (k : Int) + 3 < 64 := by omega
      have b5 : (0 : Int) ≤ 4 * (k : Int) + 1 := by omega
      have b6 : (0 : Int) ≤ 4 * (k : Int) + 2 := by omega
      have b7 : (0 : Int) ≤ 4 * (k : Int) + 3 := by omega
      have b8 : (k : Int) < 64 := by omega
      have e0 : IntKind.i64.wrap (4 * (k : Int)) = 4 * (k : Int) := IntWalk.i64_in _ (by omega)
      have e1 : IntKind.i64.wrap (4 * (k : Int) + 1) = 4 * (k : Int) + 1 := IntWalk.i64_in _ (by omega)
      have e2 : IntKind.i64.wrap (4 * (k : Int) + 2) = 4 * (k : Int) + 2 := IntWalk.i64_in _ (by omega)
      have e3 : IntKind.i64.wrap (4 * (k : Int) + 3) = 4 * (k : Int) + 3 := IntWalk.i64_in _ (by omega)
      have t0 : (4 * (k : Int)).toNat = 4 * k := by omega
      have t1 : (4 * (k : Int) + 1).toNat = 4 * k + 1 := by omega
      have t2 : (4 * (k : Int) + 2).toNat = 4 * k + 2 := by omega
      have t3 : (4 * (k : Int) + 3).toNat = 4 * k + 3 := by omega
      go_wp2
      go_still_tail 31, (by kernel_rfl)
      change wpList _ _ _ _ _ wr.drew
      have hw : ro (ro (ro (sl (w8 (b (4 * k))) 24) (sl (w8 (b (4 * k + 1))) 16)) (sl (w8 (b (4 * k + 2))) 8)) (w8 (b (4 * k + 3))) = word b k := rfl
      go_wp2
      go_roundw
      case rel =>
        refine ⟨k + 1, by omega, by go_num, ((hB1.drew).far (by simp; omega) _), ((hB2.drew).far (by simp) _), ?_, (hb.drew).setCell (by simp; omega) _⟩
        have := (hB3.drew).store k (u (word b k))
        rw [← wv_first b k hlt, upto_set 64 k (fun i => u (wv b i)) (u 0) (by omega), wv_first b k hlt] at this
        exact this
      case measure => simp [intOf]; omega
    · obtain rfl : k = 16 := by omega
      clear hlt hk
      rw [show (((16 : Nat) : Int)) = 16 from rfl]
      go_wp2
      go_loopw [5] (fun i wr => ∃ k : Nat, 16 ≤ k ∧ k ≤ 64 ∧ i = .int .i64 k ∧ Blk wr (w.heap.size + 1) 155 (upto 64 0 (fun i => u (wv b i)) (u 0)) ∧ Blk wr (w.heap.size + 1 + 1) 155 (upto 64 k (fun i => u (wv b i)) (u 0)) ∧ Below w.heap.size w wr)
        (fun i _ => 64 - (intOf i).toNat)
      case atStart => exact ⟨16, by omega, by omega, rfl, hB2, hB3, hb⟩
      case round =>
        clear hB1 hB2 hB3 hb
        obtain ⟨k, hk0, hk, rfl, hB2, hB3, hb⟩ := hrel
        by_cases hlt : k < 64
        · have c1 := hB3.cell (k - 15)
          have c2 := hB3.cell (k - 2)
          have c3 := hB3.cell (k - 16)
          have c4 := hB3.cell (k - 7)
          have c5 := hB3.cell k
          have f5 := hB3.frozen k
          rw [upto_get _ _ _ _ _ (by omega) (by omega)] at c1 c2 c3 c4
          rw [upto_get_any _ _ _ _ _ (by omega), if_neg (by omega)] at c5
          unfold u at c1 c2 c3 c4
          have e1 : IntKind.i64.wrap ((k : Int) - 15) = (k : Int) - 15 := IntWalk.i64_in _ (by omega)
          have e2 : IntKind.i64.wrap ((k : Int) - 2) = (k : Int) - 2 := IntWalk.i64_in _ (by omega)
          have e3 : IntKind.i64.wrap ((k : Int) - 16) = (k : Int) - 16 := IntWalk.i64_in _ (by omega)
          have e4 : IntKind.i64.wrap ((k : Int) - 7) = (k : Int) - 7 := IntWalk.i64_in _ (by omega)
          have b1 : (15 : Int) ≤ (k : Int) := by omega
          have b2 : (2 : Int) ≤ (k : Int) := by omega
          have b3 : (16 : Int) ≤ (k : Int) := by omega
          have b4 : (7 : Int) ≤ (k : Int) := by omega
          have d1 : (k : Int) - 15 < 64 := by omega
          have d2 : (k : Int) - 2 < 64 := by omega
          have d3 : (k : Int) - 16 < 64 := by omega
          have d4 : (k : Int) - 7 < 64 := by omega
          have d5 : (k : Int) < 64 := by omega
          have t1 : ((k : Int) - 15).toNat = k - 15 := by omega
          have t2 : ((k : Int) - 2).toNat = k - 2 := by omega
          have t3 : ((k : Int) - 16).toNat = k - 16 := by omega
          have t4 : ((k : Int) - 7).toNat = k - 7 := by omega
          go_wp2
          go_quiet (fail)
          have hB4 := hB3.drewN nq
          have hB5 := hB2.drewN nq
          have hb4 : Below w.heap.size w (wr.drewN nq) := ⟨hb.os, hb.tape, hb.output, hb.size, hb.block⟩
          rw [← World.cell?_drewN (n := nq)] at c3 c4 c5
          rw [← World.frozen?_drewN (n := nq)] at f5
          clear c1 c2 hB3 hB2 hb
          generalize wr.drewN nq = w2 at *
          go_wp2_with (go_at_call 88; refine (rot_k _ _ (by omega) _).mono ?_; rintro e w' ⟨rfl, rfl⟩)
          have l1 : xo (xo (rr (wv b (k - 15)) 7) (rr (wv b (k - 15)) 18)) (sr (wv b (k - 15)) 3) = low (wv b (k - 15)) := rfl
          have l2 : xo (xo (rr (wv b (k - 2)) 17) (rr (wv b (k - 2)) 19)) (sr (wv b (k - 2)) 10) = high (wv b (k - 2)) := rfl
          have l3 := (wv_next b k hk0).symm
          go_still_tail 14, (by kernel_rfl)
          change wpList _ _ _ _ _ w2.drew
          go_wp2
          go_roundw
          case rel =>
            refine ⟨k + 1, by omega, by omega, by go_num, (hB5.drew).far (by simp) _, ?_, (hb4.drew).setCell (by simp; omega) _⟩
            have := (hB4.drew).store k (u (wv b k))
            rw [upto_set 64 k (fun i => u (wv b i)) (u 0) (by omega)] at this
            exact this
          case measure => simp [intOf]; omega
        · obtain rfl : k = 64 := by omega
          clear hlt hk hk0
          rw [upto_full] at hB3
          go_wp2_with (first | (refine wpList_load_row rfl 155 _ rfl _ rfl 155 _ (0, 0) _ hB3 Tryd.underlying155 rfl (by rw [arr_size]; kernel_rfl) ?_) | (refine wpList_store_row rfl 155 _ _ rfl _ _ rfl rfl 155 _ hB2 (by rw [arr_size]; kernel_rfl) (by rw [arr_size, upto, arr_size]) ?_ ?_))
          case refine_1 => exact arr_all_u _ _
          exact bodyPost_ret (results_cell_row (p := 2) (ty := 155) rfl _ _ (w.heap.size + 1) 155 _ (0, 0) _ rfl (setRow_heap _ _ _ _ _ _ hB2) Tryd.underlying155 rfl (by rw [arr_size]; kernel_rfl)) rfl ⟨rfl, below_setRow hb (by omega) _⟩
end Go.Proofs.YtgpbpdjamimbfaaDoor
namespace Go.Proofs.YtgpbpdjamimbfaaDoor
open Go Go.RowKit
attribute [local go_sem] xor_w and_w or_w add_w add_w' not_w

set_option maxRecDepth 100000 in
set_option maxHeartbeats 2000000 in
theorem mix_any (s : Nat → W32) (b : Nat → UInt8) (w : World) (hK : ∀ i, i < 64 → w.cell? ⟨1, i, none⟩ = some (u (kAt i))) :
    Calls Tryd.prog 82 #[.agg (arr 8 fun i => u (s i)), .agg (arr 64 fun i => bv (b i))] w fun e w' => e = .returned (.agg (arr 8 fun i => u (mixed s (wv b) i))) ∧ Below w.heap.size w w' := by
  have hg : 1 < w.heap.size := block_lt_of_cell (hK 0 (by omega))
  have HK := Lib.hid hK
  clear hK
  go_enter Tryd.func82, Tryd.ntmps82
  have hBb : Blk (((w.alloc (Obj.cells (arr 8 fun i => u (s i)) 143)).alloc (Obj.cells (arr 64 fun i => bv (b i)) 147)).alloc (Obj.cells (Array.replicate 8 (u 0)) 143)) (w.heap.size + 1) 147 (arr 64 fun i => bv (b i)) := (Blk.newAt _ _ (by simp) rfl).alloc _
  go_wp2_with (refine wpList_load_row rfl 147 _ rfl _ rfl 147 _ (0, 0) _ hBb Tryd.underlying147 rfl (by rw [arr_size]; kernel_rfl) ?_)
  refine (sched_any b _).mono ?_
  rintro e w1 ⟨rfl, hb⟩
  clear hBb
  have hsz : w.heap.size + 2 < w1.heap.size := by have := hb.size; simp at this; omega
  have hb0 : Below w.heap.size w w1 := ((((Below.refl _ w).alloc (Nat.le_refl _) _).alloc (by simp) _).alloc (by simp; omega) _).trans (hb.mono (by simp; omega))
  have hS : Blk w1 w.heap.size 143 (arr 8 fun i => u (s i)) := (((Blk.new w _ _).alloc _).alloc _).below hb (by simp; omega)
  have hR : Blk w1 (w.heap.size + 1 + 1) 143 (Array.replicate 8 (u 0)) := (Blk.newAt _ _ (by simp) rfl).below hb (by simp)
  clear hb
  go_wp2_with (refine wpList_store_row rfl 155 _ _ rfl _ _ rfl rfl 155 _ (heap_alloc_new w1 _) (by rw [arr_size]; kernel_rfl) (by rw [arr_size]; rfl) (arr_all_u _ _) ?_; rw [World.setRow_alloc_new])
  have hb1 : Below w.heap.size w (w1.alloc (.cells (arr 64 fun i => u (wv b i)) 155)) := hb0.alloc hb0.size _
  have hS1 := hS.alloc (.cells (arr 64 fun i => u (wv b i)) 155)
  have hR1 := hR.alloc (.cells (arr 64 fun i => u (wv b i)) 155)
  have hW1 := Blk.new w1 155 (arr 64 fun i => u (wv b i))
  clear hS hR hb0
  obtain ⟨W, hW⟩ : ∃ W, w1.alloc (.cells (arr 64 fun i => u (wv b i)) 155) = W := ⟨_, rfl⟩
  rw [hW] at hb1 hS1 hR1 hW1 ⊢
  obtain ⟨B5, hB5⟩ : ∃ B5, w1.heap.size = B5 := ⟨_, rfl⟩
  rw [hB5] at hsz hW1 ⊢
  clear hW hB5
  have c0 := hS1.cell 0
  have c1 := hS1.cell 1
  have c2 := hS1.cell 2
  have c3 := hS1.cell 3
  have c4 := hS1.cell 4
  have c5 := hS1.cell 5
  have c6 := hS1.cell 6
  have c7 := hS1.cell 7
  rw [arr_get, if_pos (by omega)] at c0 c1 c2 c3 c4 c5 c6 c7
  unfold u at c0 c1 c2 c3 c4 c5 c6 c7
  go_wp2
  go_quiet (fail)
  have hS2 := hS1.drewN nq
  have hR2 := hR1.drewN nq
  have hW2 := hW1.drewN nq
  have hb2 : Below w.heap.size w (W.drewN nq) := ⟨hb1.os, hb1.tape, hb1.output, hb1.size, hb1.block⟩
  clear hS1 hR1 hW1 hb1 c0 c1 c2 c3 c4 c5 c6 c7
  generalize W.drewN nq = W2 at *
  go_wp2_with (refine wpList_load_row rfl 155 _ rfl _ rfl 155 _ (0, 0) _ hW2 Tryd.underlying155 rfl (by rw [arr_size]; kernel_rfl) ?_)
  have HS := Lib.hid hS2
  have HR := Lib.hid hR2
  have HB := Lib.hid hb2
  have HK2 : Hid (∀ i, i < 64 → W2.cell? ⟨1, i, none⟩ = some (u (kAt i))) := Lib.hid fun i hi => (hb2.cell (p := ⟨1, i, none⟩) hg).trans (HK.out i hi)
  clear hS2 hR2 hW2 hb2 HK
  go_loop [6, 7, 8, 9, 10, 11, 12, 13, 38] (fun a b' c d e f g h i => ∃ k : Nat, k ≤ 64 ∧ i = .int .i64 k ∧
      a = .int .u32 ((rounds s (wv b) k).a.toNat : Int) ∧ b' = .int .u32 ((rounds s (wv b) k).b.toNat : Int) ∧ c = .int .u32 ((rounds s (wv b) k).c.toNat : Int) ∧ d = .int .u32 ((rounds s (wv b) k).d.toNat : Int) ∧
      e = .int .u32 ((rounds s (wv b) k).e.toNat : Int) ∧ f = .int .u32 ((rounds s (wv b) k).f.toNat : Int) ∧ g = .int .u32 ((rounds s (wv b) k).g.toNat : Int) ∧ h = .int .u32 ((rounds s (wv b) k).h.toNat : Int))
    (fun _ _ _ _ _ _ _ _ i => 64 - (intOf i).toNat)
  case atStart => exact ⟨0, by omega, rfl, rfl, rfl, rfl, rfl, rfl, rfl, rfl, rfl⟩
  case round =>
    obtain ⟨k, hk, rfl, rfl, rfl, rfl, rfl, rfl, rfl, rfl, rfl⟩ := hrel
    by_cases hlt : k < 64
    · have hi : ∀ w', (Instr.index 155 (.agg (arr 64 fun i => u (wv b i))) (.int .i64 (k : Int))).run Tryd.prog w' = .ok (.int .u32 ((wv b k).toNat : Int)) w' := fun w' => run_index_arr _ 142 64 _ _ k hlt .u32 Tryd.underlying155 Tryd.underlying142 (by kernel_rfl) w'
      have hc := HK2.out k hlt
      unfold u at hc
      have hk64 : (k : Int) < 64 := by omega
      go_wp2_with (go_at_call 88; refine (rot_k _ _ (by omega) _).mono ?_; rintro e w' ⟨rfl, rfl⟩)
      go_round
      case rel => exact ⟨k + 1, by omega, by go_num, rfl, rfl, rfl, rfl, rfl, rfl, rfl, rfl⟩
      case measure => simp [intOf]; omega
    · obtain rfl : k = 64 := by omega
      clear hlt hk
      have c0 := HS.out.cell 0
      have c1 := HS.out.cell 1
      have c2 := HS.out.cell 2
      have c3 := HS.out.cell 3
      have c4 := HS.out.cell 4
      have c5 := HS.out.cell 5
      have c6 := HS.out.cell 6
      have c7 := HS.out.cell 7
      rw [arr_get, if_pos (by omega)] at c0 c1 c2 c3 c4 c5 c6 c7
      unfold u at c0 c1 c2 c3 c4 c5 c6 c7
      have hR := HR.out
      obtain ⟨R, hRR⟩ : ∃ R, rounds s (wv b) 64 = R := ⟨_, rfl⟩
      have HF : Hid ((arr 8 fun i => u (mixed s (wv b) i)) = #[u (ad (s 0) R.a), u (ad (s 1) R.b), u (ad (s 2) R.c), u (ad (s 3) R.d), u (ad (s 4) R.e), u (ad (s 5) R.f), u (ad (s 6) R.g), u (ad (s 7) R.h)]) := Lib.hid (by
        unfold mixed
        rw [hRR]
        exact (arr_of 8 _ _ rfl (fun i hi => by
          obtain rfl | rfl | rfl | rfl | rfl | rfl | rfl | rfl : i = 0 ∨ i = 1 ∨ i = 2 ∨ i = 3 ∨ i = 4 ∨ i = 5 ∨ i = 6 ∨ i = 7 := by omega
          all_goals rfl)).symm)
      have HA : Hid ((#[u (ad (s 0) R.a), u (ad (s 1) R.b), u (ad (s 2) R.c), u (ad (s 3) R.d), u (ad (s 4) R.e), u (ad (s 5) R.f), u (ad (s 6) R.g), u (ad (s 7) R.h)] : Array Value).all (fun x => x.oneCell') = true) := Lib.hid (by rw [← HF.out]; exact arr_all_u _ _)
      rw [hRR]
      clear hRR HK2
      go_wp2_with (refine wpList_store_row rfl 143 _ _ rfl _ #[u (ad (s 0) R.a), u (ad (s 1) R.b), u (ad (s 2) R.c), u (ad (s 3) R.d), u (ad (s 4) R.e), u (ad (s 5) R.f), u (ad (s 6) R.g), u (ad (s 7) R.h)] rfl rfl 143 _ hR (by kernel_rfl) (by rfl) HA.out ?_)
      refine bodyPost_ret (results_cell_row (p := 4) (ty := 143) rfl _ _ (w.heap.size + 1 + 1) 143 #[u (ad (s 0) R.a), u (ad (s 1) R.b), u (ad (s 2) R.c), u (ad (s 3) R.d), u (ad (s 4) R.e), u (ad (s 5) R.f), u (ad (s 6) R.g), u (ad (s 7) R.h)] (0, 0) _ ?_ (setRow_heap _ _ _ _ _ _ hR) Tryd.underlying143 rfl (by kernel_rfl)) rfl ?_
      · rfl
      exact ⟨by rw [HF.out], below_setRow HB.out (by omega) _⟩
end Go.Proofs.YtgpbpdjamimbfaaDoor
