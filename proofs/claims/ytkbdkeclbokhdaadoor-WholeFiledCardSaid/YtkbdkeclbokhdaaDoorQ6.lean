/-
  math/bits.RotateLeft32 by a negative number of bits is the turn to the right; for every word, in whatever memory.
  The schedule of a block: for every block of 64 bytes, in whatever memory, the call returns its 64 words; what lay there lies as it lay.
-/
import Derived.Test.YtkbdkeclbokhdaaDoorProg
import Derived.Test.YtkbdkeclbokhdaaDoorMath
import Derived.WalkKit
import Derived.WalkSpells
import Derived.WalkLawsBesides
import Derived.Test.YtkbdkeclbokhdaaDoorQ1
import Derived.BigRegion
import Derived.Deep.QuietTactic
import Derived.BigQuiet
import Derived.IntWalk
import Derived.StillTailTactics
import Derived.Lib.Hide
namespace Go.Proofs.YtkbdkeclbokhdaaDoor
open Go Go.RowKit
set_option maxHeartbeats 400000 in
theorem rot_any (x : W32) (k : Int) (n m : Nat) (w : World) (h0 : bits BinOp.and IntKind.u64 (IntKind.u64.wrap k) 31 = (m : Int)) (hm : m + n = 32) (hn : n ≤ 31) :
    Calls Tryd.prog 88 #[.int .u32 (x.toNat : Int), .int .i64 k] w fun e w' => e = .returned (.int .u32 ((rr x n).toNat : Int)) ∧ w = w' := by
  have h1 : IntKind.u64.wrap (32 - (m : Int)) = (n : Int) := by
    rw [IntKind.wrap_u64]; omega
  have h2 : bits .or .u32 ((x.toNat : Int) * 2 ^ m % 4294967296) ((x.toNat : Int) / 2 ^ n) = ((rr x n).toNat : Int) := rot_w x m n hm hn
  go_enter Tryd.func88, Tryd.ntmps88
  go_wp2
  go_ret
  exact ⟨rfl, rfl⟩
/-- For each of the numbers of bits that the program asks for. -/
theorem rot_at (n : Nat) (h0 : 1 ≤ n) (h1 : n ≤ 31) (x : W32) (w : World) :
    Calls Tryd.prog 88 #[.int .u32 (x.toNat : Int), .int .i64 (-(n : Int))] w fun e w' => e = .returned (.int .u32 ((rr x n).toNat : Int)) ∧ w = w' := by
  refine rot_any x _ n (32 - n) w ?_ (by omega) h1
  obtain rfl | rfl | rfl | rfl | rfl | rfl | rfl | rfl | rfl | rfl | rfl | rfl | rfl | rfl | rfl | rfl | rfl | rfl | rfl | rfl | rfl | rfl | rfl | rfl | rfl | rfl | rfl | rfl | rfl | rfl | rfl : n = 1 ∨ n = 2 ∨ n = 3 ∨ n = 4 ∨ n = 5 ∨ n = 6 ∨ n = 7 ∨ n = 8 ∨ n = 9 ∨ n = 10 ∨ n = 11 ∨ n = 12 ∨ n = 13 ∨ n = 14 ∨ n = 15 ∨ n = 16 ∨ n = 17 ∨ n = 18 ∨ n = 19 ∨ n = 20 ∨ n = 21 ∨ n = 22 ∨ n = 23 ∨ n = 24 ∨ n = 25 ∨ n = 26 ∨ n = 27 ∨ n = 28 ∨ n = 29 ∨ n = 30 ∨ n = 31 := by omega
  all_goals decide
theorem rot_k (x : W32) (k : Int) (hk : -31 ≤ k ∧ k ≤ -1) (w : World) :
    Calls Tryd.prog 88 #[.int .u32 (x.toNat : Int), .int .i64 k] w fun e w' => e = .returned (.int .u32 ((rr x (-k).toNat).toNat : Int)) ∧ w = w' := by
  obtain ⟨n, rfl⟩ : ∃ n : Nat, k = -(n : Int) := ⟨(-k).toNat, by omega⟩
  have := rot_at n (by omega) (by omega) x w
  simpa using this
end Go.Proofs.YtkbdkeclbokhdaaDoor
namespace Go.Proofs.YtkbdkeclbokhdaaDoor
open Go Go.RowKit
attribute [local go_sem] xor_w and_w or_w add_w add_w' w8_wrap shl_w24 shl_w16 shl_w8 shr_w3 shr_w10

set_option maxRecDepth 100000 in
set_option maxHeartbeats 1000000 in
theorem sched_any (b : Nat → UInt8) (w : World) :
    Calls Tryd.prog 87 #[.agg (arr 64 fun i => bv (b i))] w fun e w' => e = .returned (.agg (arr 64 fun i => u (wv b i))) ∧ Below w.heap.size w w' := by
  go_enter Tryd.func87, Tryd.ntmps87
  go_wp2
  go_loopw [8] (fun i wr => ∃ k : Nat, k ≤ 16 ∧ i = .int .i64 k ∧ Blk wr w.heap.size 147 (arr 64 fun i => bv (b i)) ∧ Blk wr (w.heap.size + 1) 155 (upto 64 0 (fun i => u (wv b i)) (u 0)) ∧ Blk wr (w.heap.size + 1 + 1) 155 (upto 64 k (fun i => u (wv b i)) (u 0)) ∧ Below w.heap.size w wr)
    (fun i _ => 16 - (intOf i).toNat)
  case atStart =>
    exact ⟨0, by omega, rfl, (((Blk.new w 147 _).alloc _).alloc _), (Blk.newAt _ _ (by simp) (by rw [upto_none]; rfl)).alloc _, Blk.newAt _ _ (by simp) (by rw [upto_none]; rfl), (((Below.refl _ w).alloc (Nat.le_refl _) _).alloc (by simp) _).alloc (by simp; omega) _⟩
  case round =>
    obtain ⟨k, hk, rfl, hB1, hB2, hB3, hb⟩ := hrel
    by_cases hlt : k < 16
    · have c0 := hB1.cell (4 * k)
      have c1 := hB1.cell (4 * k + 1)
      have c2 := hB1.cell (4 * k + 2)
      have c3 := hB1.cell (4 * k + 3)
      have c4 := hB3.cell k
      have f4 := hB3.frozen k
      rw [arr_get, if_pos (by omega)] at c0 c1 c2 c3
      rw [upto_get_any _ _ _ _ _ (by omega)] at c4
      unfold bv at c0 c1 c2 c3
      rw [if_neg (by omega)] at c4
      have b0 : (0 : Int) ≤ 4 * (k : Int) := by omega
      have b1 : 4 * (k : Int) < 64 := by omega
      have b2 : 4 * (k : Int) + 1 < 64 := by omega
      have b3 : 4 * (k : Int) + 2 < 64 := by omega
      have b4 : 4 * (k : Int) + 3 < 64 := by omega
      have b5 : (0 : Int) ≤ 4 * (k : Int) + 1 := by omega
      have b6 : (0 : Int) ≤ 4 * (k : Int) + 2 := by omega
      have b7 : (0 : Int) ≤ 4 * (k : Int) + 3 := by omega
      have b8 : (k : Int) < 64 := by omega
      have e0 : IntKind.i64.wrap (4 * (k : Int)) = 4 * (k : Int) := IntWalk.i64_in _ (by omega)
      have e1 : IntKind.i64.wrap (4 * (k : Int) + 1) = 4 * (k : Int) + 1 := IntWalk.i64_in _ (by omega)
      have e2 : IntKind.i64.wrap (4 * (k : Int) + 2) = 4 * (k : Int) + 2 := IntWalk.i64_in _ (by omega)
      have e3 : IntKind.i64.wrap (4 * (k : Int) + 3) = 4 * (k : Int) + 3 := IntWalk.i64_in _ (by omega)
      have t0 : (4 * (k : Int)).toNat = 4 * k := by omega
      have t1 : (4 * (k : Int) + 1).toNat = 4 * k + 1 := by omega
      have t2 : (4 * (k : Int) + 2).toNat = 4 * k + 2 := by omega
      have t3 : (4 * (k : Int) + 3).toNat = 4 * k + 3 := by omega
      go_wp2
      go_still_tail 31, (by kernel_rfl)
      change wpList _ _ _ _ _ wr.drew
      have hw : ro (ro (ro (sl (w8 (b (4 * k))) 24) (sl (w8 (b (4 * k + 1))) 16)) (sl (w8 (b (4 * k + 2))) 8)) (w8 (b (4 * k + 3))) = word b k := rfl
      go_wp2
      go_roundw
      case rel =>
        refine ⟨k + 1, by omega, by go_num, ((hB1.drew).far (by simp; omega) _), ((hB2.drew).far (by simp) _), ?_, (hb.drew).setCell (by simp; omega) _⟩
        have := (hB3.drew).store k (u (word b k))
        rw [← wv_first b k hlt, upto_set 64 k (fun i => u (wv b i)) (u 0) (by omega), wv_first b k hlt] at this
        exact this
      case measure => simp [intOf]; omega
    · obtain rfl : k = 16 := by omega
      clear hlt hk
      rw [show (((16 : Nat) : Int)) = 16 from rfl]
      go_wp2
      go_loopw [5] (fun i wr => ∃ k : Nat, 16 ≤ k ∧ k ≤ 64 ∧ i = .int .i64 k ∧ Blk wr (w.heap.size + 1) 155 (upto 64 0 (fun i => u (wv b i)) (u 0)) ∧ Blk wr (w.heap.size + 1 + 1) 155 (upto 64 k (fun i => u (wv b i)) (u 0)) ∧ Below w.heap.size w wr)
        (fun i _ => 64 - (intOf i).toNat)
      case atStart => exact ⟨16, by omega, by omega, rfl, hB2, hB3, hb⟩
      case round =>
        clear hB1 hB2 hB3 hb
        obtain ⟨k, hk0, hk, rfl, hB2, hB3, hb⟩ := hrel
        by_cases hlt : k < 64
        · have c1 := hB3.cell (k - 15)
          have c2 := hB3.cell (k - 2)
          have c3 := hB3.cell (k - 16)
          have c4 := hB3.cell (k - 7)
          have c5 := hB3.cell k
          have f5 := hB3.frozen k
          rw [upto_get _ _ _ _ _ (by omega) (by omega)] at c1 c2 c3 c4
          rw [upto_get_any _ _ _ _ _ (by omega), if_neg (by omega)] at c5
          unfold u at c1 c2 c3 c4
          have e1 : IntKind.i64.wrap ((k : Int) - 15) = (k : Int) - 15 := IntWalk.i64_in _ (by omega)
          have e2 : IntKind.i64.wrap ((k : Int) - 2) = (k : Int) - 2 := IntWalk.i64_in _ (by omega)
          have e3 : IntKind.i64.wrap ((k : Int) - 16) = (k : Int) - 16 := IntWalk.i64_in _ (by omega)
          have e4 : IntKind.i64.wrap ((k : Int) - 7) = (k : Int) - 7 := IntWalk.i64_in _ (by omega)
          have b1 : (15 : Int) ≤ (k : Int) := by omega
          have b2 : (2 : Int) ≤ (k : Int) := by omega
          have b3 : (16 : Int) ≤ (k : Int) := by omega
          have b4 : (7 : Int) ≤ (k : Int) := by omega
          have d1 : (k : Int) - 15 < 64 := by omega
          have d2 : (k : Int) - 2 < 64 := by omega
          have d3 : (k : Int) - 16 < 64 := by omega
          have d4 : (k : Int) - 7 < 64 := by omega
          have d5 : (k : Int) < 64 := by omega
          have t1 : ((k : Int) - 15).toNat = k - 15 := by omega
          have t2 : ((k : Int) - 2).toNat = k - 2 := by omega
          have t3 : ((k : Int) - 16).toNat = k - 16 := by omega
          have t4 : ((k : Int) - 7).toNat = k - 7 := by omega
          go_wp2
          go_quiet (fail)
          have hB4 := hB3.drewN nq
          have hB5 := hB2.drewN nq
          have hb4 : Below w.heap.size w (wr.drewN nq) := ⟨hb.os, hb.tape, hb.output, hb.size, hb.block⟩
          rw [← World.cell?_drewN (n := nq)] at c3 c4 c5
          rw [← World.frozen?_drewN (n := nq)] at f5
          clear c1 c2 hB3 hB2 hb
          generalize wr.drewN nq = w2 at *
          go_wp2_with (go_at_call 88; refine (rot_k _ _ (by omega) _).mono ?_; rintro e w' ⟨rfl, rfl⟩)
          have l1 : xo (xo (rr (wv b (k - 15)) 7) (rr (wv b (k - 15)) 18)) (sr (wv b (k - 15)) 3) = low (wv b (k - 15)) := rfl
          have l2 : xo (xo (rr (wv b (k - 2)) 17) (rr (wv b (k - 2)) 19)) (sr (wv b (k - 2)) 10) = high (wv b (k - 2)) := rfl
          have l3 := (wv_next b k hk0).symm
          go_still_tail 14, (by kernel_rfl)
          change wpList _ _ _ _ _ w2.drew
          go_wp2
          go_roundw
          case rel =>
            refine ⟨k + 1, by omega, by omega, by go_num, (hB5.drew).far (by simp) _, ?_, (hb4.drew).setCell (by simp; omega) _⟩
            have := (hB4.drew).store k (u (wv b k))
            rw [upto_set 64 k (fun i => u (wv b i)) (u 0) (by omega)] at this
            exact this
          case measure => simp [intOf]; omega
        · obtain rfl : k = 64 := by omega
          clear hlt hk hk0
          rw [upto_full] at hB3
          go_wp2_with (first | (refine wpList_load_row rfl 155 _ rfl _ rfl 155 _ (0, 0) _ hB3 Tryd.underlying155 rfl (by rw [arr_size]; kernel_rfl) ?_) | (refine wpList_store_row rfl 155 _ _ rfl _ _ rfl rfl 155 _ hB2 (by rw [arr_size]; kernel_rfl) (by rw [arr_size, upto, arr_size]) ?_ ?_))
          case refine_1 => exact arr_all_u _ _
          exact bodyPost_ret (results_cell_row (p := 2) (ty := 155) rfl _ _ (w.heap.size + 1) 155 _ (0, 0) _ rfl (setRow_heap _ _ _ _ _ _ hB2) Tryd.underlying155 rfl (by rw [arr_size]; kernel_rfl)) rfl ⟨rfl, below_setRow hb (by omega) _⟩
end Go.Proofs.YtkbdkeclbokhdaaDoor
