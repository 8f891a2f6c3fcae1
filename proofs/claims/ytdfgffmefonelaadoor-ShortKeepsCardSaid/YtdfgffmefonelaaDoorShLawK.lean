/-
  ShortKeeps: of every cut and every text, in whatever memory in which the tables lie. No condition.
-/
import Derived.Test.YtdfgffmefonelaaDoorShGuard
namespace Go.Proofs.YtdfgffmefonelaaDoor
open Go Go.RowKit Go.Shelf TreeM

set_option maxRecDepth 100000 in
set_option maxHeartbeats 2000000 in
theorem keeps_out (c : Int) (A : Option Addr) (n cp : Nat) (w : World) (hT : Tables w) (h : c < 1 ∨ 31 < c ∨ 300 < n) :
    Calls Tryd.prog 10 #[.int .i64 c, .slice A n cp] w fun e w' => e = .returned (.bool true) ∧ Below w.heap.size w w' := by
  have HCU := Lib.hid (cuts_any w hT)
  clear hT
  by_cases h0 : c < 1
  · have d0 : decide (c < 1) = true := decide_eq_true h0
    clear h
    go_enter Tryd.func10, Tryd.ntmps10
    go_wp2_with (go_at_call 18; refine HCU.out.mono ?_; rintro e W1 ⟨rfl, hb1⟩; have HB1 := Lib.hid hb1; clear hb1 HCU)
    go_ret
    exact ⟨rfl, HB1.out⟩
  · have d0 : decide (c < 1) = false := decide_eq_false h0
    by_cases h1 : 31 < c
    · have d1 : decide (31 < c) = true := decide_eq_true h1
      clear h
      go_enter Tryd.func10, Tryd.ntmps10
      go_wp2_with (go_at_call 18; refine HCU.out.mono ?_; rintro e W1 ⟨rfl, hb1⟩; have HB1 := Lib.hid hb1; clear hb1 HCU)
      go_ret
      exact ⟨rfl, HB1.out⟩
    · have d1 : decide (31 < c) = false := decide_eq_false h1
      have h2 : 300 < (n : Int) := by omega
      have d2 : decide (300 < (n : Int)) = true := decide_eq_true h2
      clear h
      go_enter Tryd.func10, Tryd.ntmps10
      go_wp2_with (go_at_call 18; refine HCU.out.mono ?_; rintro e W1 ⟨rfl, hb1⟩; have HB1 := Lib.hid hb1; clear hb1 HCU)
      go_ret
      exact ⟨rfl, HB1.out⟩
set_option maxRecDepth 100000 in
set_option maxHeartbeats 2000000 in
theorem keeps_in (k : Nat) (v : Value) (L : List UInt8) (w : World) (hT : Tables w) (hr : RdB w (fun b => b < w.heap.size) v L) (hk1 : 1 ≤ k) (hk : k ≤ 31) (hL : L.length ≤ 300) :
    Calls Tryd.prog 10 #[.int .i64 (k : Int), v] w fun e w' => e = .returned (.bool true) ∧ Below w.heap.size w w' := by
  have HCU := Lib.hid (cuts_any w hT)
  obtain ⟨A, cp, rfl, _, _⟩ := id hr
  obtain ⟨n, hn⟩ : ∃ n, L.length = n := ⟨_, rfl⟩
  rw [hn] at hr ⊢
  have HS1 : Hid (∀ W, Below w.heap.size w W → Calls Tryd.prog 25 #[.int .i64 (k : Int), .slice A n cp] W fun e w' => e = .returned (.agg (arr 32 fun i => bv ((cutD (k : Int) (sha L)) i))) ∧ Below W.heap.size W w') := Lib.hid fun W hb => csum_any (k : Int) _ L (by omega) W (hT.below hb) ((hr.kept fun a x ha h => (hb.cell (p := a) ha).trans h).mono fun b hb' => Nat.lt_of_lt_of_le hb' hb.size)
  have HS2 : Hid (∀ W, Below w.heap.size w W → Calls Tryd.prog 25 #[.int .i64 ((k : Int) + 1), .slice A n cp] W fun e w' => e = .returned (.agg (arr 32 fun i => bv ((cutD ((k : Int) + 1) (sha L)) i))) ∧ Below W.heap.size W w') := Lib.hid fun W hb => csum_any ((k : Int) + 1) _ L (by omega) W (hT.below hb) ((hr.kept fun a x ha h => (hb.cell (p := a) ha).trans h).mono fun b hb' => Nat.lt_of_lt_of_le hb' hb.size)
  have hx : Hid (∀ i, cutD (k : Int) (sha L) i = if i < k then sha L i else 0) := Lib.hid fun i => by unfold cutD; rw [show cnt (k : Int) = k from by unfold cnt; omega]
  have hy : Hid (∀ i, i < k → cutD ((k : Int) + 1) (sha L) i = sha L i) := Lib.hid fun i hi => by unfold cutD; rw [show cnt ((k : Int) + 1) = k + 1 from by unfold cnt; omega, if_pos (by omega)]
  obtain ⟨S, hS⟩ : ∃ S, sha L = S := ⟨_, rfl⟩
  rw [hS] at HS1 HS2 hx hy
  generalize cutD (k : Int) S = x at *
  generalize cutD ((k : Int) + 1) S = y at *
  have d0 : decide ((k : Int) < 1) = false := decide_eq_false (by omega)
  have d1 : decide (31 < (k : Int)) = false := decide_eq_false (by omega)
  have d2 : decide (300 < (n : Int)) = false := decide_eq_false (by omega)
  have hki : (k : Int) ≤ 31 := by omega
  have hk0 : (0 : Int) ≤ (k : Int) := by omega
  have hZ32 : Hid (Array.replicate 32 (bv 0) = arr 32 fun _ => bv 0) := Lib.hid (by rw [← upto_none 32 (fun _ => bv 0) (bv 0)]; exact arr_congr fun i _ => by simp)
  clear hT hr hn hS hL
  go_enter Tryd.func10, Tryd.ntmps10
  go_wp2_with (first
    | (go_at_call 18; refine HCU.out.mono ?_; rintro e W1 ⟨rfl, hb1⟩; have HB1 := Lib.hid hb1; clear hb1 HCU)
    | (go_at_call 25; refine (HS1.out _ HB1.out).mono ?_; rintro e W2 ⟨rfl, hb2⟩; have HB2 := Lib.hid (HB1.out.trans (hb2.mono HB1.out.size)); clear hb2 HS1)
    | (go_at_call 25; refine (HS2.out _ HB2.out).mono ?_; rintro e W3 ⟨rfl, hb3⟩; have HB3 := Lib.hid (HB2.out.trans (hb3.mono HB2.out.size)); clear hb3 HS2)
    | (refine wpList_store_arrW rfl 23 _ _ rfl W3.heap.size (arr 32 fun i => bv (x i)) rfl rfl 23 _ ((Blk.new W3 _ _).alloc _) (by rw [arr_size]; kernel_rfl) (by rw [arr_size]; rfl) (arr_all_bv _ _) ?_; intro W4 hS4 hz4 hb4 hk4; have j6 := (hk4 (W3.heap.size + 1) (by omega)).trans (Blk.newAt (W3.alloc _) (W3.heap.size + 1) (by simp) hZ32.out); have HS4 := Lib.hid hS4; have HB4 := Lib.hid (((HB3.out.alloc HB3.out.size _).alloc (by have := HB3.out.size; simp; omega) _).trans (hb4.mono HB3.out.size)); clear hS4 hz4 hb4 hk4)
    | (refine wpList_store_arrW rfl 23 _ _ rfl (W3.heap.size + 1) (arr 32 fun i => bv (y i)) rfl rfl 23 _ j6 (by rw [arr_size]; kernel_rfl) (by simp only [arr_size]) (arr_all_bv _ _) ?_; intro W5 hS5 hz5 hb5 hk5; have a5 : Blk W5 W3.heap.size 23 (arr 32 fun i => bv (x i)) := (hk5 _ (by omega)).trans HS4.out; have HA := Lib.hid a5; have HY := Lib.hid hS5; have HB5 := Lib.hid (HB4.out.trans (hb5.mono (by have := HB3.out.size; omega))); clear a5 hS5 hz5 hb5 hk5 j6))
  go_loopw [29] (fun i wr => ∃ j : Nat, j ≤ 32 ∧ i = .int .i64 (j : Int) ∧ wr = W5) (fun i _ => 32 - (intOf i).toNat)
  case atStart => exact ⟨0, by omega, rfl, rfl⟩
  case round =>
    obtain ⟨j, hj, rfl, hwr⟩ := hrel
    obtain rfl := hwr.symm
    by_cases hlt : j < 32
    · have hj32 : (j : Int) < 32 := by omega
      have hj0 : (0 : Int) ≤ (j : Int) := by omega
      by_cases hjk : j < k
      · have hjk' : (j : Int) < (k : Int) := by omega
        obtain ⟨s, hs⟩ : ∃ s, S j = s := ⟨_, rfl⟩
        have ca : W5.cell? ⟨W3.heap.size, j, none⟩ = some (.int .u8 (s.toNat : Int)) := by rw [HA.out.cell, arr_get, if_pos hlt, hx.out, if_pos hjk, hs]; rfl
        have cb : W5.cell? ⟨W3.heap.size + 1, j, none⟩ = some (.int .u8 (s.toNat : Int)) := by rw [HY.out.cell, arr_get, if_pos hlt, hy.out _ hjk, hs]; rfl
        clear hs hjk hlt hj
        go_wp2
        go_roundw
        case rel => exact ⟨j + 1, by omega, by go_num, by first | rfl | trivial⟩
        case measure => simp [intOf]; omega
      · have hjk' : ¬ (j : Int) < (k : Int) := by omega
        have hjk2 : (k : Int) ≤ (j : Int) := by omega
        obtain ⟨s, hs⟩ : ∃ s, y j = s := ⟨_, rfl⟩
        have ca : W5.cell? ⟨W3.heap.size, j, none⟩ = some (.int .u8 0) := by rw [HA.out.cell, arr_get, if_pos hlt, hx.out, if_neg hjk]; rfl
        have cb : W5.cell? ⟨W3.heap.size + 1, j, none⟩ = some (.int .u8 (s.toNat : Int)) := by rw [HY.out.cell, arr_get, if_pos hlt, hs]; rfl
        clear hs hjk hlt hj
        go_wp2
        go_roundw
        case rel => exact ⟨j + 1, by omega, by go_num, by first | rfl | trivial⟩
        case measure => simp [intOf]; omega
    · obtain rfl : j = 32 := by omega
      go_wp2
      go_ret
      exact ⟨rfl, HB5.out⟩
theorem keeps_law (c : Int) (v : Value) (L : List UInt8) (w : World) (hT : Tables w) (hr : RdB w (fun b => b < w.heap.size) v L) :
    Calls Tryd.prog 10 #[.int .i64 c, v] w fun e w' => e = .returned (.bool true) ∧ Below w.heap.size w w' := by
  by_cases h : c < 1 ∨ 31 < c ∨ 300 < L.length
  · obtain ⟨A, cp, rfl, _, _⟩ := id hr
    exact keeps_out c A L.length cp w hT h
  · obtain ⟨k, rfl⟩ := Int.eq_ofNat_of_zero_le (show 0 ≤ c by omega)
    exact keeps_in k v L w hT hr (by omega) (by omega) (by omega)
end Go.Proofs.YtdfgffmefonelaaDoor
