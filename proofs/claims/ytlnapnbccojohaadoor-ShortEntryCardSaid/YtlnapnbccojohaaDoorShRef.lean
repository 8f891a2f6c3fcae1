/-
  Layer 7's reference: sums, cut. Of any cut and any text of not more than 2^40 bytes. No condition.
-/
import Derived.Test.YtlnapnbccojohaaDoorShMath
import Derived.Test.YtlnapnbccojohaaDoorTreeRefR
namespace Go.Proofs.YtlnapnbccojohaaDoor
open Go Go.RowKit Go.Shelf TreeM

theorem arr_set0 (f : D) (j : Nat) (_hj : j < 32) (P : Nat → Prop) [DecidablePred P] : (arr 32 fun i => bv (if P i then 0 else f i)).setIfInBounds j (.int .u8 0) = arr 32 fun i => bv (if P i ∨ i = j then 0 else f i) := by
  refine arr_of 32 _ _ (by simp [arr_size]) fun i hi => ?_
  rw [Array.getElem?_setIfInBounds]
  by_cases h : j = i
  · subst h
    rw [if_pos rfl, if_pos (by simp [arr_size]; omega), if_pos (Or.inr rfl)]
    rfl
  · rw [if_neg h, arr_get, if_pos hi]
    congr 2
    by_cases hp : P i
    · rw [if_pos hp, if_pos (Or.inl hp)]
    · rw [if_neg hp, if_neg (by rintro (h' | h'); exact hp h'; exact h h'.symm)]
set_option maxRecDepth 100000 in
set_option maxHeartbeats 4000000 in
theorem refSumS_any (c : Int) (L : List UInt8) (hL : L.length ≤ 1099511627776) (w : World) :
    Calls Tryd.prog 26 #[.int .i64 c, .string ⟨L.toArray⟩] w fun e w' => e = .returned (.agg (arr 32 fun i => bv ((cutD c (sha L)) i))) ∧ Below w.heap.size w w' := by
  have hZ32 : Hid (Array.replicate 32 (bv 0) = arr 32 fun _ => bv 0) := Lib.hid (by rw [← upto_none 32 (fun _ => bv 0) (bv 0)]; exact arr_congr fun i hi => by rfl)
  have HOF : Hid (∀ W, Calls Tryd.prog 42 #[.string ⟨L.toArray⟩] W fun e w' => e = .returned (.agg (arr 32 fun i => bv ((sha L) i))) ∧ Below W.heap.size W w') := Lib.hid fun W => refOf_any L hL W
  obtain ⟨S, hS⟩ : ∃ S, sha L = S := ⟨_, rfl⟩
  rw [hS] at HOF ⊢
  obtain ⟨s, hs⟩ : ∃ s, (⟨L.toArray⟩ : ByteArray) = s := ⟨_, rfl⟩
  rw [hs] at HOF ⊢
  clear hS hL hs
  obtain ⟨m, hm⟩ : ∃ m : Int, max c 1 = m := ⟨_, rfl⟩
  have HM := Lib.hid hm
  clear hm
  by_cases h1 : c < 1
  · have hm1 : m = 1 := by have := HM.out; omega
    go_enter Tryd.func26, Tryd.ntmps26
    go_wp2_with fail
    generalize hW : World.alloc w _ = W
    have hb0 : Below w.heap.size w W := by rw [← hW]; exact (Below.refl _ _).alloc (Nat.le_refl _) _
    have k4 : Blk W w.heap.size 23 (arr 32 fun _ => bv 0) := by rw [← hW]; exact Blk.newAt _ _ rfl hZ32.out
    have HB0 := Lib.hid hb0
    have K4 := Lib.hid k4
    clear hW hb0 k4
    have HMM := Lib.hid hm1
    clear hm1
    go_wp2_with (first
      | (go_at_call 42; refine (HOF.out _).mono ?_; rintro e W1 ⟨rfl, hb1⟩; have HB1 := Lib.hid (HB0.out.trans (hb1.mono HB0.out.size)); have J4 := Lib.hid (K4.out.below hb1 K4.out.lt); clear hb1)
      | (refine wpList_store_row rfl 23 _ _ rfl W1.heap.size (arr 32 fun i => bv (S i)) rfl rfl 23 _ (heap_alloc_new W1 _) (by rw [arr_size]; kernel_rfl) (by rw [arr_size]; rfl) (arr_all_bv _ _) ?_; rw [World.setRow_alloc_new]))
    have hb2 : Below W1.heap.size W1 (W1.alloc (.cells (arr 32 fun i => bv (S i)) 23)) := (Below.refl _ _).alloc (Nat.le_refl _) _
    go_loopw [7] (fun s7 wr => ∃ j : Int, s7 = .int .i64 j ∧ m ≤ j ∧ (j ≤ 32 ∨ j = m) ∧ Blk wr W1.heap.size 23 (arr 32 fun i => bv (if m ≤ (i : Int) ∧ (i : Int) < j then 0 else S i)) ∧ Below W1.heap.size W1 wr) (fun s7 _ => (33 - intOf s7).toNat)
    case atStart => exact ⟨m, by rw [HMM.out], Int.le_refl _, Or.inr rfl, by
      have e : (arr 32 fun i => bv (if m ≤ (i : Int) ∧ (i : Int) < m then 0 else S i)) = (arr 32 fun i => bv (S i)) := arr_congr fun i _ => by rw [if_neg (by omega)]
      rw [e]; exact Blk.new W1 _ _, hb2⟩
    case round =>
      obtain ⟨j, rfl, hmj, hj32, hk, hb⟩ := hrel
      have hm1 : 1 ≤ m := by have := HM.out; omega
      by_cases hlt : j < 32
      · obtain ⟨p, rfl⟩ := Int.eq_ofNat_of_zero_le (show 0 ≤ j by omega)
        have hp : p < 32 := by omega
        have hp0 : (0 : Int) ≤ (p : Int) := by omega
        obtain ⟨u, hu⟩ : ∃ u, wr.cell? ⟨W1.heap.size, p, none⟩ = some u := ⟨_, by rw [hk.cell, arr_get, if_pos hp]⟩
        have hf : wr.frozen? ⟨W1.heap.size, p, none⟩ = false := hk.frozen p
        have hk2 := Blk.store hk p (.int .u8 0)
        rw [arr_set0 S p hp] at hk2
        have HK2 := Lib.hid hk2
        have HB2 := Lib.hid (hb.setCell (p := ⟨W1.heap.size, p, none⟩) (Nat.le_refl _) (.int .u8 0))
        have HJ : Hid (m ≤ (p : Int) + 1 ∧ (p : Int) + 1 ≤ 32 ∧ m ≤ (p : Int)) := Lib.hid ⟨by omega, by omega, by omega⟩
        clear hk hk2 hb hmj hj32 hm1
        go_wp2
        go_roundw
        case rel => exact ⟨(p : Int) + 1, by go_num, HJ.out.1, Or.inl HJ.out.2.1, by
          have e : (arr 32 fun i => bv (if m ≤ (i : Int) ∧ (i : Int) < (p : Int) + 1 then 0 else S i)) = (arr 32 fun i => bv (if (m ≤ (i : Int) ∧ (i : Int) < (p : Int)) ∨ i = p then 0 else S i)) := arr_congr fun i _ => by
            congr 1
            by_cases h : i = p
            · subst h; rw [if_pos (by have := HJ.out; constructor <;> omega), if_pos (Or.inr rfl)]
            · by_cases h2 : m ≤ (i : Int) ∧ (i : Int) < (p : Int)
              · rw [if_pos (by omega), if_pos (Or.inl h2)]
              · rw [if_neg (by omega), if_neg (by rintro (h' | h'); exact h2 h'; exact h h')]
          rw [e]; exact HK2.out, HB2.out⟩
        case measure => simp [intOf]; omega
      · have e : (arr 32 fun i => bv (if m ≤ (i : Int) ∧ (i : Int) < j then 0 else S i)) = (arr 32 fun i => bv ((cutD c S) i)) := arr_congr fun i hi => by
          have hcc : cnt c = (min m 32).toNat := by unfold cnt; rw [HM.out]
          unfold cutD
          by_cases h : m ≤ (i : Int)
          · rw [if_pos ⟨h, by omega⟩, if_neg (by omega)]
          · rw [if_neg (fun h' => h h'.1), if_pos (by omega)]
        rw [e] at hk
        obtain ⟨R, hR⟩ : ∃ R, cutD c S = R := ⟨_, rfl⟩
        rw [hR] at hk
        have HK := Lib.hid hk
        have HBX := Lib.hid (HB1.out.trans (hb.mono HB1.out.size))
        have M4 := Lib.hid (J4.out.below hb J4.out.lt)
        have HRR := Lib.hid hR
        clear hk hb e hmj hj32 hm1 hR
        go_wp2_with (first
          | (refine wpList_load_arr rfl 23 _ rfl W1.heap.size rfl 23 (arr 32 fun i => bv (R i)) _ HK.out Tryd.underlying23 rfl (by rw [arr_size]; kernel_rfl) ?_)
          | (refine wpList_store_arrW rfl 23 _ _ rfl w.heap.size (arr 32 fun i => bv (R i)) rfl rfl 23 _ M4.out (by rw [arr_size]; kernel_rfl) (by simp only [arr_size]) (arr_all_bv _ _) ?_; intro W3 hS3 hz3 hb3 hk3))
        refine bodyPost_ret (results_cell_row (p := 4) (ty := 23) rfl _ _ w.heap.size 23 _ (0, 0) _ rfl hS3 Tryd.underlying23 rfl (by rw [arr_size]; kernel_rfl)) rfl ⟨by rw [HRR.out], HBX.out.trans hb3⟩
  · have hm1 : m = c := by have := HM.out; omega
    go_enter Tryd.func26, Tryd.ntmps26
    go_wp2_with fail
    generalize hW : World.alloc w _ = W
    have hb0 : Below w.heap.size w W := by rw [← hW]; exact (Below.refl _ _).alloc (Nat.le_refl _) _
    have k4 : Blk W w.heap.size 23 (arr 32 fun _ => bv 0) := by rw [← hW]; exact Blk.newAt _ _ rfl hZ32.out
    have HB0 := Lib.hid hb0
    have K4 := Lib.hid k4
    clear hW hb0 k4
    have HMM := Lib.hid hm1
    clear hm1
    go_wp2_with (first
      | (go_at_call 42; refine (HOF.out _).mono ?_; rintro e W1 ⟨rfl, hb1⟩; have HB1 := Lib.hid (HB0.out.trans (hb1.mono HB0.out.size)); have J4 := Lib.hid (K4.out.below hb1 K4.out.lt); clear hb1)
      | (refine wpList_store_row rfl 23 _ _ rfl W1.heap.size (arr 32 fun i => bv (S i)) rfl rfl 23 _ (heap_alloc_new W1 _) (by rw [arr_size]; kernel_rfl) (by rw [arr_size]; rfl) (arr_all_bv _ _) ?_; rw [World.setRow_alloc_new]))
    have hb2 : Below W1.heap.size W1 (W1.alloc (.cells (arr 32 fun i => bv (S i)) 23)) := (Below.refl _ _).alloc (Nat.le_refl _) _
    go_loopw [7] (fun s7 wr => ∃ j : Int, s7 = .int .i64 j ∧ m ≤ j ∧ (j ≤ 32 ∨ j = m) ∧ Blk wr W1.heap.size 23 (arr 32 fun i => bv (if m ≤ (i : Int) ∧ (i : Int) < j then 0 else S i)) ∧ Below W1.heap.size W1 wr) (fun s7 _ => (33 - intOf s7).toNat)
    case atStart => exact ⟨m, by rw [HMM.out], Int.le_refl _, Or.inr rfl, by
      have e : (arr 32 fun i => bv (if m ≤ (i : Int) ∧ (i : Int) < m then 0 else S i)) = (arr 32 fun i => bv (S i)) := arr_congr fun i _ => by rw [if_neg (by omega)]
      rw [e]; exact Blk.new W1 _ _, hb2⟩
    case round =>
      obtain ⟨j, rfl, hmj, hj32, hk, hb⟩ := hrel
      have hm1 : 1 ≤ m := by have := HM.out; omega
      by_cases hlt : j < 32
      · obtain ⟨p, rfl⟩ := Int.eq_ofNat_of_zero_le (show 0 ≤ j by omega)
        have hp : p < 32 := by omega
        have hp0 : (0 : Int) ≤ (p : Int) := by omega
        obtain ⟨u, hu⟩ : ∃ u, wr.cell? ⟨W1.heap.size, p, none⟩ = some u := ⟨_, by rw [hk.cell, arr_get, if_pos hp]⟩
        have hf : wr.frozen? ⟨W1.heap.size, p, none⟩ = false := hk.frozen p
        have hk2 := Blk.store hk p (.int .u8 0)
        rw [arr_set0 S p hp] at hk2
        have HK2 := Lib.hid hk2
        have HB2 := Lib.hid (hb.setCell (p := ⟨W1.heap.size, p, none⟩) (Nat.le_refl _) (.int .u8 0))
        have HJ : Hid (m ≤ (p : Int) + 1 ∧ (p : Int) + 1 ≤ 32 ∧ m ≤ (p : Int)) := Lib.hid ⟨by omega, by omega, by omega⟩
        clear hk hk2 hb hmj hj32 hm1
        go_wp2
        go_roundw
        case rel => exact ⟨(p : Int) + 1, by go_num, HJ.out.1, Or.inl HJ.out.2.1, by
          have e : (arr 32 fun i => bv (if m ≤ (i : Int) ∧ (i : Int) < (p : Int) + 1 then 0 else S i)) = (arr 32 fun i => bv (if (m ≤ (i : Int) ∧ (i : Int) < (p : Int)) ∨ i = p then 0 else S i)) := arr_congr fun i _ => by
            congr 1
            by_cases h : i = p
            · subst h; rw [if_pos (by have := HJ.out; constructor <;> omega), if_pos (Or.inr rfl)]
            · by_cases h2 : m ≤ (i : Int) ∧ (i : Int) < (p : Int)
              · rw [if_pos (by omega), if_pos (Or.inl h2)]
              · rw [if_neg (by omega), if_neg (by rintro (h' | h'); exact h2 h'; exact h h')]
          rw [e]; exact HK2.out, HB2.out⟩
        case measure => simp [intOf]; omega
      · have e : (arr 32 fun i => bv (if m ≤ (i : Int) ∧ (i : Int) < j then 0 else S i)) = (arr 32 fun i => bv ((cutD c S) i)) := arr_congr fun i hi => by
          have hcc : cnt c = (min m 32).toNat := by unfold cnt; rw [HM.out]
          unfold cutD
          by_cases h : m ≤ (i : Int)
          · rw [if_pos ⟨h, by omega⟩, if_neg (by omega)]
          · rw [if_neg (fun h' => h h'.1), if_pos (by omega)]
        rw [e] at hk
        obtain ⟨R, hR⟩ : ∃ R, cutD c S = R := ⟨_, rfl⟩
        rw [hR] at hk
        have HK := Lib.hid hk
        have HBX := Lib.hid (HB1.out.trans (hb.mono HB1.out.size))
        have M4 := Lib.hid (J4.out.below hb J4.out.lt)
        have HRR := Lib.hid hR
        clear hk hb e hmj hj32 hm1 hR
        go_wp2_with (first
          | (refine wpList_load_arr rfl 23 _ rfl W1.heap.size rfl 23 (arr 32 fun i => bv (R i)) _ HK.out Tryd.underlying23 rfl (by rw [arr_size]; kernel_rfl) ?_)
          | (refine wpList_store_arrW rfl 23 _ _ rfl w.heap.size (arr 32 fun i => bv (R i)) rfl rfl 23 _ M4.out (by rw [arr_size]; kernel_rfl) (by simp only [arr_size]) (arr_all_bv _ _) ?_; intro W3 hS3 hz3 hb3 hk3))
        refine bodyPost_ret (results_cell_row (p := 4) (ty := 23) rfl _ _ w.heap.size 23 _ (0, 0) _ rfl hS3 Tryd.underlying23 rfl (by rw [arr_size]; kernel_rfl)) rfl ⟨by rw [HRR.out], HBX.out.trans hb3⟩
end Go.Proofs.YtlnapnbccojohaaDoor
