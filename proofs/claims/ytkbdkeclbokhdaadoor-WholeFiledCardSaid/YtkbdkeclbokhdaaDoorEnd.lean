/-
  The last blocks of a sum's bytes: for every rest of less than 64 bytes and every count, whatever the loop's body does with the blocks, the call hands it the one or two blocks that the standard says, in order.
-/
import Derived.Test.YtkbdkeclbokhdaaDoorProg
import Derived.Test.YtkbdkeclbokhdaaDoorOps
import Derived.Shelf.Abstract
import Derived.Shelf.RegionOpen
import Derived.WalkKit
import Derived.WalkSpells
import Derived.WalkLawsBesides
import Derived.TacticsInMore
import Derived.LoopNIn
import Derived.LoopIn
import Derived.Lib.Hide
namespace Go.Proofs.YtkbdkeclbokhdaaDoor
open Go Go.RowKit Go.Shelf
attribute [local go_sem] Oper.semAt_some

abbrev encB (x : Nat → UInt8) : Array Value := #[.agg (arr 64 fun i => bv (x i))]

set_option maxRecDepth 100000 in
set_option maxHeartbeats 1000000 in
theorem end_any (l B : Nat) (own : Nat → Prop) (hown : ∀ b, own b → b < B) (J Jx : List (Nat → UInt8) → World → Prop) (hJ : AbB B J) (hJx : AbB B Jx) (pre0 : List (Nat → UInt8)) (r : Nat → UInt8) (n : Nat) (hn : n < 56) (sz c : Nat)
    (hc : IntKind.u64.wrap ((sz : Int) * 8) = (c : Int)) (A : Option Addr) (cap : Nat) (W : World) (hB : B ≤ W.heap.size) (hr : 0 < n → ∃ ad : Addr, A = some ad ∧ ad.block < W.heap.size ∧ ∀ j, j < n → W.cell? (ad.add j) = some (bv (r j)))
    (hY : ∀ q x W1, (q ++ [x]) <+: endBlocks r n c → J (pre0 ++ q) W1 → YieldAt Fence.wide 0 Tryd.prog l (encB x) W1 fun e W' => (e = .returned (.bool true) ∧ J (pre0 ++ q ++ [x]) W' ∧ Keep own W1 W') ∨ (e = .returned (.bool false) ∧ Jx (pre0 ++ q ++ [x]) W'))
    (h0 : J pre0 W) :
    CallsIn Fence.wide 0 Tryd.prog 86 #[.slice A n cap, .int .u64 (sz : Int), .func (.yield l) #[] #[]] W fun e W' => (∃ v, e = .returned v) ∧ (J (pre0 ++ endBlocks r n c) W' ∨ ∃ q, q <+: endBlocks r n c ∧ q ≠ [] ∧ Jx (pre0 ++ q) W') := by
  have HJ := Lib.hid hJ
  have HJx := Lib.hid hJx
  have HY := Lib.hid hY
  have HO := Lib.hid hown
  have H0 := Lib.hid h0
  have HR := Lib.hid hr
  clear hJ hJx hY hown h0 hr
  refine callsIn_of_wp Tryd.func86 rfl trivial ?_ rfl
  simp only [Tryd.ntmps86, List.size_toArray, List.length_cons, List.length_nil, Nat.reduceAdd, Nat.reduceSub, Array.replicate_succ, Array.replicate_zero, List.push_toArray, List.append_toArray, List.nil_append, List.cons_append]
  have hZ : Array.replicate 64 (bv 0) = arr 64 fun _ => bv 0 := by rw [← upto_none 64 (fun _ => bv 0) (bv 0)]; exact arr_congr fun i _ => by simp
  have hB0 : Blk (W.alloc (.cells (Array.replicate 64 (bv 0)) 147)) W.heap.size 147 (arr 64 fun _ => bv 0) := Blk.newAt _ _ rfl hZ
  have hr1 : 0 < n → ∃ ad, A = some ad ∧ ∀ j, j < n → (W.alloc (.cells (Array.replicate 64 (bv 0)) 147)).cell? (ad.add j) = some (bv (r j)) := fun h => by
    obtain ⟨ad, hA, hlt, hcell⟩ := HR.out h
    exact ⟨ad, hA, fun j hj => (World.cell?_alloc_lt W _ (ad.add j) (by rw [block_add]; exact hlt)).trans (hcell j hj)⟩
  have hmin : Nat.min n 64 = n := by show min n 64 = n; omega
  have hlen : decide ((n : Int) < 56) = true := by simp; omega
  gi_wp2_with (refine wpListIn_copy_arrW (fun _ => trivial) rfl _ _ 42 42 rfl 5 Tryd.underlying42 (by kernel_rfl) W.heap.size 0 64 64 rfl A n cap rfl n 64 (fun _ => bv 0) 147 hB0 hmin (fun i => bv (r i)) hr1 (by omega) (fun _ _ => rfl) (fun i => if i < n then bv (r i) else bv 0) (fun i _ => by simp) ?_; intro W1 hB1 hs1 hb1; have hc1 := hB1.cell n; have hf1 := hB1.frozen n; rw [arr_get, if_pos (by omega)] at hc1)
  have hJ1 : J pre0 (W1.setCell ⟨W.heap.size, n, none⟩ (.int .u8 128)) := HJ.out _ _ _ H0.out (((((Below.refl B W).alloc hB _).trans (hb1.mono hB))).setCell (by simpa using hB) _)
  have hB2 : Blk (W1.setCell ⟨W.heap.size, n, none⟩ (.int .u8 128)) W.heap.size 147 (arr 64 fun i => bv (tailTo c 0 (headB r n) i)) := (hB1.store n (bv 128)).same (by
    rw [arr_set _ _ _ _ (by omega)]
    refine arr_congr fun i _ => ?_
    rw [tailTo_0]
    unfold headB
    by_cases h1 : i = n
    · subst h1; simp
    · by_cases h2 : i < n
      · simp [h1, h2]
      · simp [h1, h2])
  have hs2 : W.heap.size < (W1.setCell ⟨W.heap.size, n, none⟩ (.int .u8 128)).heap.size := by simp [World.setCell, hs1]
  clear hB1 hc1 hf1 hb1 hs1 hB0 hr1 hZ
  generalize W1.setCell ⟨W.heap.size, n, none⟩ (.int .u8 128) = W2 at *
  gi_loopw [23] (fun i wr => ∃ k : Nat, k ≤ 8 ∧ i = .int .i64 k ∧ Blk wr W.heap.size 147 (arr 64 fun i => bv (tailTo c k (headB r n) i)) ∧ J pre0 wr) (fun i _ => 8 - (intOf i).toNat)
  case atStart => exact ⟨0, by omega, rfl, hB2, hJ1⟩
  case round =>
    clear hB2 hJ1 hs2
    obtain ⟨k, hk, rfl, hB2, hJ1⟩ := hrel
    by_cases hlt : k < 8
    · have hc2 := hB2.cell (56 + k)
      have hf2 := hB2.frozen (56 + k)
      rw [arr_get, if_pos (by omega)] at hc2
      have hw := cnt_w c k
      have t1 : ((56 : Int) + (k : Int)).toNat = 56 + k := by omega
      have t2 : ((56 : Int) - 8 * (k : Int)).toNat = 56 - 8 * k := by omega
      gi_wp2
      go_roundw
      case rel => exact ⟨k + 1, by omega, by go_num, (hB2.store (56 + k) (bv (cntByte c k))).same (tailTo_set c k _ hlt), HJ.out _ _ _ hJ1 ((Below.refl B _).setCell (by simpa using hB) _)⟩
      case measure => simp [intOf]; omega
    · obtain rfl : k = 8 := by omega
      have hB3 : Blk wr W.heap.size 147 (arr 64 fun i => bv (tailB c (headB r n) i)) := hB2.same (arr_congr fun i hi => by rw [tailTo_8 _ _ _ hi])
      have hE : endBlocks r n c = [tailB c (headB r n)] := by rw [endBlocks, if_pos hn]
      obtain ⟨fn, tmps, assign, body, hy, hR⟩ := HY.out [] (tailB c (headB r n)) wr (by rw [hE]; simp) (by simpa using hJ1)
      have HE := Lib.hid hE
      clear hE hB2 hlt hk
      dsimp only [encB] at hy
      gi_wp2_with (first | (refine wpListIn_load_arr (fun _ => trivial) rfl 147 _ rfl W.heap.size rfl 147 _ _ hB3 Tryd.underlying147 rfl (by rw [arr_size]; kernel_rfl) ?_) | (refine ⟨rfl, ?_⟩; refine hR.mono ?_; clear hR; rintro e W' (⟨rfl, hJ', hk⟩ | ⟨rfl, hJx'⟩)))
      · go_end0
        exact ⟨⟨_, rfl⟩, .inl (by rw [HE.out]; simpa using hJ')⟩
      · go_end0
        exact ⟨⟨_, rfl⟩, .inr ⟨[tailB c (headB r n)], by rw [HE.out]; exact List.prefix_refl _, by simp, by simpa using hJx'⟩⟩
set_option maxRecDepth 100000 in
set_option maxHeartbeats 1000000 in
theorem end_two (l B : Nat) (own : Nat → Prop) (hown : ∀ b, own b → b < B) (J Jx : List (Nat → UInt8) → World → Prop) (hJ : AbB B J) (hJx : AbB B Jx) (pre0 : List (Nat → UInt8)) (r : Nat → UInt8) (n : Nat) (hn : 56 ≤ n) (hn2 : n < 64) (sz c : Nat)
    (hc : IntKind.u64.wrap ((sz : Int) * 8) = (c : Int)) (A : Option Addr) (cap : Nat) (W : World) (hB : B ≤ W.heap.size) (hr : 0 < n → ∃ ad : Addr, A = some ad ∧ ad.block < W.heap.size ∧ ∀ j, j < n → W.cell? (ad.add j) = some (bv (r j)))
    (hY : ∀ q x W1, (q ++ [x]) <+: endBlocks r n c → J (pre0 ++ q) W1 → YieldAt Fence.wide 0 Tryd.prog l (encB x) W1 fun e W' => (e = .returned (.bool true) ∧ J (pre0 ++ q ++ [x]) W' ∧ Keep own W1 W') ∨ (e = .returned (.bool false) ∧ Jx (pre0 ++ q ++ [x]) W'))
    (h0 : J pre0 W) :
    CallsIn Fence.wide 0 Tryd.prog 86 #[.slice A n cap, .int .u64 (sz : Int), .func (.yield l) #[] #[]] W fun e W' => (∃ v, e = .returned v) ∧ (J (pre0 ++ endBlocks r n c) W' ∨ ∃ q, q <+: endBlocks r n c ∧ q ≠ [] ∧ Jx (pre0 ++ q) W') := by
  have HJ := Lib.hid hJ
  have HJx := Lib.hid hJx
  have HY := Lib.hid hY
  have HO := Lib.hid hown
  have H0 := Lib.hid h0
  have HR := Lib.hid hr
  clear hJ hJx hY hown h0 hr
  refine callsIn_of_wp Tryd.func86 rfl trivial ?_ rfl
  simp only [Tryd.ntmps86, List.size_toArray, List.length_cons, List.length_nil, Nat.reduceAdd, Nat.reduceSub, Array.replicate_succ, Array.replicate_zero, List.push_toArray, List.append_toArray, List.nil_append, List.cons_append]
  have hZ : Array.replicate 64 (bv 0) = arr 64 fun _ => bv 0 := by rw [← upto_none 64 (fun _ => bv 0) (bv 0)]; exact arr_congr fun i _ => by simp
  have hB0 : Blk (W.alloc (.cells (Array.replicate 64 (bv 0)) 147)) W.heap.size 147 (arr 64 fun _ => bv 0) := Blk.newAt _ _ rfl hZ
  have hr1 : 0 < n → ∃ ad, A = some ad ∧ ∀ j, j < n → (W.alloc (.cells (Array.replicate 64 (bv 0)) 147)).cell? (ad.add j) = some (bv (r j)) := fun h => by
    obtain ⟨ad, hA, hlt, hcell⟩ := HR.out h
    exact ⟨ad, hA, fun j hj => (World.cell?_alloc_lt W _ (ad.add j) (by rw [block_add]; exact hlt)).trans (hcell j hj)⟩
  have hmin : Nat.min n 64 = n := by show min n 64 = n; omega
  have hE : endBlocks r n c = [headB r n, tailB c (fun _ => 0)] := by rw [endBlocks, if_neg (by omega)]
  have HE := Lib.hid hE
  have HZ := Lib.hid hZ
  have HX : Hid (∀ W1 : World, Blk W1 W.heap.size 147 (arr 64 fun i => if i < n then bv (r i) else bv 0) → W1.heap.size = W.heap.size + 1 → Below B W W1 →
      Blk (W1.setCell ⟨W.heap.size, n, none⟩ (.int .u8 128)) W.heap.size 147 (arr 64 fun i => bv (headB r n i)) ∧ J pre0 (W1.setCell ⟨W.heap.size, n, none⟩ (.int .u8 128)) ∧
      YieldAt Fence.wide 0 Tryd.prog l (encB (headB r n)) (W1.setCell ⟨W.heap.size, n, none⟩ (.int .u8 128)) fun e W' => (e = .returned (.bool true) ∧ J (pre0 ++ [headB r n]) W' ∧ Keep own (W1.setCell ⟨W.heap.size, n, none⟩ (.int .u8 128)) W') ∨ (e = .returned (.bool false) ∧ Jx (pre0 ++ [headB r n]) W')) := Lib.hid fun W1 hB1 hs1 hb1 => by
    have hJ1 : J pre0 (W1.setCell ⟨W.heap.size, n, none⟩ (.int .u8 128)) := HJ.out _ _ _ H0.out (hb1.setCell (by simpa using hB) _)
    refine ⟨(hB1.store n (bv 128)).same ?_, hJ1, ?_⟩
    · rw [arr_set _ _ _ _ (by omega)]
      refine arr_congr fun i _ => ?_
      unfold headB
      by_cases h1 : i = n
      · subst h1; simp
      · by_cases h2 : i < n
        · simp [h1, h2]
        · simp [h1, h2]
    · have := HY.out [] (headB r n) (W1.setCell ⟨W.heap.size, n, none⟩ (.int .u8 128)) (by rw [hE]; exact ⟨[tailB c (fun _ => 0)], by simp⟩) (by simpa using hJ1)
      simpa using this
  have HA : Hid ((Array.replicate 64 (bv 0)).all (fun x => x.oneCell') = true) := Lib.hid (by rw [hZ]; exact arr_all_bv 64 (fun _ => 0))
  clear hE hZ
  gi_wp2_with (first
    | (refine wpListIn_copy_arrW (fun _ => trivial) rfl _ _ 42 42 rfl 5 Tryd.underlying42 (by kernel_rfl) W.heap.size 0 64 64 rfl A n cap rfl n 64 (fun _ => bv 0) 147 hB0 hmin (fun i => bv (r i)) hr1 (by omega) (fun _ _ => rfl) (fun i => if i < n then bv (r i) else bv 0) (fun i _ => by simp) ?_; intro W1 hB1 hs1 hb1; have hc1 := hB1.cell n; have hf1 := hB1.frozen n; rw [arr_get, if_pos (by omega)] at hc1; obtain ⟨hB2, hJ1, fn, tmps, assign, body, hy, hR⟩ := HX.out W1 hB1 (by simpa using hs1) (((Below.refl B W).alloc hB _).trans (hb1.mono hB)); dsimp only [encB] at hy)
    | (refine wpListIn_load_arr (fun _ => trivial) rfl 147 _ rfl W.heap.size rfl 147 _ _ hB2 Tryd.underlying147 rfl (by rw [arr_size]; kernel_rfl) ?_)
    | (refine ⟨rfl, ?_⟩; refine hR.mono ?_; clear hR; rintro e W' (⟨rfl, hJ', hk⟩ | ⟨rfl, hJx'⟩))
    | (refine wpListIn_store_arr (fun _ => trivial) rfl 147 _ _ rfl W.heap.size (Array.replicate 64 (bv 0)) rfl rfl 147 _ (hB2.kept hk (fun h => absurd (HO.out _ h) (by omega))) (by kernel_rfl) (by rw [arr_size]; rfl) HA.out ?_))
  · have hB4 : Blk (W'.setRow W.heap.size (Array.replicate 64 (bv 0))) W.heap.size 147 (arr 64 fun i => bv (tailTo c 0 (fun _ => 0) i)) := ((hB2.kept hk (fun h => absurd (HO.out _ h) (by omega))).setRow _).same (by
      rw [HZ.out]
      exact arr_congr fun i _ => by rw [tailTo_0])
    have hJ4 : J (pre0 ++ [headB r n]) (W'.setRow W.heap.size (Array.replicate 64 (bv 0))) := HJ.out _ _ _ hJ' (Go.below_setRow (Below.refl B _) hB _)
    clear hB2 hJ1 hJ' hk hy hB1 hs1 hb1 hc1 hf1 hB0 hr1
    generalize (W'.setRow W.heap.size (Array.replicate 64 (bv 0))) = W5 at *
    gi_loopw [23] (fun i wr => ∃ k : Nat, k ≤ 8 ∧ i = .int .i64 k ∧ Blk wr W.heap.size 147 (arr 64 fun i => bv (tailTo c k (fun _ => 0) i)) ∧ J (pre0 ++ [headB r n]) wr) (fun i _ => 8 - (intOf i).toNat)
    case atStart => exact ⟨0, by omega, rfl, hB4, hJ4⟩
    case round =>
      clear hB4 hJ4
      obtain ⟨k, hk, rfl, hB2, hJ1⟩ := hrel
      by_cases hlt : k < 8
      · have hc2 := hB2.cell (56 + k)
        have hf2 := hB2.frozen (56 + k)
        rw [arr_get, if_pos (by omega)] at hc2
        have hw := cnt_w c k
        have t1 : ((56 : Int) + (k : Int)).toNat = 56 + k := by omega
        have t2 : ((56 : Int) - 8 * (k : Int)).toNat = 56 - 8 * k := by omega
        gi_wp2
        go_roundw
        case rel => exact ⟨k + 1, by omega, by go_num, (hB2.store (56 + k) (bv (cntByte c k))).same (tailTo_set c k _ hlt), HJ.out _ _ _ hJ1 ((Below.refl B _).setCell (by simpa using hB) _)⟩
        case measure => simp [intOf]; omega
      · obtain rfl : k = 8 := by omega
        have hB3 : Blk wr W.heap.size 147 (arr 64 fun i => bv (tailB c (fun _ => 0) i)) := hB2.same (arr_congr fun i hi => by rw [tailTo_8 _ _ _ hi])
        obtain ⟨fn, tmps, assign, body, hy, hR⟩ := HY.out [headB r n] (tailB c (fun _ => 0)) wr (by rw [HE.out]; exact List.prefix_refl _) hJ1
        clear hB2 hlt hk
        dsimp only [encB] at hy
        gi_wp2_with (first | (refine wpListIn_load_arr (fun _ => trivial) rfl 147 _ rfl W.heap.size rfl 147 _ _ hB3 Tryd.underlying147 rfl (by rw [arr_size]; kernel_rfl) ?_) | (refine ⟨rfl, ?_⟩; refine hR.mono ?_; clear hR; rintro e W' (⟨rfl, hJ', hk⟩ | ⟨rfl, hJx'⟩)))
        · go_end0
          exact ⟨⟨_, rfl⟩, .inl (by rw [HE.out]; simpa using hJ')⟩
        · go_end0
          exact ⟨⟨_, rfl⟩, .inr ⟨[headB r n, tailB c (fun _ => 0)], by rw [HE.out]; exact List.prefix_refl _, by simp, by simpa using hJx'⟩⟩
  · refine bodyPost_ret (results_none rfl _ _ _) rfl ?_
    exact ⟨⟨_, rfl⟩, .inr ⟨[headB r n], by rw [HE.out]; exact ⟨[tailB c (fun _ => 0)], by simp⟩, by simp, hJx'⟩⟩

theorem end_all (l B : Nat) (own : Nat → Prop) (hown : ∀ b, own b → b < B) (J Jx : List (Nat → UInt8) → World → Prop) (hJ : AbB B J) (hJx : AbB B Jx) (pre0 : List (Nat → UInt8)) (r : Nat → UInt8) (n : Nat) (hn : n < 64) (sz c : Nat)
    (hc : IntKind.u64.wrap ((sz : Int) * 8) = (c : Int)) (A : Option Addr) (cap : Nat) (W : World) (hB : B ≤ W.heap.size) (hr : 0 < n → ∃ ad : Addr, A = some ad ∧ ad.block < W.heap.size ∧ ∀ j, j < n → W.cell? (ad.add j) = some (bv (r j)))
    (hY : ∀ q x W1, (q ++ [x]) <+: endBlocks r n c → J (pre0 ++ q) W1 → YieldAt Fence.wide 0 Tryd.prog l (encB x) W1 fun e W' => (e = .returned (.bool true) ∧ J (pre0 ++ q ++ [x]) W' ∧ Keep own W1 W') ∨ (e = .returned (.bool false) ∧ Jx (pre0 ++ q ++ [x]) W'))
    (h0 : J pre0 W) :
    CallsIn Fence.wide 0 Tryd.prog 86 #[.slice A n cap, .int .u64 (sz : Int), .func (.yield l) #[] #[]] W fun e W' => (∃ v, e = .returned v) ∧ (J (pre0 ++ endBlocks r n c) W' ∨ ∃ q, q <+: endBlocks r n c ∧ q ≠ [] ∧ Jx (pre0 ++ q) W') := by
  by_cases h : n < 56
  · exact end_any l B own hown J Jx hJ hJx pre0 r n h sz c hc A cap W hB hr hY h0
  · exact end_two l B own hown J Jx hJ hJx pre0 r n (by omega) hn sz c hc A cap W hB hr hY h0
end Go.Proofs.YtkbdkeclbokhdaaDoor
