/-
  PackReads' walk: for all bytes that read, in whatever memory: true; nothing old turns.
-/
import Derived.Test.YtngceddlieimmaaPackRefReadAll
import Derived.Test.YtngceddlieimmaaPackLawKit
namespace Go.Proofs.Ytngceddlieimmaa
open Go Go.RowKit PackMath

theorem zero_like' (k : Int) : (zeroRaw k).Like (zeroRaw k) := ⟨rfl, rfl, rfl, rfl, rfl, rfl, rfl, rfl, rfl, rfl⟩
set_option maxRecDepth 100000 in
set_option maxHeartbeats 8000000 in
theorem reads_any (A : Option Addr) (c : Nat) (bs : List UInt8) (w : World) (hb : RdB w (fun b => b < w.heap.size) (.slice A bs.length c) bs) :
    Calls Try.prog 4 #[.slice A bs.length c] w fun e w' => e = .returned (.bool true) ∧ Below w.heap.size w w' := by
  have RDB : Hid (∀ W, Below w.heap.size w W → RdB W (fun b => b < W.heap.size) (.slice A bs.length c) bs) := Lib.hid fun W h => (hb.kept fun a x ha hx => (h.cell (p := a) ha).trans hx).mono fun b hb' => Nat.lt_of_lt_of_le hb' h.size
  have hlen : bs.length ≤ 140737488351232 := by
    obtain ⟨A', c', hv, h1, h2, h3⟩ := hb
    exact h2
  have hrr := fun W => refRead_any bs hlen W
  unfold RefReadOut at hrr
  cases hq : readM bs with
  | ok m =>
    obtain ⟨r, hp, hrm, hrn⟩ := (readP_readM bs).2 m hq
    have HRP := Lib.hid (read_ok hp)
    have HS : Hid (∀ d2 i2 l2 r3 d3 i3 l3 W, r3.m = m → r3.NN → RdR W (fun b => b < W.heap.size) r d2 i2 l2 → RdR W (fun b => b < W.heap.size) r3 d3 i3 l3 → Calls Try.prog 15 #[.agg (msgA r d2 i2 l2), .agg (msgA r3 d3 i3 l3)] W fun e w' => e = .returned (.bool true) ∧ Below W.heap.size W w') := Lib.hid fun d2 i2 l2 r3 d3 i3 l3 W h3 hN h1 h2 => same_yes (like_of (hrm.trans h3.symm) hrn hN) d2 i2 l2 d3 i3 l3 W h1 h2
    rw [hq] at hrr
    obtain ⟨S, hS⟩ : ∃ S : ByteArray, ⟨bs.toArray⟩ = S := ⟨_, rfl⟩
    have HRR := Lib.hid hrr
    obtain ⟨n, hn⟩ : ∃ n, bs.length = n := ⟨_, rfl⟩
    rw [hn] at RDB HRP ⊢
    clear hrr hq hp hrm hrn hb hlen hn hS
    go_enter Try.func4, Try.ntmps4
    go_wp2_with (first
      | (go_at_call 10; refine (packs_any _).mono ?_; rintro e w1 ⟨rfl, hb1⟩)
      | (go_at_call 13; refine (HRP.out _ _ _ (RDB.out w1 hb1)).mono ?_; rintro e w2 ⟨⟨d2, i2, l2, rfl, hR2⟩, hb2⟩; have hw2 := hb1.trans (hb2.mono hb1.size); have ha2 := msg_all hR2; have hs2 : (msgA r d2 i2 l2).size = 41 := arr_size _ _; have HS2 := Lib.hid (HS.out d2 i2 l2); have HR2 := Lib.hid hR2; generalize msgA r d2 i2 l2 = M2 at hs2 ha2 HS2 ⊢; clear hR2 hb2)
      | (guard_target = wpList _ _ _ (Oper.mk _ (.store 28 _ _) _ _ _ _ :: _) _ _; refine wpList_store_arrW rfl 28 _ _ rfl w2.heap.size M2 rfl rfl 28 _ (Blk.new _ _ _) (by rw [hs2]; kernel_rfl) (by rw [hs2]; rfl) ha2 ?_; intro W3 hS3 hz3 hb3 ho3; have old : ∀ b, b < w2.heap.size → W3.heap[b]? = w2.heap[b]? := fun b hb => (ho3 b (by omega)).trans (Below.heap_alloc w2 _ b hb); have hw3 := hw2.trans ((((Below.refl _ w2).alloc (Nat.le_refl _) _).trans hb3).mono hw2.size); have hR3 := (HR2.out.kept (W' := W3) fun a x ha h => (World.cell?_of_block (old a.block ha.2)).trans h).mono (ok' := fun b => b < W3.heap.size) (fun b hb => by have := hb.2; rw [hz3]; simp; omega); have hcv := str_rd (RDB.out W3 hw3); have HR3 := Lib.hid hR3; clear old hR3 hz3 hb3 ho3 hw2 HRP)
      | (go_at_call 14; refine (HRR.out _).mono ?_; rintro e w4 ⟨⟨r3, d3, i3, l3, hm3, hN3, rfl, hR4⟩, hb4⟩; have hw4 := hw3.trans (hb4.mono hw3.size); have hS4 := hS3.below hb4 hS3.lt; have ha3 := msg_all hR4; have hs3 : (msgA r3 d3 i3 l3).size = 41 := arr_size _ _; have HSX := Lib.hid (fun W => HS2.out r3 d3 i3 l3 W hm3 hN3); have HR4 := Lib.hid hR4; have HR34 := Lib.hid ((HR3.out.kept (W' := w4) fun a x ha h => (hb4.cell (p := a) ha).trans h).mono (ok' := fun b => b < w4.heap.size) fun b hb => Nat.lt_of_lt_of_le hb hb4.size); generalize msgA r3 d3 i3 l3 = M3 at hs3 ha3 HSX ⊢; clear hR4 hb4 hcv hS3 hw3)
      | (guard_target = wpList _ _ _ (Oper.mk _ (.store 28 _ _) _ _ _ _ :: _) _ _; refine wpList_store_arrW rfl 28 _ _ rfl w4.heap.size M3 rfl rfl 28 _ (Blk.new _ _ _) (by rw [hs3]; kernel_rfl) (by rw [hs3]; rfl) ha3 ?_; intro W5 hS5 hz5 hb5 ho5; have old : ∀ b, b < w4.heap.size → W5.heap[b]? = w4.heap[b]? := fun b hb => (ho5 b (by omega)).trans (Below.heap_alloc w4 _ b hb); have hw5 := hw4.trans ((((Below.refl _ w4).alloc (Nat.le_refl _) _).trans hb5).mono hw4.size); have hsz5 : w4.heap.size ≤ W5.heap.size := Nat.le_trans (by simp) (Nat.le_of_eq hz5.symm); have hx5 : Blk W5 w2.heap.size 28 M2 := (old _ hS4.lt).trans hS4; have q1 := (HR34.out.kept (W' := W5) fun a x ha h => (World.cell?_of_block (old a.block ha)).trans h).mono (ok' := fun b => b < W5.heap.size) (fun b hb => Nat.lt_of_lt_of_le hb hsz5); have q2 := (HR4.out.kept (W' := W5) fun a x ha h => (World.cell?_of_block (old a.block ha)).trans h).mono (ok' := fun b => b < W5.heap.size) (fun b hb => Nat.lt_of_lt_of_le hb hsz5); have HSM := Lib.hid (HSX.out W5 q1 q2); clear old q1 q2 hsz5 hz5 hb5 ho5 hw4 hS4)
      | (guard_target = wpList _ _ _ (Oper.mk _ (.load 28 _) _ _ _ _ :: _) _ _; refine wpList_load_blkG (by rfl) 28 _ rfl (w2.heap.size) rfl 28 M2 _ (hx5) Try.underlying28 rfl (by rw [hs2]; kernel_rfl) ?_)
      | (guard_target = wpList _ _ _ (Oper.mk _ (.load 28 _) _ _ _ _ :: _) _ _; refine wpList_load_blkG (by rfl) 28 _ rfl (w4.heap.size) rfl 28 M3 _ (hS5) Try.underlying28 rfl (by rw [hs3]; kernel_rfl) ?_)
      | (go_at_call 15; refine HSM.out.mono ?_; rintro e w6 ⟨rfl, hb6⟩; have HEND := Lib.hid (hw5.trans (hb6.mono hw5.size)); clear hb6))
    go_ret
    exact ⟨rfl, HEND.out⟩
  | error k =>
    have HRP := Lib.hid (read_no ((readP_readM bs).1 k hq))
    have hz : (msgA (zeroRaw 0) nilS nilS nilS).size = 41 := arr_size _ _
    have hza : (msgA (zeroRaw 0) nilS nilS nilS).all (·.oneCell') = true := msg_all (zero_rd w (fun _ => False) 0)
    have HSZZ := Lib.hid fun W => same_yes (zero_like' 0) nilS nilS nilS nilS nilS nilS W (zero_rd W _ 0) (zero_rd W _ 0)
    rw [hq] at hrr
    obtain ⟨Z, hZ⟩ : ∃ Z, msgA (zeroRaw 0) nilS nilS nilS = Z := ⟨_, rfl⟩
    simp only [hZ] at hrr
    rw [hZ] at HRP hz hza HSZZ
    have HZS := Lib.hid hz
    have HZA := Lib.hid hza
    have HRR := Lib.hid hrr
    obtain ⟨n, hn⟩ : ∃ n, bs.length = n := ⟨_, rfl⟩
    rw [hn] at RDB HRP ⊢
    clear hrr hq hz hza hZ hb hlen hn
    go_enter Try.func4, Try.ntmps4
    go_wp2_with (first
      | (go_at_call 10; refine (packs_any _).mono ?_; rintro e w1 ⟨rfl, hb1⟩)
      | (go_at_call 13; refine (HRP.out _ _ _ (RDB.out w1 hb1)).mono ?_; rintro e w2 ⟨⟨rfl, -⟩, hb2⟩; have hw2 := hb1.trans (hb2.mono hb1.size); clear hb2)
      | (guard_target = wpList _ _ _ (Oper.mk _ (.store 28 _ _) _ _ _ _ :: _) _ _; refine wpList_store_arrW rfl 28 _ _ rfl w2.heap.size Z rfl rfl 28 _ (Blk.new _ _ _) (by rw [HZS.out]; kernel_rfl) (by rw [HZS.out]; rfl) HZA.out ?_; intro W3 hS3 hz3 hb3 ho3; have hw3 := hw2.trans ((((Below.refl _ w2).alloc (Nat.le_refl _) _).trans hb3).mono hw2.size); have hcv := str_rd (RDB.out W3 hw3); clear hz3 hb3 ho3 hw2 HRP)
      | (go_at_call 14; refine (HRR.out _).mono ?_; rintro e w4 ⟨rfl, hb4⟩; have hw4 := hw3.trans (hb4.mono hw3.size); have hS4 := hS3.below hb4 hS3.lt; clear hb4 hcv hS3 hw3)
      | (guard_target = wpList _ _ _ (Oper.mk _ (.store 28 _ _) _ _ _ _ :: _) _ _; refine wpList_store_arrW rfl 28 _ _ rfl w4.heap.size Z rfl rfl 28 _ (Blk.new _ _ _) (by rw [HZS.out]; kernel_rfl) (by rw [HZS.out]; rfl) HZA.out ?_; intro W5 hS5 hz5 hb5 ho5; have hw5 := hw4.trans ((((Below.refl _ w4).alloc (Nat.le_refl _) _).trans hb5).mono hw4.size); have hx5 : Blk W5 w2.heap.size 28 Z := ((ho5 _ (by have := hS4.lt; omega)).trans (Below.heap_alloc w4 _ _ hS4.lt)).trans hS4; have HSM := Lib.hid (HSZZ.out W5); clear hz5 hb5 ho5 hw4 hS4)
      | (guard_target = wpList _ _ _ (Oper.mk _ (.load 28 _) _ _ _ _ :: _) _ _; refine wpList_load_blkG (by rfl) 28 _ rfl (w2.heap.size) rfl 28 Z _ (hx5) Try.underlying28 rfl (by rw [HZS.out]; kernel_rfl) ?_)
      | (guard_target = wpList _ _ _ (Oper.mk _ (.load 28 _) _ _ _ _ :: _) _ _; refine wpList_load_blkG (by rfl) 28 _ rfl (w4.heap.size) rfl 28 Z _ (hS5) Try.underlying28 rfl (by rw [HZS.out]; kernel_rfl) ?_)
      | (go_at_call 15; refine HSM.out.mono ?_; rintro e w6 ⟨rfl, hb6⟩; have HEND := Lib.hid (hw5.trans (hb6.mono hw5.size)); clear hb6))
    go_ret
    exact ⟨rfl, HEND.out⟩
end Go.Proofs.Ytngceddlieimmaa
