/-
  PackCut's walk: for every message that reads, every place and every byte, in whatever memory: true; nothing old turns.
-/
import Derived.Test.YtngceddlieimmaaPackLawKit
namespace Go.Proofs.Ytngceddlieimmaa
open Go Go.RowKit PackMath

set_option maxRecDepth 100000 in
set_option maxHeartbeats 8000000 in
theorem cut_any (r : Raw) (d i l : Value) (a : Int) (x : UInt8) (w : World) (hr : RdR w (fun b => b < w.heap.size) r d i l) :
    Calls Try.prog 6 #[.agg (msgA r d i l), .int .i64 a, .int .u8 (x.toNat : Int)] w fun e w' => e = .returned (.bool true) ∧ Below w.heap.size w w' := by
  have hb1 : Below w.heap.size w (w.alloc (.cells (msgA r d i l) 28)) := (Below.refl _ _).alloc (Nat.le_refl _) _
  have hx : Blk (w.alloc (.cells (msgA r d i l) 28)) w.heap.size 28 (msgA r d i l) := Blk.new _ _ _
  have hs : (msgA r d i l).size = 41 := arr_size _ _
  have RD2 : Hid (∀ W, Below w.heap.size w W → RdR W (fun b => b < W.heap.size) r d i l) := Lib.hid fun W hb => (hr.below hb).mono fun b hb' => Nat.lt_of_lt_of_le hb' hb.size
  by_cases hf : r.Fit
  · have W1 := Lib.hid fun W hb => callsIn_wide.1 (write_ok r hf d i l W (RD2.out W hb))
    by_cases h0 : 0 ≤ a
    · by_cases h1 : a < ((writeM r.m).length : Int)
      · cases hq : readP ((writeM r.m).take a.toNat) with
        | error k2 =>
          have hlen : (writeM r.m).length ≤ 1073741824 := write_len hf.ok
          have hpos := writeM_pos r.m
          obtain ⟨k0, hk0⟩ := read_more hf.ok x
          have hpm := (readP_readM _).1 _ hk0
          have HRM := Lib.hid (read_no hpm)
          have hz : (msgA (zeroRaw 0) nilS nilS nilS).size = 41 := arr_size _ _
          have hza : (msgA (zeroRaw 0) nilS nilS nilS).all (·.oneCell') = true := msg_all (zero_rd w (fun _ => False) 0)
          obtain ⟨N, rfl⟩ : ∃ N : Nat, a = (N : Int) := ⟨a.toNat, by omega⟩
          rw [Int.toNat_natCast] at hq
          have hN : N < (writeM r.m).length := by omega
          have HRC := Lib.hid (read_no hq)
          rw [List.length_take, Nat.min_eq_left (Nat.le_of_lt hN)] at HRC
          obtain ⟨M, hM⟩ : ∃ M, msgA r d i l = M := ⟨_, rfl⟩
          obtain ⟨Z, hZ⟩ : ∃ Z, msgA (zeroRaw 0) nilS nilS nilS = Z := ⟨_, rfl⟩
          obtain ⟨bs, hbs⟩ : ∃ bs, writeM r.m = bs := ⟨_, rfl⟩
          obtain ⟨L, hL⟩ : ∃ L, bs.length = L := ⟨_, rfl⟩
          rw [hM] at hb1 hx hs W1 ⊢
          rw [hbs] at W1 HRM hlen hpos HRC hN
          rw [List.length_append, List.length_singleton] at HRM
          rw [hL] at W1 HRM hlen hpos hN
          rw [hZ] at HRM hz hza HRC
          have HL := Lib.hid (And.intro hL (And.intro hlen hpos))
          have HB := Lib.hid hb1
          have HSZ := Lib.hid hs
          have HZS := Lib.hid hz
          have HZA := Lib.hid hza
          have hNL : (N : Int) < (L : Int) := by omega
          have hN2 : N < L := by omega
          clear hb1 hs hM hr hf hbs hlen hpos hL hk0 hpm hz hza hZ hq hN
          go_enter Try.func6, Try.ntmps6
          go_wp2_with (first
            | (go_at_call 10; refine (packs_any _).mono ?_; rintro e w1 ⟨rfl, hb1⟩; have hx1 := hx.below hb1 (by simp); have hw1 := HB.out.trans (hb1.mono (by simp)))
            | (guard_target = wpList _ _ _ _ _ _; refine wpList_load_row rfl 28 _ rfl w.heap.size rfl 28 M (0, 0) _ hx1 Try.underlying28 rfl (by rw [HSZ.out]; kernel_rfl) ?_)
            | (go_at_call 11; refine (W1.out w1 hw1).mono ?_; rintro e w2 ⟨g, n, cap, rfl, hn, hown, hb2⟩; subst hn; have hx2 := hx1.below hb2 hx1.lt; have hw2 := hw1.trans (hb2.mono hw1.size); have hrd := own_rd hown HL.out.1.symm (by have := HL.out; omega); clear hown hb2 hx1 hw1 hb1; have HKN : Hid (N ≤ n) := Lib.hid (by omega); have hto := fun w' => run_slice_to (P := Try.prog) 24 5 Try.underlying24 (by kernel_rfl) (some ⟨g, 0, none⟩) n cap N (by obtain ⟨A', c', he, h1, -⟩ := hrd; injection he with e1 e2 e3; subst e3; have := HL.out; omega) w')
            | (go_at_call 13; refine (HRC.out _ _ _ ((hrd.firsts HKN.out).mono fun b hb => hb.2)).mono ?_; rintro e w3 ⟨⟨rfl, hk2⟩, hb3⟩; have hq1 : ¬ (k2 : Int) = 0 := (by omega); have hq2 : ((k2 : Int) == 0) = false := (by simpa using hq1); clear hk2; have hw3 := hw2.trans (hb3.mono hw2.size))
            | (guard_target = wpList _ _ _ _ _ _; refine wpList_store_arrW rfl 28 _ _ rfl w3.heap.size Z rfl rfl 28 _ (Blk.new _ _ _) (by rw [HZS.out]; kernel_rfl) (by rw [HZS.out]; rfl) HZA.out ?_; intro W9 hS9 hz9 hb9 ho9; have hw9 := hw3.trans ((((Below.refl _ w3).alloc (Nat.le_refl _) _).trans hb9).mono hw3.size); have hB9 := hb3.trans ((((Below.refl _ w3).alloc (Nat.le_refl _) _).trans hb9).mono hb3.size); have hB5 := hB9; have hw5 := hw9; have hrd5 := (hrd.kept fun a x ha h => (hB5.cell (p := a) ha.2).trans h).mono (ok' := fun b => b < W9.heap.size) (fun b hb => Nat.lt_of_lt_of_le hb.2 hB5.size); clear hB5 hB9 hw9 hrd hS9 hz9 hb9 ho9 hb3 hw3 hw2 hx2 hto; obtain ⟨g1, cap1, w6, run1, own1, hb6, hs6⟩ := app_step (B := W9.heap.size) ((Below.refl W9.heap.size W9).alloc (Nat.le_refl _) (.cells #[] 5)) (by simp) (own_none W9) (hrd5.kept (W' := W9.alloc (.cells #[] 5)) fun a x ha h => (World.cell?_of_block (Below.heap_alloc W9 _ _ ha)).trans h) (by have := HL.out; omega) (by have := HL.out; omega); rw [Nat.zero_add, List.nil_append] at own1; rw [Nat.zero_add] at run1; obtain ⟨g2, cap2, w7, run2, own2, hb7, hs7⟩ := app_step (B := W9.heap.size) (W := W9) (hb6.alloc hs6 (.cells #[bv x] 5)) (by simp; omega) (own1.alloc (.cells #[bv x] 5)) (rd_one w6 x) (by omega) (by have := HL.out; omega); have R1 := Lib.hid run1; have R2 := Lib.hid run2; have hw7 := hw5.trans (hb7.mono hw5.size); have hrd7 := own_rd own2 (by have := HL.out; simp only [List.length_append, List.length_singleton]; omega) (by have := HL.out; simp only [List.length_append, List.length_singleton]; omega); have HW7 := Lib.hid hw7; have HRD7 := Lib.hid hrd7; clear run1 run2 own1 own2 hb6 hs6 hb7 hs7 hw7 hrd7 hrd5 hw5)
            | (at_builtin; refine wpList_append_run rfl (.tmp 48) (.tmp 49) _ _ rfl _ _ rfl rfl _ _ R1.out ?_)
            | (at_builtin; refine wpList_append_run rfl (.tmp 50) (.tmp 52) _ _ rfl _ _ rfl rfl _ _ R2.out ?_)
            | (go_at_call 13; refine (HRM.out _ _ _ (HRD7.out.mono fun b hb => hb.2)).mono ?_; rintro e w8 ⟨⟨rfl, hk1⟩, hb8⟩; have hkn : ¬ (k0 : Int) = 0 := (by omega); have hkn2 : ((k0 : Int) != 0) = true := (by simpa using hkn); clear hk1; have HW8 := Lib.hid (HW7.out.trans (hb8.mono HW7.out.size)); clear hb8)
            | (guard_target = wpList _ _ _ _ _ _; refine wpList_store_arrW rfl 28 _ _ rfl w8.heap.size Z rfl rfl 28 _ (Blk.new _ _ _) (by rw [HZS.out]; kernel_rfl) (by rw [HZS.out]; rfl) HZA.out ?_; intro W10 hS10 hz10 hb10 ho10; have HW10 := Lib.hid (HW8.out.trans ((((Below.refl _ w8).alloc (Nat.le_refl _) _).trans hb10).mono HW8.out.size)); clear hS10 hz10 hb10 ho10))
          go_ret
          exact ⟨rfl, HW10.out⟩
        | ok r2 =>
          have hlen : (writeM r.m).length ≤ 1073741824 := write_len hf.ok
          have hpos := writeM_pos r.m
          obtain ⟨k0, hk0⟩ := read_more hf.ok x
          have hpm := (readP_readM _).1 _ hk0
          have HRM := Lib.hid (read_no hpm)
          have hz : (msgA (zeroRaw 0) nilS nilS nilS).size = 41 := arr_size _ _
          have hza : (msgA (zeroRaw 0) nilS nilS nilS).all (·.oneCell') = true := msg_all (zero_rd w (fun _ => False) 0)
          obtain ⟨N, rfl⟩ : ∃ N : Nat, a = (N : Int) := ⟨a.toNat, by omega⟩
          rw [Int.toNat_natCast] at hq
          have hN : N < (writeM r.m).length := by omega
          have HRC := Lib.hid (read_ok hq)
          have hnl : ¬ r2.Like r := fun h => by
            have h1 := (readP_back hq).1
            rw [like_m h] at h1
            have := congrArg List.length h1
            rw [List.length_take] at this
            omega
          have HS := Lib.hid fun d2 i2 l2 W hr2 hr1 => same_not hnl d2 i2 l2 d i l W hr2 hr1
          rw [List.length_take, Nat.min_eq_left (Nat.le_of_lt hN)] at HRC
          obtain ⟨M, hM⟩ : ∃ M, msgA r d i l = M := ⟨_, rfl⟩
          obtain ⟨Z, hZ⟩ : ∃ Z, msgA (zeroRaw 0) nilS nilS nilS = Z := ⟨_, rfl⟩
          obtain ⟨bs, hbs⟩ : ∃ bs, writeM r.m = bs := ⟨_, rfl⟩
          obtain ⟨L, hL⟩ : ∃ L, bs.length = L := ⟨_, rfl⟩
          rw [hM] at hb1 hx hs W1 HS ⊢
          rw [hbs] at W1 HRM hlen hpos HRC hN
          rw [List.length_append, List.length_singleton] at HRM
          rw [hL] at W1 HRM hlen hpos hN
          rw [hZ] at HRM hz hza
          have HL := Lib.hid (And.intro hL (And.intro hlen hpos))
          have HB := Lib.hid hb1
          have HSZ := Lib.hid hs
          have HZS := Lib.hid hz
          have HZA := Lib.hid hza
          have hNL : (N : Int) < (L : Int) := by omega
          have hN2 : N < L := by omega
          clear hb1 hs hM hr hf hbs hlen hpos hL hk0 hpm hz hza hZ hq hnl hN
          go_enter Try.func6, Try.ntmps6
          go_wp2_with (first
            | (go_at_call 10; refine (packs_any _).mono ?_; rintro e w1 ⟨rfl, hb1⟩; have hx1 := hx.below hb1 (by simp); have hw1 := HB.out.trans (hb1.mono (by simp)))
            | (guard_target = wpList _ _ _ _ _ _; refine wpList_load_row rfl 28 _ rfl w.heap.size rfl 28 M (0, 0) _ hx1 Try.underlying28 rfl (by rw [HSZ.out]; kernel_rfl) ?_)
            | (go_at_call 11; refine (W1.out w1 hw1).mono ?_; rintro e w2 ⟨g, n, cap, rfl, hn, hown, hb2⟩; subst hn; have hx2 := hx1.below hb2 hx1.lt; have hw2 := hw1.trans (hb2.mono hw1.size); have hrd := own_rd hown HL.out.1.symm (by have := HL.out; omega); clear hown hb2 hx1 hw1 hb1; have HKN : Hid (N ≤ n) := Lib.hid (by omega); have hto := fun w' => run_slice_to (P := Try.prog) 24 5 Try.underlying24 (by kernel_rfl) (some ⟨g, 0, none⟩) n cap N (by obtain ⟨A', c', he, h1, -⟩ := hrd; injection he with e1 e2 e3; subst e3; have := HL.out; omega) w')
            | (go_at_call 13; refine (HRC.out _ _ _ ((hrd.firsts HKN.out).mono fun b hb => hb.2)).mono ?_; rintro e w3 ⟨⟨d2, i2, l2, rfl, hR3⟩, hb3⟩; have hw3 := hw2.trans (hb3.mono hw2.size); have hx3 := hx2.below hb3 hx2.lt; have ha2 := msg_all hR3; have hs2 : (msgA r2 d2 i2 l2).size = 41 := arr_size _ _; have HS2 := Lib.hid (HS.out d2 i2 l2); have HR3 := Lib.hid hR3; generalize msgA r2 d2 i2 l2 = M2 at hs2 ha2 HS2 ⊢; clear hR3)
            | (guard_target = wpList _ _ _ _ _ _; refine wpList_store_arrW rfl 28 _ _ rfl w3.heap.size M2 rfl rfl 28 _ (Blk.new _ _ _) (by rw [hs2]; kernel_rfl) (by rw [hs2]; rfl) ha2 ?_; intro W9 hS9 hz9 hb9 ho9; have hw9 := hw3.trans ((((Below.refl _ w3).alloc (Nat.le_refl _) _).trans hb9).mono hw3.size); have hB9 := hb3.trans ((((Below.refl _ w3).alloc (Nat.le_refl _) _).trans hb9).mono hb3.size); have old : ∀ b, b < w3.heap.size → W9.heap[b]? = w3.heap[b]? := fun b hb => (ho9 b (by omega)).trans (Below.heap_alloc w3 _ b hb); have hx9 : Blk W9 w.heap.size 28 M := (old _ hx3.lt).trans hx3; have hR9 := (HR3.out.kept (W' := W9) fun a x ha h => (World.cell?_of_block (old a.block ha.2)).trans h).mono (ok' := fun b => b < W9.heap.size) (fun b hb => by have := hb.2; rw [hz9]; simp; omega); have HSM := Lib.hid (HS2.out W9 hR9 (RD2.out W9 hw9)); have HB9 := Lib.hid hB9; have HW9 := Lib.hid hw9; have HRD := Lib.hid hrd; clear old hR9 hB9 hw9 hrd hz9 hb9 ho9 hb3 hw3 hw2 hx2 hx3 hto)
            | (guard_target = wpList _ _ _ _ _ _; refine wpList_load_blkG (by rfl) 28 _ rfl w3.heap.size rfl 28 M2 _ hS9 Try.underlying28 rfl (by rw [hs2]; kernel_rfl) ?_)
            | (guard_target = wpList _ _ _ _ _ _; refine wpList_load_blkG (by rfl) 28 _ rfl w.heap.size rfl 28 M _ hx9 Try.underlying28 rfl (by rw [HSZ.out]; kernel_rfl) ?_)
            | (go_at_call 15; refine HSM.out.mono ?_; rintro e w5 ⟨rfl, hb5⟩; have hw5 := HW9.out.trans (hb5.mono HW9.out.size); have hB5 := HB9.out.trans (hb5.mono HB9.out.size); have hrd := HRD.out; have hrd5 := (hrd.kept fun a x ha h => (hB5.cell (p := a) ha.2).trans h).mono (ok' := fun b => b < w5.heap.size) (fun b hb => Nat.lt_of_lt_of_le hb.2 hB5.size); clear hB5 hrd hb5 hS9 hx9; obtain ⟨g1, cap1, w6, run1, own1, hb6, hs6⟩ := app_step (B := w5.heap.size) ((Below.refl w5.heap.size w5).alloc (Nat.le_refl _) (.cells #[] 5)) (by simp) (own_none w5) (hrd5.kept (W' := w5.alloc (.cells #[] 5)) fun a x ha h => (World.cell?_of_block (Below.heap_alloc w5 _ _ ha)).trans h) (by have := HL.out; omega) (by have := HL.out; omega); rw [Nat.zero_add, List.nil_append] at own1; rw [Nat.zero_add] at run1; obtain ⟨g2, cap2, w7, run2, own2, hb7, hs7⟩ := app_step (B := w5.heap.size) (W := w5) (hb6.alloc hs6 (.cells #[bv x] 5)) (by simp; omega) (own1.alloc (.cells #[bv x] 5)) (rd_one w6 x) (by omega) (by have := HL.out; omega); have R1 := Lib.hid run1; have R2 := Lib.hid run2; have hw7 := hw5.trans (hb7.mono hw5.size); have hrd7 := own_rd own2 (by have := HL.out; simp only [List.length_append, List.length_singleton]; omega) (by have := HL.out; simp only [List.length_append, List.length_singleton]; omega); have HW7 := Lib.hid hw7; have HRD7 := Lib.hid hrd7; clear run1 run2 own1 own2 hb6 hs6 hb7 hs7 hw7 hrd7 hrd5 hw5)
            | (at_builtin; refine wpList_append_run rfl (.tmp 48) (.tmp 49) _ _ rfl _ _ rfl rfl _ _ R1.out ?_)
            | (at_builtin; refine wpList_append_run rfl (.tmp 50) (.tmp 52) _ _ rfl _ _ rfl rfl _ _ R2.out ?_)
            | (go_at_call 13; refine (HRM.out _ _ _ (HRD7.out.mono fun b hb => hb.2)).mono ?_; rintro e w8 ⟨⟨rfl, hk1⟩, hb8⟩; have hkn : ¬ (k0 : Int) = 0 := (by omega); have hkn2 : ((k0 : Int) != 0) = true := (by simpa using hkn); clear hk1; have HW8 := Lib.hid (HW7.out.trans (hb8.mono HW7.out.size)); clear hb8)
            | (guard_target = wpList _ _ _ _ _ _; refine wpList_store_arrW rfl 28 _ _ rfl w8.heap.size Z rfl rfl 28 _ (Blk.new _ _ _) (by rw [HZS.out]; kernel_rfl) (by rw [HZS.out]; rfl) HZA.out ?_; intro W10 hS10 hz10 hb10 ho10; have HW10 := Lib.hid (HW8.out.trans ((((Below.refl _ w8).alloc (Nat.le_refl _) _).trans hb10).mono HW8.out.size)); clear hS10 hz10 hb10 ho10))
          go_ret
          exact ⟨rfl, HW10.out⟩
      · have hlen : (writeM r.m).length ≤ 1073741824 := write_len hf.ok
        have hpos := writeM_pos r.m
        obtain ⟨k0, hk0⟩ := read_more hf.ok x
        have hpm := (readP_readM _).1 _ hk0
        have HRM := Lib.hid (read_no hpm)
        have hz : (msgA (zeroRaw 0) nilS nilS nilS).size = 41 := arr_size _ _
        have hza : (msgA (zeroRaw 0) nilS nilS nilS).all (·.oneCell') = true := msg_all (zero_rd w (fun _ => False) 0)
        obtain ⟨M, hM⟩ : ∃ M, msgA r d i l = M := ⟨_, rfl⟩
        obtain ⟨Z, hZ⟩ : ∃ Z, msgA (zeroRaw 0) nilS nilS nilS = Z := ⟨_, rfl⟩
        obtain ⟨bs, hbs⟩ : ∃ bs, writeM r.m = bs := ⟨_, rfl⟩
        obtain ⟨L, hL⟩ : ∃ L, bs.length = L := ⟨_, rfl⟩
        rw [hM] at hb1 hx hs W1 ⊢
        rw [hbs] at W1 HRM hlen hpos h1
        rw [List.length_append, List.length_singleton] at HRM
        rw [hL] at W1 HRM hlen hpos h1
        rw [hZ] at HRM hz hza
        have HL := Lib.hid (And.intro hL (And.intro hlen hpos))
        have HB := Lib.hid hb1
        have HSZ := Lib.hid hs
        have HZS := Lib.hid hz
        have HZA := Lib.hid hza
        have ha1 : ¬ a < (L : Int) := by omega
        have ha2 : decide (a < (L : Int)) = false := decide_eq_false ha1
        clear hb1 hs hM hr hf hbs hlen hpos hL hk0 hpm hz hza hZ h1
        go_enter Try.func6, Try.ntmps6
        go_wp2_with (first
          | (go_at_call 10; refine (packs_any _).mono ?_; rintro e w1 ⟨rfl, hb1⟩; have hx1 := hx.below hb1 (by simp); have hw1 := HB.out.trans (hb1.mono (by simp)))
          | (guard_target = wpList _ _ _ _ _ _; refine wpList_load_row rfl 28 _ rfl w.heap.size rfl 28 M (0, 0) _ hx1 Try.underlying28 rfl (by rw [HSZ.out]; kernel_rfl) ?_)
          | (go_at_call 11; refine (W1.out w1 hw1).mono ?_; rintro e w2 ⟨g, n, cap, rfl, hn, hown, hb2⟩; subst hn; have hx2 := hx1.below hb2 hx1.lt; have hw2 := hw1.trans (hb2.mono hw1.size); have hrd := own_rd hown HL.out.1.symm (by have := HL.out; omega); clear hown hb2 hx1 hw1 hb1; have hw5 := hw2; have hrd5 := hrd.mono (ok' := fun b => b < w2.heap.size) fun b hb => hb.2; clear hrd hw2 hx2; obtain ⟨g1, cap1, w6, run1, own1, hb6, hs6⟩ := app_step (B := w2.heap.size) ((Below.refl w2.heap.size w2).alloc (Nat.le_refl _) (.cells #[] 5)) (by simp) (own_none w2) (hrd5.kept (W' := w2.alloc (.cells #[] 5)) fun a x ha h => (World.cell?_of_block (Below.heap_alloc w2 _ _ ha)).trans h) (by have := HL.out; omega) (by have := HL.out; omega); rw [Nat.zero_add, List.nil_append] at own1; rw [Nat.zero_add] at run1; obtain ⟨g2, cap2, w7, run2, own2, hb7, hs7⟩ := app_step (B := w2.heap.size) (W := w2) (hb6.alloc hs6 (.cells #[bv x] 5)) (by simp; omega) (own1.alloc (.cells #[bv x] 5)) (rd_one w6 x) (by omega) (by have := HL.out; omega); have R1 := Lib.hid run1; have R2 := Lib.hid run2; have hw7 := hw5.trans (hb7.mono hw5.size); have hrd7 := own_rd own2 (by have := HL.out; simp only [List.length_append, List.length_singleton]; omega) (by have := HL.out; simp only [List.length_append, List.length_singleton]; omega); have HW7 := Lib.hid hw7; have HRD7 := Lib.hid hrd7; clear run1 run2 own1 own2 hb6 hs6 hb7 hs7 hw7 hrd7 hrd5 hw5)
          | (at_builtin; refine wpList_append_run rfl (.tmp 48) (.tmp 49) _ _ rfl _ _ rfl rfl _ _ R1.out ?_)
          | (at_builtin; refine wpList_append_run rfl (.tmp 50) (.tmp 52) _ _ rfl _ _ rfl rfl _ _ R2.out ?_)
          | (go_at_call 13; refine (HRM.out _ _ _ (HRD7.out.mono fun b hb => hb.2)).mono ?_; rintro e w8 ⟨⟨rfl, hk1⟩, hb8⟩; have hkn : ¬ (k0 : Int) = 0 := (by omega); have hkn2 : ((k0 : Int) != 0) = true := (by simpa using hkn); clear hk1; have HW8 := Lib.hid (HW7.out.trans (hb8.mono HW7.out.size)); clear hb8)
          | (guard_target = wpList _ _ _ _ _ _; refine wpList_store_arrW rfl 28 _ _ rfl w8.heap.size Z rfl rfl 28 _ (Blk.new _ _ _) (by rw [HZS.out]; kernel_rfl) (by rw [HZS.out]; rfl) HZA.out ?_; intro W10 hS10 hz10 hb10 ho10; have HW10 := Lib.hid (HW8.out.trans ((((Below.refl _ w8).alloc (Nat.le_refl _) _).trans hb10).mono HW8.out.size)); clear hS10 hz10 hb10 ho10))
        go_ret
        exact ⟨rfl, HW10.out⟩
    · have hlen : (writeM r.m).length ≤ 1073741824 := write_len hf.ok
      have hpos := writeM_pos r.m
      obtain ⟨k0, hk0⟩ := read_more hf.ok x
      have hpm := (readP_readM _).1 _ hk0
      have HRM := Lib.hid (read_no hpm)
      have hz : (msgA (zeroRaw 0) nilS nilS nilS).size = 41 := arr_size _ _
      have hza : (msgA (zeroRaw 0) nilS nilS nilS).all (·.oneCell') = true := msg_all (zero_rd w (fun _ => False) 0)
      obtain ⟨M, hM⟩ : ∃ M, msgA r d i l = M := ⟨_, rfl⟩
      obtain ⟨Z, hZ⟩ : ∃ Z, msgA (zeroRaw 0) nilS nilS nilS = Z := ⟨_, rfl⟩
      obtain ⟨bs, hbs⟩ : ∃ bs, writeM r.m = bs := ⟨_, rfl⟩
      obtain ⟨L, hL⟩ : ∃ L, bs.length = L := ⟨_, rfl⟩
      rw [hM] at hb1 hx hs W1 ⊢
      rw [hbs] at W1 HRM hlen hpos
      rw [List.length_append, List.length_singleton] at HRM
      rw [hL] at W1 HRM hlen hpos
      rw [hZ] at HRM hz hza
      have HL := Lib.hid (And.intro hL (And.intro hlen hpos))
      have HB := Lib.hid hb1
      have HSZ := Lib.hid hs
      have HZS := Lib.hid hz
      have HZA := Lib.hid hza
      have ha1 : ¬ 0 ≤ a := by omega
      have ha2 : decide (0 ≤ a) = false := decide_eq_false ha1
      clear hb1 hs hM hr hf hbs hlen hpos hL hk0 hpm hz hza hZ h0
      go_enter Try.func6, Try.ntmps6
      go_wp2_with (first
        | (go_at_call 10; refine (packs_any _).mono ?_; rintro e w1 ⟨rfl, hb1⟩; have hx1 := hx.below hb1 (by simp); have hw1 := HB.out.trans (hb1.mono (by simp)))
        | (guard_target = wpList _ _ _ _ _ _; refine wpList_load_row rfl 28 _ rfl w.heap.size rfl 28 M (0, 0) _ hx1 Try.underlying28 rfl (by rw [HSZ.out]; kernel_rfl) ?_)
        | (go_at_call 11; refine (W1.out w1 hw1).mono ?_; rintro e w2 ⟨g, n, cap, rfl, hn, hown, hb2⟩; subst hn; have hx2 := hx1.below hb2 hx1.lt; have hw2 := hw1.trans (hb2.mono hw1.size); have hrd := own_rd hown HL.out.1.symm (by have := HL.out; omega); clear hown hb2 hx1 hw1 hb1; have hw5 := hw2; have hrd5 := hrd.mono (ok' := fun b => b < w2.heap.size) fun b hb => hb.2; clear hrd hw2 hx2; obtain ⟨g1, cap1, w6, run1, own1, hb6, hs6⟩ := app_step (B := w2.heap.size) ((Below.refl w2.heap.size w2).alloc (Nat.le_refl _) (.cells #[] 5)) (by simp) (own_none w2) (hrd5.kept (W' := w2.alloc (.cells #[] 5)) fun a x ha h => (World.cell?_of_block (Below.heap_alloc w2 _ _ ha)).trans h) (by have := HL.out; omega) (by have := HL.out; omega); rw [Nat.zero_add, List.nil_append] at own1; rw [Nat.zero_add] at run1; obtain ⟨g2, cap2, w7, run2, own2, hb7, hs7⟩ := app_step (B := w2.heap.size) (W := w2) (hb6.alloc hs6 (.cells #[bv x] 5)) (by simp; omega) (own1.alloc (.cells #[bv x] 5)) (rd_one w6 x) (by omega) (by have := HL.out; omega); have R1 := Lib.hid run1; have R2 := Lib.hid run2; have hw7 := hw5.trans (hb7.mono hw5.size); have hrd7 := own_rd own2 (by have := HL.out; simp only [List.length_append, List.length_singleton]; omega) (by have := HL.out; simp only [List.length_append, List.length_singleton]; omega); have HW7 := Lib.hid hw7; have HRD7 := Lib.hid hrd7; clear run1 run2 own1 own2 hb6 hs6 hb7 hs7 hw7 hrd7 hrd5 hw5)
        | (at_builtin; refine wpList_append_run rfl (.tmp 48) (.tmp 49) _ _ rfl _ _ rfl rfl _ _ R1.out ?_)
        | (at_builtin; refine wpList_append_run rfl (.tmp 50) (.tmp 52) _ _ rfl _ _ rfl rfl _ _ R2.out ?_)
        | (go_at_call 13; refine (HRM.out _ _ _ (HRD7.out.mono fun b hb => hb.2)).mono ?_; rintro e w8 ⟨⟨rfl, hk1⟩, hb8⟩; have hkn : ¬ (k0 : Int) = 0 := (by omega); have hkn2 : ((k0 : Int) != 0) = true := (by simpa using hkn); clear hk1; have HW8 := Lib.hid (HW7.out.trans (hb8.mono HW7.out.size)); clear hb8)
        | (guard_target = wpList _ _ _ _ _ _; refine wpList_store_arrW rfl 28 _ _ rfl w8.heap.size Z rfl rfl 28 _ (Blk.new _ _ _) (by rw [HZS.out]; kernel_rfl) (by rw [HZS.out]; rfl) HZA.out ?_; intro W10 hS10 hz10 hb10 ho10; have HW10 := Lib.hid (HW8.out.trans ((((Below.refl _ w8).alloc (Nat.le_refl _) _).trans hb10).mono HW8.out.size)); clear hS10 hz10 hb10 ho10))
      go_ret
      exact ⟨rfl, HW10.out⟩
  · have W1 := Lib.hid fun W hb => write_no r hf d i l W (RD2.out W hb)
    have hk0 : r.check ≠ 0 := fun h => hf (r.fit_iff.1 h)
    obtain ⟨M, hM⟩ : ∃ M, msgA r d i l = M := ⟨_, rfl⟩
    obtain ⟨k, hk⟩ : ∃ k, r.check = k := ⟨_, rfl⟩
    rw [hM] at hb1 hx hs W1 ⊢
    rw [hk] at W1 hk0
    have hk1 : ¬ (k : Int) = 0 := by omega
    have hk2 : ((k : Int) != 0) = true := by simpa using hk1
    have HB := Lib.hid hb1
    have HSZ := Lib.hid hs
    clear hb1 hs hM hr hf RD2 hk hk0
    go_enter Try.func6, Try.ntmps6
    go_wp2_with (first
      | (go_at_call 10; refine (packs_any _).mono ?_; rintro e w1 ⟨rfl, hb1⟩; have hx1 := hx.below hb1 (by simp); have hw1 := HB.out.trans (hb1.mono (by simp)))
      | (guard_target = wpList _ _ _ _ _ _; refine wpList_load_row rfl 28 _ rfl w.heap.size rfl 28 M (0, 0) _ hx1 Try.underlying28 rfl (by rw [HSZ.out]; kernel_rfl) ?_)
      | (go_at_call 11; refine (W1.out w1 hw1).mono ?_; rintro e w2 ⟨rfl, hb2⟩; have HW2 := Lib.hid (hw1.trans (hb2.mono hw1.size)); clear hb2 hw1 hx1))
    go_ret
    exact ⟨rfl, HW2.out⟩
end Go.Proofs.Ytngceddlieimmaa
