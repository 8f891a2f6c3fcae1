/-
  PackLeaves' walk: for every message that reads, in whatever memory: true; nothing old turns.
-/
import Derived.Test.YtngceddlieimmaaPackLawKit
namespace Go.Proofs.Ytngceddlieimmaa
open Go Go.RowKit PackMath

theorem set_ints {cs : Array Value} {n : Nat} (h : ∀ j, j < n → ∃ y : Int, cs[j]? = some (.int .u8 y)) (k : Nat) (z : Int) : ∀ j, j < n → ∃ y : Int, (cs.setIfInBounds k (.int .u8 z))[j]? = some (.int .u8 y) := fun j hj => by
  obtain ⟨y, hy⟩ := h j hj
  rw [Array.getElem?_setIfInBounds]
  have hs : j < cs.size := by
    rcases Nat.lt_or_ge j cs.size with h' | h'
    · exact h'
    · rw [Array.getElem?_eq_none h'] at hy; cases hy
  by_cases hkj : k = j
  · subst hkj; exact ⟨z, by simp [hs]⟩
  · exact ⟨y, by simp [hkj, hy]⟩
set_option maxRecDepth 100000 in
set_option maxHeartbeats 4000000 in
theorem leaves_any (r : Raw) (d i l : Value) (w : World) (hr : RdR w (fun b => b < w.heap.size) r d i l) :
    Calls Try.prog 7 #[.agg (msgA r d i l)] w fun e w' => e = .returned (.bool true) ∧ Below w.heap.size w w' := by
  have hb1 : Below w.heap.size w (w.alloc (.cells (msgA r d i l) 28)) := (Below.refl _ _).alloc (Nat.le_refl _) _
  have hx : Blk (w.alloc (.cells (msgA r d i l) 28)) w.heap.size 28 (msgA r d i l) := Blk.new _ _ _
  have hs : (msgA r d i l).size = 41 := arr_size _ _
  have RD : Hid (∀ W, Below w.heap.size w W → RdR W (fun b => b < w.heap.size) r d i l) := Lib.hid fun W hb => hr.below hb
  have RD2 : Hid (∀ W, Below w.heap.size w W → RdR W (fun b => b < W.heap.size) r d i l) := Lib.hid fun W hb => (hr.below hb).mono fun b hb' => Nat.lt_of_lt_of_le hb' hb.size
  by_cases hf : r.Fit
  · have W1 := Lib.hid fun W hb => callsIn_wide.1 (write_ok r hf d i l W (RD2.out W hb))
    have hlen : (writeM r.m).length ≤ 1073741824 := write_len hf.ok
    have hpos := writeM_pos r.m
    obtain ⟨r2, hrp, hrm, hrn⟩ := readP_write hf
    have HLK := Lib.hid (like_of hrm hrn hf.nn)
    have HR := Lib.hid (read_ok hrp)
    have HS := Lib.hid fun d2 i2 l2 W hr2 hr1 => same_yes HLK.out d2 i2 l2 d i l W hr2 hr1
    obtain ⟨M, hM⟩ : ∃ M, msgA r d i l = M := ⟨_, rfl⟩
    obtain ⟨bs, hbs⟩ : ∃ bs, writeM r.m = bs := ⟨_, rfl⟩
    obtain ⟨L, hL⟩ : ∃ L, bs.length = L := ⟨_, rfl⟩
    rw [hM] at hb1 hx hs W1 HS ⊢
    rw [hbs] at W1 HR hlen hpos
    rw [hL] at W1 HR hlen hpos
    have HL := Lib.hid (And.intro hL (And.intro hlen hpos))
    have HB := Lib.hid hb1
    have HSZ := Lib.hid hs
    clear hb1 hs hM hr hf hbs hlen hpos hrp hrm hrn hL
    go_enter Try.func7, Try.ntmps7
    go_wp2_with (first
      | (go_at_call 10; refine (packs_any _).mono ?_; rintro e w1 ⟨rfl, hb1⟩; have hx1 := hx.below hb1 (by simp); have hw1 := HB.out.trans (hb1.mono (by simp)))
      | (guard_target = wpList _ _ _ _ _ _; refine wpList_load_row rfl 28 _ rfl w.heap.size rfl 28 M (0, 0) _ hx1 Try.underlying28 rfl (by rw [HSZ.out]; kernel_rfl) ?_)
      | (go_at_call 11; refine (W1.out w1 hw1).mono ?_; rintro e w2 ⟨g, n, cap, rfl, hn, hown, hb2⟩; subst hn; have hx2 := hx1.below hb2 hx1.lt; have hw2 := hw1.trans (hb2.mono hw1.size); have hrd := own_rd hown HL.out.1.symm (by have := HL.out; omega); obtain ⟨g1, cap1, w3, run1, own1, hb3, hs3⟩ := app_step (B := w2.heap.size) ((Below.refl w2.heap.size w2).alloc (Nat.le_refl _) (.cells #[] 5)) (by simp) (own_none w2) (hrd.kept (W' := w2.alloc (.cells #[] 5)) fun a x ha h => (World.cell?_of_block (Below.heap_alloc w2 _ _ ha.2)).trans h) (by have := HL.out; omega) (by have := HL.out; omega); rw [Nat.zero_add, List.nil_append] at own1; rw [Nat.zero_add] at run1; have hw3 := hw2.trans (hb3.mono hw2.size); have hx3 := hx2.below hb3 hx2.lt; have R1 := Lib.hid run1; have hrd3 := own_rd own1 HL.out.1.symm (by have := HL.out; omega); have O1 := Lib.hid own1; have HB3 := Lib.hid hb3; have HX2 := Lib.hid hx2.lt; clear run1 own1 hown hrd hb3 hs3)
      | (at_builtin; refine wpList_append_run rfl (.tmp 18) (.tmp 19) _ _ rfl _ _ rfl rfl _ _ R1.out ?_)
      | (go_at_call 13; refine (HR.out _ _ _ (hrd3.mono fun b hb => hb.2)).mono ?_; rintro e w4 ⟨⟨d2, i2, l2, rfl, hR4⟩, hb4⟩; have hx4 := hx3.below hb4 hx3.lt; have hw4 := hw3.trans (hb4.mono hw3.size); have ha2 := msg_all hR4; have hs2 : (msgA r2 d2 i2 l2).size = 41 := arr_size _ _; have HS2 := Lib.hid (HS.out d2 i2 l2); have HR4 := Lib.hid hR4; generalize msgA r2 d2 i2 l2 = M2 at hs2 ha2 HS2 ⊢; clear hR4)
      | (guard_target = wpList _ _ _ _ _ _; refine wpList_store_arrW rfl 28 _ _ rfl w4.heap.size M2 rfl rfl 28 _ (Blk.new _ _ _) (by rw [hs2]; kernel_rfl) (by rw [hs2]; rfl) ha2 ?_; intro W9 hS9 hz9 hb9 ho9; have HO9 := Lib.hid ho9; have HZ9 := Lib.hid hz9; have HB9 := Lib.hid hb9; clear ho9 hz9 hb9))
    obtain ⟨cs0, hcs0⟩ := ownsRow_cells O1.out
    have hg1 := O1.out.lt g1 rfl
    have hn := HL.out
    have hw2s := HX2.out
    have h34 := hb4.size
    have hj : ∀ j, j < n → ∃ y : Int, cs0[j]? = some (.int .u8 y) := fun j hj => by
      have h1 := O1.out.cells (g := g1) rfl j (bv (bs.getD j 0)) (by rw [List.getElem?_map, List.getElem?_eq_getElem (by omega), List.getD_eq_getElem?_getD, List.getElem?_eq_getElem (by omega)]; rfl)
      rw [add_zero_block, cell_of_row w3 g1 j cs0 _ (0, 0) hcs0] at h1
      exact ⟨_, h1⟩
    have old : ∀ b, b < w4.heap.size → W9.heap[b]? = w4.heap[b]? := fun b hb => (HO9.out b (by omega)).trans (Below.heap_alloc w4 _ b hb)
    have hB9 : Blk W9 g1 5 cs0 := (old g1 (by omega)).trans ((hb4.block g1 (by omega)).trans hcs0)
    have hM9 : Blk W9 w.heap.size 28 M := (old _ (by omega)).trans hx4
    have hbW : Below w.heap.size w W9 := hw4.trans ((((Below.refl _ w4).alloc (Nat.le_refl _) _).trans HB9.out).mono hw4.size)
    have hR9 : RdR W9 (fresh w3 w4) r2 d2 i2 l2 := HR4.out.kept fun a x ha h => (World.cell?_of_block (old a.block ha.2)).trans h
    have hz9 : W9.heap.size = w4.heap.size + 1 := by rw [HZ9.out]; simp
    have HALL := Lib.hid (And.intro hB9 (And.intro hM9 (And.intro hbW (And.intro hR9 (And.intro hS9 hz9)))))
    have HSZ1 := Lib.hid (And.intro hg1 (And.intro hw2s h34))
    have HJ := Lib.hid hj
    clear hcs0 hg1 hn hw2s h34 hj old hB9 hM9 hbW hR9 hS9 hz9 HO9 HZ9 HB9 HR4 hb4 hw4 hx4 hx3 hw3 hrd3 hx2 hw2 hb2 hx1 hw1 hb1 hx
    go_loopw [28] (fun v wr => ∃ (k : Nat) (cs : Array Value), k ≤ n ∧ v = .int .i64 (k : Int) ∧ Blk wr g1 5 cs ∧ (∀ j, j < n → ∃ y : Int, cs[j]? = some (.int .u8 y)) ∧ wr.heap.size = W9.heap.size ∧ (∀ b, b ≠ g1 → wr.heap[b]? = W9.heap[b]?) ∧ Below w.heap.size W9 wr) (fun v _ => n - (intOf v).toNat)
    case atStart => exact ⟨0, cs0, by omega, rfl, HALL.out.1, HJ.out, rfl, fun _ _ => rfl, Below.refl _ _⟩
    case round =>
      obtain ⟨k, cs, hk, rfl, hB, hy, hz, ho, hbl⟩ := hrel
      have HH := Lib.hid (And.intro hB (And.intro hy (And.intro hz (And.intro ho hbl))))
      clear hz ho hbl
      by_cases hlt : k < n
      · obtain ⟨y, hyk⟩ := hy k hlt
        have c1 : wr.cell? ⟨g1, k, none⟩ = some (.int .u8 y) := (hB.cell k).trans hyk
        have fz := hB.frozen k
        have hkn : (k : Int) < (n : Int) := by omega
        have hnb : (n : Int) ≤ 1073741824 := by have := HL.out; omega
        clear hy hB hyk
        go_wp2
        go_roundw
        case rel =>
          obtain ⟨hB, hy, hz, ho, hbl⟩ := HH.out
          refine ⟨k + 1, cs.setIfInBounds k _, by omega, by go_num, hB.store k _, set_ints hy k _, by rw [World.setCell]; simpa using hz, fun b hb => (Below.heap_setCell wr ⟨g1, k, none⟩ _ b (show b ≠ g1 from hb)).trans (ho b hb), hbl.setCell (show w.heap.size ≤ g1 by have := HSZ1.out; omega) _⟩
        case measure => simp [intOf]; omega
      · obtain rfl : k = n := by omega
        obtain ⟨hB', hy', hz, ho, hbl⟩ := HH.out
        obtain ⟨_, hM9, hbW, hR9, hS9, hz9⟩ := HALL.out
        have hq := HSZ1.out
        have hM' : Blk wr w.heap.size 28 M := (ho _ (by omega)).trans hM9
        have hM2' : Blk wr w4.heap.size 28 M2 := (ho _ (by omega)).trans hS9
        have hSame := HS2.out wr ((hR9.kept (W' := wr) fun a x ha h => (World.cell?_of_block (ho a.block (by have := ha.1; omega))).trans h).mono fun b hb => by have := hb.2; omega) ((RD.out wr (hbW.trans hbl)).mono fun b (hb : b < w.heap.size) => by have := hbW.size; omega)
        have HSame := Lib.hid hSame
        have HEND := Lib.hid (hbW.trans hbl)
        clear hB hy hB' hy' hz ho hbl hM9 hbW hR9 hS9 hz9 hq hSame
        go_wp2_with (first
          | (guard_target = wpList _ _ _ _ _ _; refine wpList_load_blkG (by rfl) 28 _ rfl w4.heap.size rfl 28 M2 _ hM2' Try.underlying28 rfl (by rw [hs2]; kernel_rfl) ?_)
          | (guard_target = wpList _ _ _ _ _ _; refine wpList_load_blkG (by rfl) 28 _ rfl w.heap.size rfl 28 M _ hM' Try.underlying28 rfl (by rw [HSZ.out]; kernel_rfl) ?_)
          | (go_at_call 15; refine HSame.out.mono ?_; rintro e w5 ⟨rfl, hb5⟩; have HB5 := Lib.hid hb5; clear hb5))
        go_ret
        exact ⟨rfl, HEND.out.trans (HB5.out.mono HEND.out.size)⟩
  · have W1 := Lib.hid fun W hb => write_no r hf d i l W (RD2.out W hb)
    have hk0 : r.check ≠ 0 := fun h => hf (r.fit_iff.1 h)
    obtain ⟨M, hM⟩ : ∃ M, msgA r d i l = M := ⟨_, rfl⟩
    obtain ⟨k, hk⟩ : ∃ k, r.check = k := ⟨_, rfl⟩
    rw [hM] at hb1 hx hs W1 ⊢
    rw [hk] at W1 hk0
    have hk1 : ¬ (k : Int) = 0 := by omega
    have hk2 : ((k : Int) != 0) = true := by simpa using hk1
    have HB := Lib.hid hb1
    have HSZ := Lib.hid hs
    clear hb1 hs hM hr hf RD RD2 hk hk0
    go_enter Try.func7, Try.ntmps7
    go_wp2_with (first
      | (go_at_call 10; refine (packs_any _).mono ?_; rintro e w1 ⟨rfl, hb1⟩; have hx1 := hx.below hb1 (by simp); have hw1 := HB.out.trans (hb1.mono (by simp)))
      | (guard_target = wpList _ _ _ _ _ _; refine wpList_load_row rfl 28 _ rfl w.heap.size rfl 28 M (0, 0) _ hx1 Try.underlying28 rfl (by rw [HSZ.out]; kernel_rfl) ?_)
      | (go_at_call 11; refine (W1.out w1 hw1).mono ?_; rintro e w2 ⟨rfl, hb2⟩; have HW2 := Lib.hid (hw1.trans (hb2.mono hw1.size)); clear hb2 hw1 hx1))
    go_ret
    exact ⟨rfl, HW2.out⟩
end Go.Proofs.Ytngceddlieimmaa
