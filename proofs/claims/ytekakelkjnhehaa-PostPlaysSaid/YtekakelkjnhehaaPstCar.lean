/-
  Layer 21: the guard of the laws. In whatever memory. No condition.
-/
import Derived.Test.YtekakelkjnhehaaPstSend
import Derived.Test.YtekakelkjnhehaaPackReadMath
namespace Go.Proofs.Ytekakelkjnhehaa
open Go Go.RowKit PackMath

theorem below_turn {B : Nat} {S : Nat → Prop} {w0 W W' : World} (hb : Below B w0 W) (hB : B ≤ w0.heap.size) (ht : Turn S W W') (hs : ∀ i, S i → B ≤ i) : Below B w0 W' :=
  hb.trans (ht.below (Nat.le_trans hB hb.size) (fun i hi h => by have := hs i h; omega))
def guardR : Raw := ⟨3, 0, 0, 0, 0, 4, fun _ => 0, [], [], []⟩
theorem guard_fit : guardR.Fit := ⟨by decide, by decide, by decide, by decide, by decide, by decide, by decide, by decide, by decide⟩
theorem guard_rd (W : World) (ok : Nat → Prop) : RdR W ok guardR nilS nilS nilS :=
  ⟨⟨none, 0, rfl, Nat.le_refl _, Nat.zero_le _, fun h => absurd h (by simp [guardR])⟩, ⟨none, 0, rfl, Nat.zero_le _, fun k hk => absurd hk (by simp [guardR])⟩, ⟨none, 0, rfl, Nat.zero_le _, fun k hk => absurd hk (by simp [guardR])⟩⟩
theorem guard_built : (Try.prog.built 36 [(0, .int .i64 3), (5, .int .i64 4)]).getD #[] = msgA guardR nilS nilS nilS := by kernel_rfl
def guardM : MailS := ⟨false, 1, true, 2, writeM guardR.m⟩
theorem guard_send : sendE guardR [] = 0 ∧ sendM guardR ⟨false, 1, true, 2, []⟩ [] = [guardM] := ⟨by unfold sendE; rw [if_pos guard_fit]; rfl, by unfold sendM; rw [if_pos guard_fit]; rfl⟩
theorem guard_take : atM [guardM] 0 = guardM ∧ codeM [guardM] 0 = 0 ∧ takeM [guardM] 0 = [] := ⟨rfl, rfl, rfl⟩
theorem guard_read : ∃ r2, readP (writeM guardR.m) = .ok r2 ∧ r2.num = 4 := by
  obtain ⟨r2, h1, h2, h3⟩ := readP_write guard_fit
  refine ⟨r2, h1, ?_⟩
  have h4 : r2.num.toNat = 4 := congrArg M.num h2
  have := h3.num
  omega
set_option maxRecDepth 100000 in
set_option maxHeartbeats 4000000 in
theorem carries_any (w : World) : Calls Try.prog 6 #[] w fun e w' => e = .returned (.bool true) ∧ Below w.heap.size w w' := by
  have hgb := guard_built
  obtain ⟨M, hM⟩ : ∃ M, msgA guardR nilS nilS nilS = M := ⟨_, rfl⟩
  have hpost := post_new w
  have hsd := postSend_any guardR nilS nilS nilS false true 1 2 hpost (guard_rd _ _)
  rw [guard_send.1, guard_send.2, hM] at hsd
  rw [hM] at hgb
  have HGB := Lib.hid hgb
  have HSD := Lib.hid hsd
  have hb0 : Below w.heap.size w (w.alloc (.cells #[.slice none 0 0] 26)) := (Below.refl _ _).alloc (Nat.le_refl _) _
  have HB0 := Lib.hid hb0
  clear hgb hsd hM hpost hb0
  go_enter Try.func6, Try.ntmps6
  go_upto_region 4 with (first
    | (guard_target = wpList _ _ _ (Oper.mk _ (.build 36 _) _ _ _ _ :: _) _ _; refine wpList_build rfl 36 _ rfl (by kernel_rfl) ?_; simp only [List.map_toArray, List.map_cons, List.map_nil])
    | (go_at_call 10; rw [HGB.out]; refine HSD.out.mono ?_; rintro e W1 ⟨rfl, Y1, hp1, ht1, hy1⟩; have HP1 := Lib.hid hp1; have HB1 := Lib.hid (below_turn HB0.out (Nat.le_refl _) ht1 (fun i hi => by rw [hi]; exact Nat.le_refl _)); clear hp1 ht1 hy1)
    | (go_at_call 16; refine (postLen_any HP1.out).mono ?_; rintro e Wn ⟨rfl, rfl⟩))
  obtain ⟨r2, hr2, hnum⟩ := guard_read
  have HTK := Lib.hid (postTake_any 0 HP1.out)
  rw [guard_take.1, guard_take.2.1, guard_take.2.2] at HTK
  obtain ⟨n, hn⟩ : ∃ n, guardM.bs.length = n := ⟨_, rfl⟩
  have HN := Lib.hid hn
  have HR2 := Lib.hid (And.intro hr2 hnum)
  have HI41 : Hid (∀ (r : Raw) (d i l : Value), (Try.prog.info? 36).map (·.size) = some (msgA r d i l).size) := Lib.hid fun r d i l => by
    rw [show (msgA r d i l).size = 41 from arr_size _ _]
    kernel_rfl
  clear hr2 hnum hn
  go_upto_region 5 with (first
    | (go_at_call 13; refine HTK.out.mono ?_; rintro e W2 ⟨u, rfl, hr2, Y2, hp2, ht2, hy2⟩; obtain ⟨A', c', rfl⟩ := hr2.shape; rw [HN.out] at hr2; rw [HN.out]; have HRB := Lib.hid hr2; have HP2 := Lib.hid hp2; have HB2 := Lib.hid (below_turn HB1.out (Nat.le_refl _) ht2 (fun i hi => by rw [hi]; exact Nat.le_refl _)); clear hp2 ht2 hy2 hr2)
    | (guard_target = wpList _ _ _ (Oper.mk _ (.store 48 _ _) _ _ _ _ :: _) _ _; refine wpList_store_row rfl 48 _ _ rfl W2.heap.size (mC guardM (.slice A' n c')).toArray rfl rfl 48 _ (heap_alloc_new W2 _) (by kernel_rfl) rfl (mail_all rfl) ?_; rw [World.setRow_alloc_new]))
  obtain ⟨W3, hW3⟩ : ∃ W3, W2.alloc (.cells (mC guardM (.slice A' n c')).toArray 48) = W3 := ⟨_, rfl⟩
  rw [hW3]
  have hb3 : Below W2.heap.size W2 W3 := by rw [← hW3]; exact (Below.refl _ _).alloc (Nat.le_refl _) _
  have hk3 : Blk W3 W2.heap.size 48 #[.bool false, .int .i64 1, .bool true, .int .i64 2, .slice A' n c'] := by rw [← hW3]; exact Blk.newAt _ _ rfl rfl
  have HP3 := Lib.hid (HP2.out.below hb3)
  have HB3 := Lib.hid (HB2.out.trans (hb3.mono HB2.out.size))
  have HRD : Hid (Calls Try.prog 19 #[.slice A' n c'] W3 fun e w' => (∃ d i l, e = .returned (.tuple #[.agg (msgA r2 d i l), .int .i64 0]) ∧ RdR w' (fresh W3 w') r2 d i l) ∧ Below W3.heap.size W3 w') := Lib.hid (by
    have h := read_any A' c' guardM.bs W3 (by rw [HN.out]; exact (HRB.out.kept fun a x ha hx => (hb3.cell (p := a) ha.2).trans hx).mono fun b hb => Nat.lt_of_lt_of_le hb.2 hb3.size)
    rw [HN.out] at h
    refine h.mono ?_
    rintro e w' ⟨h1, h2⟩
    unfold ReadOut at h1
    rw [show guardM.bs = writeM guardR.m from rfl, HR2.out.1] at h1
    exact ⟨h1, h2⟩)
  have m4 := hk3.cell 4
  simp at m4
  have HK3 := Lib.hid hk3
  clear hW3 hb3 hk3
  go_upto_region 6 with (first
    | (go_at_call 19; refine HRD.out.mono ?_; rintro e W4 ⟨⟨d, i, l, rfl, hrr⟩, hb4⟩; have HRR := Lib.hid hrr; have HP4 := Lib.hid (HP3.out.below hb4); have HK4 := Lib.hid (HK3.out.below hb4 HK3.out.lt); have HB4 := Lib.hid (HB3.out.trans (hb4.mono HB3.out.size)); clear hrr hb4)
    | (guard_target = wpList _ _ _ (Oper.mk _ (.store 36 _ _) _ _ _ _ :: _) _ _; refine wpList_store_row rfl 36 _ _ rfl W4.heap.size (msgA r2 d i l) rfl rfl 36 _ (heap_alloc_new W4 _) (HI41.out r2 d i l) (by rw [show (msgA r2 d i l).size = 41 from arr_size _ _]; rfl) (msg_all HRR.out) ?_; rw [World.setRow_alloc_new]))
  obtain ⟨W5, hW5⟩ : ∃ W5, W4.alloc (.cells (msgA r2 d i l) 36) = W5 := ⟨_, rfl⟩
  rw [hW5]
  have hb5 : Below W4.heap.size W4 W5 := by rw [← hW5]; exact (Below.refl _ _).alloc (Nat.le_refl _) _
  have hx5 : Blk W5 W4.heap.size 36 (msgA r2 d i l) := by rw [← hW5]; exact Blk.newAt _ _ rfl rfl
  have hk5 := HK4.out.below hb5 HK4.out.lt
  have n5 : W5.cell? ⟨W4.heap.size, 5, none⟩ = some (.int .i64 4) := by
    rw [hx5.cell 5, ← HR2.out.2]
    unfold msgA
    rw [arr_get, if_pos (by omega)]
    rfl
  have m0 := hk5.cell 0
  have m1 := hk5.cell 1
  have m2 := hk5.cell 2
  have m3 := hk5.cell 3
  simp at m0 m1 m2 m3
  have HP5 := Lib.hid (HP4.out.below hb5)
  have HB5 := Lib.hid (HB4.out.trans (hb5.mono HB4.out.size))
  clear hW5 hb5 hx5 hk5 m4
  go_wp2_with (go_at_call 16; refine (postLen_any HP5.out).mono ?_; rintro e Wn ⟨rfl, rfl⟩)
  go_ret
  exact ⟨rfl, HB5.out⟩
end Go.Proofs.Ytekakelkjnhehaa
