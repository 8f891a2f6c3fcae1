/-
  Layer 21: Take, Twice. In whatever memory. No condition.
-/
import Derived.Test.YtekakelkjnhehaaPstPut
namespace Go.Proofs.Ytekakelkjnhehaa
open Go Go.RowKit

def takeM (l : List MailS) (i : Int) : List MailS := if isAt l i then l.take i.toNat ++ l.drop (i.toNat + 1) else l
def twiceM (l : List MailS) (i : Int) : List MailS := if isAt l i then putM l (atM l i) else l
def twiceE (l : List MailS) (i : Int) : Int := if isAt l i then putE l else 4
set_option maxRecDepth 100000 in
set_option maxHeartbeats 2000000 in
theorem postTake_any {Y : Nat → Prop} {g : Nat} {l : List MailS} (i : Int) {w : World} (h : PostAt w Y g l) :
    Calls Try.prog 13 #[.pointer (some ⟨g, 0, none⟩), .int .i64 i] w fun e w' => ∃ u, e = .returned (.tuple #[mailV (atM l i) u, .int .i64 (codeM l i)]) ∧ RdB w' (fun b => w.heap.size ≤ b ∧ b < w'.heap.size) u (atM l i).bs ∧ PLeft Y g (takeM l i) w w' := by
  obtain ⟨m, hm⟩ : ∃ m, atM l i = m := ⟨_, rfl⟩
  obtain ⟨n, hn⟩ : ∃ n, m.bs.length = n := ⟨_, rfl⟩
  have HN := Lib.hid hn
  have HX := Lib.hid h
  have HG := Lib.hid (h.lt g h.mem)
  rw [hm]
  have HM := Lib.hid hm
  clear hm hn
  by_cases hi : isAt l i
  · obtain ⟨k, rfl⟩ : ∃ k : Nat, i = (k : Int) := ⟨i.toNat, by have := hi.1; omega⟩
    have hk : k < l.length := by have := hi.2; omega
    have hk6 : k < 600 := by have := h.len; omega
    have HE : Hid (codeM l (k : Int) = 0 ∧ takeM l (k : Int) = l.take k ++ l.drop (k + 1)) := Lib.hid ⟨if_pos hi, by unfold takeM; rw [if_pos hi, Int.toNat_natCast]⟩
    rw [HE.out.1, HE.out.2]
    have HK := Lib.hid hk
    clear hi hk h
    go_enter Try.func13, Try.ntmps13
    go_upto_region 1 with fail
    generalize hW : World.alloc w _ = W
    have hz : Blk W w.heap.size 48 (mC zeroM (.slice none 0 0)).toArray := by rw [← hW]; exact Blk.newAt _ _ rfl rfl
    have hb : Below w.heap.size w W := by rw [← hW]; exact (Below.refl _ _).alloc (Nat.le_refl _) _
    have hs : w.heap.size + 1 = W.heap.size := by rw [← hW]; simp
    have HP := Lib.hid (HX.out.below hb)
    have HA := Lib.hid (postAt_any (k : Int) HP.out)
    rw [HM.out, HE.out.1] at HA
    have HZ := Lib.hid hz
    have HB := Lib.hid hb
    have HS := Lib.hid hs
    clear hW hz hb hs
    go_wp2_with fail
    refine HA.out.mono ?_
    rintro e W2 ⟨u, rfl, hr2, hb2⟩
    obtain ⟨A', c', rfl⟩ := hr2.shape
    rw [HN.out] at hr2
    rw [HN.out]
    have HR2 := Lib.hid hr2
    have HB2 := Lib.hid hb2
    have HZ2 := Lib.hid (HZ.out.below hb2 HZ.out.lt)
    have HP2 := Lib.hid (HP.out.below hb2)
    clear hr2 hb2 HA
    dsimp only
    go_upto_region 2 with (guard_target = wpList _ _ _ (Oper.mk _ (.store 48 _ _) _ _ _ _ :: _) _ _; refine wpList_store_row rfl 48 _ _ rfl W2.heap.size (mC m (.slice A' n c')).toArray rfl rfl 48 _ (heap_alloc_new W2 _) (by kernel_rfl) rfl (mail_all rfl) ?_; rw [World.setRow_alloc_new])
    obtain ⟨W3, hW3⟩ : ∃ W3, W2.alloc (.cells (mC m (.slice A' n c')).toArray 48) = W3 := ⟨_, rfl⟩
    rw [hW3]
    have hb3 : Below W2.heap.size W2 W3 := by rw [← hW3]; exact (Below.refl _ _).alloc (Nat.le_refl _) _
    have hk3 : Blk W3 W2.heap.size 48 (mC m (.slice A' n c')).toArray := by rw [← hW3]; exact Blk.newAt _ _ rfl rfl
    have HP3 := Lib.hid (HP2.out.below hb3)
    have HZ3 := Lib.hid (HZ2.out.below hb3 HZ2.out.lt)
    have HB3 := Lib.hid hb3
    have HK3 := Lib.hid hk3
    obtain ⟨v, q1, q2, q3, q4, q5⟩ := HP3.out
    obtain ⟨A, c, rfl, hc⟩ := q2.form
    obtain ⟨N, hN⟩ : ∃ N, l.length = N := ⟨_, rfl⟩
    rw [hN] at q1 q2 hc
    have hkN : k + 1 ≤ N := by have := HK.out; omega
    have c0 := q1.cell 0
    simp at c0
    have hsl := fun w' => run_slice_fromC elMail A N c (k + 1) hkN w'
    rw [show ((k + 1 : Nat) : Int) = (k : Int) + 1 from by omega] at hsl
    have HGO := Lib.hid (postGoOn_any k HP3.out (by have := HK.out; omega) (q2.drop hkN) (fun b hb => ⟨q4 b hb.1, hb.2⟩) (by omega))
    have HYB := Lib.hid (fun b (hb : Y b ∧ b ≠ g) => hb.1)
    clear hW3 hb3 hk3 q1 q2 q3 q4 q5 hc hN
    go_wp2_with (first
      | (go_at_call 24; refine HGO.out.mono ?_; rintro e W4 ⟨rfl, hl4⟩; have HL4 := Lib.hid hl4; have hz4 : Blk W4 w.heap.size 48 (mC zeroM (.slice none 0 0)).toArray := (hl4.elim fun _ h => h.2.1.blk HZ3.out (fun e => by have := HG.out; omega)); have hk4 : Blk W4 W2.heap.size 48 (mC m (.slice A' n c')).toArray := (hl4.elim fun _ h => h.2.1.blk HK3.out (fun e => by have := HG.out; have := HB.out.size; have := HB2.out.size; omega)); clear hl4)
      | (guard_target = wpList _ _ _ (Oper.mk _ (.load 48 _) _ _ _ _ :: _) _ _; refine wpList_load_row rfl 48 _ rfl W2.heap.size rfl 48 _ (0, 0) _ hk4 Try.underlying48 rfl (by kernel_rfl) ?_)
      | (guard_target = wpList _ _ _ (Oper.mk _ (.store 48 _ _) _ _ _ _ :: _) _ _; refine wpList_store_row rfl 48 _ _ rfl w.heap.size (mC m (.slice A' n c')).toArray rfl rfl 48 _ hz4 (by kernel_rfl) rfl (mail_all rfl) ?_))
    obtain ⟨Y', p1, p2, p3⟩ := HL4.out
    have hs := HS.out
    have hg := HG.out
    have s2 := HB2.out.size
    have s3 := HB3.out.size
    have h03 : Below w.heap.size w W3 := HB.out.trans ((HB2.out.trans (HB3.out.mono s2)).mono HB.out.size)
    have t4 : Turn (fun i => i = g) w W4 := (Turn.of_new h03 _).trans p2 (fun _ _ h => h)
    have t5 : Turn (fun i => i = w.heap.size) W4 (W4.setRow w.heap.size (mC m (.slice A' n c')).toArray) := Turn.setRow (S := fun i => i = w.heap.size) (Turn.refl _ W4) (fun _ => rfl) _
    have hy : ∀ i, Y' i → Y i ∨ W3.heap.size ≤ i := fun i hi => by
      rcases p3 i hi with h | h | h
      · exact .inl h
      · exact .inl h.1
      · exact .inr h
    refine mail_end rfl w.heap.size m _ rfl (hz4.setRow _) rfl ⟨_, rfl, ?_, Y', p1.turn t5 (fun i hi e => ?_), t4.trans t5 (fun i hi e => by omega), fun i hi => (hy i hi).imp id fun h => by omega⟩
    · exact (((HR2.out.turn (Turn.of_new HB3.out (fun i => i = g)) (fun b hb e => by omega)).turn p2 (fun b hb e => by omega)).turn t5 (fun b hb e => by omega)).mono fun b hb => ⟨by omega, Nat.lt_of_lt_of_le hb.2 (Nat.le_trans s3 (Nat.le_trans p2.size t5.size))⟩
    · rcases hy i hi with h | h
      · have := HX.out.lt i h
        omega
      · omega
  · have HE : Hid (codeM l i = 4 ∧ takeM l i = l) := Lib.hid ⟨if_neg hi, if_neg hi⟩
    rw [HE.out.1, HE.out.2]
    clear hi h
    go_enter Try.func13, Try.ntmps13
    go_upto_region 1 with fail
    generalize hW : World.alloc w _ = W
    have hz : Blk W w.heap.size 48 (mC zeroM (.slice none 0 0)).toArray := by rw [← hW]; exact Blk.newAt _ _ rfl rfl
    have hb : Below w.heap.size w W := by rw [← hW]; exact (Below.refl _ _).alloc (Nat.le_refl _) _
    have hs : w.heap.size + 1 = W.heap.size := by rw [← hW]; simp
    have HP := Lib.hid (HX.out.below hb)
    have HA := Lib.hid (postAt_any i HP.out)
    rw [HM.out, HE.out.1] at HA
    have HZ := Lib.hid hz
    have HB := Lib.hid hb
    have HS := Lib.hid hs
    clear hW hz hb hs
    go_wp2_with fail
    refine HA.out.mono ?_
    rintro e W2 ⟨u, rfl, hr2, hb2⟩
    obtain ⟨A', c', rfl⟩ := hr2.shape
    rw [HN.out] at hr2
    rw [HN.out]
    have HR2 := Lib.hid hr2
    have HB2 := Lib.hid hb2
    have HZ2 := Lib.hid (HZ.out.below hb2 HZ.out.lt)
    have HP2 := Lib.hid (HP.out.below hb2)
    clear hr2 hb2 HA
    dsimp only
    go_upto_region 2 with (guard_target = wpList _ _ _ (Oper.mk _ (.store 48 _ _) _ _ _ _ :: _) _ _; refine wpList_store_row rfl 48 _ _ rfl W2.heap.size (mC m (.slice A' n c')).toArray rfl rfl 48 _ (heap_alloc_new W2 _) (by kernel_rfl) rfl (mail_all rfl) ?_; rw [World.setRow_alloc_new])
    obtain ⟨W3, hW3⟩ : ∃ W3, W2.alloc (.cells (mC m (.slice A' n c')).toArray 48) = W3 := ⟨_, rfl⟩
    rw [hW3]
    have hb3 : Below W2.heap.size W2 W3 := by rw [← hW3]; exact (Below.refl _ _).alloc (Nat.le_refl _) _
    have hk4 : Blk W3 W2.heap.size 48 (mC m (.slice A' n c')).toArray := by rw [← hW3]; exact Blk.newAt _ _ rfl rfl
    have HP3 := Lib.hid (HP2.out.below hb3)
    have hz4 := HZ2.out.below hb3 HZ2.out.lt
    have HB3 := Lib.hid hb3
    clear hW3 hb3
    go_wp2_with (first
      | (guard_target = wpList _ _ _ (Oper.mk _ (.load 48 _) _ _ _ _ :: _) _ _; refine wpList_load_row rfl 48 _ rfl W2.heap.size rfl 48 _ (0, 0) _ hk4 Try.underlying48 rfl (by kernel_rfl) ?_)
      | (guard_target = wpList _ _ _ (Oper.mk _ (.store 48 _ _) _ _ _ _ :: _) _ _; refine wpList_store_row rfl 48 _ _ rfl w.heap.size (mC m (.slice A' n c')).toArray rfl rfl 48 _ hz4 (by kernel_rfl) rfl (mail_all rfl) ?_))
    have hs := HS.out
    have s2 := HB2.out.size
    have s3 := HB3.out.size
    have h03 : Below w.heap.size w W3 := HB.out.trans ((HB2.out.trans (HB3.out.mono s2)).mono HB.out.size)
    have t5 : Turn (fun i => i = w.heap.size) W3 (W3.setRow w.heap.size (mC m (.slice A' n c')).toArray) := Turn.setRow (S := fun i => i = w.heap.size) (Turn.refl _ W3) (fun _ => rfl) _
    refine mail_end rfl w.heap.size m _ rfl (hz4.setRow _) rfl ⟨_, rfl, ?_, Y, HP3.out.turn t5 (fun i hi e => by have := HX.out.lt i hi; omega), (Turn.of_new h03 _).trans t5 (fun i hi e => by omega), fun i hi => .inl hi⟩
    exact ((HR2.out.turn (Turn.of_new HB3.out (fun i => i = w.heap.size)) (fun b hb e => by omega)).turn t5 (fun b hb e => by omega)).mono fun b hb => ⟨by omega, Nat.lt_of_lt_of_le hb.2 (Nat.le_trans s3 t5.size)⟩
set_option maxRecDepth 100000 in
set_option maxHeartbeats 2000000 in
theorem postTwice_any {Y : Nat → Prop} {g : Nat} {l : List MailS} (i : Int) {w : World} (h : PostAt w Y g l) :
    Calls Try.prog 15 #[.pointer (some ⟨g, 0, none⟩), .int .i64 i] w fun e w' => e = .returned (.int .i64 (twiceE l i)) ∧ PLeft Y g (twiceM l i) w w' := by
  obtain ⟨m, hm⟩ : ∃ m, atM l i = m := ⟨_, rfl⟩
  obtain ⟨n, hn⟩ : ∃ n, m.bs.length = n := ⟨_, rfl⟩
  have HN := Lib.hid hn
  have HX := Lib.hid h
  have HA := Lib.hid (postAt_any i h)
  rw [hm] at HA
  have HM := Lib.hid hm
  clear hm hn h
  by_cases hi : isAt l i
  · have HE : Hid (codeM l i = 0 ∧ twiceE l i = putE l ∧ twiceM l i = putM l m) := Lib.hid ⟨if_pos hi, if_pos hi, by unfold twiceM; rw [if_pos hi, HM.out]⟩
    rw [HE.out.1] at HA
    rw [HE.out.2.1, HE.out.2.2]
    clear hi
    go_enter Try.func15, Try.ntmps15
    go_wp2_with fail
    refine HA.out.mono ?_
    rintro e W2 ⟨u, rfl, hr2, hb2⟩
    obtain ⟨A', c', rfl⟩ := hr2.shape
    rw [HN.out] at hr2
    rw [HN.out]
    have HR2 := Lib.hid hr2
    have HB2 := Lib.hid hb2
    have HP2 := Lib.hid (HX.out.below hb2)
    clear hr2 hb2 HA
    dsimp only
    go_upto_region 2 with (guard_target = wpList _ _ _ (Oper.mk _ (.store 48 _ _) _ _ _ _ :: _) _ _; refine wpList_store_row rfl 48 _ _ rfl W2.heap.size (mC m (.slice A' n c')).toArray rfl rfl 48 _ (heap_alloc_new W2 _) (by kernel_rfl) rfl (mail_all rfl) ?_; rw [World.setRow_alloc_new])
    obtain ⟨W3, hW3⟩ : ∃ W3, W2.alloc (.cells (mC m (.slice A' n c')).toArray 48) = W3 := ⟨_, rfl⟩
    rw [hW3]
    have hb3 : Below W2.heap.size W2 W3 := by rw [← hW3]; exact (Below.refl _ _).alloc (Nat.le_refl _) _
    have hk4 : Blk W3 W2.heap.size 48 (mC m (.slice A' n c')).toArray := by rw [← hW3]; exact Blk.newAt _ _ rfl rfl
    have HPU := Lib.hid (postPut_any (HP2.out.below hb3) ((HR2.out.kept fun a x ha hx => (hb3.cell (p := a) ha.2).trans hx).mono fun b hb => Nat.lt_of_lt_of_le hb.2 hb3.size))
    have HB3 := Lib.hid (HB2.out.trans (hb3.mono HB2.out.size))
    clear hW3 hb3
    go_wp2_with (first
      | (guard_target = wpList _ _ _ (Oper.mk _ (.load 48 _) _ _ _ _ :: _) _ _; refine wpList_load_row rfl 48 _ rfl W2.heap.size rfl 48 _ (0, 0) _ hk4 Try.underlying48 rfl (by kernel_rfl) ?_)
      | (go_at_call 11; refine HPU.out.mono ?_; rintro e W4 ⟨rfl, hl4⟩; have HL4 := Lib.hid hl4; clear hl4))
    go_ret
    exact ⟨rfl, HL4.out.elim fun Y' h => ⟨Y', h.1, (Turn.of_new HB3.out _).trans h.2.1 (fun _ _ h => h), fun i hi => (h.2.2 i hi).imp id fun h => Nat.le_trans HB3.out.size h⟩⟩
  · have HE : Hid (codeM l i = 4 ∧ twiceE l i = 4 ∧ twiceM l i = l) := Lib.hid ⟨if_neg hi, if_neg hi, if_neg hi⟩
    rw [HE.out.1] at HA
    rw [HE.out.2.1, HE.out.2.2]
    clear hi
    go_enter Try.func15, Try.ntmps15
    go_wp2_with fail
    refine HA.out.mono ?_
    rintro e W2 ⟨u, rfl, hr2, hb2⟩
    obtain ⟨A', c', rfl⟩ := hr2.shape
    rw [HN.out] at hr2
    rw [HN.out]
    have HB2 := Lib.hid hb2
    clear hr2 hb2 HA
    dsimp only
    go_wp2_with (guard_target = wpList _ _ _ (Oper.mk _ (.store 48 _ _) _ _ _ _ :: _) _ _; refine wpList_store_row rfl 48 _ _ rfl W2.heap.size (mC m (.slice A' n c')).toArray rfl rfl 48 _ (heap_alloc_new W2 _) (by kernel_rfl) rfl (mail_all rfl) ?_; rw [World.setRow_alloc_new])
    go_ret
    have hb3 := HB2.out.alloc HB2.out.size (.cells (mC m (.slice A' n c')).toArray 48)
    exact ⟨rfl, Y, HX.out.below hb3, Turn.of_new hb3 _, fun i hi => .inl hi⟩
end Go.Proofs.Ytekakelkjnhehaa
