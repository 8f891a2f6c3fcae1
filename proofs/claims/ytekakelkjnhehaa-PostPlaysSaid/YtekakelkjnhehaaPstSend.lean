/-
  Layer 21: Send. In whatever memory. No condition.
-/
import Derived.Test.YtekakelkjnhehaaPstTake
import Derived.Test.YtekakelkjnhehaaPackWrite
import Derived.Test.YtekakelkjnhehaaPackRead
namespace Go.Proofs.Ytekakelkjnhehaa
open Go Go.RowKit PackMath

open Classical in
noncomputable def sendM (r : Raw) (m : MailS) (l : List MailS) : List MailS := if r.Fit then putM l { m with bs := writeM r.m } else l
open Classical in
noncomputable def sendE (r : Raw) (l : List MailS) : Int := if r.Fit then putE l else (r.check : Int)
set_option maxRecDepth 100000 in
set_option maxHeartbeats 2000000 in
theorem postSend_any {Y : Nat → Prop} {g : Nat} {ls : List MailS} (r : Raw) (d i l : Value) (fc tc : Bool) (fn tn : Int) {w : World} (h : PostAt w Y g ls) (hr : RdR w (fun b => b < w.heap.size) r d i l) :
    Calls Try.prog 10 #[.pointer (some ⟨g, 0, none⟩), .agg #[.bool fc, .int .i64 fn], .agg #[.bool tc, .int .i64 tn], .agg (msgA r d i l)] w fun e w' => e = .returned (.int .i64 (sendE r ls)) ∧ PLeft Y g (sendM r ⟨fc, fn, tc, tn, []⟩ ls) w w' := by
  have hs : (msgA r d i l).size = 41 := arr_size _ _
  have HX := Lib.hid h
  have RD : Hid (∀ W, Below w.heap.size w W → RdR W (fun b => b < W.heap.size) r d i l) := Lib.hid fun W hb => (hr.below hb).mono fun b hb' => Nat.lt_of_lt_of_le hb' hb.size
  by_cases hf : r.Fit
  · have HE : Hid (sendE r ls = putE ls ∧ sendM r ⟨fc, fn, tc, tn, []⟩ ls = putM ls ⟨fc, fn, tc, tn, writeM r.m⟩) := Lib.hid ⟨if_pos hf, if_pos hf⟩
    rw [HE.out.1, HE.out.2]
    have W1 := Lib.hid fun W hb => callsIn_wide.1 (write_ok r hf d i l W (RD.out W hb))
    obtain ⟨M, hM⟩ : ∃ M, msgA r d i l = M := ⟨_, rfl⟩
    have hlen : (writeM r.m).length ≤ 140737488351232 := Nat.le_trans (write_len hf.ok) (by omega)
    obtain ⟨bs, hbs⟩ : ∃ bs, writeM r.m = bs := ⟨_, rfl⟩
    rw [hM] at hs W1 ⊢
    rw [hbs] at W1 hlen ⊢
    have HL := Lib.hid hlen
    have HS := Lib.hid hs
    clear hs hM hr hf RD hbs hlen h
    go_enter Try.func10, Try.ntmps10
    go_upto_region 1 with fail
    generalize hW : (World.alloc (World.alloc (World.alloc w _) _) _) = W
    have hb : Below w.heap.size w W := by rw [← hW]; exact (((Below.refl _ _).alloc (Nat.le_refl _) _).alloc (by simp) _).alloc (by simp; omega) _
    have hx : Blk W (w.heap.size + 2) 36 M := by rw [← hW]; exact Blk.newAt _ _ (by simp) rfl
    have hf1 : Blk W w.heap.size 29 #[.bool fc, .int .i64 fn] := by rw [← hW]; exact ((Blk.newAt _ _ rfl rfl).alloc _).alloc _
    have ht1 : Blk W (w.heap.size + 1) 29 #[.bool tc, .int .i64 tn] := by rw [← hW]; exact (Blk.newAt _ _ (by simp) rfl).alloc _
    have HB := Lib.hid hb
    have HF := Lib.hid hf1
    have HT := Lib.hid ht1
    clear hW hb hf1 ht1
    go_wp2_with (first
      | (guard_target = wpList _ _ _ (Oper.mk _ (.load 36 _) _ _ _ _ :: _) _ _; refine wpList_load_row rfl 36 _ rfl (w.heap.size + 2) rfl 36 M (0, 0) _ hx Try.underlying36 rfl (by rw [HS.out]; kernel_rfl) ?_)
      | (go_at_call 23; refine (W1.out W HB.out).mono ?_; rintro e W2 ⟨g2, n, cap, rfl, hn, hown, hb2⟩; have hf2 := HF.out.below hb2 HF.out.lt; have ht2 := HT.out.below hb2 HT.out.lt; have HP2 := Lib.hid (HX.out.below (HB.out.trans (hb2.mono HB.out.size))); have HR2 := Lib.hid (rdB_own hown hn.symm (by rw [hn]; exact HL.out)); have HB2 := Lib.hid (HB.out.trans (hb2.mono HB.out.size)); clear hown hb2 hn)
      | (guard_target = wpList _ _ _ (Oper.mk _ (.load 29 _) _ _ _ _ :: _) _ _; refine wpList_load_row rfl 29 _ rfl w.heap.size rfl 29 _ (0, 0) _ hf2 Try.underlying29 rfl (by kernel_rfl) ?_; clear hf2)
      | (guard_target = wpList _ _ _ (Oper.mk _ (.load 29 _) _ _ _ _ :: _) _ _; refine wpList_load_row rfl 29 _ rfl (w.heap.size + 1) rfl 29 _ (0, 0) _ ht2 Try.underlying29 rfl (by kernel_rfl) ?_)
      | (go_at_call 11; refine (postPut_any (m := ⟨fc, fn, tc, tn, bs⟩) HP2.out (HR2.out.mono fun b hb => hb.2)).mono ?_; rintro e W4 ⟨rfl, hl4⟩; have HL4 := Lib.hid hl4; clear hl4))
    go_ret
    exact ⟨rfl, HL4.out.elim fun Y' h => ⟨Y', h.1, (Turn.of_new HB2.out _).trans h.2.1 (fun _ _ h => h), fun i hi => (h.2.2 i hi).imp id fun h => Nat.le_trans HB2.out.size h⟩⟩
  · have HE : Hid (sendE r ls = (r.check : Int) ∧ sendM r ⟨fc, fn, tc, tn, []⟩ ls = ls) := Lib.hid ⟨if_neg hf, if_neg hf⟩
    rw [HE.out.1, HE.out.2]
    have W1 := Lib.hid fun W hb => write_no r hf d i l W (RD.out W hb)
    have hck : ((r.check : Int) == 0) = false := by rw [beq_eq_false_iff_ne]; intro h0; exact hf (r.fit_iff.1 (by omega))
    obtain ⟨M, hM⟩ : ∃ M, msgA r d i l = M := ⟨_, rfl⟩
    obtain ⟨k, hk⟩ : ∃ k : Nat, r.check = k := ⟨_, rfl⟩
    rw [hM] at hs W1 ⊢
    rw [hk] at W1 hck ⊢
    have HS := Lib.hid hs
    clear hs hM hr hf RD h hk
    go_enter Try.func10, Try.ntmps10
    go_upto_region 1 with fail
    generalize hW : (World.alloc (World.alloc (World.alloc w _) _) _) = W
    have hb : Below w.heap.size w W := by rw [← hW]; exact (((Below.refl _ _).alloc (Nat.le_refl _) _).alloc (by simp) _).alloc (by simp; omega) _
    have hx : Blk W (w.heap.size + 2) 36 M := by rw [← hW]; exact Blk.newAt _ _ (by simp) rfl
    have HB := Lib.hid hb
    clear hW hb
    go_wp2_with (first
      | (guard_target = wpList _ _ _ (Oper.mk _ (.load 36 _) _ _ _ _ :: _) _ _; refine wpList_load_row rfl 36 _ rfl (w.heap.size + 2) rfl 36 M (0, 0) _ hx Try.underlying36 rfl (by rw [HS.out]; kernel_rfl) ?_)
      | (go_at_call 23; refine (W1.out W HB.out).mono ?_; rintro e W2 ⟨rfl, hb2⟩; have HB2 := Lib.hid (HB.out.trans (hb2.mono HB.out.size)); clear hb2))
    go_ret
    exact ⟨rfl, Y, HX.out.below HB2.out, Turn.of_new HB2.out _, fun i hi => .inl hi⟩
end Go.Proofs.Ytekakelkjnhehaa
