/-
  Layer 7's reference: to what a way leads. Of any cut, entry, place, size and path. No condition.
-/
import Derived.Test.YtlnapnbccojohaaDoorShRef
import Derived.Test.YtlnapnbccojohaaDoorPrfInc
namespace Go.Proofs.YtlnapnbccojohaaDoor
open Go Go.RowKit Go.Shelf TreeM

theorem rev_cons' {x : D} {rp path : List D} (h : path.reverse = x :: rp) : path.length = rp.length + 1 ∧ (path.take rp.length).reverse = rp ∧ path.getD rp.length dz = x := by
  have e : path = rp.reverse ++ [x] := by rw [← List.reverse_reverse path, h, List.reverse_cons]
  subst e
  refine ⟨by simp, ?_, ?_⟩
  · rw [List.take_left' (by simp), List.reverse_reverse]
  · rw [List.getD_eq_getElem?_getD, List.getElem?_append_right (by simp)]
    simp
set_option maxRecDepth 100000 in
set_option maxHeartbeats 4000000 in
theorem refLeadsS_any (c : Int) (entry : List UInt8) (hel : entry.length ≤ 1000000) : ∀ (rp : List D) (a n : Nat) (v : Value) (path : List D) (w : World), path.reverse = rp → rp.length ≤ 70 → a < n → n ≤ 1099511627776 → RdI w (fun b => b < w.heap.size) v path →
    Calls Tryd.prog 30 #[.int .i64 c, .string ⟨entry.toArray⟩, .int .i64 (a : Int), .int .i64 (n : Int), v] w fun e w' => e = .returned (.tuple #[.agg (arr 32 fun i => bv ((leadsR c entry rp a n).1 i)), .bool (leadsR c entry rp a n).2]) ∧ Below w.heap.size w w' := by
  intro rp
  have hZ32 : Hid (Array.replicate 32 (bv 0) = arr 32 fun _ => bv 0) := Lib.hid (by rw [← upto_none 32 (fun _ => bv 0) (bv 0)]; exact arr_congr fun i hi => by rfl)
  have hcat : (({ data := #[0] } : ByteArray) ++ { data := entry.toArray }) = ⟨(0 :: entry).toArray⟩ := ba_app [0] entry
  have hno : ¬ (9223372036854775807 < 1 + entry.length) := by omega
  have HSE : Hid (∀ W, Calls Tryd.prog 26 #[.int .i64 c, .string ⟨(0 :: entry).toArray⟩] W fun e w' => e = .returned (.agg (arr 32 fun i => bv ((cutD c (sha (0 :: entry))) i))) ∧ Below W.heap.size W w') := Lib.hid fun W => refSumS_any c (0 :: entry) (by simp; omega) W
  obtain ⟨z, hz⟩ : ∃ z, cutD c (sha (0 :: entry)) = z := ⟨_, rfl⟩
  rw [hz] at HSE
  induction rp with
  | nil =>
    intro a n v path w hrev h70 ha hn hr
    obtain rfl : path = [] := by simpa using hrev
    obtain ⟨A, cp, rfl, hlc, _⟩ := id hr
    clear hr hrev hel
    simp only [leadsR]
    by_cases h1 : n = 1
    · subst h1
      rw [if_pos rfl, hz]
      clear hz
      go_enter Tryd.func30, Tryd.ntmps30
      go_wp2_with fail
      generalize hW : World.alloc w _ = W
      have hb0 : Below w.heap.size w W := by rw [← hW]; exact (Below.refl _ _).alloc (Nat.le_refl _) _
      have k10 : Blk W w.heap.size 23 (arr 32 fun _ => bv 0) := by rw [← hW]; exact Blk.newAt _ _ rfl hZ32.out
      have HB0 := Lib.hid hb0
      have K10 := Lib.hid k10
      clear hW hb0 k10
      go_wp2_with (first
        | (go_at_call 26; refine (HSE.out _).mono ?_; rintro e W1 ⟨rfl, hb1⟩; have HB1 := Lib.hid (HB0.out.trans (hb1.mono HB0.out.size)); have J10 := Lib.hid (K10.out.below hb1 K10.out.lt); clear hb1)
        | (refine wpList_store_arrW rfl 23 _ _ rfl w.heap.size (arr 32 fun i => bv (z i)) rfl rfl 23 _ J10.out (by rw [arr_size]; kernel_rfl) (by first | (simp only [arr_size]; done) | (rw [arr_size]; rfl)) (arr_all_bv _ _) ?_; intro W2 hS2 hz2 hb2 hk2))
      refine bodyPost_ret (results_cell_tmp (p := 10) (q := 11) rfl _ _ w.heap.size 23 _ _ rfl hS2 Tryd.underlying23 rfl (by rw [arr_size]; kernel_rfl)) rfl ?_
      exact ⟨rfl, HB1.out.trans hb2⟩
    · have hb1 : ((n : Int) == 1) = false := beq_eq_false_iff_ne.2 (by omega)
      rw [if_neg h1]
      clear hz
      go_enter Tryd.func30, Tryd.ntmps30
      go_wp2_with (first
        | (guard_target = wpList _ _ _ (Oper.mk _ (.build _ _) _ _ _ _ :: _) _ _; refine wpList_buildTo (by rfl) 23 _ rfl (Array.replicate 32 (bv 0)) (by kernel_rfl) ?_)
        | (refine wpList_store_arrW rfl 23 _ _ rfl w.heap.size (Array.replicate 32 (bv 0)) rfl rfl 23 _ (Blk.newAt _ _ rfl rfl) (by kernel_rfl) rfl (by kernel_rfl) ?_; intro W2 hS2 hz2 hb2 hk2))
      refine bodyPost_ret (results_cell_tmp (p := 10) (q := 11) rfl _ _ w.heap.size 23 _ _ rfl hS2 Tryd.underlying23 rfl (by kernel_rfl)) rfl ?_
      exact ⟨by rw [hZ32.out]; rfl, ((Below.refl _ w).alloc (Nat.le_refl _) _).trans hb2⟩
  | cons x rp ih =>
    intro a n v path w hrev h70 ha hn hr
    obtain ⟨hlen, hrt, hx⟩ := rev_cons' hrev
    rw [List.length_cons] at h70
    obtain ⟨A, cp, rfl, hlc, _⟩ := id hr
    rw [hlen] at hlc hr ⊢
    by_cases h1 : n = 1
    · subst h1
      have e1 : leadsR c entry (x :: rp) a 1 = (z, false) := by rw [leadsR, if_pos rfl, hz]
      rw [e1]
      have hl0 : (((rp.length + 1 : Nat) : Int) == 0) = false := beq_eq_false_iff_ne.2 (by omega)
      obtain ⟨L, hL⟩ : ∃ L, rp.length + 1 = L := ⟨_, rfl⟩
      rw [hL] at hl0 ⊢
      clear ih hrev h70 hr hlen hrt hx hlc hL e1 hz hel
      go_enter Tryd.func30, Tryd.ntmps30
      go_wp2_with fail
      generalize hW : World.alloc w _ = W
      have hb0 : Below w.heap.size w W := by rw [← hW]; exact (Below.refl _ _).alloc (Nat.le_refl _) _
      have k10 : Blk W w.heap.size 23 (arr 32 fun _ => bv 0) := by rw [← hW]; exact Blk.newAt _ _ rfl hZ32.out
      have HB0 := Lib.hid hb0
      have K10 := Lib.hid k10
      clear hW hb0 k10
      go_wp2_with (first
        | (go_at_call 26; refine (HSE.out _).mono ?_; rintro e W1 ⟨rfl, hb1⟩; have HB1 := Lib.hid (HB0.out.trans (hb1.mono HB0.out.size)); have J10 := Lib.hid (K10.out.below hb1 K10.out.lt); clear hb1)
        | (refine wpList_store_arrW rfl 23 _ _ rfl w.heap.size (arr 32 fun i => bv (z i)) rfl rfl 23 _ J10.out (by rw [arr_size]; kernel_rfl) (by first | (simp only [arr_size]; done) | (rw [arr_size]; rfl)) (arr_all_bv _ _) ?_; intro W2 hS2 hz2 hb2 hk2))
      refine bodyPost_ret (results_cell_tmp (p := 10) (q := 11) rfl _ _ w.heap.size 23 _ _ rfl hS2 Tryd.underlying23 rfl (by rw [arr_size]; kernel_rfl)) rfl ?_
      exact ⟨rfl, HB1.out.trans hb2⟩
    · have hb1 : ((n : Int) == 1) = false := beq_eq_false_iff_ne.2 (by omega)
      have hkl := half_lt (n := n) (by omega)
      have hkp := half_pos n
      have HHF := Lib.hid fun W => half_any n (by omega) (by omega) W
      obtain ⟨K, hK⟩ : ∃ K, half n = K := ⟨_, rfl⟩
      rw [hK] at hkl hkp HHF
      obtain ⟨p, hp⟩ : ∃ p, rp.length = p := ⟨_, rfl⟩
      rw [hp] at hlen hrt hx hlc hr h70 ⊢
      have hr1 := hr.take (k := p) (by omega)
      have hl0 : (((p + 1 : Nat) : Int) == 0) = false := beq_eq_false_iff_ne.2 (by omega)
      have hm1 : ((p + 1 : Nat) : Int) - 1 = (p : Int) := by omega
      have hpm : p < p + 1 := by omega
      obtain ⟨ad, e, _, _⟩ := hr.at_ hpm
      subst e
      have HLP : Hid (∀ W, Below w.heap.size w W → (Instr.loadAt 23 (.pointer (some (ad.add (p * 32))))).run Tryd.prog W = .ok (.agg (arr 32 fun i => bv (x i))) W) := Lib.hid fun W hb => by
        have := load_rdi (hr.old hb) hpm
        rw [hx] at this
        exact this
      have sl := run_slice_toN (P := Tryd.prog) 24 23 Tryd.underlying24 32 (by kernel_rfl) (some ad) (p + 1) cp p (by omega)
      obtain ⟨L, hL⟩ : ∃ L, p + 1 = L := ⟨_, rfl⟩
      have hL0 : 0 < L := by omega
      rw [hL] at hr hl0 hm1 hpm sl hlc ⊢
      by_cases haK : a < K
      · have IH : Hid (∀ W, Below w.heap.size w W → Calls Tryd.prog 30 #[.int .i64 c, .string ⟨entry.toArray⟩, .int .i64 (a : Int), .int .i64 (K : Int), .slice (some ad) p cp] W fun e w' => e = .returned (.tuple #[.agg (arr 32 fun i => bv ((leadsR c entry rp a K).1 i)), .bool (leadsR c entry rp a K).2]) ∧ Below W.heap.size W w') := Lib.hid fun W hb => by
          have := ih a K _ (path.take p) W hrt (by omega) (by omega) (by omega) ((hr1.old hb).mono fun b hb' => Nat.lt_of_lt_of_le hb' hb.size)
          exact this
        have e1 : leadsR c entry (x :: rp) a n = (cutD c (sha (1 :: (id32 (leadsR c entry rp a K).1 ++ id32 x))), (leadsR c entry rp a K).2) := by
          rw [leadsR, if_neg h1, hK, if_pos haK]
        rw [e1]
        obtain ⟨y, hy⟩ : ∃ y, (leadsR c entry rp a K).1 = y := ⟨_, rfl⟩
        obtain ⟨ok, hok⟩ : ∃ ok, (leadsR c entry rp a K).2 = ok := ⟨_, rfl⟩
        simp only [hy, hok] at IH ⊢
        have HT1 := Lib.hid fun W => text_any x W
        have HT2 := Lib.hid fun W => text_any y W
        obtain ⟨tx, htx⟩ : ∃ tx, id32 x = tx := ⟨_, rfl⟩
        obtain ⟨ty, hty⟩ : ∃ ty, id32 y = ty := ⟨_, rfl⟩
        have hlx : tx.length = 32 := by rw [← htx]; simp [id32]
        have hly : ty.length = 32 := by rw [← hty]; simp [id32]
        rw [htx] at HT1 ⊢
        rw [hty] at HT2 ⊢
        have hcat1 : (({ data := #[1] } : ByteArray) ++ { data := ty.toArray }) = ⟨(1 :: ty).toArray⟩ := ba_app [1] ty
        have hcat2 : (({ data := (1 :: ty).toArray } : ByteArray) ++ { data := tx.toArray }) = ⟨(1 :: (ty ++ tx)).toArray⟩ := ba_app (1 :: ty) tx
        have hno1 : ¬ (9223372036854775807 < 1 + ty.length) := by omega
        have hno2 : ¬ (9223372036854775807 < ty.length + 1 + tx.length) := by omega
        have HSM : Hid (∀ W, Calls Tryd.prog 26 #[.int .i64 c, .string ⟨(1 :: (ty ++ tx)).toArray⟩] W fun e w' => e = .returned (.agg (arr 32 fun i => bv ((cutD c (sha (1 :: (ty ++ tx)))) i))) ∧ Below W.heap.size W w') := Lib.hid fun W => refSumS_any c _ (by simp; omega) W
        obtain ⟨q, hq⟩ : ∃ q, cutD c (sha (1 :: (ty ++ tx))) = q := ⟨_, rfl⟩
        rw [hq] at HSM ⊢
        have haKi : (a : Int) < (K : Int) := by omega
        have hai : (a : Int) ≤ 1099511627776 := by omega
        have hKi : (K : Int) ≤ 1099511627776 := by omega
        have hni : (n : Int) ≤ 1099511627776 := by omega
        have ha0 : (0 : Int) ≤ (a : Int) := by omega
        have hK0 : (0 : Int) ≤ (K : Int) := by omega
        have hn0 : (0 : Int) ≤ (n : Int) := by omega
        have hLi : (L : Int) ≤ 71 := by omega
        have hpi : (p : Int) < (L : Int) := by omega
        have hp0 : (0 : Int) ≤ (p : Int) := by omega
        clear ih hrev hr hr1 hrt hx hlen hK e1 hy hok hz hlc hkl hkp hL hp h70 h1 htx hty hlx hly hq hel HSE hcat hno
        go_enter Tryd.func30, Tryd.ntmps30
        go_wp2_with fail
        generalize hW : World.alloc w _ = W
        have hb0 : Below w.heap.size w W := by rw [← hW]; exact (Below.refl _ _).alloc (Nat.le_refl _) _
        have k10 : Blk W w.heap.size 23 (arr 32 fun _ => bv 0) := by rw [← hW]; exact Blk.newAt _ _ rfl hZ32.out
        have HB0 := Lib.hid hb0
        have K10 := Lib.hid k10
        clear hW hb0 k10
        go_wp2_with (first
          | (go_at_call 43; refine (HHF.out _).mono ?_; rintro e W0 ⟨rfl, h0⟩; obtain rfl := h0.symm; clear HHF)
          | (guard_target = wpList _ _ _ (Oper.mk _ (.load 23 (.tmp 38)) _ _ _ _ :: _) _ _; refine wpList_load_run rfl 23 _ rfl _ _ rfl (HLP.out _ HB0.out) ?_; clear HLP)
          | (go_at_call 54; refine (HT1.out _).mono ?_; rintro e W2 ⟨rfl, hb2⟩; have HB2 := Lib.hid (HB0.out.trans (hb2.mono HB0.out.size)); have J10 := Lib.hid (K10.out.below hb2 K10.out.lt); clear hb2 HT1 HB0 K10)
          | (go_at_call 30; refine (IH.out _ HB2.out).mono ?_; rintro e W3 ⟨rfl, hb3⟩; have HB3 := Lib.hid (HB2.out.trans (hb3.mono HB2.out.size)); have L10 := Lib.hid (J10.out.below hb3 J10.out.lt); clear hb3 IH HB2 J10)
          | (refine wpList_store_row rfl 23 _ _ rfl W3.heap.size (arr 32 fun i => bv (y i)) rfl rfl 23 _ (heap_alloc_new W3 _) (by rw [arr_size]; kernel_rfl) (by rw [arr_size]; rfl) (arr_all_bv _ _) ?_; rw [World.setRow_alloc_new])
          | (refine wpList_load_arr rfl 23 _ rfl W3.heap.size rfl 23 (arr 32 fun i => bv (y i)) _ (Blk.new W3 _ _) Tryd.underlying23 rfl (by rw [arr_size]; kernel_rfl) ?_)
          | (go_at_call 54; refine (HT2.out _).mono ?_; rintro e W4 ⟨rfl, hb4⟩; have HB4 := Lib.hid ((HB3.out.alloc HB3.out.size (.cells (arr 32 fun i => bv (y i)) 23)).trans (hb4.mono (by have := HB3.out.size; simp; omega))); have M10 := Lib.hid ((L10.out.alloc (.cells (arr 32 fun i => bv (y i)) 23)).below hb4 (by have := L10.out.lt; simp; omega)); clear hb4 HT2 HB3 L10)
          | (go_at_call 26; refine (HSM.out _).mono ?_; rintro e W5 ⟨rfl, hb5⟩; have HB5 := Lib.hid (HB4.out.trans (hb5.mono HB4.out.size)); have N10 := Lib.hid (M10.out.below hb5 M10.out.lt); clear hb5 HSM HB4 M10)
          | (refine wpList_store_arrW rfl 23 _ _ rfl w.heap.size (arr 32 fun i => bv (q i)) rfl rfl 23 _ N10.out (by rw [arr_size]; kernel_rfl) (by first | (simp only [arr_size]; done) | (rw [arr_size]; rfl)) (arr_all_bv _ _) ?_; intro W6 hS6 hz6 hb6 hk6))
        refine bodyPost_ret (results_cell_tmp (p := 10) (q := 11) rfl _ _ w.heap.size 23 _ _ rfl hS6 Tryd.underlying23 rfl (by rw [arr_size]; kernel_rfl)) rfl ?_
        exact ⟨rfl, HB5.out.trans hb6⟩
      · have IH : Hid (∀ W, Below w.heap.size w W → Calls Tryd.prog 30 #[.int .i64 c, .string ⟨entry.toArray⟩, .int .i64 ((a : Int) - (K : Int)), .int .i64 ((n : Int) - (K : Int)), .slice (some ad) p cp] W fun e w' => e = .returned (.tuple #[.agg (arr 32 fun i => bv ((leadsR c entry rp (a - K) (n - K)).1 i)), .bool (leadsR c entry rp (a - K) (n - K)).2]) ∧ Below W.heap.size W w') := Lib.hid fun W hb => by
          have := ih (a - K) (n - K) _ (path.take p) W hrt (by omega) (by omega) (by omega) ((hr1.old hb).mono fun b hb' => Nat.lt_of_lt_of_le hb' hb.size)
          rw [show ((a - K : Nat) : Int) = (a : Int) - (K : Int) from by omega, show ((n - K : Nat) : Int) = (n : Int) - (K : Int) from by omega] at this
          exact this
        have e1 : leadsR c entry (x :: rp) a n = (cutD c (sha (1 :: (id32 x ++ id32 (leadsR c entry rp (a - K) (n - K)).1))), (leadsR c entry rp (a - K) (n - K)).2) := by
          rw [leadsR, if_neg h1, hK, if_neg haK]
        rw [e1]
        obtain ⟨y, hy⟩ : ∃ y, (leadsR c entry rp (a - K) (n - K)).1 = y := ⟨_, rfl⟩
        obtain ⟨ok, hok⟩ : ∃ ok, (leadsR c entry rp (a - K) (n - K)).2 = ok := ⟨_, rfl⟩
        simp only [hy, hok] at IH ⊢
        have HT1 := Lib.hid fun W => text_any x W
        have HT2 := Lib.hid fun W => text_any y W
        obtain ⟨tx, htx⟩ : ∃ tx, id32 x = tx := ⟨_, rfl⟩
        obtain ⟨ty, hty⟩ : ∃ ty, id32 y = ty := ⟨_, rfl⟩
        have hlx : tx.length = 32 := by rw [← htx]; simp [id32]
        have hly : ty.length = 32 := by rw [← hty]; simp [id32]
        rw [htx] at HT1 ⊢
        rw [hty] at HT2 ⊢
        have hcat1 : (({ data := #[1] } : ByteArray) ++ { data := tx.toArray }) = ⟨(1 :: tx).toArray⟩ := ba_app [1] tx
        have hcat2 : (({ data := (1 :: tx).toArray } : ByteArray) ++ { data := ty.toArray }) = ⟨(1 :: (tx ++ ty)).toArray⟩ := ba_app (1 :: tx) ty
        have hno1 : ¬ (9223372036854775807 < 1 + tx.length) := by omega
        have hno2 : ¬ (9223372036854775807 < tx.length + 1 + ty.length) := by omega
        have HSM : Hid (∀ W, Calls Tryd.prog 26 #[.int .i64 c, .string ⟨(1 :: (tx ++ ty)).toArray⟩] W fun e w' => e = .returned (.agg (arr 32 fun i => bv ((cutD c (sha (1 :: (tx ++ ty)))) i))) ∧ Below W.heap.size W w') := Lib.hid fun W => refSumS_any c _ (by simp; omega) W
        obtain ⟨q, hq⟩ : ∃ q, cutD c (sha (1 :: (tx ++ ty))) = q := ⟨_, rfl⟩
        rw [hq] at HSM ⊢
        have haKi : ¬ (a : Int) < (K : Int) := by omega
        have hai : (a : Int) ≤ 1099511627776 := by omega
        have hKi : (K : Int) ≤ 1099511627776 := by omega
        have hni : (n : Int) ≤ 1099511627776 := by omega
        have ha0 : (0 : Int) ≤ (a : Int) := by omega
        have hK0 : (0 : Int) ≤ (K : Int) := by omega
        have hn0 : (0 : Int) ≤ (n : Int) := by omega
        have hLi : (L : Int) ≤ 71 := by omega
        have hpi : (p : Int) < (L : Int) := by omega
        have hp0 : (0 : Int) ≤ (p : Int) := by omega
        clear ih hrev hr hr1 hrt hx hlen hK e1 hy hok hz hlc hkl hkp hL hp h70 h1 htx hty hlx hly hq hel HSE hcat hno
        go_enter Tryd.func30, Tryd.ntmps30
        go_wp2_with fail
        generalize hW : World.alloc w _ = W
        have hb0 : Below w.heap.size w W := by rw [← hW]; exact (Below.refl _ _).alloc (Nat.le_refl _) _
        have k10 : Blk W w.heap.size 23 (arr 32 fun _ => bv 0) := by rw [← hW]; exact Blk.newAt _ _ rfl hZ32.out
        have HB0 := Lib.hid hb0
        have K10 := Lib.hid k10
        clear hW hb0 k10
        go_wp2_with (first
          | (go_at_call 43; refine (HHF.out _).mono ?_; rintro e W0 ⟨rfl, h0⟩; obtain rfl := h0.symm; clear HHF)
          | (guard_target = wpList _ _ _ (Oper.mk _ (.load 23 (.tmp 38)) _ _ _ _ :: _) _ _; refine wpList_load_run rfl 23 _ rfl _ _ rfl (HLP.out _ HB0.out) ?_; clear HLP)
          | (go_at_call 54; refine (HT1.out _).mono ?_; rintro e W2 ⟨rfl, hb2⟩; have HB2 := Lib.hid (HB0.out.trans (hb2.mono HB0.out.size)); have J10 := Lib.hid (K10.out.below hb2 K10.out.lt); clear hb2 HT1 HB0 K10)
          | (go_at_call 30; refine (IH.out _ HB2.out).mono ?_; rintro e W3 ⟨rfl, hb3⟩; have HB3 := Lib.hid (HB2.out.trans (hb3.mono HB2.out.size)); have L10 := Lib.hid (J10.out.below hb3 J10.out.lt); clear hb3 IH HB2 J10)
          | (refine wpList_store_row rfl 23 _ _ rfl W3.heap.size (arr 32 fun i => bv (y i)) rfl rfl 23 _ (heap_alloc_new W3 _) (by rw [arr_size]; kernel_rfl) (by rw [arr_size]; rfl) (arr_all_bv _ _) ?_; rw [World.setRow_alloc_new])
          | (refine wpList_load_arr rfl 23 _ rfl W3.heap.size rfl 23 (arr 32 fun i => bv (y i)) _ (Blk.new W3 _ _) Tryd.underlying23 rfl (by rw [arr_size]; kernel_rfl) ?_)
          | (go_at_call 54; refine (HT2.out _).mono ?_; rintro e W4 ⟨rfl, hb4⟩; have HB4 := Lib.hid ((HB3.out.alloc HB3.out.size (.cells (arr 32 fun i => bv (y i)) 23)).trans (hb4.mono (by have := HB3.out.size; simp; omega))); have M10 := Lib.hid ((L10.out.alloc (.cells (arr 32 fun i => bv (y i)) 23)).below hb4 (by have := L10.out.lt; simp; omega)); clear hb4 HT2 HB3 L10)
          | (go_at_call 26; refine (HSM.out _).mono ?_; rintro e W5 ⟨rfl, hb5⟩; have HB5 := Lib.hid (HB4.out.trans (hb5.mono HB4.out.size)); have N10 := Lib.hid (M10.out.below hb5 M10.out.lt); clear hb5 HSM HB4 M10)
          | (refine wpList_store_arrW rfl 23 _ _ rfl w.heap.size (arr 32 fun i => bv (q i)) rfl rfl 23 _ N10.out (by rw [arr_size]; kernel_rfl) (by first | (simp only [arr_size]; done) | (rw [arr_size]; rfl)) (arr_all_bv _ _) ?_; intro W6 hS6 hz6 hb6 hk6))
        refine bodyPost_ret (results_cell_tmp (p := 10) (q := 11) rfl _ _ w.heap.size 23 _ _ rfl hS6 Tryd.underlying23 rfl (by rw [arr_size]; kernel_rfl)) rfl ?_
        exact ⟨rfl, HB5.out.trans hb6⟩
end Go.Proofs.YtlnapnbccojohaaDoor
