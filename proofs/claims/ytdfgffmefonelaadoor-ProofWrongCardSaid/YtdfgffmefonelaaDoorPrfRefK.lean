/-
  The reference's CheckInclusion and CheckConsistency: of any path of not more than 70 sums. No condition.
-/
import Derived.Test.YtdfgffmefonelaaDoorPrfMathK
import Derived.Test.YtdfgffmefonelaaDoorTreeRefR
namespace Go.Proofs.YtdfgffmefonelaaDoor
open Go Go.RowKit Go.Shelf TreeM

theorem rev_cons {x : D} {rp path : List D} (h : path.reverse = x :: rp) : path.length = rp.length + 1 ∧ (path.take rp.length).reverse = rp ∧ path.getD rp.length dz = x := by
  have e : path = rp.reverse ++ [x] := by rw [← List.reverse_reverse path, h, List.reverse_cons]
  subst e
  refine ⟨by simp, ?_, ?_⟩
  · rw [List.take_left' (by simp), List.reverse_reverse]
  · rw [List.getD_eq_getElem?_getD, List.getElem?_append_right (by simp)]
    simp
set_option maxRecDepth 100000 in
set_option maxHeartbeats 2000000 in
theorem refLead_any : ∀ (rp : List D) (a n : Nat) (id : D) (v : Value) (path : List D) (w : World), path.reverse = rp → rp.length ≤ 70 → a < n → n ≤ 1099511627776 → RdI w (fun b => b < w.heap.size) v path →
    Calls Tryd.prog 38 #[.agg (arr 32 fun i => bv (id i)), .int .i64 (a : Int), .int .i64 (n : Int), v] w fun e w' => e = .returned (.tuple #[.agg (arr 32 fun i => bv ((leadR rp a n id).1 i)), .bool (leadR rp a n id).2]) ∧ Below w.heap.size w w' := by
  intro rp
  have hZ32 : Hid (Array.replicate 32 (bv 0) = arr 32 fun _ => bv 0) := Lib.hid (by rw [← upto_none 32 (fun _ => bv 0) (bv 0)]; exact arr_congr fun i hi => by rfl)
  induction rp with
  | nil =>
    intro a n id v path w hrev h70 ha hn hr
    obtain rfl : path = [] := by simpa using hrev
    obtain ⟨A, c, rfl, hlc, _⟩ := _root_.id hr
    clear hr hrev
    simp only [leadR]
    by_cases h1 : n = 1
    · subst h1
      go_enter Tryd.func38, Tryd.ntmps38
      go_wp2_with (first
        | (refine wpList_load_arr rfl 23 _ rfl w.heap.size rfl 23 (arr 32 fun i => bv (id i)) _ ((Blk.new w _ _).alloc _) Tryd.underlying23 rfl (by rw [arr_size]; kernel_rfl) ?_)
        | (refine wpList_store_arrW rfl 23 _ _ rfl (w.heap.size + 1) (arr 32 fun i => bv (id i)) rfl rfl 23 _ (Blk.newAt _ _ (by simp) rfl) (by rw [arr_size]; kernel_rfl) (by first | (simp only [arr_size]; done) | (rw [arr_size]; rfl)) (arr_all_bv _ _) ?_; intro W2 hS2 hz2 hb2 hk2))
      refine bodyPost_ret (results_cell_tmp (p := 8) (q := 9) rfl _ _ (w.heap.size + 1) 23 _ _ rfl hS2 Tryd.underlying23 rfl (by rw [arr_size]; kernel_rfl)) rfl ?_
      exact ⟨rfl, (((Below.refl _ w).alloc (Nat.le_refl _) _).alloc (by simp) _).trans (hb2.mono (Nat.le_succ _))⟩
    · have hb1 : ((n : Int) == 1) = false := beq_eq_false_iff_ne.2 (by omega)
      have hd1 : decide (n = 1) = false := decide_eq_false h1
      rw [hd1]
      go_enter Tryd.func38, Tryd.ntmps38
      go_wp2_with (first
        | (refine wpList_load_arr rfl 23 _ rfl w.heap.size rfl 23 (arr 32 fun i => bv (id i)) _ ((Blk.new w _ _).alloc _) Tryd.underlying23 rfl (by rw [arr_size]; kernel_rfl) ?_)
        | (refine wpList_store_arrW rfl 23 _ _ rfl (w.heap.size + 1) (arr 32 fun i => bv (id i)) rfl rfl 23 _ (Blk.newAt _ _ (by simp) rfl) (by rw [arr_size]; kernel_rfl) (by first | (simp only [arr_size]; done) | (rw [arr_size]; rfl)) (arr_all_bv _ _) ?_; intro W2 hS2 hz2 hb2 hk2))
      refine bodyPost_ret (results_cell_tmp (p := 8) (q := 9) rfl _ _ (w.heap.size + 1) 23 _ _ rfl hS2 Tryd.underlying23 rfl (by rw [arr_size]; kernel_rfl)) rfl ?_
      exact ⟨rfl, (((Below.refl _ w).alloc (Nat.le_refl _) _).alloc (by simp) _).trans (hb2.mono (Nat.le_succ _))⟩
  | cons x rp ih =>
    intro a n id v path w hrev h70 ha hn hr
    obtain ⟨hlen, hrt, hx⟩ := rev_cons hrev
    rw [List.length_cons] at h70
    obtain ⟨A, c, rfl, hlc, _⟩ := _root_.id hr
    rw [hlen] at hlc hr ⊢
    by_cases h1 : n = 1
    · subst h1
      have e1 : leadR (x :: rp) a 1 id = (id, false) := by simp [leadR]
      rw [e1]
      have hl0 : (((rp.length + 1 : Nat) : Int) == 0) = false := beq_eq_false_iff_ne.2 (by omega)
      obtain ⟨L, hL⟩ : ∃ L, rp.length + 1 = L := ⟨_, rfl⟩
      rw [hL] at hl0 ⊢
      clear ih hrev h70 hr hlen hrt hx hlc hL e1
      go_enter Tryd.func38, Tryd.ntmps38
      go_wp2_with (first
        | (refine wpList_load_arr rfl 23 _ rfl w.heap.size rfl 23 (arr 32 fun i => bv (id i)) _ ((Blk.new w _ _).alloc _) Tryd.underlying23 rfl (by rw [arr_size]; kernel_rfl) ?_)
        | (refine wpList_store_arrW rfl 23 _ _ rfl (w.heap.size + 1) (arr 32 fun i => bv (id i)) rfl rfl 23 _ (Blk.newAt _ _ (by simp) rfl) (by rw [arr_size]; kernel_rfl) (by first | (simp only [arr_size]; done) | (rw [arr_size]; rfl)) (arr_all_bv _ _) ?_; intro W2 hS2 hz2 hb2 hk2))
      refine bodyPost_ret (results_cell_tmp (p := 8) (q := 9) rfl _ _ (w.heap.size + 1) 23 _ _ rfl hS2 Tryd.underlying23 rfl (by rw [arr_size]; kernel_rfl)) rfl ?_
      exact ⟨rfl, (((Below.refl _ w).alloc (Nat.le_refl _) _).alloc (by simp) _).trans (hb2.mono (Nat.le_succ _))⟩
    · have hb1 : ((n : Int) == 1) = false := beq_eq_false_iff_ne.2 (by omega)
      have hkl := half_lt (n := n) (by omega)
      have hkp := half_pos n
      have HHF := Lib.hid fun W => half_any n (by omega) (by omega) W
      obtain ⟨K, hK⟩ : ∃ K, half n = K := ⟨_, rfl⟩
      rw [hK] at hkl hkp HHF
      obtain ⟨p, hp⟩ : ∃ p, rp.length = p := ⟨_, rfl⟩
      rw [hp] at hlen hrt hx hlc hr h70 ⊢
      have hr1 := hr.take (k := p) (by omega)
      have hl0 : (((p + 1 : Nat) : Int) == 0) = false := beq_eq_false_iff_ne.2 (by omega)
      have hm1 : ((p + 1 : Nat) : Int) - 1 = (p : Int) := by omega
      have hpm : p < p + 1 := by omega
      have HLP : Hid (∃ ad, A = some ad ∧ ∀ W, Below w.heap.size w W → (Instr.loadAt 23 (.pointer (some (ad.add (p * 32))))).run Tryd.prog W = .ok (.agg (arr 32 fun i => bv (x i))) W) := Lib.hid (by
        obtain ⟨ad, e, _, _⟩ := hr.at_ hpm
        subst e
        refine ⟨ad, rfl, fun W hb => ?_⟩
        have := load_rdi (hr.old hb) hpm
        rw [hx] at this
        exact this)
      obtain ⟨ad, rfl, hlp⟩ := HLP.out
      clear HLP
      have HLP := Lib.hid hlp
      clear hlp
      have sl := run_slice_toN (P := Tryd.prog) 24 23 Tryd.underlying24 32 (by kernel_rfl) (some ad) (p + 1) c p (by omega)
      obtain ⟨L, hL⟩ : ∃ L, p + 1 = L := ⟨_, rfl⟩
      have hL0 : 0 < L := by omega
      rw [hL] at hr hl0 hm1 hpm sl hlc ⊢
      by_cases haK : a < K
      · have IH : Hid (∀ W, Below w.heap.size w W → Calls Tryd.prog 38 #[.agg (arr 32 fun i => bv (id i)), .int .i64 (a : Int), .int .i64 (K : Int), .slice (some ad) p c] W fun e w' => e = .returned (.tuple #[.agg (arr 32 fun i => bv ((leadR rp a K id).1 i)), .bool (leadR rp a K id).2]) ∧ Below W.heap.size W w') := Lib.hid fun W hb => by
          have := ih a K id _ (path.take p) W hrt (by omega) (by omega) (by omega) ((hr1.old hb).mono fun b hb' => Nat.lt_of_lt_of_le hb' hb.size)
          exact this
        have e1 : leadR (x :: rp) a n id = (node (leadR rp a K id).1 x, (leadR rp a K id).2) := by
          rw [leadR, if_neg h1, hK, if_pos haK]
        rw [e1]
        obtain ⟨y, hy⟩ : ∃ y, (leadR rp a K id).1 = y := ⟨_, rfl⟩
        obtain ⟨ok, hok⟩ : ∃ ok, (leadR rp a K id).2 = ok := ⟨_, rfl⟩
        simp only [hy, hok] at IH ⊢
        have HND : Hid (∀ W, Calls Tryd.prog 44 #[.agg (arr 32 fun i => bv (y i)), .agg (arr 32 fun i => bv (x i))] W fun e w' => e = .returned (.agg (arr 32 fun i => bv ((node y x) i))) ∧ Below W.heap.size W w') := Lib.hid fun W => by
          have := refNode_any y x W
          exact this
        obtain ⟨z, hz⟩ : ∃ z, node y x = z := ⟨_, rfl⟩
        rw [hz] at HND ⊢
        have haKi : (a : Int) < (K : Int) := by omega
        have hai : (a : Int) ≤ 1099511627776 := by omega
        have hKi : (K : Int) ≤ 1099511627776 := by omega
        have hni : (n : Int) ≤ 1099511627776 := by omega
        have ha0 : (0 : Int) ≤ (a : Int) := by omega
        have hK0 : (0 : Int) ≤ (K : Int) := by omega
        have hn0 : (0 : Int) ≤ (n : Int) := by omega
        have hLi : (L : Int) ≤ 71 := by omega
        have hpi : (p : Int) < (L : Int) := by omega
        have hp0 : (0 : Int) ≤ (p : Int) := by omega
        clear ih hrev hr hr1 hrt hx hlen hK e1 hy hok hz hlc hkl hkp hL hp h70 h1
        go_enter Tryd.func38, Tryd.ntmps38
        go_wp2_with (first
          | (go_at_call 43; refine (HHF.out _).mono ?_; rintro e W0 ⟨rfl, rfl⟩; clear HHF)
          | (guard_target = wpList _ _ _ (Oper.mk _ (.load 23 _) _ _ _ _ :: _) _ _; refine wpList_load_run rfl 23 _ rfl _ _ rfl (HLP.out _ (((Below.refl _ w).alloc (Nat.le_refl _) _).alloc (by simp) _)) ?_; clear HLP)
          | (refine wpList_store_arrW rfl 23 _ _ rfl (w.heap.size + 1 + 1) (arr 32 fun i => bv (x i)) rfl rfl 23 _ (Blk.newAt _ _ (by simp) rfl) (by rw [arr_size]; kernel_rfl) (by first | (simp only [arr_size]; done) | (rw [arr_size]; rfl)) (arr_all_bv _ _) ?_; intro W5 hS5 hz5 hb5 hk5; have q4 : Blk W5 w.heap.size 23 (arr 32 fun i => bv (id i)) := Blk.below (((Blk.new w _ _).alloc _).alloc _) hb5 (by omega); have q8 : Blk W5 (w.heap.size + 1) 23 (arr 32 fun _ => bv 0) := Blk.below ((Blk.newAt _ _ (by simp) hZ32.out).alloc _) hb5 (by omega); have hB5 : Below w.heap.size w W5 := ((((Below.refl _ w).alloc (Nat.le_refl _) _).alloc (by simp) _).alloc (by simp; omega) _).trans (hb5.mono (by omega)); have Q11 := Lib.hid hS5; have Q8 := Lib.hid q8; have HB5 := Lib.hid hB5; clear hS5 hz5 hb5 hk5 q8 hB5)
          | (refine wpList_load_arr rfl 23 _ rfl w.heap.size rfl 23 (arr 32 fun i => bv (id i)) _ q4 Tryd.underlying23 rfl (by rw [arr_size]; kernel_rfl) ?_)
          | (go_at_call 38; refine (IH.out _ HB5.out).mono ?_; rintro e W1 ⟨rfl, hb1⟩; have q11 := Blk.below Q11.out hb1 Q11.out.lt; have q8 := Blk.below Q8.out hb1 Q8.out.lt; have hz1 : w.heap.size + 3 ≤ W1.heap.size := (by have := hb1.size; have := Q11.out.lt; omega); have HB1 := Lib.hid (HB5.out.trans (hb1.mono HB5.out.size)); have P11 := Lib.hid q11; have P8 := Lib.hid q8; have HZ1 := Lib.hid hz1; clear hb1 q11 q8 hz1 IH q4 Q11 Q8)
          | (refine wpList_store_row rfl 23 _ _ rfl W1.heap.size (arr 32 fun i => bv (y i)) rfl rfl 23 _ (heap_alloc_new W1 _) (by rw [arr_size]; kernel_rfl) (by rw [arr_size]; rfl) (arr_all_bv _ _) ?_; rw [World.setRow_alloc_new])
          | (refine wpList_load_arr rfl 23 _ rfl W1.heap.size rfl 23 (arr 32 fun i => bv (y i)) _ (Blk.new W1 _ _) Tryd.underlying23 rfl (by rw [arr_size]; kernel_rfl) ?_)
          | (refine wpList_load_arr rfl 23 _ rfl (w.heap.size + 1 + 1) rfl 23 (arr 32 fun i => bv (x i)) _ (P11.out.alloc _) Tryd.underlying23 rfl (by rw [arr_size]; kernel_rfl) ?_)
          | (go_at_call 44; refine (HND.out _).mono ?_; rintro e W2 ⟨rfl, hb2⟩; have q8 := (P8.out.alloc (.cells (arr 32 fun i => bv (y i)) 23)).below hb2 (by have := HZ1.out; simp; omega); have HB2 := Lib.hid ((HB1.out.alloc (by have := HZ1.out; omega) (.cells (arr 32 fun i => bv (y i)) 23)).trans (hb2.mono (by have := HZ1.out; simp; omega))); clear hb2 HND)
          | (refine wpList_store_arrW rfl 23 _ _ rfl (w.heap.size + 1) (arr 32 fun i => bv (z i)) rfl rfl 23 _ q8 (by rw [arr_size]; kernel_rfl) (by first | (simp only [arr_size]; done) | (rw [arr_size]; rfl)) (arr_all_bv _ _) ?_; intro W3 hS3 hz3 hb3 hk3))
        refine bodyPost_ret (results_cell_tmp (p := 8) (q := 9) rfl _ _ (w.heap.size + 1) 23 _ _ rfl hS3 Tryd.underlying23 rfl (by rw [arr_size]; kernel_rfl)) rfl ?_
        exact ⟨rfl, HB2.out.trans (hb3.mono (Nat.le_succ _))⟩
      · have IH : Hid (∀ W, Below w.heap.size w W → Calls Tryd.prog 38 #[.agg (arr 32 fun i => bv (id i)), .int .i64 ((a : Int) - (K : Int)), .int .i64 ((n : Int) - (K : Int)), .slice (some ad) p c] W fun e w' => e = .returned (.tuple #[.agg (arr 32 fun i => bv ((leadR rp (a - K) (n - K) id).1 i)), .bool (leadR rp (a - K) (n - K) id).2]) ∧ Below W.heap.size W w') := Lib.hid fun W hb => by
          have := ih (a - K) (n - K) id _ (path.take p) W hrt (by omega) (by omega) (by omega) ((hr1.old hb).mono fun b hb' => Nat.lt_of_lt_of_le hb' hb.size)
          rw [show ((a - K : Nat) : Int) = (a : Int) - (K : Int) from by omega, show ((n - K : Nat) : Int) = (n : Int) - (K : Int) from by omega] at this
          exact this
        have e1 : leadR (x :: rp) a n id = (node x (leadR rp (a - K) (n - K) id).1, (leadR rp (a - K) (n - K) id).2) := by
          rw [leadR, if_neg h1, hK, if_neg haK]
        rw [e1]
        obtain ⟨y, hy⟩ : ∃ y, (leadR rp (a - K) (n - K) id).1 = y := ⟨_, rfl⟩
        obtain ⟨ok, hok⟩ : ∃ ok, (leadR rp (a - K) (n - K) id).2 = ok := ⟨_, rfl⟩
        simp only [hy, hok] at IH ⊢
        have HND : Hid (∀ W, Calls Tryd.prog 44 #[.agg (arr 32 fun i => bv (x i)), .agg (arr 32 fun i => bv (y i))] W fun e w' => e = .returned (.agg (arr 32 fun i => bv ((node x y) i))) ∧ Below W.heap.size W w') := Lib.hid fun W => by
          have := refNode_any x y W
          exact this
        obtain ⟨z, hz⟩ : ∃ z, node x y = z := ⟨_, rfl⟩
        rw [hz] at HND ⊢
        have haKi : ¬ (a : Int) < (K : Int) := by omega
        have hai : (a : Int) ≤ 1099511627776 := by omega
        have hKi : (K : Int) ≤ 1099511627776 := by omega
        have hni : (n : Int) ≤ 1099511627776 := by omega
        have ha0 : (0 : Int) ≤ (a : Int) := by omega
        have hK0 : (0 : Int) ≤ (K : Int) := by omega
        have hn0 : (0 : Int) ≤ (n : Int) := by omega
        have hLi : (L : Int) ≤ 71 := by omega
        have hpi : (p : Int) < (L : Int) := by omega
        have hp0 : (0 : Int) ≤ (p : Int) := by omega
        clear ih hrev hr hr1 hrt hx hlen hK e1 hy hok hz hlc hkl hkp hL hp h70 h1
        go_enter Tryd.func38, Tryd.ntmps38
        go_wp2_with (first
          | (go_at_call 43; refine (HHF.out _).mono ?_; rintro e W0 ⟨rfl, rfl⟩; clear HHF)
          | (guard_target = wpList _ _ _ (Oper.mk _ (.load 23 _) _ _ _ _ :: _) _ _; refine wpList_load_run rfl 23 _ rfl _ _ rfl (HLP.out _ (((Below.refl _ w).alloc (Nat.le_refl _) _).alloc (by simp) _)) ?_; clear HLP)
          | (refine wpList_store_arrW rfl 23 _ _ rfl (w.heap.size + 1 + 1) (arr 32 fun i => bv (x i)) rfl rfl 23 _ (Blk.newAt _ _ (by simp) rfl) (by rw [arr_size]; kernel_rfl) (by first | (simp only [arr_size]; done) | (rw [arr_size]; rfl)) (arr_all_bv _ _) ?_; intro W5 hS5 hz5 hb5 hk5; have q4 : Blk W5 w.heap.size 23 (arr 32 fun i => bv (id i)) := Blk.below (((Blk.new w _ _).alloc _).alloc _) hb5 (by omega); have q8 : Blk W5 (w.heap.size + 1) 23 (arr 32 fun _ => bv 0) := Blk.below ((Blk.newAt _ _ (by simp) hZ32.out).alloc _) hb5 (by omega); have hB5 : Below w.heap.size w W5 := ((((Below.refl _ w).alloc (Nat.le_refl _) _).alloc (by simp) _).alloc (by simp; omega) _).trans (hb5.mono (by omega)); have Q11 := Lib.hid hS5; have Q8 := Lib.hid q8; have HB5 := Lib.hid hB5; clear hS5 hz5 hb5 hk5 q8 hB5)
          | (refine wpList_load_arr rfl 23 _ rfl w.heap.size rfl 23 (arr 32 fun i => bv (id i)) _ q4 Tryd.underlying23 rfl (by rw [arr_size]; kernel_rfl) ?_)
          | (go_at_call 38; refine (IH.out _ HB5.out).mono ?_; rintro e W1 ⟨rfl, hb1⟩; have q11 := Blk.below Q11.out hb1 Q11.out.lt; have q8 := Blk.below Q8.out hb1 Q8.out.lt; have hz1 : w.heap.size + 3 ≤ W1.heap.size := (by have := hb1.size; have := Q11.out.lt; omega); have HB1 := Lib.hid (HB5.out.trans (hb1.mono HB5.out.size)); have P11 := Lib.hid q11; have P8 := Lib.hid q8; have HZ1 := Lib.hid hz1; clear hb1 q11 q8 hz1 IH q4 Q11 Q8)
          | (refine wpList_store_row rfl 23 _ _ rfl W1.heap.size (arr 32 fun i => bv (y i)) rfl rfl 23 _ (heap_alloc_new W1 _) (by rw [arr_size]; kernel_rfl) (by rw [arr_size]; rfl) (arr_all_bv _ _) ?_; rw [World.setRow_alloc_new])
          | (refine wpList_load_arr rfl 23 _ rfl W1.heap.size rfl 23 (arr 32 fun i => bv (y i)) _ (Blk.new W1 _ _) Tryd.underlying23 rfl (by rw [arr_size]; kernel_rfl) ?_)
          | (refine wpList_load_arr rfl 23 _ rfl (w.heap.size + 1 + 1) rfl 23 (arr 32 fun i => bv (x i)) _ (P11.out.alloc _) Tryd.underlying23 rfl (by rw [arr_size]; kernel_rfl) ?_)
          | (go_at_call 44; refine (HND.out _).mono ?_; rintro e W2 ⟨rfl, hb2⟩; have q8 := (P8.out.alloc (.cells (arr 32 fun i => bv (y i)) 23)).below hb2 (by have := HZ1.out; simp; omega); have HB2 := Lib.hid ((HB1.out.alloc (by have := HZ1.out; omega) (.cells (arr 32 fun i => bv (y i)) 23)).trans (hb2.mono (by have := HZ1.out; simp; omega))); clear hb2 HND)
          | (refine wpList_store_arrW rfl 23 _ _ rfl (w.heap.size + 1) (arr 32 fun i => bv (z i)) rfl rfl 23 _ q8 (by rw [arr_size]; kernel_rfl) (by first | (simp only [arr_size]; done) | (rw [arr_size]; rfl)) (arr_all_bv _ _) ?_; intro W3 hS3 hz3 hb3 hk3))
        refine bodyPost_ret (results_cell_tmp (p := 8) (q := 9) rfl _ _ (w.heap.size + 1) 23 _ _ rfl hS3 Tryd.underlying23 rfl (by rw [arr_size]; kernel_rfl)) rfl ?_
        exact ⟨rfl, HB2.out.trans (hb3.mono (Nat.le_succ _))⟩
theorem results_cells2_tmp {P : Program} {fn : Func} {p q r : Tmp} {ty : TypeId} (h : fn.results = #[.cell p ty, .cell q ty, .tmp r]) (tmps : Array Value) (w : World) (g g' : Nat) (t : TypeId) (cs cs' : Array Value) (d : TypeDesc)
    (hp : tmps.getD p undef = .pointer (some ⟨g, 0, none⟩)) (hq : tmps.getD q undef = .pointer (some ⟨g', 0, none⟩)) (hg : Blk w g t cs) (hg' : Blk w g' t cs')
    (hu : P.underlying ty = some d) (hd : (match d with | .struct _ | .array _ _ => true | _ => false) = true) (hi : (P.info? ty).map (·.size) = some cs.size) (hi' : (P.info? ty).map (·.size) = some cs'.size) :
    (results fn tmps).run P w = .ok (.tuple #[.agg cs, .agg cs', tmps.getD r undef]) w := by
  have hp' : tmps[p]?.getD undef = .pointer (some ⟨g, 0, none⟩) := by simpa using hp
  have hq' : tmps[q]?.getD undef = .pointer (some ⟨g', 0, none⟩) := by simpa using hq
  simp [results, h, hp', hq', asAddr, run_loadVar_row w g t ty cs (0, 0) d hg hu hd hi, run_loadVar_row w g' t ty cs' (0, 0) d hg' hu hd hi']
set_option maxRecDepth 100000 in
set_option maxHeartbeats 2000000 in
theorem both_whole (m : Nat) (one : D) (A : Option Addr) (L c : Nat) (w : World) (b : Bool) (hb : ((L : Int) == 0) = b) :
    Calls Tryd.prog 40 #[.int .i64 (m : Int), .int .i64 (m : Int), .slice A L c, .agg (arr 32 fun i => bv (one i)), .bool true] w fun e w' => e = .returned (.tuple #[.agg (arr 32 fun i => bv (one i)), .agg (arr 32 fun i => bv (one i)), .bool b]) ∧ Below w.heap.size w w' := by
  have hZ32 : Hid (Array.replicate 32 (bv 0) = arr 32 fun _ => bv 0) := Lib.hid (by rw [← upto_none 32 (fun _ => bv 0) (bv 0)]; exact arr_congr fun i hi => by rfl)
  go_enter Tryd.func40, Tryd.ntmps40
  go_wp2_with fail
  generalize hW : World.alloc (World.alloc (World.alloc w _) _) _ = W
  have r8 : Blk W w.heap.size 23 (arr 32 fun i => bv (one i)) := by rw [← hW]; exact ((Blk.new w _ _).alloc _).alloc _
  have r10 : Blk W (w.heap.size + 1) 23 (arr 32 fun _ => bv 0) := by rw [← hW]; exact (Blk.newAt _ _ (by simp) hZ32.out).alloc _
  have r11 : Blk W (w.heap.size + 1 + 1) 23 (arr 32 fun _ => bv 0) := by rw [← hW]; exact Blk.newAt _ _ (by simp) hZ32.out
  have b0 : Below w.heap.size w W := by rw [← hW]; exact (((Below.refl _ w).alloc (Nat.le_refl _) _).alloc (by simp) _).alloc (by simp; omega) _
  have z0 : W.heap.size = w.heap.size + 3 := by rw [← hW]; simp
  have HW := Lib.hid (And.intro r8 (And.intro r10 (And.intro r11 (And.intro b0 z0))))
  clear hW r8 r10 r11 b0 z0
  have k8 := HW.out.1.drew
  have k10 := HW.out.2.1.drew
  have k11 := HW.out.2.2.1.drew
  have hbX : Below (w.heap.size + 1) W.drew W.drew := Below.refl _ _
  have H8 : Hid (∀ W', Below (w.heap.size + 1) W.drew W' → Blk W' w.heap.size 23 (arr 32 fun i => bv (one i))) := Lib.hid fun W' hb => k8.below hb (Nat.lt_succ_self _)
  have hBW : Below w.heap.size w W.drew := HW.out.2.2.2.1.drew
  refine wp_region_held_drew (S := fun W' => Blk W' w.heap.size 23 (arr 32 fun i => bv (one i))) (by kernel_rfl) ?_ (fun hHeld => ?_)
  · exact H8.out _ hbX
  refine wpAnyH_take (i := 0) (oi := ⟨some 26, _, _, _, _, _⟩) (v := (.agg (arr 32 fun i => bv (one i)))) rfl (by kernel_rfl) (by kernel_rfl) (by kernel_rfl) (fun _ _ _ h => h) (yieldsIf_load_at (by rfl) 23 _ rfl ⟨w.heap.size, 0, none⟩ rfl 32 (fun i => bv (one i)) 5 (fun _ hS i hi => by rw [add_zero_block, hS.cell, arr_get, if_pos hi]) Tryd.underlying23 (by kernel_rfl)) (by assumption) ?_
  try simp only [Act.put, List.setIfInBounds_toArray, List.set_cons_zero, List.set_cons_succ]
  refine wpAnyH_take (i := 1) (oi := ⟨some 27, _, _, _, _, _⟩) (v := (.agg (arr 32 fun i => bv (one i)))) rfl (by kernel_rfl) (by kernel_rfl) (by kernel_rfl) (fun _ _ _ h => h) (yieldsIf_load_at (by rfl) 23 _ rfl ⟨w.heap.size, 0, none⟩ rfl 32 (fun i => bv (one i)) 5 (fun _ hS i hi => by rw [add_zero_block, hS.cell, arr_get, if_pos hi]) Tryd.underlying23 (by kernel_rfl)) (by assumption) ?_
  try simp only [Act.put, List.setIfInBounds_toArray, List.set_cons_zero, List.set_cons_succ]
  refine wpAnyH_take (i := 2) (oi := ⟨some 28, _, _, _, _, _⟩) (v := ?_) rfl (by kernel_rfl) (by kernel_rfl) (by kernel_rfl) (fun _ _ _ h => h) (Or.inl ⟨by rfl, ?_⟩) (by assumption) ?_
  rotate_left
  · intro w hSw; (try dsimp only at hSw); go_simp; try (with_reducible rfl)
  rotate_left 0
  try simp only [Act.put, List.setIfInBounds_toArray, List.set_cons_zero, List.set_cons_succ]
  refine wpAnyH_take (i := 3) (oi := ⟨some 29, _, _, _, _, _⟩) (v := ?_) rfl (by kernel_rfl) (by kernel_rfl) (by kernel_rfl) (fun _ _ _ h => h) (Or.inl ⟨by rfl, ?_⟩) (by assumption) ?_
  rotate_left
  · intro w hSw; (try dsimp only at hSw); go_simp; try (with_reducible rfl)
  rotate_left 0
  try simp only [Act.put, List.setIfInBounds_toArray, List.set_cons_zero, List.set_cons_succ]
  refine wpAnyH_take (i := 4) (oi := ⟨some 30, _, _, _, _, _⟩) (v := ?_) rfl (by kernel_rfl) (by kernel_rfl) (by kernel_rfl) (fun _ _ _ h => h) (Or.inl ⟨by rfl, ?_⟩) (by assumption) ?_
  rotate_left
  · intro w hSw; (try dsimp only at hSw); go_simp; try (with_reducible rfl)
  rotate_left 0
  try simp only [Act.put, List.setIfInBounds_toArray, List.set_cons_zero, List.set_cons_succ]
  refine wpAnyH_ready (rs := [5]) (by kernel_rfl) (by simp) ?_
  refine (AllReadyH.cons (o := ⟨none, _, _, _, _, _⟩) rfl (fun K hK => ?_) AllReadyH.nil)
  (try rw [if_pos (by rfl)])
  refine wp_store_row 23 _ _ rfl (w.heap.size + 1) (arr 32 fun i => bv (one i)) rfl rfl 23 _ k10 (by rw [arr_size]; kernel_rfl) (by simp only [arr_size]) (arr_all_bv _ _) ?_
  replace k11 := Blk.setRow_far k11 (show w.heap.size + 1 + 1 ≠ w.heap.size + 1 by omega) (arr 32 fun i => bv (one i))
  replace k10 := Blk.setRow k10 (arr 32 fun i => bv (one i))
  replace hbX := below_setRow hbX (Nat.le_refl _) (arr 32 fun i => bv (one i))
  try simp only [Act.put]
  try dsimp only
  refine hK.out _ _ (H8.out _ hbX) (fun hHeld => ?_)
  clear hK K
  try simp only [Act.put, List.setIfInBounds_toArray, List.set_cons_zero, List.set_cons_succ]
  refine wpAnyH_ready (rs := [6]) (by kernel_rfl) (by simp) ?_
  refine (AllReadyH.cons (o := ⟨none, _, _, _, _, _⟩) rfl (fun K hK => ?_) AllReadyH.nil)
  (try rw [if_pos (by rfl)])
  refine wp_store_row 23 _ _ rfl (w.heap.size + 1 + 1) (arr 32 fun i => bv (one i)) rfl rfl 23 _ k11 (by rw [arr_size]; kernel_rfl) (by simp only [arr_size]) (arr_all_bv _ _) ?_
  replace k10 := Blk.setRow_far k10 (show w.heap.size + 1 ≠ w.heap.size + 1 + 1 by omega) (arr 32 fun i => bv (one i))
  replace k11 := Blk.setRow k11 (arr 32 fun i => bv (one i))
  replace hbX := below_setRow hbX (Nat.le_succ _) (arr 32 fun i => bv (one i))
  try simp only [Act.put]
  try dsimp only
  refine hK.out _ _ (H8.out _ hbX) (fun hHeld => ?_)
  clear hK K
  try simp only [Act.put, List.setIfInBounds_toArray, List.set_cons_zero, List.set_cons_succ]
  refine wpAnyH_take (i := 7) (oi := ⟨some 12, _, _, _, _, _⟩) (v := ?_) rfl (by kernel_rfl) (by kernel_rfl) (by kernel_rfl) (fun _ _ _ h => h) (Or.inl ⟨by rfl, ?_⟩) (by assumption) ?_
  rotate_left
  · intro w hSw; (try dsimp only at hSw); go_simp; try (with_reducible rfl)
  rotate_left 0
  try simp only [Act.put, List.setIfInBounds_toArray, List.set_cons_zero, List.set_cons_succ]
  refine wpAnyH_done (by kernel_rfl) ?_ _
  go_wp2_with fail
  refine bodyPost_ret (results_cells2_tmp (p := 10) (q := 11) (r := 12) rfl _ _ (w.heap.size + 1) (w.heap.size + 1 + 1) 23 _ _ _ rfl rfl k10 k11 Tryd.underlying23 rfl (by rw [arr_size]; kernel_rfl) (by rw [arr_size]; kernel_rfl)) rfl ?_
  exact ⟨rfl, hBW.trans (hbX.mono (Nat.le_succ _))⟩
set_option maxRecDepth 100000 in
set_option maxHeartbeats 2000000 in
theorem both_not (m : Nat) (one : D) (A : Option Addr) (L c : Nat) (w : World) (hb : ((L : Int) != 1) = true) :
    Calls Tryd.prog 40 #[.int .i64 (m : Int), .int .i64 (m : Int), .slice A L c, .agg (arr 32 fun i => bv (one i)), .bool false] w fun e w' => e = .returned (.tuple #[.agg (arr 32 fun i => bv (one i)), .agg (arr 32 fun i => bv (one i)), .bool false]) ∧ Below w.heap.size w w' := by
  have hZ32 : Hid (Array.replicate 32 (bv 0) = arr 32 fun _ => bv 0) := Lib.hid (by rw [← upto_none 32 (fun _ => bv 0) (bv 0)]; exact arr_congr fun i hi => by rfl)
  go_enter Tryd.func40, Tryd.ntmps40
  go_wp2_with fail
  generalize hW : World.alloc (World.alloc (World.alloc w _) _) _ = W
  have r8 : Blk W w.heap.size 23 (arr 32 fun i => bv (one i)) := by rw [← hW]; exact ((Blk.new w _ _).alloc _).alloc _
  have r10 : Blk W (w.heap.size + 1) 23 (arr 32 fun _ => bv 0) := by rw [← hW]; exact (Blk.newAt _ _ (by simp) hZ32.out).alloc _
  have r11 : Blk W (w.heap.size + 1 + 1) 23 (arr 32 fun _ => bv 0) := by rw [← hW]; exact Blk.newAt _ _ (by simp) hZ32.out
  have b0 : Below w.heap.size w W := by rw [← hW]; exact (((Below.refl _ w).alloc (Nat.le_refl _) _).alloc (by simp) _).alloc (by simp; omega) _
  have z0 : W.heap.size = w.heap.size + 3 := by rw [← hW]; simp
  have HW := Lib.hid (And.intro r8 (And.intro r10 (And.intro r11 (And.intro b0 z0))))
  clear hW r8 r10 r11 b0 z0
  have k8 := HW.out.1.drew
  have k10 := HW.out.2.1.drew
  have k11 := HW.out.2.2.1.drew
  have hbX : Below (w.heap.size + 1) W.drew W.drew := Below.refl _ _
  have H8 : Hid (∀ W', Below (w.heap.size + 1) W.drew W' → Blk W' w.heap.size 23 (arr 32 fun i => bv (one i))) := Lib.hid fun W' hb => k8.below hb (Nat.lt_succ_self _)
  have hBW : Below w.heap.size w W.drew := HW.out.2.2.2.1.drew
  refine wp_region_held_drew (S := fun W' => Blk W' w.heap.size 23 (arr 32 fun i => bv (one i))) (by kernel_rfl) ?_ (fun hHeld => ?_)
  · exact H8.out _ hbX
  refine wpAnyH_take (i := 0) (oi := ⟨some 34, _, _, _, _, _⟩) (v := (.agg (arr 32 fun i => bv (one i)))) rfl (by kernel_rfl) (by kernel_rfl) (by kernel_rfl) (fun _ _ _ h => h) (yieldsIf_load_at (by rfl) 23 _ rfl ⟨w.heap.size, 0, none⟩ rfl 32 (fun i => bv (one i)) 5 (fun _ hS i hi => by rw [add_zero_block, hS.cell, arr_get, if_pos hi]) Tryd.underlying23 (by kernel_rfl)) (by assumption) ?_
  try simp only [Act.put, List.setIfInBounds_toArray, List.set_cons_zero, List.set_cons_succ]
  refine wpAnyH_take (i := 1) (oi := ⟨some 35, _, _, _, _, _⟩) (v := (.agg (arr 32 fun i => bv (one i)))) rfl (by kernel_rfl) (by kernel_rfl) (by kernel_rfl) (fun _ _ _ h => h) (yieldsIf_load_at (by rfl) 23 _ rfl ⟨w.heap.size, 0, none⟩ rfl 32 (fun i => bv (one i)) 5 (fun _ hS i hi => by rw [add_zero_block, hS.cell, arr_get, if_pos hi]) Tryd.underlying23 (by kernel_rfl)) (by assumption) ?_
  try simp only [Act.put, List.setIfInBounds_toArray, List.set_cons_zero, List.set_cons_succ]
  refine wpAnyH_ready (rs := [2]) (by kernel_rfl) (by simp) ?_
  refine (AllReadyH.cons (o := ⟨none, _, _, _, _, _⟩) rfl (fun K hK => ?_) AllReadyH.nil)
  (try rw [if_pos (by rfl)])
  refine wp_store_row 23 _ _ rfl (w.heap.size + 1) (arr 32 fun i => bv (one i)) rfl rfl 23 _ k10 (by rw [arr_size]; kernel_rfl) (by simp only [arr_size]) (arr_all_bv _ _) ?_
  replace k11 := Blk.setRow_far k11 (show w.heap.size + 1 + 1 ≠ w.heap.size + 1 by omega) (arr 32 fun i => bv (one i))
  replace k10 := Blk.setRow k10 (arr 32 fun i => bv (one i))
  replace hbX := below_setRow hbX (Nat.le_refl _) (arr 32 fun i => bv (one i))
  try simp only [Act.put]
  try dsimp only
  refine hK.out _ _ (H8.out _ hbX) (fun hHeld => ?_)
  clear hK K
  try simp only [Act.put, List.setIfInBounds_toArray, List.set_cons_zero, List.set_cons_succ]
  refine wpAnyH_ready (rs := [3]) (by kernel_rfl) (by simp) ?_
  refine (AllReadyH.cons (o := ⟨none, _, _, _, _, _⟩) rfl (fun K hK => ?_) AllReadyH.nil)
  (try rw [if_pos (by rfl)])
  refine wp_store_row 23 _ _ rfl (w.heap.size + 1 + 1) (arr 32 fun i => bv (one i)) rfl rfl 23 _ k11 (by rw [arr_size]; kernel_rfl) (by simp only [arr_size]) (arr_all_bv _ _) ?_
  replace k10 := Blk.setRow_far k10 (show w.heap.size + 1 ≠ w.heap.size + 1 + 1 by omega) (arr 32 fun i => bv (one i))
  replace k11 := Blk.setRow k11 (arr 32 fun i => bv (one i))
  replace hbX := below_setRow hbX (Nat.le_succ _) (arr 32 fun i => bv (one i))
  try simp only [Act.put]
  try dsimp only
  refine hK.out _ _ (H8.out _ hbX) (fun hHeld => ?_)
  clear hK K
  try simp only [Act.put, List.setIfInBounds_toArray, List.set_cons_zero, List.set_cons_succ]
  refine wpAnyH_take (i := 4) (oi := ⟨some 12, _, _, _, _, _⟩) (v := ?_) rfl (by kernel_rfl) (by kernel_rfl) (by kernel_rfl) (fun _ _ _ h => h) (Or.inl ⟨by rfl, ?_⟩) (by assumption) ?_
  rotate_left
  · intro w hSw; (try dsimp only at hSw); go_simp; try (with_reducible rfl)
  rotate_left 0
  try simp only [Act.put, List.setIfInBounds_toArray, List.set_cons_zero, List.set_cons_succ]
  refine wpAnyH_done (by kernel_rfl) ?_ _
  go_wp2_with fail
  refine bodyPost_ret (results_cells2_tmp (p := 10) (q := 11) (r := 12) rfl _ _ (w.heap.size + 1) (w.heap.size + 1 + 1) 23 _ _ _ rfl rfl k10 k11 Tryd.underlying23 rfl (by rw [arr_size]; kernel_rfl) (by rw [arr_size]; kernel_rfl)) rfl ?_
  exact ⟨rfl, hBW.trans (hbX.mono (Nat.le_succ _))⟩
set_option maxRecDepth 100000 in
set_option maxHeartbeats 2000000 in
theorem both_one (m : Nat) (one x : D) (ad : Addr) (c : Nat) (w : World) (hr : RdI w (fun b => b < w.heap.size) (.slice (some ad) 1 c) [x]) :
    Calls Tryd.prog 40 #[.int .i64 (m : Int), .int .i64 (m : Int), .slice (some ad) 1 c, .agg (arr 32 fun i => bv (one i)), .bool false] w fun e w' => e = .returned (.tuple #[.agg (arr 32 fun i => bv (x i)), .agg (arr 32 fun i => bv (x i)), .bool true]) ∧ Below w.heap.size w w' := by
  have HLP : Hid (∀ W, Below w.heap.size w W → ∀ i, i < 32 → W.cell? ((ad.add 0).add i) = some (bv (x i))) := Lib.hid fun W hb => by
    obtain ⟨ad', e, _, hc⟩ := (hr.old hb).at_ (k := 0) (by omega)
    injection e with e
    subst e
    exact hc
  have hZ32 : Hid (Array.replicate 32 (bv 0) = arr 32 fun _ => bv 0) := Lib.hid (by rw [← upto_none 32 (fun _ => bv 0) (bv 0)]; exact arr_congr fun i hi => by rfl)
  go_enter Tryd.func40, Tryd.ntmps40
  go_wp2_with fail
  generalize hW : World.alloc (World.alloc (World.alloc w _) _) _ = W
  have r8 : Blk W w.heap.size 23 (arr 32 fun i => bv (one i)) := by rw [← hW]; exact ((Blk.new w _ _).alloc _).alloc _
  have r10 : Blk W (w.heap.size + 1) 23 (arr 32 fun _ => bv 0) := by rw [← hW]; exact (Blk.newAt _ _ (by simp) hZ32.out).alloc _
  have r11 : Blk W (w.heap.size + 1 + 1) 23 (arr 32 fun _ => bv 0) := by rw [← hW]; exact Blk.newAt _ _ (by simp) hZ32.out
  have b0 : Below w.heap.size w W := by rw [← hW]; exact (((Below.refl _ w).alloc (Nat.le_refl _) _).alloc (by simp) _).alloc (by simp; omega) _
  have z0 : W.heap.size = w.heap.size + 3 := by rw [← hW]; simp
  have HW := Lib.hid (And.intro r8 (And.intro r10 (And.intro r11 (And.intro b0 z0))))
  clear hW r8 r10 r11 b0 z0
  have k8 := HW.out.1.drew
  have k10 := HW.out.2.1.drew
  have k11 := HW.out.2.2.1.drew
  have hbX : Below (w.heap.size + 1) W.drew W.drew := Below.refl _ _
  have H8 : Hid (∀ W', Below (w.heap.size + 1) W.drew W' → Blk W' w.heap.size 23 (arr 32 fun i => bv (one i))) := Lib.hid fun W' hb => k8.below hb (Nat.lt_succ_self _)
  have hBW : Below w.heap.size w W.drew := HW.out.2.2.2.1.drew
  refine wp_region_held_drew (S := fun W' => ∀ i, i < 32 → W'.cell? ((ad.add 0).add i) = some (bv (x i))) (by kernel_rfl) ?_ (fun hHeld => ?_)
  · exact HLP.out _ (hBW.trans (hbX.mono (Nat.le_succ _)))
  refine wpAnyH_take (i := 0) (oi := ⟨some 36, _, _, _, _, _⟩) (v := ?_) rfl (by kernel_rfl) (by kernel_rfl) (by kernel_rfl) (fun _ _ _ h => h) (Or.inl ⟨by rfl, ?_⟩) (by assumption) ?_
  rotate_left
  · intro w hSw; (try dsimp only at hSw); go_simp; try (with_reducible rfl)
  rotate_left 0
  try simp only [Act.put, List.setIfInBounds_toArray, List.set_cons_zero, List.set_cons_succ]
  refine wpAnyH_take (i := 1) (oi := ⟨some 37, _, _, _, _, _⟩) (v := ?_) rfl (by kernel_rfl) (by kernel_rfl) (by kernel_rfl) (fun _ _ _ h => h) (Or.inl ⟨by rfl, ?_⟩) (by assumption) ?_
  rotate_left
  · intro w hSw; (try dsimp only at hSw); go_simp; try (with_reducible rfl)
  rotate_left 0
  try simp only [Act.put, List.setIfInBounds_toArray, List.set_cons_zero, List.set_cons_succ]
  refine wpAnyH_take (i := 2) (oi := ⟨some 38, _, _, _, _, _⟩) (v := (.agg (arr 32 fun i => bv (x i)))) rfl (by kernel_rfl) (by kernel_rfl) (by kernel_rfl) (fun _ _ _ h => h) (yieldsIf_load_at (by rfl) 23 _ rfl (ad.add 0) rfl 32 (fun i => bv (x i)) 5 (fun _ hS => hS) Tryd.underlying23 (by kernel_rfl)) (by assumption) ?_
  try simp only [Act.put, List.setIfInBounds_toArray, List.set_cons_zero, List.set_cons_succ]
  refine wpAnyH_take (i := 3) (oi := ⟨some 39, _, _, _, _, _⟩) (v := ?_) rfl (by kernel_rfl) (by kernel_rfl) (by kernel_rfl) (fun _ _ _ h => h) (Or.inl ⟨by rfl, ?_⟩) (by assumption) ?_
  rotate_left
  · intro w hSw; (try dsimp only at hSw); go_simp; try (with_reducible rfl)
  rotate_left 0
  try simp only [Act.put, List.setIfInBounds_toArray, List.set_cons_zero, List.set_cons_succ]
  refine wpAnyH_take (i := 4) (oi := ⟨some 40, _, _, _, _, _⟩) (v := ?_) rfl (by kernel_rfl) (by kernel_rfl) (by kernel_rfl) (fun _ _ _ h => h) (Or.inl ⟨by rfl, ?_⟩) (by assumption) ?_
  rotate_left
  · intro w hSw; (try dsimp only at hSw); go_simp; try (with_reducible rfl)
  rotate_left 0
  try simp only [Act.put, List.setIfInBounds_toArray, List.set_cons_zero, List.set_cons_succ]
  refine wpAnyH_take (i := 5) (oi := ⟨some 41, _, _, _, _, _⟩) (v := (.agg (arr 32 fun i => bv (x i)))) rfl (by kernel_rfl) (by kernel_rfl) (by kernel_rfl) (fun _ _ _ h => h) (yieldsIf_load_at (by rfl) 23 _ rfl (ad.add 0) rfl 32 (fun i => bv (x i)) 5 (fun _ hS => hS) Tryd.underlying23 (by kernel_rfl)) (by assumption) ?_
  try simp only [Act.put, List.setIfInBounds_toArray, List.set_cons_zero, List.set_cons_succ]
  refine wpAnyH_ready (rs := [6]) (by kernel_rfl) (by simp) ?_
  refine (AllReadyH.cons (o := ⟨none, _, _, _, _, _⟩) rfl (fun K hK => ?_) AllReadyH.nil)
  (try rw [if_pos (by rfl)])
  refine wp_store_row 23 _ _ rfl (w.heap.size + 1) (arr 32 fun i => bv (x i)) rfl rfl 23 _ k10 (by rw [arr_size]; kernel_rfl) (by simp only [arr_size]) (arr_all_bv _ _) ?_
  replace k11 := Blk.setRow_far k11 (show w.heap.size + 1 + 1 ≠ w.heap.size + 1 by omega) (arr 32 fun i => bv (x i))
  replace k10 := Blk.setRow k10 (arr 32 fun i => bv (x i))
  replace hbX := below_setRow hbX (Nat.le_refl _) (arr 32 fun i => bv (x i))
  try simp only [Act.put]
  try dsimp only
  refine hK.out _ _ (HLP.out _ (hBW.trans (hbX.mono (Nat.le_succ _)))) (fun hHeld => ?_)
  clear hK K
  try simp only [Act.put, List.setIfInBounds_toArray, List.set_cons_zero, List.set_cons_succ]
  refine wpAnyH_ready (rs := [7]) (by kernel_rfl) (by simp) ?_
  refine (AllReadyH.cons (o := ⟨none, _, _, _, _, _⟩) rfl (fun K hK => ?_) AllReadyH.nil)
  (try rw [if_pos (by rfl)])
  refine wp_store_row 23 _ _ rfl (w.heap.size + 1 + 1) (arr 32 fun i => bv (x i)) rfl rfl 23 _ k11 (by rw [arr_size]; kernel_rfl) (by simp only [arr_size]) (arr_all_bv _ _) ?_
  replace k10 := Blk.setRow_far k10 (show w.heap.size + 1 ≠ w.heap.size + 1 + 1 by omega) (arr 32 fun i => bv (x i))
  replace k11 := Blk.setRow k11 (arr 32 fun i => bv (x i))
  replace hbX := below_setRow hbX (Nat.le_succ _) (arr 32 fun i => bv (x i))
  try simp only [Act.put]
  try dsimp only
  refine hK.out _ _ (HLP.out _ (hBW.trans (hbX.mono (Nat.le_succ _)))) (fun hHeld => ?_)
  clear hK K
  try simp only [Act.put, List.setIfInBounds_toArray, List.set_cons_zero, List.set_cons_succ]
  refine wpAnyH_take (i := 8) (oi := ⟨some 12, _, _, _, _, _⟩) (v := ?_) rfl (by kernel_rfl) (by kernel_rfl) (by kernel_rfl) (fun _ _ _ h => h) (Or.inl ⟨by rfl, ?_⟩) (by assumption) ?_
  rotate_left
  · intro w hSw; (try dsimp only at hSw); go_simp; try (with_reducible rfl)
  rotate_left 0
  try simp only [Act.put, List.setIfInBounds_toArray, List.set_cons_zero, List.set_cons_succ]
  refine wpAnyH_done (by kernel_rfl) ?_ _
  go_wp2_with fail
  refine bodyPost_ret (results_cells2_tmp (p := 10) (q := 11) (r := 12) rfl _ _ (w.heap.size + 1) (w.heap.size + 1 + 1) 23 _ _ _ rfl rfl k10 k11 Tryd.underlying23 rfl (by rw [arr_size]; kernel_rfl) (by rw [arr_size]; kernel_rfl)) rfl ?_
  exact ⟨rfl, hBW.trans (hbX.mono (Nat.le_succ _))⟩
set_option maxRecDepth 100000 in
set_option maxHeartbeats 2000000 in
theorem both_none (m n : Nat) (one : D) (A : Option Addr) (c : Nat) (whole : Bool) (w : World) (hb : ((m : Int) == (n : Int)) = false) :
    Calls Tryd.prog 40 #[.int .i64 (m : Int), .int .i64 (n : Int), .slice A 0 c, .agg (arr 32 fun i => bv (one i)), .bool whole] w fun e w' => e = .returned (.tuple #[.agg (arr 32 fun i => bv (one i)), .agg (arr 32 fun i => bv (one i)), .bool false]) ∧ Below w.heap.size w w' := by
  have hZ32 : Hid (Array.replicate 32 (bv 0) = arr 32 fun _ => bv 0) := Lib.hid (by rw [← upto_none 32 (fun _ => bv 0) (bv 0)]; exact arr_congr fun i hi => by rfl)
  go_enter Tryd.func40, Tryd.ntmps40
  go_wp2_with fail
  generalize hW : World.alloc (World.alloc (World.alloc w _) _) _ = W
  have r8 : Blk W w.heap.size 23 (arr 32 fun i => bv (one i)) := by rw [← hW]; exact ((Blk.new w _ _).alloc _).alloc _
  have r10 : Blk W (w.heap.size + 1) 23 (arr 32 fun _ => bv 0) := by rw [← hW]; exact (Blk.newAt _ _ (by simp) hZ32.out).alloc _
  have r11 : Blk W (w.heap.size + 1 + 1) 23 (arr 32 fun _ => bv 0) := by rw [← hW]; exact Blk.newAt _ _ (by simp) hZ32.out
  have b0 : Below w.heap.size w W := by rw [← hW]; exact (((Below.refl _ w).alloc (Nat.le_refl _) _).alloc (by simp) _).alloc (by simp; omega) _
  have z0 : W.heap.size = w.heap.size + 3 := by rw [← hW]; simp
  have HW := Lib.hid (And.intro r8 (And.intro r10 (And.intro r11 (And.intro b0 z0))))
  clear hW r8 r10 r11 b0 z0
  have k8 := HW.out.1.drew
  have k10 := HW.out.2.1.drew
  have k11 := HW.out.2.2.1.drew
  have hbX : Below (w.heap.size + 1) W.drew W.drew := Below.refl _ _
  have H8 : Hid (∀ W', Below (w.heap.size + 1) W.drew W' → Blk W' w.heap.size 23 (arr 32 fun i => bv (one i))) := Lib.hid fun W' hb => k8.below hb (Nat.lt_succ_self _)
  have hBW : Below w.heap.size w W.drew := HW.out.2.2.2.1.drew
  refine wp_region_held_drew (S := fun W' => Blk W' w.heap.size 23 (arr 32 fun i => bv (one i))) (by kernel_rfl) ?_ (fun hHeld => ?_)
  · exact H8.out _ hbX
  refine wpAnyH_take (i := 0) (oi := ⟨some 45, _, _, _, _, _⟩) (v := (.agg (arr 32 fun i => bv (one i)))) rfl (by kernel_rfl) (by kernel_rfl) (by kernel_rfl) (fun _ _ _ h => h) (yieldsIf_load_at (by rfl) 23 _ rfl ⟨w.heap.size, 0, none⟩ rfl 32 (fun i => bv (one i)) 5 (fun _ hS i hi => by rw [add_zero_block, hS.cell, arr_get, if_pos hi]) Tryd.underlying23 (by kernel_rfl)) (by assumption) ?_
  try simp only [Act.put, List.setIfInBounds_toArray, List.set_cons_zero, List.set_cons_succ]
  refine wpAnyH_take (i := 1) (oi := ⟨some 46, _, _, _, _, _⟩) (v := (.agg (arr 32 fun i => bv (one i)))) rfl (by kernel_rfl) (by kernel_rfl) (by kernel_rfl) (fun _ _ _ h => h) (yieldsIf_load_at (by rfl) 23 _ rfl ⟨w.heap.size, 0, none⟩ rfl 32 (fun i => bv (one i)) 5 (fun _ hS i hi => by rw [add_zero_block, hS.cell, arr_get, if_pos hi]) Tryd.underlying23 (by kernel_rfl)) (by assumption) ?_
  try simp only [Act.put, List.setIfInBounds_toArray, List.set_cons_zero, List.set_cons_succ]
  refine wpAnyH_ready (rs := [2]) (by kernel_rfl) (by simp) ?_
  refine (AllReadyH.cons (o := ⟨none, _, _, _, _, _⟩) rfl (fun K hK => ?_) AllReadyH.nil)
  (try rw [if_pos (by rfl)])
  refine wp_store_row 23 _ _ rfl (w.heap.size + 1) (arr 32 fun i => bv (one i)) rfl rfl 23 _ k10 (by rw [arr_size]; kernel_rfl) (by simp only [arr_size]) (arr_all_bv _ _) ?_
  replace k11 := Blk.setRow_far k11 (show w.heap.size + 1 + 1 ≠ w.heap.size + 1 by omega) (arr 32 fun i => bv (one i))
  replace k10 := Blk.setRow k10 (arr 32 fun i => bv (one i))
  replace hbX := below_setRow hbX (Nat.le_refl _) (arr 32 fun i => bv (one i))
  try simp only [Act.put]
  try dsimp only
  refine hK.out _ _ (H8.out _ hbX) (fun hHeld => ?_)
  clear hK K
  try simp only [Act.put, List.setIfInBounds_toArray, List.set_cons_zero, List.set_cons_succ]
  refine wpAnyH_ready (rs := [3]) (by kernel_rfl) (by simp) ?_
  refine (AllReadyH.cons (o := ⟨none, _, _, _, _, _⟩) rfl (fun K hK => ?_) AllReadyH.nil)
  (try rw [if_pos (by rfl)])
  refine wp_store_row 23 _ _ rfl (w.heap.size + 1 + 1) (arr 32 fun i => bv (one i)) rfl rfl 23 _ k11 (by rw [arr_size]; kernel_rfl) (by simp only [arr_size]) (arr_all_bv _ _) ?_
  replace k10 := Blk.setRow_far k10 (show w.heap.size + 1 ≠ w.heap.size + 1 + 1 by omega) (arr 32 fun i => bv (one i))
  replace k11 := Blk.setRow k11 (arr 32 fun i => bv (one i))
  replace hbX := below_setRow hbX (Nat.le_succ _) (arr 32 fun i => bv (one i))
  try simp only [Act.put]
  try dsimp only
  refine hK.out _ _ (H8.out _ hbX) (fun hHeld => ?_)
  clear hK K
  try simp only [Act.put, List.setIfInBounds_toArray, List.set_cons_zero, List.set_cons_succ]
  refine wpAnyH_take (i := 4) (oi := ⟨some 12, _, _, _, _, _⟩) (v := ?_) rfl (by kernel_rfl) (by kernel_rfl) (by kernel_rfl) (fun _ _ _ h => h) (Or.inl ⟨by rfl, ?_⟩) (by assumption) ?_
  rotate_left
  · intro w hSw; (try dsimp only at hSw); go_simp; try (with_reducible rfl)
  rotate_left 0
  try simp only [Act.put, List.setIfInBounds_toArray, List.set_cons_zero, List.set_cons_succ]
  refine wpAnyH_done (by kernel_rfl) ?_ _
  go_wp2_with fail
  refine bodyPost_ret (results_cells2_tmp (p := 10) (q := 11) (r := 12) rfl _ _ (w.heap.size + 1) (w.heap.size + 1 + 1) 23 _ _ _ rfl rfl k10 k11 Tryd.underlying23 rfl (by rw [arr_size]; kernel_rfl) (by rw [arr_size]; kernel_rfl)) rfl ?_
  exact ⟨rfl, hBW.trans (hbX.mono (Nat.le_succ _))⟩
set_option maxRecDepth 100000 in
set_option maxHeartbeats 2000000 in
theorem both_low (m n K p L c : Nat) (one x y1 y2 z2 : D) (ok whole : Bool) (ad : Addr) (w : World) (hne : ((m : Int) == (n : Int)) = false) (hl0 : ((L : Int) == 0) = false) (hm1 : (L : Int) - 1 = (p : Int)) (_hpm : p < L) (hmK : (m : Int) ≤ (K : Int))
    (_hbm : (m : Int) ≤ 1099511627776) (_hbn : (n : Int) ≤ 1099511627776) (_hbK : (K : Int) ≤ 1099511627776) (_hm0 : (0 : Int) ≤ (m : Int)) (_hn0 : (0 : Int) ≤ (n : Int)) (_hK0 : (0 : Int) ≤ (K : Int)) (hLi : (L : Int) ≤ 71) (hpi : (p : Int) < (L : Int)) (hp0 : (0 : Int) ≤ (p : Int))
    (HHF : Hid (∀ W, Calls Tryd.prog 43 #[.int .i64 (n : Int)] W fun e w' => e = .returned (.int .i64 (K : Int)) ∧ w' = W))
    (HLP : Hid (∀ W, Below w.heap.size w W → (Instr.loadAt 23 (.pointer (some (ad.add (p * 32))))).run Tryd.prog W = .ok (.agg (arr 32 fun i => bv (x i))) W))
    (sl : ∀ W, (Instr.sliceAt 24 (.slice (some ad) L c) none (some (.int .i64 (p : Int))) none).run Tryd.prog W = .ok (.slice (some ad) p c) W)
    (IH : Hid (∀ W, Below w.heap.size w W → Calls Tryd.prog 40 #[.int .i64 (m : Int), .int .i64 (K : Int), .slice (some ad) p c, .agg (arr 32 fun i => bv (one i)), .bool whole] W fun e w' => e = .returned (.tuple #[.agg (arr 32 fun i => bv (y1 i)), .agg (arr 32 fun i => bv (y2 i)), .bool ok]) ∧ Below W.heap.size W w'))
    (HN1 : Hid (∀ W, Calls Tryd.prog 44 #[.agg (arr 32 fun i => bv (y2 i)), .agg (arr 32 fun i => bv (x i))] W fun e w' => e = .returned (.agg (arr 32 fun i => bv (z2 i))) ∧ Below W.heap.size W w')) :
    Calls Tryd.prog 40 #[.int .i64 (m : Int), .int .i64 (n : Int), .slice (some ad) L c, .agg (arr 32 fun i => bv (one i)), .bool whole] w fun e w' => e = .returned (.tuple #[.agg (arr 32 fun i => bv (y1 i)), .agg (arr 32 fun i => bv (z2 i)), .bool ok]) ∧ Below w.heap.size w w' := by
  have hZ32 : Hid (Array.replicate 32 (bv 0) = arr 32 fun _ => bv 0) := Lib.hid (by rw [← upto_none 32 (fun _ => bv 0) (bv 0)]; exact arr_congr fun i hi => by rfl)
  go_enter Tryd.func40, Tryd.ntmps40
  go_wp2_with fail
  generalize hW : World.alloc (World.alloc (World.alloc w _) _) _ = W
  have r8 : Blk W w.heap.size 23 (arr 32 fun i => bv (one i)) := by rw [← hW]; exact ((Blk.new w _ _).alloc _).alloc _
  have r10 : Blk W (w.heap.size + 1) 23 (arr 32 fun _ => bv 0) := by rw [← hW]; exact (Blk.newAt _ _ (by simp) hZ32.out).alloc _
  have r11 : Blk W (w.heap.size + 1 + 1) 23 (arr 32 fun _ => bv 0) := by rw [← hW]; exact Blk.newAt _ _ (by simp) hZ32.out
  have b0 : Below w.heap.size w W := by rw [← hW]; exact (((Below.refl _ w).alloc (Nat.le_refl _) _).alloc (by simp) _).alloc (by simp; omega) _
  have z0 : W.heap.size = w.heap.size + 3 := by rw [← hW]; simp
  have HW := Lib.hid (And.intro r8 (And.intro r10 (And.intro r11 (And.intro b0 z0))))
  clear hW r8 r10 r11 b0 z0
  go_wp2_with (first
    | (go_at_call 43; refine (HHF.out _).mono ?_; rintro e W0 ⟨rfl, h0⟩; obtain rfl := h0.symm; clear HHF)
    | (refine wpList_store_arrW rfl 23 _ _ rfl W.heap.size (arr 32 fun i => bv (x i)) rfl rfl 23 _ (Blk.new W _ _) (by rw [arr_size]; kernel_rfl) (by first | (simp only [arr_size]; done) | (rw [arr_size]; rfl)) (arr_all_bv _ _) ?_; intro W5 hS5 hz5 hb5 hk5; have q8 : Blk W5 w.heap.size 23 (arr 32 fun i => bv (one i)) := Blk.below (HW.out.1.alloc _) hb5 (by have := HW.out.2.2.2.2; omega); have q10 : Blk W5 (w.heap.size + 1) 23 (arr 32 fun _ => bv 0) := Blk.below (HW.out.2.1.alloc _) hb5 (by have := HW.out.2.2.2.2; omega); have q11 : Blk W5 (w.heap.size + 1 + 1) 23 (arr 32 fun _ => bv 0) := Blk.below (HW.out.2.2.1.alloc _) hb5 (by have := HW.out.2.2.2.2; omega); have hB5 : Below w.heap.size w W5 := (HW.out.2.2.2.1.alloc HW.out.2.2.2.1.size _).trans (hb5.mono HW.out.2.2.2.1.size); have Q := Lib.hid (And.intro q10 (And.intro q11 (And.intro hS5 hB5))); clear hS5 hz5 hb5 hk5 q10 q11 hB5)
    | (guard_target = wpList _ _ _ (Oper.mk _ (.load 23 (.tmp 53)) _ _ _ _ :: _) _ _; refine wpList_load_run rfl 23 _ rfl _ _ rfl (HLP.out _ HW.out.2.2.2.1) ?_; clear HLP)
    | (refine wpList_load_arr rfl 23 _ rfl w.heap.size rfl 23 (arr 32 fun i => bv (one i)) _ q8 Tryd.underlying23 rfl (by rw [arr_size]; kernel_rfl) ?_)
    | (go_at_call 40; refine (IH.out _ Q.out.2.2.2).mono ?_; rintro e W1 ⟨rfl, hb1⟩; have k10 := Blk.below Q.out.1 hb1 Q.out.1.lt; have k11 := Blk.below Q.out.2.1 hb1 Q.out.2.1.lt; have kC := Blk.below Q.out.2.2.1 hb1 Q.out.2.2.1.lt; have HB1 := Lib.hid (Q.out.2.2.2.trans (hb1.mono Q.out.2.2.2.size)); have hz : w.heap.size + 3 ≤ W.heap.size ∧ W.heap.size < W1.heap.size := (by have h1 := HW.out.2.2.2.2; have h2 := kC.lt; omega); have HZ := Lib.hid hz; have P := Lib.hid (And.intro k10 (And.intro k11 kC)); clear hb1 IH q8 Q k10 k11 kC hz)
    | (refine wpList_store_arrW rfl 23 _ _ rfl W1.heap.size (arr 32 fun i => bv (y1 i)) rfl rfl 23 _ ((Blk.new W1 _ _).alloc _) (by rw [arr_size]; kernel_rfl) (by first | (simp only [arr_size]; done) | (rw [arr_size]; rfl)) (arr_all_bv _ _) ?_; intro W6 hS6 hz6 hb6 hk6; have j17 := (hk6 (W1.heap.size + 1) (by omega)).trans (Blk.newAt (W1.alloc _) (W1.heap.size + 1) (by simp) hZ32.out); have j10 := Blk.below ((P.out.1.alloc _).alloc _) hb6 P.out.1.lt; have j11 := Blk.below ((P.out.2.1.alloc _).alloc _) hb6 P.out.2.1.lt; have jC := Blk.below ((P.out.2.2.alloc _).alloc _) hb6 P.out.2.2.lt; have hB6 := (((HB1.out.alloc HB1.out.size _).alloc (by have := HB1.out.size; simp; omega) _).trans (hb6.mono HB1.out.size)); have V := Lib.hid (And.intro j10 (And.intro j11 (And.intro jC (And.intro hS6 hB6)))); clear hS6 hz6 hb6 hk6 j10 j11 jC hB6 P HB1)
    | (refine wpList_store_arrW rfl 23 _ _ rfl (W1.heap.size + 1) (arr 32 fun i => bv (y2 i)) rfl rfl 23 _ j17 (by rw [arr_size]; kernel_rfl) (by first | (simp only [arr_size]; done) | (rw [arr_size]; rfl)) (arr_all_bv _ _) ?_; intro W7 hS7 hz7 hb7 hk7; have kA : Blk W7 W1.heap.size 23 (arr 32 fun i => bv (y1 i)) := (hk7 W1.heap.size (by omega)).trans V.out.2.2.2.1; have kB := hS7; have k10 := Blk.below V.out.1 hb7 (by have := HZ.out; omega); have k11 := Blk.below V.out.2.1 hb7 (by have := HZ.out; omega); have kC := Blk.below V.out.2.2.1 hb7 (by have := HZ.out; omega); have hbX := V.out.2.2.2.2.trans (hb7.mono (by have := HZ.out; omega)); clear hS7 hz7 hb7 hk7 V j17))
  replace kA := Blk.drew kA
  replace kB := Blk.drew kB
  replace kC := Blk.drew kC
  replace k10 := Blk.drew k10
  replace k11 := Blk.drew k11
  replace hbX := hbX.drew
  refine wp_region_held_drew (S := fun W' => Blk W' W1.heap.size 23 (arr 32 fun i => bv (y1 i)) ∧ Blk W' (W1.heap.size + 1) 23 (arr 32 fun i => bv (y2 i)) ∧ Blk W' W.heap.size 23 (arr 32 fun i => bv (x i))) (by kernel_rfl) ?_ (fun hHeld => ?_)
  · exact ⟨kA, kB, kC⟩
  refine wpAnyH_take (i := 0) (oi := ⟨some 73, _, _, _, _, _⟩) (v := (.agg (arr 32 fun i => bv (y1 i)))) rfl (by kernel_rfl) (by kernel_rfl) (by kernel_rfl) (fun _ _ _ h => h) (yieldsIf_load_at (by rfl) 23 _ rfl ⟨W1.heap.size, 0, none⟩ rfl 32 (fun i => bv (y1 i)) 5 (fun _ hS i hi => by rw [add_zero_block, hS.1.cell, arr_get, if_pos hi]) Tryd.underlying23 (by kernel_rfl)) (by assumption) ?_
  try simp only [Act.put, List.setIfInBounds_toArray, List.set_cons_zero, List.set_cons_succ]
  refine wpAnyH_take (i := 1) (oi := ⟨some 74, _, _, _, _, _⟩) (v := (.agg (arr 32 fun i => bv (y2 i)))) rfl (by kernel_rfl) (by kernel_rfl) (by kernel_rfl) (fun _ _ _ h => h) (yieldsIf_load_at (by rfl) 23 _ rfl ⟨(W1.heap.size + 1), 0, none⟩ rfl 32 (fun i => bv (y2 i)) 5 (fun _ hS i hi => by rw [add_zero_block, hS.2.1.cell, arr_get, if_pos hi]) Tryd.underlying23 (by kernel_rfl)) (by assumption) ?_
  try simp only [Act.put, List.setIfInBounds_toArray, List.set_cons_zero, List.set_cons_succ]
  refine wpAnyH_take (i := 2) (oi := ⟨some 75, _, _, _, _, _⟩) (v := (.agg (arr 32 fun i => bv (x i)))) rfl (by kernel_rfl) (by kernel_rfl) (by kernel_rfl) (fun _ _ _ h => h) (yieldsIf_load_at (by rfl) 23 _ rfl ⟨W.heap.size, 0, none⟩ rfl 32 (fun i => bv (x i)) 5 (fun _ hS i hi => by rw [add_zero_block, hS.2.2.cell, arr_get, if_pos hi]) Tryd.underlying23 (by kernel_rfl)) (by assumption) ?_
  try simp only [Act.put, List.setIfInBounds_toArray, List.set_cons_zero, List.set_cons_succ]
  refine wpAnyH_take (i := 4) (oi := ⟨some 77, _, _, _, _, _⟩) (v := ?_) rfl (by kernel_rfl) (by kernel_rfl) (by kernel_rfl) (fun _ _ _ h => h) (Or.inl ⟨by rfl, ?_⟩) (by assumption) ?_
  rotate_left
  · intro w hSw; (try dsimp only at hSw); go_simp; try (with_reducible rfl)
  rotate_left 0
  try simp only [Act.put, List.setIfInBounds_toArray, List.set_cons_zero, List.set_cons_succ]
  refine wpAnyH_ready (rs := [3]) (by kernel_rfl) (by simp) ?_
  refine (AllReadyH.cons (o := ⟨some 76, _, _, _, _, _⟩) rfl (fun K hK => ?_) AllReadyH.nil)
  (try rw [if_pos (by rfl)])
  go_simp
  refine (HN1.out _).mono ?_
  rintro e W9 ⟨rfl, hb9⟩
  replace k10 := Blk.below k10 hb9 (Blk.lt k10)
  replace k11 := Blk.below k11 hb9 (Blk.lt k11)
  replace kA := Blk.below kA hb9 (Blk.lt kA)
  replace kB := Blk.below kB hb9 (Blk.lt kB)
  replace kC := Blk.below kC hb9 (Blk.lt kC)
  replace hbX := hbX.trans (hb9.mono hbX.size)
  clear hb9
  try dsimp only
  refine hK.out _ _ (⟨kA, kB, kC⟩) (fun hHeld => ?_)
  clear hK K
  try simp only [Act.put, List.setIfInBounds_toArray, List.set_cons_zero, List.set_cons_succ]
  refine wpAnyH_ready (rs := [5]) (by kernel_rfl) (by simp) ?_
  refine (AllReadyH.cons (o := ⟨none, _, _, _, _, _⟩) rfl (fun K hK => ?_) AllReadyH.nil)
  (try rw [if_pos (by rfl)])
  refine wp_store_row 23 _ _ rfl (w.heap.size + 1) (arr 32 fun i => bv (y1 i)) rfl rfl 23 _ k10 (by rw [arr_size]; kernel_rfl) (by simp only [arr_size]) (arr_all_bv _ _) ?_
  replace k11 := Blk.setRow_far k11 (show w.heap.size + 1 + 1 ≠ w.heap.size + 1 by omega) (arr 32 fun i => bv (y1 i))
  replace kA := Blk.setRow_far kA (show W1.heap.size ≠ (w.heap.size + 1) by have := HZ.out; omega) (arr 32 fun i => bv (y1 i))
  replace kB := Blk.setRow_far kB (show W1.heap.size + 1 ≠ (w.heap.size + 1) by have := HZ.out; omega) (arr 32 fun i => bv (y1 i))
  replace kC := Blk.setRow_far kC (show W.heap.size ≠ (w.heap.size + 1) by have := HZ.out; omega) (arr 32 fun i => bv (y1 i))
  replace k10 := Blk.setRow k10 (arr 32 fun i => bv (y1 i))
  replace hbX := below_setRow hbX (show w.heap.size ≤ (w.heap.size + 1) by omega) (arr 32 fun i => bv (y1 i))
  try simp only [Act.put]
  try dsimp only
  refine hK.out _ _ (⟨kA, kB, kC⟩) (fun hHeld => ?_)
  clear hK K
  try simp only [Act.put, List.setIfInBounds_toArray, List.set_cons_zero, List.set_cons_succ]
  refine wpAnyH_ready (rs := [6]) (by kernel_rfl) (by simp) ?_
  refine (AllReadyH.cons (o := ⟨none, _, _, _, _, _⟩) rfl (fun K hK => ?_) AllReadyH.nil)
  (try rw [if_pos (by rfl)])
  refine wp_store_row 23 _ _ rfl (w.heap.size + 1 + 1) (arr 32 fun i => bv (z2 i)) rfl rfl 23 _ k11 (by rw [arr_size]; kernel_rfl) (by simp only [arr_size]) (arr_all_bv _ _) ?_
  replace k10 := Blk.setRow_far k10 (show w.heap.size + 1 ≠ w.heap.size + 1 + 1 by omega) (arr 32 fun i => bv (z2 i))
  replace kA := Blk.setRow_far kA (show W1.heap.size ≠ (w.heap.size + 1 + 1) by have := HZ.out; omega) (arr 32 fun i => bv (z2 i))
  replace kB := Blk.setRow_far kB (show W1.heap.size + 1 ≠ (w.heap.size + 1 + 1) by have := HZ.out; omega) (arr 32 fun i => bv (z2 i))
  replace kC := Blk.setRow_far kC (show W.heap.size ≠ (w.heap.size + 1 + 1) by have := HZ.out; omega) (arr 32 fun i => bv (z2 i))
  replace k11 := Blk.setRow k11 (arr 32 fun i => bv (z2 i))
  replace hbX := below_setRow hbX (show w.heap.size ≤ (w.heap.size + 1 + 1) by omega) (arr 32 fun i => bv (z2 i))
  try simp only [Act.put]
  try dsimp only
  refine hK.out _ _ (⟨kA, kB, kC⟩) (fun hHeld => ?_)
  clear hK K
  try simp only [Act.put, List.setIfInBounds_toArray, List.set_cons_zero, List.set_cons_succ]
  refine wpAnyH_take (i := 7) (oi := ⟨some 12, _, _, _, _, _⟩) (v := ?_) rfl (by kernel_rfl) (by kernel_rfl) (by kernel_rfl) (fun _ _ _ h => h) (Or.inl ⟨by rfl, ?_⟩) (by assumption) ?_
  rotate_left
  · intro w hSw; (try dsimp only at hSw); go_simp; try (with_reducible rfl)
  rotate_left 0
  try simp only [Act.put, List.setIfInBounds_toArray, List.set_cons_zero, List.set_cons_succ]
  refine wpAnyH_done (by kernel_rfl) ?_ _
  go_wp2_with fail
  refine bodyPost_ret (results_cells2_tmp (p := 10) (q := 11) (r := 12) rfl _ _ (w.heap.size + 1) (w.heap.size + 1 + 1) 23 _ _ _ rfl rfl k10 k11 Tryd.underlying23 rfl (by rw [arr_size]; kernel_rfl) (by rw [arr_size]; kernel_rfl)) rfl ?_
  exact ⟨rfl, hbX⟩
set_option maxRecDepth 100000 in
set_option maxHeartbeats 2000000 in
theorem both_high (m n K p L c : Nat) (one x y1 y2 z1 z2 : D) (ok whole : Bool) (ad : Addr) (w : World) (hne : ((m : Int) == (n : Int)) = false) (hl0 : ((L : Int) == 0) = false) (hm1 : (L : Int) - 1 = (p : Int)) (_hpm : p < L) (hmK : ¬ (m : Int) ≤ (K : Int))
    (hbm : (m : Int) ≤ 1099511627776) (hbn : (n : Int) ≤ 1099511627776) (hbK : (K : Int) ≤ 1099511627776) (_hm0 : (0 : Int) ≤ (m : Int)) (_hn0 : (0 : Int) ≤ (n : Int)) (_hK0 : (0 : Int) ≤ (K : Int)) (hLi : (L : Int) ≤ 71) (hpi : (p : Int) < (L : Int)) (hp0 : (0 : Int) ≤ (p : Int))
    (HHF : Hid (∀ W, Calls Tryd.prog 43 #[.int .i64 (n : Int)] W fun e w' => e = .returned (.int .i64 (K : Int)) ∧ w' = W))
    (HLP : Hid (∀ W, Below w.heap.size w W → (Instr.loadAt 23 (.pointer (some (ad.add (p * 32))))).run Tryd.prog W = .ok (.agg (arr 32 fun i => bv (x i))) W))
    (sl : ∀ W, (Instr.sliceAt 24 (.slice (some ad) L c) none (some (.int .i64 (p : Int))) none).run Tryd.prog W = .ok (.slice (some ad) p c) W)
    (IH : Hid (∀ W, Below w.heap.size w W → Calls Tryd.prog 40 #[.int .i64 ((m : Int) - (K : Int)), .int .i64 ((n : Int) - (K : Int)), .slice (some ad) p c, .agg (arr 32 fun i => bv (one i)), .bool false] W fun e w' => e = .returned (.tuple #[.agg (arr 32 fun i => bv (y1 i)), .agg (arr 32 fun i => bv (y2 i)), .bool ok]) ∧ Below W.heap.size W w'))
    (HN1 : Hid (∀ W, Calls Tryd.prog 44 #[.agg (arr 32 fun i => bv (x i)), .agg (arr 32 fun i => bv (y1 i))] W fun e w' => e = .returned (.agg (arr 32 fun i => bv (z1 i))) ∧ Below W.heap.size W w')) (HN2 : Hid (∀ W, Calls Tryd.prog 44 #[.agg (arr 32 fun i => bv (x i)), .agg (arr 32 fun i => bv (y2 i))] W fun e w' => e = .returned (.agg (arr 32 fun i => bv (z2 i))) ∧ Below W.heap.size W w')) :
    Calls Tryd.prog 40 #[.int .i64 (m : Int), .int .i64 (n : Int), .slice (some ad) L c, .agg (arr 32 fun i => bv (one i)), .bool whole] w fun e w' => e = .returned (.tuple #[.agg (arr 32 fun i => bv (z1 i)), .agg (arr 32 fun i => bv (z2 i)), .bool ok]) ∧ Below w.heap.size w w' := by
  have hZ32 : Hid (Array.replicate 32 (bv 0) = arr 32 fun _ => bv 0) := Lib.hid (by rw [← upto_none 32 (fun _ => bv 0) (bv 0)]; exact arr_congr fun i hi => by rfl)
  go_enter Tryd.func40, Tryd.ntmps40
  go_wp2_with fail
  generalize hW : World.alloc (World.alloc (World.alloc w _) _) _ = W
  have r8 : Blk W w.heap.size 23 (arr 32 fun i => bv (one i)) := by rw [← hW]; exact ((Blk.new w _ _).alloc _).alloc _
  have r10 : Blk W (w.heap.size + 1) 23 (arr 32 fun _ => bv 0) := by rw [← hW]; exact (Blk.newAt _ _ (by simp) hZ32.out).alloc _
  have r11 : Blk W (w.heap.size + 1 + 1) 23 (arr 32 fun _ => bv 0) := by rw [← hW]; exact Blk.newAt _ _ (by simp) hZ32.out
  have b0 : Below w.heap.size w W := by rw [← hW]; exact (((Below.refl _ w).alloc (Nat.le_refl _) _).alloc (by simp) _).alloc (by simp; omega) _
  have z0 : W.heap.size = w.heap.size + 3 := by rw [← hW]; simp
  have HW := Lib.hid (And.intro r8 (And.intro r10 (And.intro r11 (And.intro b0 z0))))
  clear hW r8 r10 r11 b0 z0
  go_wp2_with (first
    | (go_at_call 43; refine (HHF.out _).mono ?_; rintro e W0 ⟨rfl, h0⟩; obtain rfl := h0.symm; clear HHF)
    | (refine wpList_store_arrW rfl 23 _ _ rfl W.heap.size (arr 32 fun i => bv (x i)) rfl rfl 23 _ (Blk.new W _ _) (by rw [arr_size]; kernel_rfl) (by first | (simp only [arr_size]; done) | (rw [arr_size]; rfl)) (arr_all_bv _ _) ?_; intro W5 hS5 hz5 hb5 hk5; have q8 : Blk W5 w.heap.size 23 (arr 32 fun i => bv (one i)) := Blk.below (HW.out.1.alloc _) hb5 (by have := HW.out.2.2.2.2; omega); have q10 : Blk W5 (w.heap.size + 1) 23 (arr 32 fun _ => bv 0) := Blk.below (HW.out.2.1.alloc _) hb5 (by have := HW.out.2.2.2.2; omega); have q11 : Blk W5 (w.heap.size + 1 + 1) 23 (arr 32 fun _ => bv 0) := Blk.below (HW.out.2.2.1.alloc _) hb5 (by have := HW.out.2.2.2.2; omega); have hB5 : Below w.heap.size w W5 := (HW.out.2.2.2.1.alloc HW.out.2.2.2.1.size _).trans (hb5.mono HW.out.2.2.2.1.size); have Q := Lib.hid (And.intro q10 (And.intro q11 (And.intro hS5 hB5))); clear hS5 hz5 hb5 hk5 q10 q11 hB5)
    | (guard_target = wpList _ _ _ (Oper.mk _ (.load 23 (.tmp 53)) _ _ _ _ :: _) _ _; refine wpList_load_run rfl 23 _ rfl _ _ rfl (HLP.out _ HW.out.2.2.2.1) ?_; clear HLP)
    | (refine wpList_load_arr rfl 23 _ rfl w.heap.size rfl 23 (arr 32 fun i => bv (one i)) _ q8 Tryd.underlying23 rfl (by rw [arr_size]; kernel_rfl) ?_)
    | (go_at_call 40; refine (IH.out _ Q.out.2.2.2).mono ?_; rintro e W1 ⟨rfl, hb1⟩; have k10 := Blk.below Q.out.1 hb1 Q.out.1.lt; have k11 := Blk.below Q.out.2.1 hb1 Q.out.2.1.lt; have kC := Blk.below Q.out.2.2.1 hb1 Q.out.2.2.1.lt; have HB1 := Lib.hid (Q.out.2.2.2.trans (hb1.mono Q.out.2.2.2.size)); have hz : w.heap.size + 3 ≤ W.heap.size ∧ W.heap.size < W1.heap.size := (by have h1 := HW.out.2.2.2.2; have h2 := kC.lt; omega); have HZ := Lib.hid hz; have P := Lib.hid (And.intro k10 (And.intro k11 kC)); clear hb1 IH q8 Q k10 k11 kC hz)
    | (refine wpList_store_arrW rfl 23 _ _ rfl W1.heap.size (arr 32 fun i => bv (y1 i)) rfl rfl 23 _ ((Blk.new W1 _ _).alloc _) (by rw [arr_size]; kernel_rfl) (by first | (simp only [arr_size]; done) | (rw [arr_size]; rfl)) (arr_all_bv _ _) ?_; intro W6 hS6 hz6 hb6 hk6; have j17 := (hk6 (W1.heap.size + 1) (by omega)).trans (Blk.newAt (W1.alloc _) (W1.heap.size + 1) (by simp) hZ32.out); have j10 := Blk.below ((P.out.1.alloc _).alloc _) hb6 P.out.1.lt; have j11 := Blk.below ((P.out.2.1.alloc _).alloc _) hb6 P.out.2.1.lt; have jC := Blk.below ((P.out.2.2.alloc _).alloc _) hb6 P.out.2.2.lt; have hB6 := (((HB1.out.alloc HB1.out.size _).alloc (by have := HB1.out.size; simp; omega) _).trans (hb6.mono HB1.out.size)); have V := Lib.hid (And.intro j10 (And.intro j11 (And.intro jC (And.intro hS6 hB6)))); clear hS6 hz6 hb6 hk6 j10 j11 jC hB6 P HB1)
    | (refine wpList_store_arrW rfl 23 _ _ rfl (W1.heap.size + 1) (arr 32 fun i => bv (y2 i)) rfl rfl 23 _ j17 (by rw [arr_size]; kernel_rfl) (by first | (simp only [arr_size]; done) | (rw [arr_size]; rfl)) (arr_all_bv _ _) ?_; intro W7 hS7 hz7 hb7 hk7; have kA : Blk W7 W1.heap.size 23 (arr 32 fun i => bv (y1 i)) := (hk7 W1.heap.size (by omega)).trans V.out.2.2.2.1; have kB := hS7; have k10 := Blk.below V.out.1 hb7 (by have := HZ.out; omega); have k11 := Blk.below V.out.2.1 hb7 (by have := HZ.out; omega); have kC := Blk.below V.out.2.2.1 hb7 (by have := HZ.out; omega); have hbX := V.out.2.2.2.2.trans (hb7.mono (by have := HZ.out; omega)); clear hS7 hz7 hb7 hk7 V j17))
  replace kA := Blk.drew kA
  replace kB := Blk.drew kB
  replace kC := Blk.drew kC
  replace k10 := Blk.drew k10
  replace k11 := Blk.drew k11
  replace hbX := hbX.drew
  refine wp_region_held_drew (S := fun W' => Blk W' W1.heap.size 23 (arr 32 fun i => bv (y1 i)) ∧ Blk W' (W1.heap.size + 1) 23 (arr 32 fun i => bv (y2 i)) ∧ Blk W' W.heap.size 23 (arr 32 fun i => bv (x i))) (by kernel_rfl) ?_ (fun hHeld => ?_)
  · exact ⟨kA, kB, kC⟩
  refine wpAnyH_take (i := 0) (oi := ⟨some 91, _, _, _, _, _⟩) (v := (.agg (arr 32 fun i => bv (x i)))) rfl (by kernel_rfl) (by kernel_rfl) (by kernel_rfl) (fun _ _ _ h => h) (yieldsIf_load_at (by rfl) 23 _ rfl ⟨W.heap.size, 0, none⟩ rfl 32 (fun i => bv (x i)) 5 (fun _ hS i hi => by rw [add_zero_block, hS.2.2.cell, arr_get, if_pos hi]) Tryd.underlying23 (by kernel_rfl)) (by assumption) ?_
  try simp only [Act.put, List.setIfInBounds_toArray, List.set_cons_zero, List.set_cons_succ]
  refine wpAnyH_take (i := 1) (oi := ⟨some 92, _, _, _, _, _⟩) (v := (.agg (arr 32 fun i => bv (y1 i)))) rfl (by kernel_rfl) (by kernel_rfl) (by kernel_rfl) (fun _ _ _ h => h) (yieldsIf_load_at (by rfl) 23 _ rfl ⟨W1.heap.size, 0, none⟩ rfl 32 (fun i => bv (y1 i)) 5 (fun _ hS i hi => by rw [add_zero_block, hS.1.cell, arr_get, if_pos hi]) Tryd.underlying23 (by kernel_rfl)) (by assumption) ?_
  try simp only [Act.put, List.setIfInBounds_toArray, List.set_cons_zero, List.set_cons_succ]
  refine wpAnyH_take (i := 3) (oi := ⟨some 94, _, _, _, _, _⟩) (v := (.agg (arr 32 fun i => bv (x i)))) rfl (by kernel_rfl) (by kernel_rfl) (by kernel_rfl) (fun _ _ _ h => h) (yieldsIf_load_at (by rfl) 23 _ rfl ⟨W.heap.size, 0, none⟩ rfl 32 (fun i => bv (x i)) 5 (fun _ hS i hi => by rw [add_zero_block, hS.2.2.cell, arr_get, if_pos hi]) Tryd.underlying23 (by kernel_rfl)) (by assumption) ?_
  try simp only [Act.put, List.setIfInBounds_toArray, List.set_cons_zero, List.set_cons_succ]
  refine wpAnyH_take (i := 4) (oi := ⟨some 95, _, _, _, _, _⟩) (v := (.agg (arr 32 fun i => bv (y2 i)))) rfl (by kernel_rfl) (by kernel_rfl) (by kernel_rfl) (fun _ _ _ h => h) (yieldsIf_load_at (by rfl) 23 _ rfl ⟨(W1.heap.size + 1), 0, none⟩ rfl 32 (fun i => bv (y2 i)) 5 (fun _ hS i hi => by rw [add_zero_block, hS.2.1.cell, arr_get, if_pos hi]) Tryd.underlying23 (by kernel_rfl)) (by assumption) ?_
  try simp only [Act.put, List.setIfInBounds_toArray, List.set_cons_zero, List.set_cons_succ]
  refine wpAnyH_take (i := 6) (oi := ⟨some 97, _, _, _, _, _⟩) (v := ?_) rfl (by kernel_rfl) (by kernel_rfl) (by kernel_rfl) (fun _ _ _ h => h) (Or.inl ⟨by rfl, ?_⟩) (by assumption) ?_
  rotate_left
  · intro w hSw; (try dsimp only at hSw); go_simp; try (with_reducible rfl)
  rotate_left 0
  try simp only [Act.put, List.setIfInBounds_toArray, List.set_cons_zero, List.set_cons_succ]
  refine wpAnyH_ready (rs := [2]) (by kernel_rfl) (by simp) ?_
  refine (AllReadyH.cons (o := ⟨some 93, _, _, _, _, _⟩) rfl (fun K hK => ?_) AllReadyH.nil)
  (try rw [if_pos (by rfl)])
  go_simp
  refine (HN1.out _).mono ?_
  rintro e W9 ⟨rfl, hb9⟩
  replace k10 := Blk.below k10 hb9 (Blk.lt k10)
  replace k11 := Blk.below k11 hb9 (Blk.lt k11)
  replace kA := Blk.below kA hb9 (Blk.lt kA)
  replace kB := Blk.below kB hb9 (Blk.lt kB)
  replace kC := Blk.below kC hb9 (Blk.lt kC)
  replace hbX := hbX.trans (hb9.mono hbX.size)
  clear hb9
  try dsimp only
  refine hK.out _ _ (⟨kA, kB, kC⟩) (fun hHeld => ?_)
  clear hK K
  try simp only [Act.put, List.setIfInBounds_toArray, List.set_cons_zero, List.set_cons_succ]
  refine wpAnyH_ready (rs := [5]) (by kernel_rfl) (by simp) ?_
  refine (AllReadyH.cons (o := ⟨some 96, _, _, _, _, _⟩) rfl (fun K hK => ?_) AllReadyH.nil)
  (try rw [if_pos (by rfl)])
  go_simp
  refine (HN2.out _).mono ?_
  rintro e W9 ⟨rfl, hb9⟩
  replace k10 := Blk.below k10 hb9 (Blk.lt k10)
  replace k11 := Blk.below k11 hb9 (Blk.lt k11)
  replace kA := Blk.below kA hb9 (Blk.lt kA)
  replace kB := Blk.below kB hb9 (Blk.lt kB)
  replace kC := Blk.below kC hb9 (Blk.lt kC)
  replace hbX := hbX.trans (hb9.mono hbX.size)
  clear hb9
  try dsimp only
  refine hK.out _ _ (⟨kA, kB, kC⟩) (fun hHeld => ?_)
  clear hK K
  try simp only [Act.put, List.setIfInBounds_toArray, List.set_cons_zero, List.set_cons_succ]
  refine wpAnyH_ready (rs := [7]) (by kernel_rfl) (by simp) ?_
  refine (AllReadyH.cons (o := ⟨none, _, _, _, _, _⟩) rfl (fun K hK => ?_) AllReadyH.nil)
  (try rw [if_pos (by rfl)])
  refine wp_store_row 23 _ _ rfl (w.heap.size + 1) (arr 32 fun i => bv (z1 i)) rfl rfl 23 _ k10 (by rw [arr_size]; kernel_rfl) (by simp only [arr_size]) (arr_all_bv _ _) ?_
  replace k11 := Blk.setRow_far k11 (show w.heap.size + 1 + 1 ≠ w.heap.size + 1 by omega) (arr 32 fun i => bv (z1 i))
  replace kA := Blk.setRow_far kA (show W1.heap.size ≠ (w.heap.size + 1) by have := HZ.out; omega) (arr 32 fun i => bv (z1 i))
  replace kB := Blk.setRow_far kB (show W1.heap.size + 1 ≠ (w.heap.size + 1) by have := HZ.out; omega) (arr 32 fun i => bv (z1 i))
  replace kC := Blk.setRow_far kC (show W.heap.size ≠ (w.heap.size + 1) by have := HZ.out; omega) (arr 32 fun i => bv (z1 i))
  replace k10 := Blk.setRow k10 (arr 32 fun i => bv (z1 i))
  replace hbX := below_setRow hbX (show w.heap.size ≤ (w.heap.size + 1) by omega) (arr 32 fun i => bv (z1 i))
  try simp only [Act.put]
  try dsimp only
  refine hK.out _ _ (⟨kA, kB, kC⟩) (fun hHeld => ?_)
  clear hK K
  try simp only [Act.put, List.setIfInBounds_toArray, List.set_cons_zero, List.set_cons_succ]
  refine wpAnyH_ready (rs := [8]) (by kernel_rfl) (by simp) ?_
  refine (AllReadyH.cons (o := ⟨none, _, _, _, _, _⟩) rfl (fun K hK => ?_) AllReadyH.nil)
  (try rw [if_pos (by rfl)])
  refine wp_store_row 23 _ _ rfl (w.heap.size + 1 + 1) (arr 32 fun i => bv (z2 i)) rfl rfl 23 _ k11 (by rw [arr_size]; kernel_rfl) (by simp only [arr_size]) (arr_all_bv _ _) ?_
  replace k10 := Blk.setRow_far k10 (show w.heap.size + 1 ≠ w.heap.size + 1 + 1 by omega) (arr 32 fun i => bv (z2 i))
  replace kA := Blk.setRow_far kA (show W1.heap.size ≠ (w.heap.size + 1 + 1) by have := HZ.out; omega) (arr 32 fun i => bv (z2 i))
  replace kB := Blk.setRow_far kB (show W1.heap.size + 1 ≠ (w.heap.size + 1 + 1) by have := HZ.out; omega) (arr 32 fun i => bv (z2 i))
  replace kC := Blk.setRow_far kC (show W.heap.size ≠ (w.heap.size + 1 + 1) by have := HZ.out; omega) (arr 32 fun i => bv (z2 i))
  replace k11 := Blk.setRow k11 (arr 32 fun i => bv (z2 i))
  replace hbX := below_setRow hbX (show w.heap.size ≤ (w.heap.size + 1 + 1) by omega) (arr 32 fun i => bv (z2 i))
  try simp only [Act.put]
  try dsimp only
  refine hK.out _ _ (⟨kA, kB, kC⟩) (fun hHeld => ?_)
  clear hK K
  try simp only [Act.put, List.setIfInBounds_toArray, List.set_cons_zero, List.set_cons_succ]
  refine wpAnyH_take (i := 9) (oi := ⟨some 12, _, _, _, _, _⟩) (v := ?_) rfl (by kernel_rfl) (by kernel_rfl) (by kernel_rfl) (fun _ _ _ h => h) (Or.inl ⟨by rfl, ?_⟩) (by assumption) ?_
  rotate_left
  · intro w hSw; (try dsimp only at hSw); go_simp; try (with_reducible rfl)
  rotate_left 0
  try simp only [Act.put, List.setIfInBounds_toArray, List.set_cons_zero, List.set_cons_succ]
  refine wpAnyH_done (by kernel_rfl) ?_ _
  go_wp2_with fail
  refine bodyPost_ret (results_cells2_tmp (p := 10) (q := 11) (r := 12) rfl _ _ (w.heap.size + 1) (w.heap.size + 1 + 1) 23 _ _ _ rfl rfl k10 k11 Tryd.underlying23 rfl (by rw [arr_size]; kernel_rfl) (by rw [arr_size]; kernel_rfl)) rfl ?_
  exact ⟨rfl, hbX⟩
set_option maxRecDepth 100000 in
set_option maxHeartbeats 2000000 in
theorem refBoth_any : ∀ (rp : List D) (m n : Nat) (one : D) (whole : Bool) (v : Value) (path : List D) (w : World), path.reverse = rp → rp.length ≤ 70 → 1 ≤ m → m ≤ n → n ≤ 1099511627776 → RdI w (fun b => b < w.heap.size) v path →
    Calls Tryd.prog 40 #[.int .i64 (m : Int), .int .i64 (n : Int), v, .agg (arr 32 fun i => bv (one i)), .bool whole] w fun e w' => e = .returned (.tuple #[.agg (arr 32 fun i => bv ((bothR rp m n one whole).1 i)), .agg (arr 32 fun i => bv ((bothR rp m n one whole).2.1 i)), .bool (bothR rp m n one whole).2.2]) ∧ Below w.heap.size w w' := by
  intro rp
  induction rp with
  | nil =>
    intro m n one whole v path w hrev h70 hm hmn hn hr
    obtain rfl : path = [] := by simpa using hrev
    obtain ⟨A, c, rfl, hlc, _⟩ := id hr
    simp only [bothR]
    by_cases h : m = n
    · subst h
      cases whole with
      | true =>
        have := both_whole m one A 0 c w true (by rfl)
        simpa using this
      | false => 
        have := both_not m one A 0 c w (by rfl)
        simpa using this
    · have := both_none m n one A c whole w (beq_eq_false_iff_ne.2 (by omega))
      simpa [h] using this
  | cons x rp ih =>
    intro m n one whole v path w hrev h70 hm hmn hn hr
    obtain ⟨hlen, hrt, hx⟩ := rev_cons hrev
    rw [List.length_cons] at h70
    obtain ⟨A, c, rfl, hlc, _⟩ := id hr
    obtain ⟨p, hp⟩ : ∃ p, rp.length = p := ⟨_, rfl⟩
    rw [hp] at hlen hrt hx h70
    rw [hlen] at hlc hr ⊢
    by_cases h : m = n
    · subst h
      rw [bothR, if_pos rfl]
      cases whole with
      | true =>
        rw [if_pos rfl]
        exact both_whole m one A (p + 1) c w false (beq_eq_false_iff_ne.2 (by omega))
      | false =>
        rw [if_neg (by simp)]
        by_cases h0 : rp.length = 0
        · rw [if_pos h0]
          obtain rfl : p = 0 := by omega
          obtain ⟨ad, e, _, _⟩ := hr.at_ (k := 0) (by omega)
          subst e
          have hpx : path = [x] := by
            obtain rfl : rp = [] := List.eq_nil_of_length_eq_zero h0
            have := congrArg List.reverse hrev
            simpa using this
          rw [hpx] at hr
          exact both_one m one x ad c w hr
        · rw [if_neg h0]
          exact both_not m one A (p + 1) c w (by rw [bne_iff_ne]; omega)
    · have hr1 := hr.take (k := p) (by omega)
      have hkl := half_lt (n := n) (by omega)
      have hkp := half_pos n
      have HHF := Lib.hid fun W => half_any n (by omega) (by omega) W
      obtain ⟨K, hK⟩ : ∃ K, half n = K := ⟨_, rfl⟩
      rw [bothR, if_neg h, hK]
      rw [hK] at hkl hkp HHF
      obtain ⟨ad, e, _, _⟩ := hr.at_ (show p < p + 1 by omega)
      subst e
      have HLP : Hid (∀ W, Below w.heap.size w W → (Instr.loadAt 23 (.pointer (some (ad.add (p * 32))))).run Tryd.prog W = .ok (.agg (arr 32 fun i => bv (x i))) W) := Lib.hid fun W hb => by
        have := load_rdi (hr.old hb) (show p < p + 1 by omega)
        rw [hx] at this
        exact this
      have sl := run_slice_toN (P := Tryd.prog) 24 23 Tryd.underlying24 32 (by kernel_rfl) (some ad) (p + 1) c p (by omega)
      by_cases hmK : m ≤ K
      · rw [if_pos hmK]
        exact both_low m n K p (p + 1) c one x _ _ _ _ whole ad w (beq_eq_false_iff_ne.2 (by omega)) (beq_eq_false_iff_ne.2 (by omega)) (by omega) (by omega) (by omega) (by omega) (by omega) (by omega) (by omega) (by omega) (by omega) (by omega) (by omega) (by omega) HHF HLP sl
          (Lib.hid fun W hb => ih m K one whole _ (path.take p) W hrt (by omega) hm hmK (by omega) ((hr1.old hb).mono fun b hb' => Nat.lt_of_lt_of_le hb' hb.size))
          (Lib.hid fun W => refNode_any _ x W)
      · rw [if_neg hmK]
        exact both_high m n K p (p + 1) c one x _ _ _ _ _ whole ad w (beq_eq_false_iff_ne.2 (by omega)) (beq_eq_false_iff_ne.2 (by omega)) (by omega) (by omega) (by omega) (by omega) (by omega) (by omega) (by omega) (by omega) (by omega) (by omega) (by omega) (by omega) HHF HLP sl
          (Lib.hid fun W hb => by
            have := ih (m - K) (n - K) one false _ (path.take p) W hrt (by omega) (by omega) (by omega) (by omega) ((hr1.old hb).mono fun b hb' => Nat.lt_of_lt_of_le hb' hb.size)
            rw [show ((m - K : Nat) : Int) = (m : Int) - (K : Int) from by omega, show ((n - K : Nat) : Int) = (n : Int) - (K : Int) from by omega] at this
            exact this)
          (Lib.hid fun W => refNode_any x _ W) (Lib.hid fun W => refNode_any x _ W)
set_option maxRecDepth 100000 in
set_option maxHeartbeats 2000000 in
theorem refCinc_range (leaf root : D) (a size : Int) (h : a < 0 ∨ size ≤ a ∨ 1099511627776 < size) (v : Value) (w : World) :
    Calls Tryd.prog 13 #[.agg (arr 32 fun i => bv (leaf i)), .int .i64 a, .int .i64 size, v, .agg (arr 32 fun i => bv (root i))] w fun e w' => e = .returned (.int .i64 1) ∧ Below w.heap.size w w' := by
  have hb0 : Below w.heap.size w ((w.alloc (.cells (arr 32 fun i => bv (leaf i)) 23)).alloc (.cells (arr 32 fun i => bv (root i)) 23)) := ((Below.refl _ _).alloc (Nat.le_refl _) _).alloc (by simp) _
  generalize (arr 32 fun i => bv (leaf i)) = x0 at *
  generalize (arr 32 fun i => bv (root i)) = x1 at *
  by_cases h0 : a < 0
  · have d0 : decide (a < 0) = true := decide_eq_true h0
    clear h
    go_enter Tryd.func13, Tryd.ntmps13
    go_wp2
    go_ret
    exact ⟨rfl, hb0⟩
  · have d0 : decide (a < 0) = false := decide_eq_false h0
    by_cases h1 : size ≤ a
    · have d1 : decide (size ≤ a) = true := decide_eq_true h1
      clear h
      go_enter Tryd.func13, Tryd.ntmps13
      go_wp2
      go_ret
      exact ⟨rfl, hb0⟩
    · have d1 : decide (size ≤ a) = false := decide_eq_false h1
      have h2 : 1099511627776 < size := by omega
      have d2 : decide (1099511627776 < size) = true := decide_eq_true h2
      clear h
      go_enter Tryd.func13, Tryd.ntmps13
      go_wp2
      go_ret
      exact ⟨rfl, hb0⟩
set_option maxRecDepth 100000 in
set_option maxHeartbeats 2000000 in
theorem refCcon_range (leaf root : D) (a size : Int) (h : a < 1 ∨ size < a ∨ 1099511627776 < size) (v : Value) (w : World) :
    Calls Tryd.prog 15 #[.int .i64 a, .int .i64 size, .agg (arr 32 fun i => bv (leaf i)), .agg (arr 32 fun i => bv (root i)), v] w fun e w' => e = .returned (.int .i64 1) ∧ Below w.heap.size w w' := by
  have hb0 : Below w.heap.size w ((w.alloc (.cells (arr 32 fun i => bv (leaf i)) 23)).alloc (.cells (arr 32 fun i => bv (root i)) 23)) := ((Below.refl _ _).alloc (Nat.le_refl _) _).alloc (by simp) _
  generalize (arr 32 fun i => bv (leaf i)) = x0 at *
  generalize (arr 32 fun i => bv (root i)) = x1 at *
  by_cases h0 : a < 1
  · have d0 : decide (a < 1) = true := decide_eq_true h0
    clear h
    go_enter Tryd.func15, Tryd.ntmps15
    go_wp2
    go_ret
    exact ⟨rfl, hb0⟩
  · have d0 : decide (a < 1) = false := decide_eq_false h0
    by_cases h1 : size < a
    · have d1 : decide (size < a) = true := decide_eq_true h1
      clear h
      go_enter Tryd.func15, Tryd.ntmps15
      go_wp2
      go_ret
      exact ⟨rfl, hb0⟩
    · have d1 : decide (size < a) = false := decide_eq_false h1
      have h2 : 1099511627776 < size := by omega
      have d2 : decide (1099511627776 < size) = true := decide_eq_true h2
      clear h
      go_enter Tryd.func15, Tryd.ntmps15
      go_wp2
      go_ret
      exact ⟨rfl, hb0⟩
set_option maxRecDepth 100000 in
set_option maxHeartbeats 2000000 in
theorem refCinc_in (leaf root : D) (a size : Nat) (has : a < size) (hs : size ≤ 1099511627776) (v : Value) (path : List D) (w : World) (h70 : path.length ≤ 70) (hr : RdI w (fun b => b < w.heap.size) v path) :
    Calls Tryd.prog 13 #[.agg (arr 32 fun i => bv (leaf i)), .int .i64 (a : Int), .int .i64 (size : Int), v, .agg (arr 32 fun i => bv (root i))] w fun e w' => e = .returned (.int .i64 (cincV leaf (a : Int) (size : Int) path root)) ∧ Below w.heap.size w w' := by
  obtain ⟨A, c, rfl, hlc, _⟩ := id hr
  have d0 : decide ((a : Int) < 0) = false := decide_eq_false (by omega)
  have d1 : decide ((size : Int) ≤ (a : Int)) = false := decide_eq_false (by omega)
  have d2 : decide (1099511627776 < (size : Int)) = false := decide_eq_false (by omega)
  have hrev : path.reverse.length = path.length := by simp
  obtain ⟨n, hn⟩ : ∃ n, path.length = n := ⟨_, rfl⟩
  have hb0 : Below w.heap.size w ((w.alloc (.cells (arr 32 fun i => bv (leaf i)) 23)).alloc (.cells (arr 32 fun i => bv (root i)) 23)) := ((Below.refl _ _).alloc (Nat.le_refl _) _).alloc (by simp) _
  have h5 : Blk ((w.alloc (.cells (arr 32 fun i => bv (leaf i)) 23)).alloc (.cells (arr 32 fun i => bv (root i)) 23)) w.heap.size 23 (arr 32 fun i => bv (leaf i)) := (Blk.new w _ _).alloc _
  have h9 : Blk ((w.alloc (.cells (arr 32 fun i => bv (leaf i)) 23)).alloc (.cells (arr 32 fun i => bv (root i)) 23)) (w.heap.size + 1) 23 (arr 32 fun i => bv (root i)) := Blk.newAt _ _ (by simp) rfl
  have hr' : RdI w (fun b => b < w.heap.size) (.slice A n c) path := by rw [← hn]; exact hr
  by_cases h64 : 64 < n
  · have hv : cincV leaf (a : Int) (size : Int) path root = 60 := by
      unfold cincV
      rw [if_neg (by omega), Int.toNat_natCast, Int.toNat_natCast, if_pos (by have := wayP_length 40 a 0 size (by omega); omega)]
    have h64i : 64 < (n : Int) := by omega
    rw [hv, hn]
    clear hr hr' h5 h9 hn hlc hv h64 h70
    generalize (arr 32 fun i => bv (leaf i)) = x0 at *
    generalize (arr 32 fun i => bv (root i)) = x1 at *
    go_enter Tryd.func13, Tryd.ntmps13
    go_wp2
    go_ret
    exact ⟨rfl, hb0⟩
  · have h64i : ¬ 64 < (n : Int) := by omega
    rw [cincV_ref leaf root a size path has hs, hn]
    have HLD : Hid (∀ W, Below w.heap.size w W → Calls Tryd.prog 38 #[.agg (arr 32 fun i => bv (leaf i)), .int .i64 (a : Int), .int .i64 (size : Int), .slice A n c] W fun e w' => e = .returned (.tuple #[.agg (arr 32 fun i => bv ((leadR path.reverse a size leaf).1 i)), .bool (leadR path.reverse a size leaf).2]) ∧ Below W.heap.size W w') := Lib.hid fun W hb => refLead_any path.reverse a size leaf _ path W rfl (by omega) has hs ((hr'.old hb).mono fun b hb' => Nat.lt_of_lt_of_le hb' hb.size)
    obtain ⟨x, hx⟩ : ∃ x, (leadR path.reverse a size leaf).1 = x := ⟨_, rfl⟩
    obtain ⟨ok, hok⟩ : ∃ ok, (leadR path.reverse a size leaf).2 = ok := ⟨_, rfl⟩
    simp only [hx, hok] at HLD ⊢
    obtain ⟨β, hβ⟩ : ∃ β, (id32 x == id32 root) = β := ⟨_, rfl⟩
    have ne := neq_id x root
    rw [hβ] at ne ⊢
    have H5 := Lib.hid h5
    have H9 := Lib.hid h9
    have HB0 := Lib.hid hb0
    have hx1 : ∀ W, (Instr.loadAt 23 (.pointer (some ⟨0, 0, none⟩))).run Tryd.prog W = (Instr.loadAt 23 (.pointer (some ⟨0, 0, none⟩))).run Tryd.prog W := fun _ => rfl
    clear hr hr' h5 h9 hn hlc h64 h70 hx hok hβ hb0 hx1 hrev
    cases ok with
    | false =>
      rw [if_neg (by simp)]
      go_enter Tryd.func13, Tryd.ntmps13
      go_wp2_with (first
        | (refine wpList_load_arr rfl 23 _ rfl w.heap.size rfl 23 (arr 32 fun i => bv (leaf i)) _ H5.out Tryd.underlying23 rfl (by rw [arr_size]; kernel_rfl) ?_)
        | (go_at_call 38; refine (HLD.out _ HB0.out).mono ?_; rintro e W1 ⟨rfl, hb1⟩; have K9 := Lib.hid (Blk.below H9.out hb1 H9.out.lt); have HB1 := Lib.hid (HB0.out.trans (hb1.mono HB0.out.size)); clear hb1 HLD)
        | (refine wpList_store_row rfl 23 _ _ rfl W1.heap.size (arr 32 fun i => bv (x i)) rfl rfl 23 _ (heap_alloc_new W1 _) (by rw [arr_size]; kernel_rfl) (by rw [arr_size]; rfl) (arr_all_bv _ _) ?_; rw [World.setRow_alloc_new])
        | (guard_target = wpList _ _ _ (Oper.mk _ (.load 23 (.tmp 11)) _ _ _ _ :: _) _ _; refine wpList_load_runG (by rfl) 23 _ rfl _ _ rfl (load_blk (Blk.new W1 23 (arr 32 fun i => bv (x i)))) ?_)
        | (guard_target = wpList _ _ _ (Oper.mk _ (.load 23 (.tmp 9)) _ _ _ _ :: _) _ _; refine wpList_load_runG (by rfl) 23 _ rfl _ _ rfl (load_blk (K9.out.alloc (.cells (arr 32 fun i => bv (x i)) 23))) ?_))
      go_ret
      exact ⟨rfl, HB1.out.alloc HB1.out.size _⟩
    | true =>
      cases β with
      | true =>
        rw [if_pos (by simp)]
        simp only [Bool.not_true] at ne
        go_enter Tryd.func13, Tryd.ntmps13
        go_wp2_with (first
          | (refine wpList_load_arr rfl 23 _ rfl w.heap.size rfl 23 (arr 32 fun i => bv (leaf i)) _ H5.out Tryd.underlying23 rfl (by rw [arr_size]; kernel_rfl) ?_)
          | (go_at_call 38; refine (HLD.out _ HB0.out).mono ?_; rintro e W1 ⟨rfl, hb1⟩; have K9 := Lib.hid (Blk.below H9.out hb1 H9.out.lt); have HB1 := Lib.hid (HB0.out.trans (hb1.mono HB0.out.size)); clear hb1 HLD)
          | (refine wpList_store_row rfl 23 _ _ rfl W1.heap.size (arr 32 fun i => bv (x i)) rfl rfl 23 _ (heap_alloc_new W1 _) (by rw [arr_size]; kernel_rfl) (by rw [arr_size]; rfl) (arr_all_bv _ _) ?_; rw [World.setRow_alloc_new])
          | (guard_target = wpList _ _ _ (Oper.mk _ (.load 23 (.tmp 11)) _ _ _ _ :: _) _ _; refine wpList_load_runG (by rfl) 23 _ rfl _ _ rfl (load_blk (Blk.new W1 23 (arr 32 fun i => bv (x i)))) ?_)
          | (guard_target = wpList _ _ _ (Oper.mk _ (.load 23 (.tmp 9)) _ _ _ _ :: _) _ _; refine wpList_load_runG (by rfl) 23 _ rfl _ _ rfl (load_blk (K9.out.alloc (.cells (arr 32 fun i => bv (x i)) 23))) ?_))
        go_ret
        exact ⟨rfl, HB1.out.alloc HB1.out.size _⟩
      | false =>
        rw [if_neg (by simp)]
        simp only [Bool.not_false] at ne
        go_enter Tryd.func13, Tryd.ntmps13
        go_wp2_with (first
          | (refine wpList_load_arr rfl 23 _ rfl w.heap.size rfl 23 (arr 32 fun i => bv (leaf i)) _ H5.out Tryd.underlying23 rfl (by rw [arr_size]; kernel_rfl) ?_)
          | (go_at_call 38; refine (HLD.out _ HB0.out).mono ?_; rintro e W1 ⟨rfl, hb1⟩; have K9 := Lib.hid (Blk.below H9.out hb1 H9.out.lt); have HB1 := Lib.hid (HB0.out.trans (hb1.mono HB0.out.size)); clear hb1 HLD)
          | (refine wpList_store_row rfl 23 _ _ rfl W1.heap.size (arr 32 fun i => bv (x i)) rfl rfl 23 _ (heap_alloc_new W1 _) (by rw [arr_size]; kernel_rfl) (by rw [arr_size]; rfl) (arr_all_bv _ _) ?_; rw [World.setRow_alloc_new])
          | (guard_target = wpList _ _ _ (Oper.mk _ (.load 23 (.tmp 11)) _ _ _ _ :: _) _ _; refine wpList_load_runG (by rfl) 23 _ rfl _ _ rfl (load_blk (Blk.new W1 23 (arr 32 fun i => bv (x i)))) ?_)
          | (guard_target = wpList _ _ _ (Oper.mk _ (.load 23 (.tmp 9)) _ _ _ _ :: _) _ _; refine wpList_load_runG (by rfl) 23 _ rfl _ _ rfl (load_blk (K9.out.alloc (.cells (arr 32 fun i => bv (x i)) 23))) ?_))
        go_ret
        exact ⟨rfl, HB1.out.alloc HB1.out.size _⟩
theorem refCinc_any (leaf root : D) (a size : Int) (v : Value) (path : List D) (w : World) (h70 : path.length ≤ 70) (hr : RdI w (fun b => b < w.heap.size) v path) :
    Calls Tryd.prog 13 #[.agg (arr 32 fun i => bv (leaf i)), .int .i64 a, .int .i64 size, v, .agg (arr 32 fun i => bv (root i))] w fun e w' => e = .returned (.int .i64 (cincV leaf a size path root)) ∧ Below w.heap.size w w' := by
  by_cases h : a < 0 ∨ size ≤ a ∨ 1099511627776 < size
  · have e : cincV leaf a size path root = 1 := by unfold cincV; rw [if_pos h]
    rw [e]
    exact refCinc_range leaf root a size h v w
  · obtain ⟨a', rfl⟩ := Int.eq_ofNat_of_zero_le (show 0 ≤ a by omega)
    obtain ⟨s', rfl⟩ := Int.eq_ofNat_of_zero_le (show 0 ≤ size by omega)
    exact refCinc_in leaf root a' s' (by omega) (by omega) v path w h70 hr
set_option maxRecDepth 100000 in
set_option maxHeartbeats 2000000 in
theorem refCcon_in (leaf root : D) (a size : Nat) (ha : 1 ≤ a) (has : a ≤ size) (hs : size ≤ 1099511627776) (v : Value) (path : List D) (w : World) (h70 : path.length ≤ 70) (hr : RdI w (fun b => b < w.heap.size) v path) :
    Calls Tryd.prog 15 #[.int .i64 (a : Int), .int .i64 (size : Int), .agg (arr 32 fun i => bv (leaf i)), .agg (arr 32 fun i => bv (root i)), v] w fun e w' => e = .returned (.int .i64 (cconV (a : Int) (size : Int) leaf root path)) ∧ Below w.heap.size w w' := by
  obtain ⟨A, c, rfl, hlc, _⟩ := id hr
  have d0 : decide ((a : Int) < 1) = false := decide_eq_false (by omega)
  have d1 : decide ((size : Int) < (a : Int)) = false := decide_eq_false (by omega)
  have d2 : decide (1099511627776 < (size : Int)) = false := decide_eq_false (by omega)
  have hrev : path.reverse.length = path.length := by simp
  obtain ⟨n, hn⟩ : ∃ n, path.length = n := ⟨_, rfl⟩
  have hb0 : Below w.heap.size w ((w.alloc (.cells (arr 32 fun i => bv (leaf i)) 23)).alloc (.cells (arr 32 fun i => bv (root i)) 23)) := ((Below.refl _ _).alloc (Nat.le_refl _) _).alloc (by simp) _
  have h5 : Blk ((w.alloc (.cells (arr 32 fun i => bv (leaf i)) 23)).alloc (.cells (arr 32 fun i => bv (root i)) 23)) w.heap.size 23 (arr 32 fun i => bv (leaf i)) := (Blk.new w _ _).alloc _
  have h9 : Blk ((w.alloc (.cells (arr 32 fun i => bv (leaf i)) 23)).alloc (.cells (arr 32 fun i => bv (root i)) 23)) (w.heap.size + 1) 23 (arr 32 fun i => bv (root i)) := Blk.newAt _ _ (by simp) rfl
  have hr' : RdI w (fun b => b < w.heap.size) (.slice A n c) path := by rw [← hn]; exact hr
  by_cases h64 : 64 < n
  · have hv : cconV (a : Int) (size : Int) leaf root path = 60 := by
      unfold cconV
      rw [if_neg (by omega), Int.toNat_natCast, Int.toNat_natCast, if_pos (by have := linkP_length 40 a 0 size (by omega) (by omega) (by omega); omega)]
    have h64i : 64 < (n : Int) := by omega
    rw [hv, hn]
    clear hr hr' h5 h9 hn hlc hv h64 h70
    generalize (arr 32 fun i => bv (leaf i)) = x0 at *
    generalize (arr 32 fun i => bv (root i)) = x1 at *
    go_enter Tryd.func15, Tryd.ntmps15
    go_wp2
    go_ret
    exact ⟨rfl, hb0⟩
  · have h64i : ¬ 64 < (n : Int) := by omega
    rw [cconV_ref leaf root a size path ha has hs, hn]
    have HLD : Hid (∀ W, Below w.heap.size w W → Calls Tryd.prog 40 #[.int .i64 (a : Int), .int .i64 (size : Int), .slice A n c, .agg (arr 32 fun i => bv (leaf i)), .bool true] W fun e w' => e = .returned (.tuple #[.agg (arr 32 fun i => bv ((bothR path.reverse a size leaf true).1 i)), .agg (arr 32 fun i => bv ((bothR path.reverse a size leaf true).2.1 i)), .bool (bothR path.reverse a size leaf true).2.2]) ∧ Below W.heap.size W w') := Lib.hid fun W hb => refBoth_any path.reverse a size leaf true _ path W rfl (by omega) ha has hs ((hr'.old hb).mono fun b hb' => Nat.lt_of_lt_of_le hb' hb.size)
    obtain ⟨x, hx⟩ : ∃ x, (bothR path.reverse a size leaf true).1 = x := ⟨_, rfl⟩
    obtain ⟨y, hy⟩ : ∃ y, (bothR path.reverse a size leaf true).2.1 = y := ⟨_, rfl⟩
    obtain ⟨ok, hok⟩ : ∃ ok, (bothR path.reverse a size leaf true).2.2 = ok := ⟨_, rfl⟩
    simp only [hx, hy, hok] at HLD ⊢
    obtain ⟨β, hβ⟩ : ∃ β, (id32 x == id32 leaf) = β := ⟨_, rfl⟩
    obtain ⟨γ, hγ⟩ : ∃ γ, (id32 y == id32 root) = γ := ⟨_, rfl⟩
    have ne := neq_id x leaf
    have ne2 := neq_id y root
    rw [hβ] at ne ⊢
    rw [hγ] at ne2 ⊢
    have H5 := Lib.hid h5
    have H9 := Lib.hid h9
    have HB0 := Lib.hid hb0
    have hZ32 : Hid (Array.replicate 32 (bv 0) = arr 32 fun _ => bv 0) := Lib.hid (by rw [← upto_none 32 (fun _ => bv 0) (bv 0)]; exact arr_congr fun i hi => by rfl)
    clear hr hr' h5 h9 hn hlc h64 h70 hx hy hok hβ hγ hb0 hrev
    cases ok with
    | false =>
      rw [if_neg (by simp)]
      go_enter Tryd.func15, Tryd.ntmps15
      go_wp2_with (first
        | (guard_target = wpList _ _ _ (Oper.mk _ (.load 23 (.tmp 7)) _ _ _ _ :: _) _ _; refine wpList_load_arr rfl 23 _ rfl w.heap.size rfl 23 (arr 32 fun i => bv (leaf i)) _ H5.out Tryd.underlying23 rfl (by rw [arr_size]; kernel_rfl) ?_)
        | (go_at_call 40; refine (HLD.out _ HB0.out).mono ?_; rintro e W1 ⟨rfl, hb1⟩; have K5 := Lib.hid (Blk.below H5.out hb1 H5.out.lt); have K9 := Lib.hid (Blk.below H9.out hb1 H9.out.lt); have HB1 := Lib.hid (HB0.out.trans (hb1.mono HB0.out.size)); clear hb1 HLD)
        | (refine wpList_store_arrW rfl 23 _ _ rfl W1.heap.size (arr 32 fun i => bv (x i)) rfl rfl 23 _ ((Blk.new W1 _ _).alloc _) (by rw [arr_size]; kernel_rfl) (by first | (simp only [arr_size]; done) | (rw [arr_size]; rfl)) (arr_all_bv _ _) ?_; intro W6 hS6 hz6 hb6 hk6; have j17 := (hk6 (W1.heap.size + 1) (by omega)).trans (Blk.newAt (W1.alloc _) (W1.heap.size + 1) (by simp) hZ32.out); have j5 := Blk.below ((K5.out.alloc _).alloc _) hb6 K5.out.lt; have j9 := Blk.below ((K9.out.alloc _).alloc _) hb6 K9.out.lt; have hB6 := (((HB1.out.alloc HB1.out.size _).alloc (by have := HB1.out.size; simp; omega) _).trans (hb6.mono HB1.out.size)); have V := Lib.hid (And.intro K5.out.lt (And.intro K9.out.lt (And.intro j5 (And.intro j9 (And.intro hS6 hB6))))); clear hS6 hz6 hb6 hk6 j5 j9 hB6)
        | (refine wpList_store_arrW rfl 23 _ _ rfl (W1.heap.size + 1) (arr 32 fun i => bv (y i)) rfl rfl 23 _ j17 (by rw [arr_size]; kernel_rfl) (by first | (simp only [arr_size]; done) | (rw [arr_size]; rfl)) (arr_all_bv _ _) ?_; intro W7 hS7 hz7 hb7 hk7; have kA : Blk W7 W1.heap.size 23 (arr 32 fun i => bv (x i)) := (hk7 W1.heap.size (by omega)).trans V.out.2.2.2.2.1; have kB := hS7; have k5 := Blk.below V.out.2.2.1 hb7 (by have := V.out.1; omega); have k9 := Blk.below V.out.2.2.2.1 hb7 (by have := V.out.2.1; omega); have hbX := V.out.2.2.2.2.2.trans (hb7.mono (by have := HB1.out.size; omega)); have X := Lib.hid (And.intro kA (And.intro kB (And.intro k5 (And.intro k9 hbX)))); clear hS7 hz7 hb7 hk7 V j17 kA kB k5 k9 hbX)
        | (guard_target = wpList _ _ _ (Oper.mk _ (.load 23 (.tmp 11)) _ _ _ _ :: _) _ _; refine wpList_load_runG (by rfl) 23 _ rfl _ _ rfl (load_blk X.out.1) ?_)
        | (guard_target = wpList _ _ _ (Oper.mk _ (.load 23 (.tmp 12)) _ _ _ _ :: _) _ _; refine wpList_load_runG (by rfl) 23 _ rfl _ _ rfl (load_blk X.out.2.1) ?_)
        | (guard_target = wpList _ _ _ (Oper.mk _ (.load 23 (.tmp 7)) _ _ _ _ :: _) _ _; refine wpList_load_runG (by rfl) 23 _ rfl _ _ rfl (load_blk X.out.2.2.1) ?_)
        | (guard_target = wpList _ _ _ (Oper.mk _ (.load 23 (.tmp 8)) _ _ _ _ :: _) _ _; refine wpList_load_runG (by rfl) 23 _ rfl _ _ rfl (load_blk X.out.2.2.2.1) ?_))
      go_ret
      exact ⟨rfl, X.out.2.2.2.2⟩
    | true =>
      cases β with
      | false =>
        rw [if_neg (by simp)]
        simp only [Bool.not_false] at ne
        go_enter Tryd.func15, Tryd.ntmps15
        go_wp2_with (first
          | (guard_target = wpList _ _ _ (Oper.mk _ (.load 23 (.tmp 7)) _ _ _ _ :: _) _ _; refine wpList_load_arr rfl 23 _ rfl w.heap.size rfl 23 (arr 32 fun i => bv (leaf i)) _ H5.out Tryd.underlying23 rfl (by rw [arr_size]; kernel_rfl) ?_)
          | (go_at_call 40; refine (HLD.out _ HB0.out).mono ?_; rintro e W1 ⟨rfl, hb1⟩; have K5 := Lib.hid (Blk.below H5.out hb1 H5.out.lt); have K9 := Lib.hid (Blk.below H9.out hb1 H9.out.lt); have HB1 := Lib.hid (HB0.out.trans (hb1.mono HB0.out.size)); clear hb1 HLD)
          | (refine wpList_store_arrW rfl 23 _ _ rfl W1.heap.size (arr 32 fun i => bv (x i)) rfl rfl 23 _ ((Blk.new W1 _ _).alloc _) (by rw [arr_size]; kernel_rfl) (by first | (simp only [arr_size]; done) | (rw [arr_size]; rfl)) (arr_all_bv _ _) ?_; intro W6 hS6 hz6 hb6 hk6; have j17 := (hk6 (W1.heap.size + 1) (by omega)).trans (Blk.newAt (W1.alloc _) (W1.heap.size + 1) (by simp) hZ32.out); have j5 := Blk.below ((K5.out.alloc _).alloc _) hb6 K5.out.lt; have j9 := Blk.below ((K9.out.alloc _).alloc _) hb6 K9.out.lt; have hB6 := (((HB1.out.alloc HB1.out.size _).alloc (by have := HB1.out.size; simp; omega) _).trans (hb6.mono HB1.out.size)); have V := Lib.hid (And.intro K5.out.lt (And.intro K9.out.lt (And.intro j5 (And.intro j9 (And.intro hS6 hB6))))); clear hS6 hz6 hb6 hk6 j5 j9 hB6)
          | (refine wpList_store_arrW rfl 23 _ _ rfl (W1.heap.size + 1) (arr 32 fun i => bv (y i)) rfl rfl 23 _ j17 (by rw [arr_size]; kernel_rfl) (by first | (simp only [arr_size]; done) | (rw [arr_size]; rfl)) (arr_all_bv _ _) ?_; intro W7 hS7 hz7 hb7 hk7; have kA : Blk W7 W1.heap.size 23 (arr 32 fun i => bv (x i)) := (hk7 W1.heap.size (by omega)).trans V.out.2.2.2.2.1; have kB := hS7; have k5 := Blk.below V.out.2.2.1 hb7 (by have := V.out.1; omega); have k9 := Blk.below V.out.2.2.2.1 hb7 (by have := V.out.2.1; omega); have hbX := V.out.2.2.2.2.2.trans (hb7.mono (by have := HB1.out.size; omega)); have X := Lib.hid (And.intro kA (And.intro kB (And.intro k5 (And.intro k9 hbX)))); clear hS7 hz7 hb7 hk7 V j17 kA kB k5 k9 hbX)
          | (guard_target = wpList _ _ _ (Oper.mk _ (.load 23 (.tmp 11)) _ _ _ _ :: _) _ _; refine wpList_load_runG (by rfl) 23 _ rfl _ _ rfl (load_blk X.out.1) ?_)
          | (guard_target = wpList _ _ _ (Oper.mk _ (.load 23 (.tmp 12)) _ _ _ _ :: _) _ _; refine wpList_load_runG (by rfl) 23 _ rfl _ _ rfl (load_blk X.out.2.1) ?_)
          | (guard_target = wpList _ _ _ (Oper.mk _ (.load 23 (.tmp 7)) _ _ _ _ :: _) _ _; refine wpList_load_runG (by rfl) 23 _ rfl _ _ rfl (load_blk X.out.2.2.1) ?_)
          | (guard_target = wpList _ _ _ (Oper.mk _ (.load 23 (.tmp 8)) _ _ _ _ :: _) _ _; refine wpList_load_runG (by rfl) 23 _ rfl _ _ rfl (load_blk X.out.2.2.2.1) ?_))
        go_ret
        exact ⟨rfl, X.out.2.2.2.2⟩
      | true =>
        cases γ with
        | true =>
          rw [if_pos (by simp)]
          simp only [Bool.not_true] at ne
          simp only [Bool.not_true] at ne2
          go_enter Tryd.func15, Tryd.ntmps15
          go_wp2_with (first
            | (guard_target = wpList _ _ _ (Oper.mk _ (.load 23 (.tmp 7)) _ _ _ _ :: _) _ _; refine wpList_load_arr rfl 23 _ rfl w.heap.size rfl 23 (arr 32 fun i => bv (leaf i)) _ H5.out Tryd.underlying23 rfl (by rw [arr_size]; kernel_rfl) ?_)
            | (go_at_call 40; refine (HLD.out _ HB0.out).mono ?_; rintro e W1 ⟨rfl, hb1⟩; have K5 := Lib.hid (Blk.below H5.out hb1 H5.out.lt); have K9 := Lib.hid (Blk.below H9.out hb1 H9.out.lt); have HB1 := Lib.hid (HB0.out.trans (hb1.mono HB0.out.size)); clear hb1 HLD)
            | (refine wpList_store_arrW rfl 23 _ _ rfl W1.heap.size (arr 32 fun i => bv (x i)) rfl rfl 23 _ ((Blk.new W1 _ _).alloc _) (by rw [arr_size]; kernel_rfl) (by first | (simp only [arr_size]; done) | (rw [arr_size]; rfl)) (arr_all_bv _ _) ?_; intro W6 hS6 hz6 hb6 hk6; have j17 := (hk6 (W1.heap.size + 1) (by omega)).trans (Blk.newAt (W1.alloc _) (W1.heap.size + 1) (by simp) hZ32.out); have j5 := Blk.below ((K5.out.alloc _).alloc _) hb6 K5.out.lt; have j9 := Blk.below ((K9.out.alloc _).alloc _) hb6 K9.out.lt; have hB6 := (((HB1.out.alloc HB1.out.size _).alloc (by have := HB1.out.size; simp; omega) _).trans (hb6.mono HB1.out.size)); have V := Lib.hid (And.intro K5.out.lt (And.intro K9.out.lt (And.intro j5 (And.intro j9 (And.intro hS6 hB6))))); clear hS6 hz6 hb6 hk6 j5 j9 hB6)
            | (refine wpList_store_arrW rfl 23 _ _ rfl (W1.heap.size + 1) (arr 32 fun i => bv (y i)) rfl rfl 23 _ j17 (by rw [arr_size]; kernel_rfl) (by first | (simp only [arr_size]; done) | (rw [arr_size]; rfl)) (arr_all_bv _ _) ?_; intro W7 hS7 hz7 hb7 hk7; have kA : Blk W7 W1.heap.size 23 (arr 32 fun i => bv (x i)) := (hk7 W1.heap.size (by omega)).trans V.out.2.2.2.2.1; have kB := hS7; have k5 := Blk.below V.out.2.2.1 hb7 (by have := V.out.1; omega); have k9 := Blk.below V.out.2.2.2.1 hb7 (by have := V.out.2.1; omega); have hbX := V.out.2.2.2.2.2.trans (hb7.mono (by have := HB1.out.size; omega)); have X := Lib.hid (And.intro kA (And.intro kB (And.intro k5 (And.intro k9 hbX)))); clear hS7 hz7 hb7 hk7 V j17 kA kB k5 k9 hbX)
            | (guard_target = wpList _ _ _ (Oper.mk _ (.load 23 (.tmp 11)) _ _ _ _ :: _) _ _; refine wpList_load_runG (by rfl) 23 _ rfl _ _ rfl (load_blk X.out.1) ?_)
            | (guard_target = wpList _ _ _ (Oper.mk _ (.load 23 (.tmp 12)) _ _ _ _ :: _) _ _; refine wpList_load_runG (by rfl) 23 _ rfl _ _ rfl (load_blk X.out.2.1) ?_)
            | (guard_target = wpList _ _ _ (Oper.mk _ (.load 23 (.tmp 7)) _ _ _ _ :: _) _ _; refine wpList_load_runG (by rfl) 23 _ rfl _ _ rfl (load_blk X.out.2.2.1) ?_)
            | (guard_target = wpList _ _ _ (Oper.mk _ (.load 23 (.tmp 8)) _ _ _ _ :: _) _ _; refine wpList_load_runG (by rfl) 23 _ rfl _ _ rfl (load_blk X.out.2.2.2.1) ?_))
          go_ret
          exact ⟨rfl, X.out.2.2.2.2⟩
        | false =>
          rw [if_neg (by simp)]
          simp only [Bool.not_true] at ne
          simp only [Bool.not_false] at ne2
          go_enter Tryd.func15, Tryd.ntmps15
          go_wp2_with (first
            | (guard_target = wpList _ _ _ (Oper.mk _ (.load 23 (.tmp 7)) _ _ _ _ :: _) _ _; refine wpList_load_arr rfl 23 _ rfl w.heap.size rfl 23 (arr 32 fun i => bv (leaf i)) _ H5.out Tryd.underlying23 rfl (by rw [arr_size]; kernel_rfl) ?_)
            | (go_at_call 40; refine (HLD.out _ HB0.out).mono ?_; rintro e W1 ⟨rfl, hb1⟩; have K5 := Lib.hid (Blk.below H5.out hb1 H5.out.lt); have K9 := Lib.hid (Blk.below H9.out hb1 H9.out.lt); have HB1 := Lib.hid (HB0.out.trans (hb1.mono HB0.out.size)); clear hb1 HLD)
            | (refine wpList_store_arrW rfl 23 _ _ rfl W1.heap.size (arr 32 fun i => bv (x i)) rfl rfl 23 _ ((Blk.new W1 _ _).alloc _) (by rw [arr_size]; kernel_rfl) (by first | (simp only [arr_size]; done) | (rw [arr_size]; rfl)) (arr_all_bv _ _) ?_; intro W6 hS6 hz6 hb6 hk6; have j17 := (hk6 (W1.heap.size + 1) (by omega)).trans (Blk.newAt (W1.alloc _) (W1.heap.size + 1) (by simp) hZ32.out); have j5 := Blk.below ((K5.out.alloc _).alloc _) hb6 K5.out.lt; have j9 := Blk.below ((K9.out.alloc _).alloc _) hb6 K9.out.lt; have hB6 := (((HB1.out.alloc HB1.out.size _).alloc (by have := HB1.out.size; simp; omega) _).trans (hb6.mono HB1.out.size)); have V := Lib.hid (And.intro K5.out.lt (And.intro K9.out.lt (And.intro j5 (And.intro j9 (And.intro hS6 hB6))))); clear hS6 hz6 hb6 hk6 j5 j9 hB6)
            | (refine wpList_store_arrW rfl 23 _ _ rfl (W1.heap.size + 1) (arr 32 fun i => bv (y i)) rfl rfl 23 _ j17 (by rw [arr_size]; kernel_rfl) (by first | (simp only [arr_size]; done) | (rw [arr_size]; rfl)) (arr_all_bv _ _) ?_; intro W7 hS7 hz7 hb7 hk7; have kA : Blk W7 W1.heap.size 23 (arr 32 fun i => bv (x i)) := (hk7 W1.heap.size (by omega)).trans V.out.2.2.2.2.1; have kB := hS7; have k5 := Blk.below V.out.2.2.1 hb7 (by have := V.out.1; omega); have k9 := Blk.below V.out.2.2.2.1 hb7 (by have := V.out.2.1; omega); have hbX := V.out.2.2.2.2.2.trans (hb7.mono (by have := HB1.out.size; omega)); have X := Lib.hid (And.intro kA (And.intro kB (And.intro k5 (And.intro k9 hbX)))); clear hS7 hz7 hb7 hk7 V j17 kA kB k5 k9 hbX)
            | (guard_target = wpList _ _ _ (Oper.mk _ (.load 23 (.tmp 11)) _ _ _ _ :: _) _ _; refine wpList_load_runG (by rfl) 23 _ rfl _ _ rfl (load_blk X.out.1) ?_)
            | (guard_target = wpList _ _ _ (Oper.mk _ (.load 23 (.tmp 12)) _ _ _ _ :: _) _ _; refine wpList_load_runG (by rfl) 23 _ rfl _ _ rfl (load_blk X.out.2.1) ?_)
            | (guard_target = wpList _ _ _ (Oper.mk _ (.load 23 (.tmp 7)) _ _ _ _ :: _) _ _; refine wpList_load_runG (by rfl) 23 _ rfl _ _ rfl (load_blk X.out.2.2.1) ?_)
            | (guard_target = wpList _ _ _ (Oper.mk _ (.load 23 (.tmp 8)) _ _ _ _ :: _) _ _; refine wpList_load_runG (by rfl) 23 _ rfl _ _ rfl (load_blk X.out.2.2.2.1) ?_))
          go_ret
          exact ⟨rfl, X.out.2.2.2.2⟩
theorem refCcon_any (leaf root : D) (a size : Int) (v : Value) (path : List D) (w : World) (h70 : path.length ≤ 70) (hr : RdI w (fun b => b < w.heap.size) v path) :
    Calls Tryd.prog 15 #[.int .i64 a, .int .i64 size, .agg (arr 32 fun i => bv (leaf i)), .agg (arr 32 fun i => bv (root i)), v] w fun e w' => e = .returned (.int .i64 (cconV a size leaf root path)) ∧ Below w.heap.size w w' := by
  by_cases h : a < 1 ∨ size < a ∨ 1099511627776 < size
  · have e : cconV a size leaf root path = 1 := by unfold cconV; rw [if_pos h]
    rw [e]
    exact refCcon_range leaf root a size h v w
  · obtain ⟨a', rfl⟩ := Int.eq_ofNat_of_zero_le (show 0 ≤ a by omega)
    obtain ⟨s', rfl⟩ := Int.eq_ofNat_of_zero_le (show 0 ≤ size by omega)
    exact refCcon_in leaf root a' s' (by omega) (by omega) (by omega) v path w h70 hr
end Go.Proofs.YtdfgffmefonelaaDoor
