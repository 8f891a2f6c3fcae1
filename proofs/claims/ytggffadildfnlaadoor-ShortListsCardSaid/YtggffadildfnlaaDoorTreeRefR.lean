/-
  The reference's Half and Root: for every list of leaves, in whatever memory. No condition.
-/
import Derived.Test.YtggffadildfnlaaDoorTreeGo
import Derived.Test.YtggffadildfnlaaDoorRefSumT
import Derived.Deep.DeepMust
namespace Go.Proofs.YtggffadildfnlaaDoor
open Go Go.RowKit Go.Shelf TreeM

set_option maxRecDepth 100000 in
set_option maxHeartbeats 1000000 in
theorem half_any (n : Nat) (h2 : 2 ≤ n) (hn : n ≤ 1099511627776) (w : World) : Calls Tryd.prog 43 #[.int .i64 (n : Int)] w fun e w' => e = .returned (.int .i64 (half n : Int)) ∧ w' = w := by
  go_enter Tryd.func43, Tryd.ntmps43
  go_wp2
  go_loopw [3] (fun k wr => ∃ j : Nat, k = .int .i64 ((2 ^ j : Nat) : Int) ∧ 2 ^ j < n ∧ wr = w) (fun k _ => n - (intOf k).toNat)
  case atStart => exact ⟨0, rfl, by simp; omega, rfl⟩
  case round =>
    obtain ⟨j, rfl, hj, rfl⟩ := hrel
    have hpos := Nat.two_pow_pos j
    have hsucc : 2 ^ (j + 1) = 2 ^ j * 2 := Nat.pow_succ ..
    obtain ⟨p, hp⟩ : ∃ p, 2 ^ j = p := ⟨_, rfl⟩
    have HP := Lib.hid hp
    have HS := Lib.hid hsucc
    rw [hp] at hj hpos ⊢
    clear hp hsucc
    have hp1 : (p : Int) ≤ 1099511627776 := by omega
    have hp0 : (0 : Int) < (p : Int) := by omega
    by_cases hlt : p * 2 < n
    · have hl2 : (p : Int) * 2 < (n : Int) := by omega
      go_wp2
      go_roundw
      case rel => exact ⟨j + 1, by rw [HS.out, HP.out]; go_num, by rw [HS.out, HP.out]; omega, by first | rfl | trivial⟩
      case measure => simp [intOf]; omega
    · have hl2 : ¬ ((p : Int) * 2 < (n : Int)) := by omega
      have he : half n = p := by
        unfold half
        rw [← HP.out]
        exact top2_eq (by rw [HP.out]; omega) (by rw [HP.out]; omega)
      go_wp2
      go_ret
      exact ⟨rfl, rfl⟩
set_option maxRecDepth 100000 in
set_option maxHeartbeats 1000000 in
theorem refRoot_any : ∀ (n : Nat) (l : List D) (v : Value) (w : World), l.length = n → n ≤ 1000000 → RdI w (fun b => b < w.heap.size) v l →
    Calls Tryd.prog 17 #[v] w fun e w' => e = .returned (.agg (arr 32 fun i => bv (mth l i))) ∧ Below w.heap.size w w' := by
  intro n
  induction n using Nat.strongRecOn with
  | _ n ih =>
    intro l v w hn hle hr
    obtain ⟨A, c, rfl, hlc, _⟩ := id hr
    rw [hn] at hlc hr ⊢
    have hb0 : Below w.heap.size w (w.alloc (.cells #[.int .u8 0, .int .u8 0, .int .u8 0, .int .u8 0, .int .u8 0, .int .u8 0, .int .u8 0, .int .u8 0, .int .u8 0, .int .u8 0, .int .u8 0, .int .u8 0, .int .u8 0, .int .u8 0, .int .u8 0, .int .u8 0, .int .u8 0, .int .u8 0, .int .u8 0, .int .u8 0, .int .u8 0, .int .u8 0, .int .u8 0, .int .u8 0, .int .u8 0, .int .u8 0, .int .u8 0, .int .u8 0, .int .u8 0, .int .u8 0, .int .u8 0, .int .u8 0] 23)) := (Below.refl _ _).alloc (Nat.le_refl _) _
    have hS0 : Blk (w.alloc (.cells #[.int .u8 0, .int .u8 0, .int .u8 0, .int .u8 0, .int .u8 0, .int .u8 0, .int .u8 0, .int .u8 0, .int .u8 0, .int .u8 0, .int .u8 0, .int .u8 0, .int .u8 0, .int .u8 0, .int .u8 0, .int .u8 0, .int .u8 0, .int .u8 0, .int .u8 0, .int .u8 0, .int .u8 0, .int .u8 0, .int .u8 0, .int .u8 0, .int .u8 0, .int .u8 0, .int .u8 0, .int .u8 0, .int .u8 0, .int .u8 0, .int .u8 0, .int .u8 0] 23)) w.heap.size 23 #[.int .u8 0, .int .u8 0, .int .u8 0, .int .u8 0, .int .u8 0, .int .u8 0, .int .u8 0, .int .u8 0, .int .u8 0, .int .u8 0, .int .u8 0, .int .u8 0, .int .u8 0, .int .u8 0, .int .u8 0, .int .u8 0, .int .u8 0, .int .u8 0, .int .u8 0, .int .u8 0, .int .u8 0, .int .u8 0, .int .u8 0, .int .u8 0, .int .u8 0, .int .u8 0, .int .u8 0, .int .u8 0, .int .u8 0, .int .u8 0, .int .u8 0, .int .u8 0] := Blk.new _ _ _
    have HB0 := Lib.hid hb0
    have HS0 := Lib.hid hS0
    have HR := Lib.hid hr
    clear hb0 hS0 hr
    by_cases h0 : n = 0
    · subst h0
      have hl := List.length_eq_zero_iff.1 hn
      subst hl
      rw [mth_nil]
      have HRO := Lib.hid (refOf_any [] (by simp) (w.alloc (.cells #[.int .u8 0, .int .u8 0, .int .u8 0, .int .u8 0, .int .u8 0, .int .u8 0, .int .u8 0, .int .u8 0, .int .u8 0, .int .u8 0, .int .u8 0, .int .u8 0, .int .u8 0, .int .u8 0, .int .u8 0, .int .u8 0, .int .u8 0, .int .u8 0, .int .u8 0, .int .u8 0, .int .u8 0, .int .u8 0, .int .u8 0, .int .u8 0, .int .u8 0, .int .u8 0, .int .u8 0, .int .u8 0, .int .u8 0, .int .u8 0, .int .u8 0, .int .u8 0] 23)))
      clear ih hn
      go_enter Tryd.func17, Tryd.ntmps17
      go_wp2_with (first
        | (go_at_call 42; go_must (refine HRO.out.mono ?_); rintro e W1 ⟨rfl, hb1⟩; have HS1 := Lib.hid (HS0.out.below hb1 HS0.out.lt); have HB1 := Lib.hid (HB0.out.trans (hb1.mono HB0.out.size)); clear hb1)
        | (refine wpList_store_arrW rfl 23 _ _ rfl w.heap.size (arr 32 fun i => bv (sha [] i)) rfl rfl 23 _ HS1.out (by rw [arr_size]; kernel_rfl) (by rw [arr_size]; rfl) (arr_all_bv _ _) ?_; intro W3 hS3 hz3 hb3 hk3))
      refine bodyPost_ret (results_cell_row (p := 2) (ty := 23) rfl _ _ w.heap.size 23 _ (0, 0) _ rfl hS3 Tryd.underlying23 rfl (by rw [arr_size]; kernel_rfl)) rfl ?_
      exact ⟨rfl, HB1.out.trans hb3⟩
    · by_cases h1 : n = 1
      · subst h1
        obtain ⟨x, rfl⟩ : ∃ x, l = [x] := List.length_eq_one_iff.1 hn
        rw [mth_one]
        obtain ⟨ad, rfl, hok, hc⟩ := (HR.out.old HB0.out).at_ (k := 0) (by omega)
        have hc2 : ∀ i, i < 32 → (w.alloc (.cells #[.int .u8 0, .int .u8 0, .int .u8 0, .int .u8 0, .int .u8 0, .int .u8 0, .int .u8 0, .int .u8 0, .int .u8 0, .int .u8 0, .int .u8 0, .int .u8 0, .int .u8 0, .int .u8 0, .int .u8 0, .int .u8 0, .int .u8 0, .int .u8 0, .int .u8 0, .int .u8 0, .int .u8 0, .int .u8 0, .int .u8 0, .int .u8 0, .int .u8 0, .int .u8 0, .int .u8 0, .int .u8 0, .int .u8 0, .int .u8 0, .int .u8 0, .int .u8 0] 23)).cell? (ad.add i) = some (bv (x i)) := fun i hi => by
          have := hc i hi
          rw [add_add] at this
          simpa using this
        have HC := Lib.hid hc2
        clear hc hc2 ih hn hok
        go_enter Tryd.func17, Tryd.ntmps17
        go_wp2_with (first
          | (refine wpList_load_at rfl 23 _ rfl ad (by first | rfl | simp) 32 (fun i => bv (x i)) 5 HC.out Tryd.underlying23 (by kernel_rfl) ?_)
          | (refine wpList_store_arrW rfl 23 _ _ rfl w.heap.size (arr 32 fun i => bv (x i)) rfl rfl 23 _ HS0.out (by rw [arr_size]; kernel_rfl) (by rw [arr_size]; rfl) (arr_all_bv _ _) ?_; intro W3 hS3 hz3 hb3 hk3))
        refine bodyPost_ret (results_cell_row (p := 2) (ty := 23) rfl _ _ w.heap.size 23 _ (0, 0) _ rfl hS3 Tryd.underlying23 rfl (by rw [arr_size]; kernel_rfl)) rfl ?_
        exact ⟨rfl, HB0.out.trans hb3⟩
      · have hh := mth_halves (l := l) (by omega)
        rw [hn] at hh
        have hkl := half_lt (n := n) (by omega)
        have hkp := half_pos n
        have HHF := Lib.hid fun W => half_any n (by omega) (by omega) W
        obtain ⟨K, hK⟩ : ∃ K, half n = K := ⟨_, rfl⟩
        rw [hK] at hh hkl hkp HHF
        have IH1 : Hid (∀ W, Below w.heap.size w W → Calls Tryd.prog 17 #[.slice A K c] W fun e w' => e = .returned (.agg (arr 32 fun i => bv (mth (l.take K) i))) ∧ Below W.heap.size W w') := Lib.hid fun W hb =>
          ih K hkl (l.take K) _ W (by rw [List.length_take]; omega) (by omega) (((HR.out.take (k := K) (by omega)).old hb).mono fun b hb' => Nat.lt_of_lt_of_le hb' hb.size)
        have IH2 : Hid (∀ W, Below w.heap.size w W → Calls Tryd.prog 17 #[.slice (cutI A c K) (n - K) (c - K)] W fun e w' => e = .returned (.agg (arr 32 fun i => bv (mth (l.drop K) i))) ∧ Below W.heap.size W w') := Lib.hid fun W hb =>
          ih (n - K) (by omega) (l.drop K) _ W (by rw [List.length_drop]; omega) (by omega) (((HR.out.drop (k := K) (by omega)).old hb).mono fun b hb' => Nat.lt_of_lt_of_le hb' hb.size)
        have sl1 := run_slice_toN (P := Tryd.prog) 24 23 Tryd.underlying24 32 (by kernel_rfl) A n c K (by omega)
        have sl2 := run_slice_fromI (P := Tryd.prog) 24 23 Tryd.underlying24 (by kernel_rfl) A n c K (by omega)
        obtain ⟨ra, hra⟩ : ∃ ra, mth (l.take K) = ra := ⟨_, rfl⟩
        obtain ⟨rb, hrb⟩ : ∃ rb, mth (l.drop K) = rb := ⟨_, rfl⟩
        rw [hra, hrb] at hh
        rw [hra] at IH1
        rw [hrb] at IH2
        have HND : Hid (∀ W, Calls Tryd.prog 44 #[.agg (arr 32 fun i => bv (ra i)), .agg (arr 32 fun i => bv (rb i))] W fun e w' => e = .returned (.agg (arr 32 fun i => bv (mth l i))) ∧ Below W.heap.size W w') := Lib.hid fun W => by
          have := refNode_any ra rb W
          rw [hh]
          exact this
        have e0 : (n : Int) ≠ 0 := by omega
        have e1 : (n : Int) ≠ 1 := by omega
        obtain ⟨q, hq⟩ : ∃ q, n - K = q := ⟨_, rfl⟩
        obtain ⟨d, hd⟩ : ∃ d, c - K = d := ⟨_, rfl⟩
        rw [hq, hd] at IH2 sl2
        obtain ⟨A2, hA2⟩ : ∃ A2, cutI A c K = A2 := ⟨_, rfl⟩
        rw [hA2] at IH2 sl2
        generalize mth l = R at *
        clear ih hh hK hra hrb hn hq hd hA2 h0 h1 hkl hkp
        go_enter Tryd.func17, Tryd.ntmps17
        go_wp2_with (first
          | (go_at_call 43; refine (HHF.out _).mono ?_; rintro e W1 ⟨rfl, rfl⟩)
          | (go_at_call 17; refine (IH1.out _ HB0.out).mono ?_; rintro e W2 ⟨rfl, hb2⟩; have HS2 := Lib.hid (HS0.out.below hb2 HS0.out.lt); have HB2 := Lib.hid (HB0.out.trans (hb2.mono HB0.out.size)); clear hb2 IH1)
          | (refine wpList_store_row rfl 23 _ _ rfl W2.heap.size (arr 32 fun i => bv (ra i)) rfl rfl 23 _ (heap_alloc_new W2 _) (by rw [arr_size]; kernel_rfl) (by rw [arr_size]; rfl) (arr_all_bv _ _) ?_; rw [World.setRow_alloc_new]; have HA3 := Lib.hid (Blk.new W2 23 (arr 32 fun i => bv (ra i))); have HS3 := Lib.hid (HS2.out.alloc (.cells (arr 32 fun i => bv (ra i)) 23)); have HB3 := Lib.hid (HB2.out.alloc HB2.out.size (.cells (arr 32 fun i => bv (ra i)) 23)))
          | (go_at_call 17; refine (IH2.out _ HB3.out).mono ?_; rintro e W4 ⟨rfl, hb4⟩; have HA4 := Lib.hid (HA3.out.below hb4 HA3.out.lt); have HS4 := Lib.hid (HS3.out.below hb4 HS3.out.lt); have HB4 := Lib.hid (HB3.out.trans (hb4.mono HB3.out.size)); clear hb4 HA3 HS3 HB3 HS2 HB2)
          | (refine wpList_store_row rfl 23 _ _ rfl W4.heap.size (arr 32 fun i => bv (rb i)) rfl rfl 23 _ (heap_alloc_new W4 _) (by rw [arr_size]; kernel_rfl) (by rw [arr_size]; rfl) (arr_all_bv _ _) ?_; rw [World.setRow_alloc_new]; have HA5 := Lib.hid (HA4.out.alloc (.cells (arr 32 fun i => bv (rb i)) 23)); have HS5 := Lib.hid (HS4.out.alloc (.cells (arr 32 fun i => bv (rb i)) 23)); have HB5 := Lib.hid (HB4.out.alloc HB4.out.size (.cells (arr 32 fun i => bv (rb i)) 23)))
          | (refine wpList_load_arr rfl 23 _ rfl W2.heap.size rfl 23 (arr 32 fun i => bv (ra i)) _ HA5.out Tryd.underlying23 rfl (by rw [arr_size]; kernel_rfl) ?_)
          | (refine wpList_load_arr rfl 23 _ rfl W4.heap.size rfl 23 (arr 32 fun i => bv (rb i)) _ (Blk.newAt W4 _ rfl rfl) Tryd.underlying23 rfl (by rw [arr_size]; kernel_rfl) ?_)
          | (go_at_call 44; refine (HND.out _).mono ?_; rintro e W6 ⟨rfl, hb6⟩; have HS6 := Lib.hid (HS5.out.below hb6 HS5.out.lt); have HB6 := Lib.hid (HB5.out.trans (hb6.mono HB5.out.size)); clear hb6)
          | (refine wpList_store_arrW rfl 23 _ _ rfl w.heap.size (arr 32 fun i => bv (R i)) rfl rfl 23 _ HS6.out (by rw [arr_size]; kernel_rfl) (by rw [arr_size]; rfl) (arr_all_bv _ _) ?_; intro W7 hS7 hz7 hb7 hk7))
        refine bodyPost_ret (results_cell_row (p := 2) (ty := 23) rfl _ _ w.heap.size 23 _ (0, 0) _ rfl hS7 Tryd.underlying23 rfl (by rw [arr_size]; kernel_rfl)) rfl ?_
        exact ⟨rfl, HB6.out.trans hb7⟩
end Go.Proofs.YtggffadildfnlaaDoor
