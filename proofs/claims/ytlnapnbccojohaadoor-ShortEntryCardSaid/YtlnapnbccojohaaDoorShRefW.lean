/-
  Layer 7's reference: the way of an entry; short's Way, of any place. No condition.
-/
import Derived.Test.YtlnapnbccojohaaDoorShRefR
import Derived.Test.YtlnapnbccojohaaDoorShWay
namespace Go.Proofs.YtlnapnbccojohaaDoor
open Go Go.RowKit Go.Shelf TreeM

set_option maxRecDepth 100000 in
set_option maxHeartbeats 4000000 in
theorem refWayS_any (c : Int) : ∀ (n : Nat) (qs : List (List UInt8)) (a : Nat) (A : Option Addr) (cp : Nat) (w : World), qs.length = n → a < n → n ≤ 1000000 → n ≤ cp → (∀ p ∈ qs, p.length ≤ 1000000) → RdS w A qs →
    Calls Tryd.prog 28 #[.int .i64 c, .slice A n cp, .int .i64 (a : Int)] w fun e w' => ∃ v', e = .returned v' ∧ w'.ownsRow w.heap.size 23 32 v' (wayC c qs a).length (idCells (wayC c qs a)) ∧ Below w.heap.size w w' := by
  intro n
  induction n using Nat.strongRecOn with
  | _ n ih =>
    intro qs a A cp w hn ha hm hc hl hr
    by_cases h2 : 2 ≤ n
    · have hkl := half_lt (n := n) h2
      have hkp := half_pos n
      have HHF := Lib.hid fun W => half_any n (by omega) (by omega) W
      obtain ⟨K, hK⟩ : ∃ K, half n = K := ⟨_, rfl⟩
      rw [hK] at hkl hkp HHF
      have hlt : (qs.take K).length = K := by rw [List.length_take]; omega
      have hld : (qs.drop K).length = n - K := by rw [List.length_drop]; omega
      have e1 : ¬ (n : Int) < 2 := by omega
      have sl1 := fun W => run_slice_to (P := Tryd.prog) 40 9 Tryd.underlying40 (by kernel_rfl) A n cp K (by omega) W
      have sl2 := fun W => run_slice_from (P := Tryd.prog) 40 9 Tryd.underlying40 (by kernel_rfl) A n cp K (by omega) W
      by_cases haK : a < K
      · rw [wayC_low hn hK h2 haK]
        have IH : Hid (∀ W, Below w.heap.size w W → Calls Tryd.prog 28 #[.int .i64 c, .slice A K cp, .int .i64 (a : Int)] W fun e w' => ∃ v', e = .returned v' ∧ w'.ownsRow W.heap.size 23 32 v' (wayC c (qs.take K) a).length (idCells (wayC c (qs.take K) a)) ∧ Below W.heap.size W w') := Lib.hid fun W hb => by
          have := ih K (by omega) (qs.take K) a A cp W hlt (by omega) (by omega) (by omega) (fun p hp => hl p (List.mem_of_mem_take hp)) ((hr.takeS K).oldS hb)
        
          exact this
        have HRT : Hid (∀ W, Below w.heap.size w W → Calls Tryd.prog 21 #[.int .i64 c, .slice (cutA A cp K) (n - K) (cp - K)] W fun e w' => e = .returned (.agg (arr 32 fun i => bv (rootC c (qs.drop K) i))) ∧ Below W.heap.size W w') := Lib.hid fun W hb => refRootS_any c (n - K) (qs.drop K) (cutA A cp K) (cp - K) W hld (by omega) (by omega) (fun p hp => hl p (List.mem_of_mem_drop hp)) ((hr.dropS K (by omega)).oldS hb)
        have hwl := wayC_length c K (qs.take K) a hlt (by omega) (by omega)
        obtain ⟨ra, hra⟩ : ∃ ra, rootC c (qs.drop K) = ra := ⟨_, rfl⟩
        obtain ⟨PL, hPL⟩ : ∃ PL, wayC c (qs.take K) a = PL := ⟨_, rfl⟩
        rw [hra] at HRT ⊢
        rw [hPL] at IH hwl ⊢
        obtain ⟨q, hq⟩ : ∃ q, n - K = q := ⟨_, rfl⟩
        obtain ⟨d, hd⟩ : ∃ d, cp - K = d := ⟨_, rfl⟩
        obtain ⟨A2, hA2⟩ : ∃ A2, cutA A cp K = A2 := ⟨_, rfl⟩
        rw [hq, hd, hA2] at sl2
        rw [hq, hd, hA2] at HRT
        have haKi : (a : Int) < (K : Int) := by omega
        have hai : (a : Int) ≤ 1000000 := by omega
        have hKi : (K : Int) ≤ 1000000 := by omega
        have ha0 : (0 : Int) ≤ (a : Int) := by omega
        have hK0 : (0 : Int) ≤ (K : Int) := by omega
        have HWL := Lib.hid hwl
        clear ih hn hm hc hl hr h2 hkl hkp hK hlt hld hra hPL hq hd hA2 ha hwl
        go_enter Tryd.func28, Tryd.ntmps28
        go_wp2_with (first
          | (go_at_call 43; refine (HHF.out _).mono ?_; rintro e W0 ⟨rfl, h0⟩; obtain rfl := h0.symm; clear HHF)
          | (go_at_call 28; refine (IH.out _ (Below.refl _ _)).mono ?_; rintro e W2 ⟨v', rfl, ho, hb2⟩; have HO2 := Lib.hid ho; have HB2 := Lib.hid hb2; clear hb2 ho IH)
          | (go_at_call 21; refine (HRT.out _ HB2.out).mono ?_; rintro e W3 ⟨rfl, hb3⟩; have HO3 := Lib.hid (Turn.own (Turn.of_below hb3) HO2.out (fun i hi => by have := (HO2.out.lt i hi).2; omega)); have HB3 := Lib.hid (HB2.out.trans (hb3.mono HB2.out.size)); obtain ⟨g, cap, W7, hrun, ho7, hb7⟩ := id_more2 (f := ra) HB3.out HO3.out (by have := HWL.out; omega); have R7 := Lib.hid hrun; have HO7 := Lib.hid ho7; have HB7 := Lib.hid hb7; clear hrun ho7 hb7 hb3 HRT)
          | (refine wpList_store_row rfl 23 _ _ rfl W3.heap.size (arr 32 fun i => bv (ra i)) rfl rfl 23 _ (heap_alloc_new W3 _) (by rw [arr_size]; kernel_rfl) (by rw [arr_size]; rfl) (arr_all_bv _ _) ?_; rw [World.setRow_alloc_new])
          | (refine wpList_load_arr rfl 23 _ rfl W3.heap.size rfl 23 (arr 32 fun i => bv (ra i)) _ (Blk.new W3 _ _) Tryd.underlying23 rfl (by rw [arr_size]; kernel_rfl) ?_)
          | (guard_target = wpList _ _ _ (Oper.mk _ (.buildSlice _ _ _) _ _ _ _ :: _) _ _; go_must (refine wpList_build_idI rfl _ rfl ra rfl ?_))
          | (at_builtin; refine wpList_append_run rfl (.tmp 32) (.tmp 34) _ _ rfl _ _ rfl rfl _ _ R7.out ?_))
        go_ret
        exact ⟨_, rfl, by rw [List.length_append]; exact HO7.out, HB7.out⟩
      · rw [wayC_high hn hK h2 haK]
        have IH : Hid (∀ W, Below w.heap.size w W → Calls Tryd.prog 28 #[.int .i64 c, .slice (cutA A cp K) (n - K) (cp - K), .int .i64 ((a : Int) - (K : Int))] W fun e w' => ∃ v', e = .returned v' ∧ w'.ownsRow W.heap.size 23 32 v' (wayC c (qs.drop K) (a - K)).length (idCells (wayC c (qs.drop K) (a - K))) ∧ Below W.heap.size W w') := Lib.hid fun W hb => by
          have := ih (n - K) (by omega) (qs.drop K) (a - K) (cutA A cp K) (cp - K) W hld (by omega) (by omega) (by omega) (fun p hp => hl p (List.mem_of_mem_drop hp)) ((hr.dropS K (by omega)).oldS hb)
          rw [Int.natCast_sub (by omega)] at this
          exact this
        have HRT : Hid (∀ W, Below w.heap.size w W → Calls Tryd.prog 21 #[.int .i64 c, .slice A K cp] W fun e w' => e = .returned (.agg (arr 32 fun i => bv (rootC c (qs.take K) i))) ∧ Below W.heap.size W w') := Lib.hid fun W hb => refRootS_any c K (qs.take K) A cp W hlt (by omega) (by omega) (fun p hp => hl p (List.mem_of_mem_take hp)) ((hr.takeS K).oldS hb)
        have hwl := wayC_length c (n - K) (qs.drop K) (a - K) hld (by omega) (by omega)
        obtain ⟨ra, hra⟩ : ∃ ra, rootC c (qs.take K) = ra := ⟨_, rfl⟩
        obtain ⟨PL, hPL⟩ : ∃ PL, wayC c (qs.drop K) (a - K) = PL := ⟨_, rfl⟩
        rw [hra] at HRT ⊢
        rw [hPL] at IH hwl ⊢
        obtain ⟨q, hq⟩ : ∃ q, n - K = q := ⟨_, rfl⟩
        obtain ⟨d, hd⟩ : ∃ d, cp - K = d := ⟨_, rfl⟩
        obtain ⟨A2, hA2⟩ : ∃ A2, cutA A cp K = A2 := ⟨_, rfl⟩
        rw [hq, hd, hA2] at sl2
        rw [hq, hd, hA2] at IH
        have haKi : ¬ (a : Int) < (K : Int) := by omega
        have hai : (a : Int) ≤ 1000000 := by omega
        have hKi : (K : Int) ≤ 1000000 := by omega
        have ha0 : (0 : Int) ≤ (a : Int) := by omega
        have hK0 : (0 : Int) ≤ (K : Int) := by omega
        have HWL := Lib.hid hwl
        clear ih hn hm hc hl hr h2 hkl hkp hK hlt hld hra hPL hq hd hA2 ha hwl
        go_enter Tryd.func28, Tryd.ntmps28
        go_wp2_with (first
          | (go_at_call 43; refine (HHF.out _).mono ?_; rintro e W0 ⟨rfl, h0⟩; obtain rfl := h0.symm; clear HHF)
          | (go_at_call 28; refine (IH.out _ (Below.refl _ _)).mono ?_; rintro e W2 ⟨v', rfl, ho, hb2⟩; have HO2 := Lib.hid ho; have HB2 := Lib.hid hb2; clear hb2 ho IH)
          | (go_at_call 21; refine (HRT.out _ HB2.out).mono ?_; rintro e W3 ⟨rfl, hb3⟩; have HO3 := Lib.hid (Turn.own (Turn.of_below hb3) HO2.out (fun i hi => by have := (HO2.out.lt i hi).2; omega)); have HB3 := Lib.hid (HB2.out.trans (hb3.mono HB2.out.size)); obtain ⟨g, cap, W7, hrun, ho7, hb7⟩ := id_more2 (f := ra) HB3.out HO3.out (by have := HWL.out; omega); have R7 := Lib.hid hrun; have HO7 := Lib.hid ho7; have HB7 := Lib.hid hb7; clear hrun ho7 hb7 hb3 HRT)
          | (refine wpList_store_row rfl 23 _ _ rfl W3.heap.size (arr 32 fun i => bv (ra i)) rfl rfl 23 _ (heap_alloc_new W3 _) (by rw [arr_size]; kernel_rfl) (by rw [arr_size]; rfl) (arr_all_bv _ _) ?_; rw [World.setRow_alloc_new])
          | (refine wpList_load_arr rfl 23 _ rfl W3.heap.size rfl 23 (arr 32 fun i => bv (ra i)) _ (Blk.new W3 _ _) Tryd.underlying23 rfl (by rw [arr_size]; kernel_rfl) ?_)
          | (guard_target = wpList _ _ _ (Oper.mk _ (.buildSlice _ _ _) _ _ _ _ :: _) _ _; go_must (refine wpList_build_idI rfl _ rfl ra rfl ?_))
          | (at_builtin; refine wpList_append_run rfl (.tmp 49) (.tmp 51) _ _ rfl _ _ rfl rfl _ _ R7.out ?_))
        go_ret
        exact ⟨_, rfl, by rw [List.length_append]; exact HO7.out, HB7.out⟩
    · obtain rfl : n = 1 := by omega
      rw [wayC_end hn h2]
      clear ih hn hm hc hl hr h2 ha
      go_enter Tryd.func28, Tryd.ntmps28
      go_wp2
      go_ret
      exact ⟨_, rfl, World.ownsRow_nil _ _ _ _, Below.refl _ _⟩
set_option maxRecDepth 100000 in
set_option maxHeartbeats 4000000 in
theorem wayS_in (c : Int) (n : Nat) (ps : List (List UInt8)) (a : Nat) (A : Option Addr) (cp : Nat) (w : World) (hn : ps.length = n) (ha : a < n) (hm : n ≤ 1000000) (hc : n ≤ cp) (hl : ∀ p ∈ ps, p.length ≤ 1000000) (hT : Tables w) (hr : RdP w (fun b => b < w.heap.size) A ps) :
    Calls Tryd.prog 24 #[.int .i64 c, .slice A n cp, .int .i64 (a : Int)] w fun e w' => ∃ v', e = .returned (.tuple #[v', .int .i64 0]) ∧ w'.ownsRow w.heap.size 23 32 v' (wayC c ps a).length (idCells (wayC c ps a)) ∧ Below w.heap.size w w' := by
  have HW := Lib.hid (wayOf_anyC c n ps a A cp w hn ha hm hc hl hT hr)
  have h0 : ¬ (a : Int) < 0 := by omega
  have h1 : decide ((a : Int) ≥ (n : Int)) = false := decide_eq_false (by omega)
  have h2 : ¬ n ≤ a := by omega
  obtain ⟨PL, hPL⟩ : ∃ PL, wayC c ps a = PL := ⟨_, rfl⟩
  rw [hPL] at HW ⊢
  clear hn ha hm hc hl hT hr hPL
  go_enter Tryd.func24, Tryd.ntmps24
  go_wp2_with (go_at_call 50; refine HW.out.mono ?_; rintro e W2 ⟨v', rfl, ho, hb2⟩; have HO2 := Lib.hid ho; have HB2 := Lib.hid hb2; clear hb2 ho HW)
  go_ret2
  exact ⟨_, rfl, HO2.out, HB2.out⟩
theorem wayS_range (c : Int) (n : Nat) (a : Int) (A : Option Addr) (cp : Nat) (w : World) (h : a < 0 ∨ (n : Int) ≤ a) :
    Calls Tryd.prog 24 #[.int .i64 c, .slice A n cp, .int .i64 a] w fun e w' => e = .returned (.tuple #[.slice none 0 0, .int .i64 1]) ∧ w' = w := by
  by_cases h0 : a < 0
  · have d0 : decide (a < 0) = true := decide_eq_true h0
    clear h
    go_enter Tryd.func24, Tryd.ntmps24
    go_wp2
    go_ret2
    exact ⟨rfl, rfl⟩
  · have d0 : decide (a < 0) = false := decide_eq_false h0
    have h1 : (n : Int) ≤ a := by omega
    have d1 : decide (a ≥ (n : Int)) = true := decide_eq_true h1
    clear h
    go_enter Tryd.func24, Tryd.ntmps24
    go_wp2
    go_ret2
    exact ⟨rfl, rfl⟩
end Go.Proofs.YtlnapnbccojohaaDoor
