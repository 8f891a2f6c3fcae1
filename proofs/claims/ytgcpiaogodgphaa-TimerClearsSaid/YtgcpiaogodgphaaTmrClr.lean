/-
  TimerClears: walked. No condition.
-/
import Derived.Test.YtgcpiaogodgphaaTmrNum
namespace Go.Proofs.Ytgcpiaogodgphaa
open Go Go.RowKit

/-- The timer that is set behind the clearing, p ticks on. -/
def leftC (a : Nat) (more : Int) (p : Nat) : List (List Int) := if (p : Int) < dly more then [[more, 77, (a : Int)]] else []
theorem due_left (a p : Nat) (more : Int) : dueL ((a : Int) + (p : Int) + 1) [more, 77, (a : Int)] = decide (dly more ≤ (p : Int) + 1) := by
  unfold dueL
  simp only [List.getD_cons_zero, List.getD_cons_succ]
  congr 1
  simp only [eq_iff_iff]
  omega
theorem clears_facts (a p : Nat) (more : Int) : ((p : Int) + 1 = dly more ∧ (overL ((a : Int) + (p : Int) + 1) (leftC a more p)).map pairT = [[more, 77]] ∨ (p : Int) + 1 ≠ dly more ∧ (overL ((a : Int) + (p : Int) + 1) (leftC a more p)).map pairT = []) ∧ keepL ((a : Int) + (p : Int) + 1) (leftC a more p) = leftC a more (p + 1) := by
  unfold leftC
  have e : ((p + 1 : Nat) : Int) = (p : Int) + 1 := by omega
  rw [e]
  by_cases h : (p : Int) < dly more
  · rw [if_pos h]
    by_cases h2 : (p : Int) + 1 = dly more
    · have hd : dueL ((a : Int) + (p : Int) + 1) [more, 77, (a : Int)] = true := by rw [due_left]; exact decide_eq_true (by omega)
      refine ⟨.inl ⟨h2, ?_⟩, ?_⟩
      · unfold overL
        simp [hd, pairT]
      · unfold keepL
        rw [if_neg (by omega)]
        simp [hd]
    · have hd : dueL ((a : Int) + (p : Int) + 1) [more, 77, (a : Int)] = false := by rw [due_left]; exact decide_eq_false (by omega)
      refine ⟨.inr ⟨h2, ?_⟩, ?_⟩
      · unfold overL
        simp [hd]
      · unfold keepL
        rw [if_pos (by omega)]
        simp [hd]
  · rw [if_neg h, if_neg (by omega)]
    exact ⟨.inr ⟨by omega, rfl⟩, rfl⟩
set_option maxRecDepth 100000 in
set_option maxHeartbeats 4000000 in
theorem clears_early (A : Option Addr) (n c : Nat) (at_ more : Int) (h : 30 < (n : Int) ∨ at_ < 0 ∨ 30 < at_ ∨ more < 0 ∨ 10 < more) (w : World) : Calls Try.prog 5 #[.slice A n c, .int .i64 at_, .int .i64 more] w fun e w' => e = .returned (.bool true) ∧ Below w.heap.size w w' := by
  by_cases h1 : 30 < (n : Int)
  · clear h
    go_enter Try.func5, Try.ntmps5
    go_wp2_with (first
      | (go_at_call 7; refine (runs_any _).mono ?_; rintro e W1 ⟨rfl, hb1⟩; have HB1 := Lib.hid hb1; clear hb1))
    go_ret
    exact ⟨rfl, HB1.out⟩
  · by_cases h2 : at_ < 0
    · clear h
      go_enter Try.func5, Try.ntmps5
      go_wp2_with (first
        | (go_at_call 7; refine (runs_any _).mono ?_; rintro e W1 ⟨rfl, hb1⟩; have HB1 := Lib.hid hb1; clear hb1))
      go_ret
      exact ⟨rfl, HB1.out⟩
    · by_cases h3 : 30 < at_
      · clear h
        go_enter Try.func5, Try.ntmps5
        go_wp2_with (first
          | (go_at_call 7; refine (runs_any _).mono ?_; rintro e W1 ⟨rfl, hb1⟩; have HB1 := Lib.hid hb1; clear hb1))
        go_ret
        exact ⟨rfl, HB1.out⟩
      · by_cases h4 : more < 0
        · clear h
          go_enter Try.func5, Try.ntmps5
          go_wp2_with (first
            | (go_at_call 7; refine (runs_any _).mono ?_; rintro e W1 ⟨rfl, hb1⟩; have HB1 := Lib.hid hb1; clear hb1))
          go_ret
          exact ⟨rfl, HB1.out⟩
        · have h5 : 10 < more := by omega
          clear h
          go_enter Try.func5, Try.ntmps5
          go_wp2_with (first
            | (go_at_call 7; refine (runs_any _).mono ?_; rintro e W1 ⟨rfl, hb1⟩; have HB1 := Lib.hid hb1; clear hb1))
          go_ret
          exact ⟨rfl, HB1.out⟩
set_option maxRecDepth 100000 in
set_option maxHeartbeats 4000000 in
theorem clears_high (A : Option Addr) (n c a : Nat) (more : Int) (L : List Int) (w : World) (hrd : RdN w (.slice A n c) L) (hL : L.length = n) (hn : n ≤ 30) (ha : a ≤ 30) (hm : 0 ≤ more ∧ more ≤ 10) : Calls Try.prog 5 #[.slice A n c, .int .i64 (a : Int), .int .i64 more] w fun e w' => e = .returned (.bool true) ∧ Below w.heap.size w w' := by
  have h1 : ¬ 30 < (n : Int) := by omega
  have h2 : ¬ (a : Int) < 0 := by omega
  have h3 : ¬ 30 < (a : Int) := by omega
  have h4 : ¬ more < 0 := by omega
  have h5 : ¬ 10 < more := by omega
  have HRDN := Lib.hid hrd
  have HLN := Lib.hid hL
  have HMO := Lib.hid hm
  have hzt := timer_zero
  clear hrd hL hm
  go_enter Try.func5, Try.ntmps5
  go_upto_region 7 with (first
    | (go_at_call 7; refine (runs_any _).mono ?_; rintro e W1 ⟨rfl, hb1⟩; have HB1 := Lib.hid hb1; clear hb1))
  obtain ⟨g, hg⟩ : ∃ g, W1.heap.size = g := ⟨_, rfl⟩
  obtain ⟨W2, hW2⟩ : ∃ W2, W1.alloc (.cells (intN 122 fun _ => 0) 28) = W2 := ⟨_, rfl⟩
  have ht2 := timer_new W1
  have hb2 : Below w.heap.size w W2 := by rw [← hW2]; exact HB1.out.alloc HB1.out.size _
  rw [hW2, hg] at ht2
  rw [hW2, hg]
  have HT2 := Lib.hid ht2
  have HB2 := Lib.hid hb2
  have HGW : Hid (w.heap.size ≤ g) := Lib.hid (by rw [← hg]; exact HB1.out.size)
  clear ht2 hb2 hW2 hg
  go_loopw [36] (fun s wr => ∃ (j : Nat) (l : List (List Int)), j ≤ n ∧ s = .int .i64 (j : Int) ∧ TimerAt wr g 0 l ∧ l.length = j ∧ OkL 0 l ∧ Below w.heap.size w wr) (fun s _ => n - (intOf s).toNat)
  case atStart => exact ⟨0, [], Nat.zero_le _, rfl, HT2.out, rfl, OkL.nil (by omega), HB2.out⟩
  case round =>
    obtain ⟨j, l, hj, rfl, ht, hlj, hok, hb⟩ := hrel
    have HT := Lib.hid ht
    have HLJ := Lib.hid hlj
    have HOK := Lib.hid hok
    have HB := Lib.hid hb
    clear ht hlj hok hb
    by_cases hlt : j < n
    · have hji : (j : Int) < (n : Int) := by omega
      have hj0 : (0 : Int) ≤ (j : Int) := by omega
      obtain ⟨x, hx⟩ : ∃ x, L[j]? = some x := ⟨_, List.getElem?_eq_getElem (by rw [HLN.out]; exact hlt)⟩
      obtain ⟨ad, c', he, hcell⟩ := HRDN.out.here hx
      rw [HLN.out] at he
      obtain ⟨rfl, -, rfl⟩ := Value.slice.inj he
      have cx := hcell wr HB.out
      clear hx he hcell
      by_cases hx0 : x < 0
      · go_wp2_with fail
        go_ret
        exact ⟨rfl, HB.out⟩
      · by_cases hx1 : 10 < x
        · go_wp2_with fail
          go_ret
          exact ⟨rfl, HB.out⟩
        · have HS := Lib.hid (set_any HT.out x (j : Int) (by rw [HLJ.out]; omega))
          go_wp2_with (first
            | (go_at_call 9; refine HS.out.mono ?_; rintro e W3 ⟨rfl, ht3, hg3⟩; have HT3 := Lib.hid ht3; have HB3 := Lib.hid (grown_base HB.out hg3 HGW.out); clear ht3 hg3))
          go_roundw
          case rel => exact ⟨j + 1, _, by omega, by go_num, HT3.out, by rw [List.length_append, HLJ.out]; rfl, HOK.out.more (by omega) _ _, HB3.out⟩
          case measure => simp [intOf]; omega
    · obtain rfl : j = n := by omega
      have hji : ¬ (j : Int) < (j : Int) := by omega
      obtain ⟨wz, hwz⟩ : ∃ z, z = wr := ⟨_, rfl⟩
      subst hwz
      go_upto_region 14 with fail
      go_loopw [52] (fun s wr => ∃ (i : Nat) (l : List (List Int)), i ≤ a ∧ s = .int .i64 (i : Int) ∧ TimerAt wr g (i : Int) l ∧ OkL (i : Int) l ∧ Below w.heap.size w wr) (fun s _ => a - (intOf s).toNat)
      case atStart => exact ⟨0, l, Nat.zero_le _, rfl, HT.out, HOK.out, HB.out⟩
      case round =>
        clear HT HOK HB HLJ
        obtain ⟨i, l, hi, rfl, ht, hok, hb⟩ := hrel
        have HT := Lib.hid ht
        have HOK := Lib.hid hok
        have HB := Lib.hid hb
        clear ht hok hb
        by_cases hlt : i < a
        · have hii : (i : Int) < (a : Int) := by omega
          have hok1 := HOK.out.step (by omega)
          have HOK1 := Lib.hid hok1
          have HOV := Lib.hid (over_any HT.out hok1 (by omega))
          clear hok1
          go_wp2_with (first
            | (go_at_call 13; refine HOV.out.mono ?_; rintro e W3 ⟨v, rfl, _, ht3, hg3⟩; have HT3 := Lib.hid ht3; have HB3 := Lib.hid (grown_base HB.out hg3 HGW.out); clear ht3 hg3))
          go_roundw
          case rel => exact ⟨i + 1, _, by omega, by go_num, by have := HT3.out; rw [show ((i + 1 : Nat) : Int) = (i : Int) + 1 by omega]; exact this, by rw [show ((i + 1 : Nat) : Int) = (i : Int) + 1 by omega]; exact HOK1.out.keep, HB3.out⟩
          case measure => simp [intOf]; omega
        · obtain rfl : i = a := by omega
          have hii : ¬ (i : Int) < (i : Int) := by omega
          have HC := Lib.hid (clear_any HT.out)
          go_upto_region 18 with (first
            | (go_at_call 14; refine HC.out.mono ?_; rintro e W3 ⟨⟨v3, rfl⟩, ht3, hg3⟩; have HT3 := Lib.hid ht3; have HB3 := Lib.hid (grown_base HB.out hg3 HGW.out); clear ht3 hg3))
          obtain ⟨a, rfl⟩ : ∃ a, a = i := ⟨_, rfl⟩
          have HLN3 := Lib.hid (len_any HT3.out)
          have HS3 := Lib.hid (set_any HT3.out more 77 (by simp))
          go_upto_region 21 with (first
            | (go_at_call 15; refine HLN3.out.mono ?_; rintro e W3b ⟨rfl, h3b⟩; obtain rfl := h3b.symm)
            | (go_at_call 9; refine HS3.out.mono ?_; rintro e W5 ⟨rfl, ht5, hg5⟩; have HT5 := Lib.hid ht5; have HB5 := Lib.hid (grown_base HB3.out hg5 HGW.out); clear ht5 hg5))
          clear HT HOK HB HT3 HB3 HLN3 HS3 HC
          have hl0 : leftC a more 0 = [[more, 77, (a : Int)]] := by unfold leftC; rw [if_pos (by have := (dly_low more).1; omega)]
          go_loopw [10] (fun s wr => ∃ p : Nat, p ≤ 30 ∧ s = .int .i64 ((p : Int) + 1) ∧ TimerAt wr g ((a : Int) + (p : Int)) (leftC a more p) ∧ Below w.heap.size w wr) (fun s _ => 31 - (intOf s).toNat)
          case atStart => exact ⟨0, by omega, by go_num, by rw [hl0]; simpa using HT5.out, HB5.out⟩
          case round =>
            clear HT5 HB5 hl0
            obtain ⟨p, hp, rfl, ht, hb⟩ := hrel
            have HT := Lib.hid ht
            have HB := Lib.hid hb
            clear ht hb
            by_cases hlt : p < 30
            · have HP30 := Lib.hid hlt
              have hpi : (p : Int) + 1 ≤ 30 := by omega
              have hokl : OkL ((a : Int) + (p : Int) + 1) (leftC a more p) := ⟨by omega, fun x hx => by
                unfold leftC at hx
                split at hx
                · rw [List.mem_singleton] at hx
                  subst hx
                  simp
                  omega
                · simp at hx⟩
              have hov := over_any HT.out hokl (by omega)
              obtain ⟨hfa, hke⟩ := clears_facts a p more
              rw [hke] at hov
              clear hokl hke
              rcases hfa with ⟨hD, hRe⟩ | ⟨hD, hRe⟩
              · rw [hRe] at hov
                have HOV := Lib.hid hov
                have HM : Hid (([[more, 77]] : List (List Int)).length = 1) := Lib.hid rfl
                have HDL := Lib.hid fun W => delay_any more W
                rw [← hD] at HDL
                clear hov hRe hD
                go_upto_region 24 with (first
                  | (go_at_call 13; refine HOV.out.mono ?_; rintro e W4 ⟨v, rfl, hrd, ht4, hg4⟩; obtain ⟨A4, c4, rfl⟩ : ∃ A4 c4, v = .slice A4 1 c4 := (by obtain ⟨_, A4, c4, h, _⟩ := hrd; exact ⟨A4, c4, (by rw [h, HM.out])⟩); have HRD := Lib.hid hrd; have HNEXT : Hid (∀ wx, Below W4.heap.size W4 wx → TimerAt wx g ((a : Int) + ((p + 1 : Nat) : Int)) (leftC a more (p + 1)) ∧ Below w.heap.size w wx) := Lib.hid (fun wx hb => ⟨(by have := ht4.below hb; rw [show (a : Int) + ((p + 1 : Nat) : Int) = (a : Int) + (p : Int) + 1 by omega]; exact this), (grown_base HB.out hg4 HGW.out).trans (hb.mono (grown_base HB.out hg4 HGW.out).size)⟩); clear hrd ht4 hg4))
                go_loopw [70] (fun s wx => ∃ q : Nat, q ≤ 1 ∧ s = .int .i64 (q : Int) ∧ Below W4.heap.size W4 wx) (fun s _ => 1 - (intOf s).toNat)
                case atStart => exact ⟨0, by omega, rfl, Below.refl _ _⟩
                case round =>
                  obtain ⟨q, hq, rfl, hbq⟩ := hrel
                  have HBQ := Lib.hid hbq
                  clear hbq
                  by_cases hlt : q < 1
                  · obtain rfl : q = 0 := by omega
                    obtain ⟨ad, c', he, hld⟩ := load_pair (j := 0) (r := more) (s := 77) HRD.out rfl
                    rw [HM.out] at he
                    obtain ⟨rfl, -, rfl⟩ := Value.slice.inj he
                    have HLD := Lib.hid (hld _ HBQ.out)
                    obtain ⟨wz, hwz⟩ : ∃ z, z = wr := ⟨_, rfl⟩
                    subst hwz
                    have hL5 : (Instr.loadAt 41 (.pointer (some ⟨wz.heap.size, 0, none⟩))).run Try.prog (wz.alloc (.cells #[.int .i64 more, .int .i64 77] 41)) = .ok (.agg #[.int .i64 more, .int .i64 77]) (wz.alloc (.cells #[.int .i64 more, .int .i64 77] 41)) := run_loadVar_row _ wz.heap.size 41 41 #[.int .i64 more, .int .i64 77] (0, 0) _ (Blk.new _ _ _) Try.underlying41 rfl pair_info
                    have HL5 := Lib.hid hL5
                    have hnq := neq_pair more 77
                    have hb5 : Below wz.heap.size wz (wz.alloc (.cells #[.int .i64 more, .int .i64 77] 41)) := (Below.refl _ _).alloc (Nat.le_refl _) _
                    have HB5 := Lib.hid (HBQ.out.trans (hb5.mono HBQ.out.size))
                    clear he hld hL5 hb5
                    go_wp2_with (first
                      | (guard_target = wpList _ _ _ (Oper.mk _ (.load 41 _) _ _ _ _ :: _) _ _; refine wpList_load_runT (by rfl) 41 _ rfl (.pointer (some (ad.add (0 * 2)))) (.agg #[.int .i64 more, .int .i64 77]) rfl (HLD.out) ?_)
                      | (guard_target = wpList _ _ _ (Oper.mk _ (.load 41 _) _ _ _ _ :: _) _ _; refine wpList_load_runT (by rfl) 41 _ rfl (.pointer (some ⟨wz.heap.size, 0, none⟩)) (.agg #[.int .i64 more, .int .i64 77]) rfl (HL5.out) ?_)
                      | (go_at_call 10; refine (HDL.out _).mono ?_; rintro e W8 ⟨rfl, h8⟩; obtain rfl := h8.symm))
                    go_roundw
                    case rel => exact ⟨1, by omega, by go_num, HB5.out⟩
                    case measure => simp [intOf]
                  · obtain rfl : q = 1 := by omega
                    go_wp2_with fail
                    go_roundw
                    case rel => exact ⟨p + 1, by have := HP30.out; omega, by go_num, HNEXT.out _ HBQ.out⟩
                    case measure => simp [intOf]; omega
              · rw [hRe] at hov
                have HOV := Lib.hid hov
                have HM : Hid (([] : List (List Int)).length = 0) := Lib.hid rfl
                clear hov hRe hD
                go_upto_region 24 with (first
                  | (go_at_call 13; refine HOV.out.mono ?_; rintro e W4 ⟨v, rfl, hrd, ht4, hg4⟩; obtain ⟨A4, c4, rfl⟩ : ∃ A4 c4, v = .slice A4 0 c4 := (by obtain ⟨_, A4, c4, h, _⟩ := hrd; exact ⟨A4, c4, (by rw [h, HM.out])⟩); have HRD := Lib.hid hrd; have HNEXT : Hid (∀ wx, Below W4.heap.size W4 wx → TimerAt wx g ((a : Int) + ((p + 1 : Nat) : Int)) (leftC a more (p + 1)) ∧ Below w.heap.size w wx) := Lib.hid (fun wx hb => ⟨(by have := ht4.below hb; rw [show (a : Int) + ((p + 1 : Nat) : Int) = (a : Int) + (p : Int) + 1 by omega]; exact this), (grown_base HB.out hg4 HGW.out).trans (hb.mono (grown_base HB.out hg4 HGW.out).size)⟩); clear hrd ht4 hg4))
                have hm0 : ∀ q : Nat, ¬ q < 0 := fun q h => by omega
                go_loopw [70] (fun s wx => s = .int .i64 0 ∧ Below W4.heap.size W4 wx) (fun _ _ => 0)
                case atStart => exact ⟨rfl, Below.refl _ _⟩
                case round =>
                  obtain ⟨rfl, hbq⟩ := hrel
                  have HBQ := Lib.hid hbq
                  clear hbq
                  go_wp2_with fail
                  go_roundw
                  case rel => exact ⟨p + 1, by have := HP30.out; omega, by go_num, HNEXT.out _ HBQ.out⟩
                  case measure => simp [intOf]; omega
            · obtain rfl : p = 30 := by omega
              have hl : leftC a more 30 = [] := by unfold leftC; rw [if_neg (by have := HMO.out; unfold dly; omega)]
              have ht30 := HT.out
              rw [hl, show (a : Int) + ((30 : Nat) : Int) = (a : Int) + 30 from rfl] at ht30
              have HLE := Lib.hid (len_any ht30)
              have HNO := Lib.hid (now_any ht30)
              clear ht30 hl
              go_wp2_with (first
                | (go_at_call 15; refine HLE.out.mono ?_; rintro e W9 ⟨rfl, h9⟩; obtain rfl := h9.symm)
                | (go_at_call 16; refine HNO.out.mono ?_; rintro e W9 ⟨rfl, h9⟩; obtain rfl := h9.symm))
              go_ret
              exact ⟨by simp, HB.out⟩
theorem clears_law (v : Value) (L : List Int) (at_ more : Int) (w : World) (hr : RdN w v L) : Calls Try.prog 5 #[v, .int .i64 at_, .int .i64 more] w fun e w' => e = .returned (.bool true) ∧ Below w.heap.size w w' := by
  obtain ⟨A, c, rfl, _, _⟩ := id hr
  by_cases h : 30 < (L.length : Int) ∨ at_ < 0 ∨ 30 < at_ ∨ more < 0 ∨ 10 < more
  · exact clears_early A L.length c at_ more h w
  · obtain ⟨a, rfl⟩ := Int.eq_ofNat_of_zero_le (show 0 ≤ at_ by omega)
    exact clears_high A L.length c a more L w hr rfl (by omega) (by omega) ⟨by omega, by omega⟩
end Go.Proofs.Ytgcpiaogodgphaa
