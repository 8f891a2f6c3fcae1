/-
  RoundQuiet, walked. No condition.
-/
import Derived.Test.YtaedjnepnnlgcaaRndLaw
namespace Go.Proofs.Ytaedjnepnnlgcaa
open Go Go.RowKit Go.Maps

set_option maxRecDepth 100000 in
set_option maxHeartbeats 8000000 in
theorem quiet_bad (a b c : Int) (_ha : wfi c) (A : Option Addr) (mm cc : Nat) (L : List InS) (w : World) (hr : RdG w w.heap.size (.slice A mm cc) L) (hl : L.length = mm) (hc : ¬ CanR a b c) : Calls Try.prog 13 #[(.agg #[.int .i64 a, .int .i64 b, .int .i64 c]), .slice A mm cc] w fun e w' => e = .returned (.bool true) ∧ Below w.heap.size w w' := by
  obtain ⟨W0, hW⟩ : ∃ W0, w.alloc (.cells #[.int .i64 a, .int .i64 b, .int .i64 c] 53) = W0 := ⟨_, rfl⟩
  have hb0 : Below w.heap.size w W0 := by rw [← hW]; exact (Below.refl _ _).alloc (Nat.le_refl _) _
  have k0 : Blk W0 w.heap.size 53 #[.int .i64 a, .int .i64 b, .int .i64 c] := by rw [← hW]; exact Blk.new _ _ _
  have HB0 := Lib.hid hb0
  have HK0 := Lib.hid k0
  have HRW := Lib.hid hr
  have HL := Lib.hid hl
  have HNW := Lib.hid fun W => newR_bad a b c W hc
  clear hr hl hb0 k0 hc
  go_enter Try.func13, Try.ntmps13
  go_upto_region 3 with (go_at_call 32; refine (agrees_any _).mono ?_; rintro e W1 ⟨rfl, hb1⟩; have HB1 := Lib.hid (HB0.out.trans (hb1.mono HB0.out.size)); have HK1 := Lib.hid (HK0.out.below hb1 HK0.out.lt); clear hb1)
  have c0 : W1.cell? ⟨w.heap.size, 0, none⟩ = some (.int .i64 a) := by rw [HK1.out.cell]; rfl
  have c1 : W1.cell? ⟨w.heap.size, 1, none⟩ = some (.int .i64 b) := by rw [HK1.out.cell]; rfl
  have c2 : W1.cell? ⟨w.heap.size, 2, none⟩ = some (.int .i64 c) := by rw [HK1.out.cell]; rfl
  go_wp2_with (go_at_call 33; refine (HNW.out _).mono ?_; rintro e W2 ⟨rfl, hb2⟩; have HB2 := Lib.hid hb2; clear hb2)
  go_ret
  exact ⟨rfl, HB1.out.trans (HB2.out.mono HB1.out.size)⟩
set_option maxRecDepth 100000 in
set_option maxHeartbeats 8000000 in
theorem quiet_long (a b c : Int) (ha : wfi c) (A : Option Addr) (mm cc : Nat) (L : List InS) (w : World) (hr : RdG w w.heap.size (.slice A mm cc) L) (hl : L.length = mm) (hc : CanR a b c) (hm : 80 < mm) : Calls Try.prog 13 #[(.agg #[.int .i64 a, .int .i64 b, .int .i64 c]), .slice A mm cc] w fun e w' => e = .returned (.bool true) ∧ Below w.heap.size w w' := by
  obtain ⟨W0, hW⟩ : ∃ W0, w.alloc (.cells #[.int .i64 a, .int .i64 b, .int .i64 c] 53) = W0 := ⟨_, rfl⟩
  have hb0 : Below w.heap.size w W0 := by rw [← hW]; exact (Below.refl _ _).alloc (Nat.le_refl _) _
  have k0 : Blk W0 w.heap.size 53 #[.int .i64 a, .int .i64 b, .int .i64 c] := by rw [← hW]; exact Blk.new _ _ _
  have HB0 := Lib.hid hb0
  have HK0 := Lib.hid k0
  have HRW := Lib.hid hr
  have HL := Lib.hid hl
  have HCN := Lib.hid (And.intro hc ha)
  have hmi : (80 : Int) < (mm : Int) := by omega
  clear hr hl hb0 k0 hc hm
  go_enter Try.func13, Try.ntmps13
  go_upto_region 3 with (go_at_call 32; refine (agrees_any _).mono ?_; rintro e W1 ⟨rfl, hb1⟩; have HB1 := Lib.hid (HB0.out.trans (hb1.mono HB0.out.size)); have HK1 := Lib.hid (HK0.out.below hb1 HK0.out.lt); clear hb1)
  have c0 : W1.cell? ⟨w.heap.size, 0, none⟩ = some (.int .i64 a) := by rw [HK1.out.cell]; rfl
  have c1 : W1.cell? ⟨w.heap.size, 1, none⟩ = some (.int .i64 b) := by rw [HK1.out.cell]; rfl
  have c2 : W1.cell? ⟨w.heap.size, 2, none⟩ = some (.int .i64 c) := by rw [HK1.out.cell]; rfl
  go_wp2_with (go_at_call 33; refine (newR_law a b c _ HCN.out.1 HCN.out.2 w HB1.out).mono ?_; rintro e W2 ⟨B, C, M, rfl, hlw, hbm, h1, h2, h3, hbw⟩; have HLW := Lib.hid hlw; have HBM := Lib.hid hbm; clear hlw hbm h1 h2 h3 hbw)
  go_ret
  exact ⟨rfl, HLW.out.base⟩
set_option maxRecDepth 100000 in
set_option maxHeartbeats 8000000 in
theorem quiet_loop (a b c : Int) (ha : wfi c) (A : Option Addr) (mm cc : Nat) (L : List InS) (w : World) (hr : RdG w w.heap.size (.slice A mm cc) L) (hl : L.length = mm) (hc : CanR a b c) (hm : mm ≤ 80) : Calls Try.prog 13 #[(.agg #[.int .i64 a, .int .i64 b, .int .i64 c]), .slice A mm cc] w fun e w' => e = .returned (.bool true) ∧ Below w.heap.size w w' := by
  obtain ⟨W0, hW⟩ : ∃ W0, w.alloc (.cells #[.int .i64 a, .int .i64 b, .int .i64 c] 53) = W0 := ⟨_, rfl⟩
  have hb0 : Below w.heap.size w W0 := by rw [← hW]; exact (Below.refl _ _).alloc (Nat.le_refl _) _
  have k0 : Blk W0 w.heap.size 53 #[.int .i64 a, .int .i64 b, .int .i64 c] := by rw [← hW]; exact Blk.new _ _ _
  have HB0 := Lib.hid hb0
  have HK0 := Lib.hid k0
  have HRW := Lib.hid hr
  have HL := Lib.hid hl
  have HCN := Lib.hid (And.intro hc ha)
  have hmi : ¬ (80 : Int) < (mm : Int) := by omega
  have HM := Lib.hid hm
  clear hr hl hb0 k0 hc hm
  go_enter Try.func13, Try.ntmps13
  go_upto_region 3 with (go_at_call 32; refine (agrees_any _).mono ?_; rintro e W1 ⟨rfl, hb1⟩; have HB1 := Lib.hid (HB0.out.trans (hb1.mono HB0.out.size)); have HK1 := Lib.hid (HK0.out.below hb1 HK0.out.lt); clear hb1)
  have c0 : W1.cell? ⟨w.heap.size, 0, none⟩ = some (.int .i64 a) := by rw [HK1.out.cell]; rfl
  have c1 : W1.cell? ⟨w.heap.size, 1, none⟩ = some (.int .i64 b) := by rw [HK1.out.cell]; rfl
  have c2 : W1.cell? ⟨w.heap.size, 2, none⟩ = some (.int .i64 c) := by rw [HK1.out.cell]; rfl
  go_upto_region 7 with (go_at_call 33; refine (newR_law a b c _ HCN.out.1 HCN.out.2 w HB1.out).mono ?_; rintro e W2 ⟨B, C, M, rfl, hlw, hbm, h1, h2, h3, hbw⟩; have HLW := Lib.hid hlw; have HBM := Lib.hid hbm; clear hlw hbm h1 h2 h3 hbw)
  clear c0 c1 c2 hmi
  go_upto_region 8 with fail
  go_loopw [7, 42] (fun s7 s42 wr => ∃ (j : Nat) (s : RdS) (d : Bool), j ≤ mm ∧ s42 = .int .i64 (j : Int) ∧ s7 = .bool d ∧ LawR w B C M j s wr ∧ (d = true → s.step = 3 ∧ 0 ≤ s.round)) (fun _ s42 _ => mm - (intOf s42).toNat)
  case atStart => exact ⟨0, _, false, Nat.zero_le _, rfl, rfl, HLW.out, fun e => by cases e⟩
  case round =>
    obtain ⟨j, s, d, hj, rfl, rfl, hlw, hd⟩ := hrel
    have HLJ := Lib.hid hlw
    have HD := Lib.hid hd
    clear hlw hd
    by_cases hlt : j < mm
    · have hji : (j : Int) < (mm : Int) := by omega
      have hj0 : (0 : Int) ≤ (j : Int) := by omega
      have HJL : Hid (j < 80) := Lib.hid (by have := HM.out; omega)
      obtain ⟨i, hi⟩ : ∃ i, L[j]? = some i := ⟨_, List.getElem?_eq_getElem (by rw [HL.out]; exact hlt)⟩
      obtain ⟨ad, c', he, hok, _, hld⟩ := HRW.out.here hi
      rw [HL.out] at he
      obtain ⟨rfl, -, rfl⟩ := Value.slice.inj he
      have HOK := Lib.hid hok
      have HLD := Lib.hid hld
      have HBW := Lib.hid HLJ.out.base
      clear hi he hok hld
      go_upto_region 10 with (first
    | (guard_target = wpList _ _ _ (Oper.mk _ (.load 67 _) _ _ _ _ :: _) _ _; refine wpList_load_inn (by rfl) _ rfl (ad.add (j * 37)) i rfl (HLD.out _ HBW.out) ?_)
    | (guard_target = wpList _ _ _ (Oper.mk _ (.store 67 _ _) _ _ _ _ :: _) _ _; refine wpList_store_inn rfl _ _ rfl wr.heap.size i rfl rfl HOK.out 67 _ (Blk.newAt _ _ rfl rfl) rfl ?_; intro W9 hS9 hz9 hb9 hk9; have HS9 := Lib.hid hS9; have HB9 := Lib.hid (((Below.refl _ wr).alloc (Nat.le_refl _) _).trans hb9); clear hS9 hz9 hb9 hk9))
      have HL9 := Lib.hid (HLJ.out.top.below HB9.out)
      have ci : W9.cell? ⟨wr.heap.size, 0, none⟩ = some (.int .i64 i.kind) := by rw [HS9.out.cell]; rfl
      by_cases h6 : i.kind = 6
      · rw [h6] at ci
        clear h6
        go_wp2_with fail
        go_roundw
        case rel => exact ⟨j + 1, s, d, hlt, by go_num, rfl, HL9.out.law.le (by omega), HD.out⟩
        case measure => simp [intOf]; omega
      · have h6b : (i.kind == 6) = false := by rw [beq_eq_false_iff_ne]; exact h6
        have HK6 := Lib.hid h6
        have HQ := Lib.hid (give_quiet HL9.out.law.good HOK.out.id h6 HD.out)
        clear h6
        go_upto_region 12 with (go_at_call 40; refine (HL9.out.law.where_).mono ?_; rintro e Wn ⟨rfl, hbn⟩)
        have HSW := Lib.hid (HS9.out.below hbn HS9.out.lt)
        have HLG := Lib.hid (HL9.out.below hbn)
        clear hbn ci
        go_upto_region 13 with (first
    | (guard_target = wpList _ _ _ (Oper.mk _ (.load 67 _) _ _ _ _ :: _) _ _; refine wpList_load_inn (by rfl) _ rfl ⟨wr.heap.size, 0, none⟩ i rfl (load_inn HSW.out HOK.out) ?_)
    | (go_at_call 34; refine (HLG.out.give HBM.out (by have := HJL.out; omega) i HOK.out HK6.out).mono ?_; rintro e Wg ⟨vg, rfl, hog, hlg, hkp⟩))
        obtain ⟨wp, hwp⟩ : ∃ z, z = wr := ⟨_, rfl⟩
        subst hwp
        have HRD := Lib.hid hog.rd
        have HLH := Lib.hid hlg
        have cg : Wg.cell? ⟨wp.heap.size, 0, none⟩ = some (.int .i64 i.kind) := by
          have e := hkp wp.heap.size (Nat.le_refl _) HSW.out.lt
          have e2 := HSW.out
          unfold Blk at e2
          rw [← e] at e2
          have e3 : Blk Wg wp.heap.size 67 (innA i) := e2
          rw [e3.cell]
          rfl
        obtain ⟨lg, hlgq⟩ : ∃ lg, giveA s i = lg := ⟨_, rfl⟩
        have HLQ := Lib.hid hlgq
        rw [hlgq] at HRD
        obtain ⟨nl, hnl⟩ : ∃ nl, lg.length = nl := ⟨_, rfl⟩
        obtain ⟨Aq, cq, hvq⟩ : ∃ Aq cq, vg = .slice Aq nl cq := by
          obtain ⟨_, Aq, cq, h1, _⟩ := HRD.out
          exact ⟨Aq, cq, by rw [h1, hnl]⟩
        subst hvq
        have hnb : nl ≤ 1000000 := by rw [← hnl, ← hlgq]; exact hog.2.1
        have HNL := Lib.hid hnl
        clear hnl hog hlg hkp hlgq
        cases d with
        | true =>
          clear hnb
          have hn0 : nl = 0 := by rw [← HNL.out, ← HLQ.out, HQ.out.1 (.inl rfl)]; rfl
          subst hn0
          go_upto_region 15 with fail
          go_upto_region 16 with fail
          go_loopw [7, 74] (fun s7 s74 wx => ∃ k : Nat, k ≤ 0 ∧ s74 = .int .i64 (k : Int) ∧ s7 = .bool ((lg.take k).foldl doneB true) ∧ Below Wg.heap.size Wg wx) (fun _ s74 _ => 0 - (intOf s74).toNat)
          case atStart => exact ⟨0, Nat.zero_le _, rfl, rfl, Below.refl _ _⟩
          case round =>
            obtain ⟨k, hkn, rfl, rfl, hbx⟩ := hrel
            by_cases hkl : k < 0
            · exact absurd hkl (Nat.not_lt_zero _)
            · obtain rfl : k = 0 := by omega
              have hki : ¬ ((0 : Nat) : Int) < ((0 : Nat) : Int) := by omega
              have hfull : lg.take 0 = lg := List.take_of_length_le (by rw [HNL.out]; exact Nat.le_refl _)
              rw [hfull]
              have HLX := Lib.hid (HLH.out.below hbx)
              have HQ2 := HQ.out.2
              clear hfull hbx
              cases hdl : lg.foldl doneB true with
              | true =>
                have hst := HQ2 (by rw [HLQ.out]; exact hdl)
                have HST := Lib.hid hst
                have hs3 : (giveS s i).step = 3 := hst.1
                clear hst HQ2 hdl
                go_upto_region 21 with (go_at_call 40; refine (HLX.out.where_).mono ?_; rintro e Wy ⟨rfl, hbn⟩)
                rw [hs3] at *
                go_wp2_with fail
                go_roundw
                case rel => exact ⟨j + 1, giveS s i, true, hlt, by go_num, rfl, HLX.out.below hbn, fun _ => HST.out⟩
                case measure => simp [intOf]; omega
              | false =>
                clear HQ2 hdl
                go_upto_region 21 with (go_at_call 40; refine (HLX.out.where_).mono ?_; rintro e Wy ⟨rfl, hbn⟩)
                go_wp2_with fail
                go_roundw
                case rel => exact ⟨j + 1, giveS s i, false, hlt, by go_num, rfl, HLX.out.below hbn, fun e => by cases e⟩
                case measure => simp [intOf]; omega
        | false =>
          by_cases hn : s.round < 0
          · by_cases hk0 : i.kind = 0
            · rw [hk0] at cg
              have HK0' := Lib.hid hk0
              clear hk0
              go_upto_region 15 with fail
              go_upto_region 16 with fail
              go_loopw [7, 74] (fun s7 s74 wx => ∃ k : Nat, k ≤ nl ∧ s74 = .int .i64 (k : Int) ∧ s7 = .bool ((lg.take k).foldl doneB false) ∧ Below Wg.heap.size Wg wx) (fun _ s74 _ => nl - (intOf s74).toNat)
              case atStart => exact ⟨0, Nat.zero_le _, rfl, rfl, Below.refl _ _⟩
              case round =>
                obtain ⟨k, hkn, rfl, rfl, hbx⟩ := hrel
                by_cases hkl : k < nl
                · have hki : (k : Int) < (nl : Int) := by omega
                  have hk0 : (0 : Int) ≤ (k : Int) := by omega
                  obtain ⟨x, hxk⟩ : ∃ x, lg[k]? = some x := ⟨_, List.getElem?_eq_getElem (by rw [HNL.out]; exact hkl)⟩
                  obtain ⟨adx, cx, hex, hxo, _, hla⟩ := HRD.out.here hxk
                  rw [HNL.out] at hex
                  obtain ⟨rfl, -, rfl⟩ := Value.slice.inj hex
                  have HLA := Lib.hid hla
                  have HXO := Lib.hid hxo
                  have HXK := Lib.hid hxk
                  have HBX := Lib.hid hbx
                  clear hxk hex hxo hla hbx
                  go_upto_region 18 with (first
                    | (guard_target = wpList _ _ _ (Oper.mk _ (.load 71 _) _ _ _ _ :: _) _ _; refine wpList_load_runS (by rfl) 71 _ rfl _ _ rfl (HLA.out _ HBX.out) ?_)
                    | (guard_target = wpList _ _ _ (Oper.mk _ (.store 71 _ _) _ _ _ _ :: _) _ _; refine wpList_store_actL rfl _ _ rfl wr.heap.size x rfl rfl HXO.out 71 _ (Blk.newAt _ _ rfl rfl) rfl ?_; intro W8 hS8 hz8 hb8 hk8; have HB8 := Lib.hid (((Below.refl _ wr).alloc (Nat.le_refl _) _).trans hb8); clear hz8 hb8 hk8))
                  have ck : W8.cell? ⟨wr.heap.size, 0, none⟩ = some (.int .i64 x.kind) := by rw [hS8.cell]; rfl
                  clear hS8
                  cases hdk : (lg.take k).foldl doneB false with
                  | true =>
                    have HDK := Lib.hid hdk
                    clear hdk
                    go_wp2_with fail
                    go_roundw
                    case rel => exact ⟨k + 1, hkl, by go_num, by rw [take_fold doneB HXK.out, HDK.out]; rfl, HBX.out.trans (HB8.out.mono HBX.out.size)⟩
                    case measure => simp [intOf]; omega
                  | false =>
                    have HDK := Lib.hid hdk
                    clear hdk
                    by_cases hx4 : x.kind = 4
                    · rw [hx4] at ck
                      have HX4 := Lib.hid hx4
                      clear hx4
                      go_wp2_with fail
                      go_roundw
                      case rel => exact ⟨k + 1, hkl, by go_num, by rw [take_fold doneB HXK.out, HDK.out]; unfold doneB; rw [HX4.out]; rfl, HBX.out.trans (HB8.out.mono HBX.out.size)⟩
                      case measure => simp [intOf]; omega
                    · have hx4b : (x.kind == 4) = false := by rw [beq_eq_false_iff_ne]; exact hx4
                      have HX4 := Lib.hid hx4
                      clear hx4
                      go_wp2_with fail
                      go_roundw
                      case rel => exact ⟨k + 1, hkl, by go_num, by rw [take_fold doneB HXK.out, HDK.out]; unfold doneB; rw [decide_eq_false HX4.out]; rfl, HBX.out.trans (HB8.out.mono HBX.out.size)⟩
                      case measure => simp [intOf]; omega
                · obtain rfl : k = nl := by omega
                  have hki : ¬ (k : Int) < (k : Int) := by omega
                  have hfull : lg.take k = lg := List.take_of_length_le (by rw [HNL.out]; exact Nat.le_refl _)
                  rw [hfull]
                  have HLX := Lib.hid (HLH.out.below hbx)
                  have HQ2 := HQ.out.2
                  clear hfull hbx
                  cases hdl : lg.foldl doneB false with
                  | true =>
                    have hst := HQ2 (by rw [HLQ.out]; exact hdl)
                    have HST := Lib.hid hst
                    have hs3 : (giveS s i).step = 3 := hst.1
                    clear hst HQ2 hdl
                    go_upto_region 21 with (go_at_call 40; refine (HLX.out.where_).mono ?_; rintro e Wy ⟨rfl, hbn⟩)
                    rw [hs3] at *
                    go_wp2_with fail
                    go_roundw
                    case rel => exact ⟨j + 1, giveS s i, true, hlt, by go_num, rfl, HLX.out.below hbn, fun _ => HST.out⟩
                    case measure => simp [intOf]; omega
                  | false =>
                    clear HQ2 hdl
                    go_upto_region 21 with (go_at_call 40; refine (HLX.out.where_).mono ?_; rintro e Wy ⟨rfl, hbn⟩)
                    go_wp2_with fail
                    go_roundw
                    case rel => exact ⟨j + 1, giveS s i, false, hlt, by go_num, rfl, HLX.out.below hbn, fun e => by cases e⟩
                    case measure => simp [intOf]; omega
            · have hk0b : (i.kind == 0) = false := by rw [beq_eq_false_iff_ne]; exact hk0
              clear hnb
              have hn0 : nl = 0 := by rw [← HNL.out, ← HLQ.out, HQ.out.1 (.inr ⟨hn, hk0⟩)]; rfl
              subst hn0
              go_upto_region 15 with fail
              go_upto_region 16 with fail
              go_loopw [7, 74] (fun s7 s74 wx => ∃ k : Nat, k ≤ 0 ∧ s74 = .int .i64 (k : Int) ∧ s7 = .bool ((lg.take k).foldl doneB false) ∧ Below Wg.heap.size Wg wx) (fun _ s74 _ => 0 - (intOf s74).toNat)
              case atStart => exact ⟨0, Nat.zero_le _, rfl, rfl, Below.refl _ _⟩
              case round =>
                obtain ⟨k, hkn, rfl, rfl, hbx⟩ := hrel
                by_cases hkl : k < 0
                · exact absurd hkl (Nat.not_lt_zero _)
                · obtain rfl : k = 0 := by omega
                  have hki : ¬ ((0 : Nat) : Int) < ((0 : Nat) : Int) := by omega
                  have hfull : lg.take 0 = lg := List.take_of_length_le (by rw [HNL.out]; exact Nat.le_refl _)
                  rw [hfull]
                  have HLX := Lib.hid (HLH.out.below hbx)
                  have HQ2 := HQ.out.2
                  clear hfull hbx
                  cases hdl : lg.foldl doneB false with
                  | true =>
                    have hst := HQ2 (by rw [HLQ.out]; exact hdl)
                    have HST := Lib.hid hst
                    have hs3 : (giveS s i).step = 3 := hst.1
                    clear hst HQ2 hdl
                    go_upto_region 21 with (go_at_call 40; refine (HLX.out.where_).mono ?_; rintro e Wy ⟨rfl, hbn⟩)
                    rw [hs3] at *
                    go_wp2_with fail
                    go_roundw
                    case rel => exact ⟨j + 1, giveS s i, true, hlt, by go_num, rfl, HLX.out.below hbn, fun _ => HST.out⟩
                    case measure => simp [intOf]; omega
                  | false =>
                    clear HQ2 hdl
                    go_upto_region 21 with (go_at_call 40; refine (HLX.out.where_).mono ?_; rintro e Wy ⟨rfl, hbn⟩)
                    go_wp2_with fail
                    go_roundw
                    case rel => exact ⟨j + 1, giveS s i, false, hlt, by go_num, rfl, HLX.out.below hbn, fun e => by cases e⟩
                    case measure => simp [intOf]; omega
          · go_upto_region 15 with fail
            go_upto_region 16 with fail
            go_loopw [7, 74] (fun s7 s74 wx => ∃ k : Nat, k ≤ nl ∧ s74 = .int .i64 (k : Int) ∧ s7 = .bool ((lg.take k).foldl doneB false) ∧ Below Wg.heap.size Wg wx) (fun _ s74 _ => nl - (intOf s74).toNat)
            case atStart => exact ⟨0, Nat.zero_le _, rfl, rfl, Below.refl _ _⟩
            case round =>
              obtain ⟨k, hkn, rfl, rfl, hbx⟩ := hrel
              by_cases hkl : k < nl
              · have hki : (k : Int) < (nl : Int) := by omega
                have hk0 : (0 : Int) ≤ (k : Int) := by omega
                obtain ⟨x, hxk⟩ : ∃ x, lg[k]? = some x := ⟨_, List.getElem?_eq_getElem (by rw [HNL.out]; exact hkl)⟩
                obtain ⟨adx, cx, hex, hxo, _, hla⟩ := HRD.out.here hxk
                rw [HNL.out] at hex
                obtain ⟨rfl, -, rfl⟩ := Value.slice.inj hex
                have HLA := Lib.hid hla
                have HXO := Lib.hid hxo
                have HXK := Lib.hid hxk
                have HBX := Lib.hid hbx
                clear hxk hex hxo hla hbx
                go_upto_region 18 with (first
                  | (guard_target = wpList _ _ _ (Oper.mk _ (.load 71 _) _ _ _ _ :: _) _ _; refine wpList_load_runS (by rfl) 71 _ rfl _ _ rfl (HLA.out _ HBX.out) ?_)
                  | (guard_target = wpList _ _ _ (Oper.mk _ (.store 71 _ _) _ _ _ _ :: _) _ _; refine wpList_store_actL rfl _ _ rfl wr.heap.size x rfl rfl HXO.out 71 _ (Blk.newAt _ _ rfl rfl) rfl ?_; intro W8 hS8 hz8 hb8 hk8; have HB8 := Lib.hid (((Below.refl _ wr).alloc (Nat.le_refl _) _).trans hb8); clear hz8 hb8 hk8))
                have ck : W8.cell? ⟨wr.heap.size, 0, none⟩ = some (.int .i64 x.kind) := by rw [hS8.cell]; rfl
                clear hS8
                cases hdk : (lg.take k).foldl doneB false with
                | true =>
                  have HDK := Lib.hid hdk
                  clear hdk
                  go_wp2_with fail
                  go_roundw
                  case rel => exact ⟨k + 1, hkl, by go_num, by rw [take_fold doneB HXK.out, HDK.out]; rfl, HBX.out.trans (HB8.out.mono HBX.out.size)⟩
                  case measure => simp [intOf]; omega
                | false =>
                  have HDK := Lib.hid hdk
                  clear hdk
                  by_cases hx4 : x.kind = 4
                  · rw [hx4] at ck
                    have HX4 := Lib.hid hx4
                    clear hx4
                    go_wp2_with fail
                    go_roundw
                    case rel => exact ⟨k + 1, hkl, by go_num, by rw [take_fold doneB HXK.out, HDK.out]; unfold doneB; rw [HX4.out]; rfl, HBX.out.trans (HB8.out.mono HBX.out.size)⟩
                    case measure => simp [intOf]; omega
                  · have hx4b : (x.kind == 4) = false := by rw [beq_eq_false_iff_ne]; exact hx4
                    have HX4 := Lib.hid hx4
                    clear hx4
                    go_wp2_with fail
                    go_roundw
                    case rel => exact ⟨k + 1, hkl, by go_num, by rw [take_fold doneB HXK.out, HDK.out]; unfold doneB; rw [decide_eq_false HX4.out]; rfl, HBX.out.trans (HB8.out.mono HBX.out.size)⟩
                    case measure => simp [intOf]; omega
              · obtain rfl : k = nl := by omega
                have hki : ¬ (k : Int) < (k : Int) := by omega
                have hfull : lg.take k = lg := List.take_of_length_le (by rw [HNL.out]; exact Nat.le_refl _)
                rw [hfull]
                have HLX := Lib.hid (HLH.out.below hbx)
                have HQ2 := HQ.out.2
                clear hfull hbx
                cases hdl : lg.foldl doneB false with
                | true =>
                  have hst := HQ2 (by rw [HLQ.out]; exact hdl)
                  have HST := Lib.hid hst
                  have hs3 : (giveS s i).step = 3 := hst.1
                  clear hst HQ2 hdl
                  go_upto_region 21 with (go_at_call 40; refine (HLX.out.where_).mono ?_; rintro e Wy ⟨rfl, hbn⟩)
                  rw [hs3] at *
                  go_wp2_with fail
                  go_roundw
                  case rel => exact ⟨j + 1, giveS s i, true, hlt, by go_num, rfl, HLX.out.below hbn, fun _ => HST.out⟩
                  case measure => simp [intOf]; omega
                | false =>
                  clear HQ2 hdl
                  go_upto_region 21 with (go_at_call 40; refine (HLX.out.where_).mono ?_; rintro e Wy ⟨rfl, hbn⟩)
                  go_wp2_with fail
                  go_roundw
                  case rel => exact ⟨j + 1, giveS s i, false, hlt, by go_num, rfl, HLX.out.below hbn, fun e => by cases e⟩
                  case measure => simp [intOf]; omega
    · obtain rfl : j = mm := by omega
      have hji : ¬ (j : Int) < (j : Int) := by omega
      go_wp2_with fail
      go_ret
      exact ⟨rfl, HLJ.out.base⟩
theorem roundquiet_law (a b c : Int) (v : Value) (L : List InS) (w : World) (ha : wfi a ∧ wfi b ∧ wfi c) (hr : RdG w w.heap.size v L) : Calls Try.prog 13 #[(.agg #[.int .i64 a, .int .i64 b, .int .i64 c]), v] w fun e w' => e = .returned (.bool true) ∧ Below w.heap.size w w' := by
  obtain ⟨_, Aq, cq, rfl, _⟩ := id hr
  by_cases hc : CanR a b c
  · by_cases hm : L.length ≤ 80
    · exact quiet_loop a b c ha.2.2 _ _ _ L w hr rfl hc hm
    · exact quiet_long a b c ha.2.2 _ _ _ L w hr rfl hc (by omega)
  · exact quiet_bad a b c ha.2.2 _ _ _ L w hr rfl hc
end Go.Proofs.Ytaedjnepnnlgcaa
