/-
  SlabPlays' walk: for whatever room and steps, in whatever memory: true; nothing old turns.
-/
import Derived.Test.YtnkaapghjgnliaaSlabPlay
import Derived.Deep.CutBlock
import Derived.Deep.CutRange
import Derived.Deep.RegionWith
namespace Go.Proofs.Ytnkaapghjgnliaa
open Go Go.RowKit Go.Shelf

set_option maxRecDepth 100000 in
set_option maxHeartbeats 8000000 in
theorem plays_in (R : Nat) (hR : R ≤ 5000) (A : Option Addr) (c n : Nat) (ops : List OpR) (w : World) (hn : n ≤ 100) (hl : ops.length = n) (hr : RdOps w (fun b => b < w.heap.size) A ops) :
    Calls Try.prog 3 #[.int .i64 (R : Int), .slice A n c] w fun e w' => e = .returned (.bool true) ∧ Below w.heap.size w w' := by
  have RK := Lib.hid hr
  have LK := Lib.hid hl
  clear hr hl
  have hn' : ¬ (100 : Int) < (n : Int) := by omega
  have d1 : decide ((5000 : Int) < (R : Int)) = false := decide_eq_false (by omega)
  go_enter Try.func3, Try.ntmps3
  go_wp2_with (first
    | (go_at_call 8; refine (keeps_any _).mono ?_; rintro e w1 ⟨rfl, hb1⟩; have B1 := Lib.hid hb1; clear hb1)
    | (go_at_call 9; refine (slabNew_any R (by omega) _).mono ?_; rintro e w2 ⟨rfl, h2, hb2⟩; have H2 := Lib.hid (And.intro h2 (And.intro (B1.out.trans (hb2.mono B1.out.size)) B1.out.size)); clear h2 hb2 B1)
    | (go_at_call 10; refine (refNew_ok (R : Int) (by omega) (by omega) _).mono ?_; rintro e w3 ⟨rfl, hb3⟩; have H3 : Hid (PlayRel w (w3.alloc (.cells #[.int .i64 (R : Int), .int .i64 0, .int .i64 (-1), .string ⟨#[]⟩] 29)) w1.heap.size w3.heap.size ⟨R, [], 0, -1⟩ ⟨R, [], 0, -1⟩) := Lib.hid (play_start H2.out.1 H2.out.2.1 H2.out.2.2 hb3); clear hb3 H2))
  go_loopw [52] (fun i wr => ∃ (k : Nat) (s : SlabS), k ≤ n ∧ i = .int .i64 (k : Int) ∧ PlayRel w wr w1.heap.size w3.heap.size s s) (fun i _ => n - (intOf i).toNat)
  case atStart => exact ⟨0, _, by omega, rfl, H3.out⟩
  case round =>
    clear H3
    obtain ⟨k, s, hk, rfl, hrel⟩ := hrel
    have HP := Lib.hid hrel
    by_cases hlt : k < n
    · obtain ⟨ad, o, Ad, cd, rfl, c0, c1, c2, c3, hrd, hlo, hhi⟩ := (RK.out.kept (W' := wr) fun a x ha h => (HP.out.old.cell (p := a) ha).trans h).at (k := k) (by rw [LK.out]; exact hlt)
      have hkn : (k : Int) < (n : Int) := by omega
      have HRD := Lib.hid hrd
      clear hrel hrd
      have HP0 := Lib.hid (HP.out.below ((Below.refl _ _).alloc (Nat.le_refl _) (.cells #[.int .i64 o.kind, .int .i64 o.n, .int .u8 (o.x.toNat : Int), .slice Ad o.data.length cd] 34)))
      have hop : Blk (wr.alloc (.cells #[.int .i64 o.kind, .int .i64 o.n, .int .u8 (o.x.toNat : Int), .slice Ad o.data.length cd] 34)) wr.heap.size 34 #[.int .i64 o.kind, .int .i64 o.n, .int .u8 (o.x.toNat : Int), .slice Ad o.data.length cd] := Blk.newAt _ _ rfl rfl
      have HSZ : Hid (wr.heap.size < (wr.alloc (.cells #[.int .i64 o.kind, .int .i64 o.n, .int .u8 (o.x.toNat : Int), .slice Ad o.data.length cd] 34)).heap.size ∧ w3.heap.size < wr.heap.size ∧ w3.heap.size < (wr.alloc (.cells #[.int .i64 o.kind, .int .i64 o.n, .int .u8 (o.x.toNat : Int), .slice Ad o.data.length cd] 34)).heap.size) := Lib.hid ⟨by simp, HP.out.lt.1, by have := HP.out.lt.1; simp; omega⟩
      go_upto_block 2 with fail
      obtain ⟨W0, hW0⟩ : ∃ W0, wr.alloc (.cells #[.int .i64 o.kind, .int .i64 o.n, .int .u8 (o.x.toNat : Int), .slice Ad o.data.length cd] 34) = W0 := ⟨_, rfl⟩
      rw [hW0] at HP0 hop HSZ ⊢
      clear hW0
      obtain ⟨e0, e1, e2, e3, _, _, _, _⟩ := cells4 hop
      obtain ⟨x0, x1, x2, x3, q0, q1, q2, q3⟩ := HP0.out.cells
      have hne := HSZ.out.2.1
      have HRD0 := Lib.hid (HRD.out.kept (W' := W0) fun a x ha h => by
        have hb := HP0.out.old
        exact (hb.cell (p := a) ha).trans ((HP.out.old.cell (p := a) ha).symm.trans h))
      have ecv := str_rd HRD0.out
      obtain ⟨dl, hdl⟩ : ∃ dl, o.data.length = dl := ⟨_, rfl⟩
      rw [hdl] at e3 ecv HRD0
      have HDL := Lib.hid hdl
      have hOk := Lib.hid HP0.out.ok
      clear hdl c0 c1 c2 c3 hop HRD
      go_cut [11, 12] from 53 to 164 (fun e c wx => PlayCut w wx w1.heap.size w3.heap.size e c)
      case first =>
        by_cases k0 : o.kind = 0
        · have b0 : (o.kind == 0) = true := by simpa using k0
          by_cases h500 : 500 < dl
          · have hd5 : (500 : Int) < (dl : Int) := by omega
            clear k0
            go_wp2
            go_roundw
            case rel => exact ⟨k + 1, s, by omega, by go_num, HP0.out⟩
            case measure => simp [intOf]; omega
          · have hd5 : ¬ (500 : Int) < (dl : Int) := by omega
            obtain ⟨s', kk, hs'⟩ : ∃ s' kk, s.app o.data = (s', kk) := ⟨_, _, rfl⟩
            have HS' := Lib.hid hs'
            have HA : Hid (∀ W, Calls Try.prog 11 #[.agg #[.int .i64 (s.room : Int), .int .i64 (s.sure : Int), .int .i64 (nrm s.pow), .string ⟨s.bs.toArray⟩], .string ⟨o.data.toArray⟩] W fun e w' => e = .returned (.tuple #[.agg #[.int .i64 (s'.room : Int), .int .i64 (s'.sure : Int), .int .i64 (nrm s'.pow), .string ⟨s'.bs.toArray⟩], .int .i64 kk]) ∧ Below W.heap.size W w') := Lib.hid fun W => by have := refAppend_any s hOk.out o.data (by rw [HDL.out]; omega) W; rw [HS'.out] at this; exact this
            clear hs' k0
            go_wp2_with (first
              | (go_at_call 11; refine (HA.out _).mono ?_; rintro e w4 ⟨rfl, hb4⟩; have P4 := HP0.out.below hb4; obtain ⟨x0, x1, x2, x3, q0, q1, q2, q3⟩ := P4.cells; have e1' := (hb4.cell (p := ⟨wr.heap.size, 1, none⟩) HSZ.out.1).trans e1; have e2' := (hb4.cell (p := ⟨wr.heap.size, 2, none⟩) HSZ.out.1).trans e2; have e3' := (hb4.cell (p := ⟨wr.heap.size, 3, none⟩) HSZ.out.1).trans e3; have hz4 := hb4.size; have hw4 := Nat.lt_of_lt_of_le HSZ.out.1 hz4; have hv4 := Nat.lt_of_lt_of_le HSZ.out.2.2 hz4; have HP4 := Lib.hid P4; clear hb4 P4 hz4)
              | (go_at_call 12; refine (play_append (HP4.out.var s') (HRD0.out.kept fun a x ha h => (PlayRel.old (HP4.out.var s')).cell (p := a) ha |>.trans ((HP0.out.old.cell (p := a) ha).symm.trans h)) (fun i hi => hi) HDL.out HS'.out).mono ?_; rintro e w5 ⟨rfl, h5⟩; have H5 := Lib.hid h5; clear h5))
            go_meet
            exact ⟨kk, s', rfl, rfl, H5.out⟩
        · have b0 : (o.kind == 0) = false := by simpa using k0
          by_cases k1 : o.kind = 1
          · have b1 : (o.kind == 1) = true := by simpa using k1
            obtain ⟨s', kk, hs'⟩ : ∃ s' kk, s.sync = (s', kk) := ⟨_, _, rfl⟩
            have HS' := Lib.hid hs'
            have HA : Hid (∀ W, Calls Try.prog 13 #[.agg #[.int .i64 (s.room : Int), .int .i64 (s.sure : Int), .int .i64 (nrm s.pow), .string ⟨s.bs.toArray⟩]] W fun e w' => e = .returned (.tuple #[.agg #[.int .i64 (s'.room : Int), .int .i64 (s'.sure : Int), .int .i64 (nrm s'.pow), .string ⟨s'.bs.toArray⟩], .int .i64 kk]) ∧ Below W.heap.size W w') := Lib.hid fun W => by have := refSync_any s hOk.out W; rw [HS'.out] at this; exact this
            clear hs' k0 k1
            go_wp2_with (first
              | (go_at_call 13; refine (HA.out _).mono ?_; rintro e w4 ⟨rfl, hb4⟩; have P4 := HP0.out.below hb4; obtain ⟨x0, x1, x2, x3, q0, q1, q2, q3⟩ := P4.cells; have e1' := (hb4.cell (p := ⟨wr.heap.size, 1, none⟩) HSZ.out.1).trans e1; have e2' := (hb4.cell (p := ⟨wr.heap.size, 2, none⟩) HSZ.out.1).trans e2; have e3' := (hb4.cell (p := ⟨wr.heap.size, 3, none⟩) HSZ.out.1).trans e3; have hz4 := hb4.size; have hw4 := Nat.lt_of_lt_of_le HSZ.out.1 hz4; have hv4 := Nat.lt_of_lt_of_le HSZ.out.2.2 hz4; have HP4 := Lib.hid P4; clear hb4 P4 hz4)
              | (go_at_call 14; refine (play_sync (HP4.out.var s') HS'.out).mono ?_; rintro e w5 ⟨rfl, h5⟩; have H5 := Lib.hid h5; clear h5))
            go_meet
            exact ⟨kk, s', rfl, rfl, H5.out⟩
          · have b1 : (o.kind == 1) = false := by simpa using k1
            by_cases k2 : o.kind = 2
            · have b2 : (o.kind == 2) = true := by simpa using k2
              obtain ⟨s', kk, hs'⟩ : ∃ s' kk, s.cut o.n = (s', kk) := ⟨_, _, rfl⟩
              have HS' := Lib.hid hs'
              have HA : Hid (∀ W, Calls Try.prog 15 #[.agg #[.int .i64 (s.room : Int), .int .i64 (s.sure : Int), .int .i64 (nrm s.pow), .string ⟨s.bs.toArray⟩], .int .i64 o.n] W fun e w' => e = .returned (.tuple #[.agg #[.int .i64 (s'.room : Int), .int .i64 (s'.sure : Int), .int .i64 (nrm s'.pow), .string ⟨s'.bs.toArray⟩], .int .i64 kk]) ∧ Below W.heap.size W w') := Lib.hid fun W => by have := refCut_any s hOk.out o.n W; rw [HS'.out] at this; exact this
              clear hs' k0 k1 k2
              go_wp2_with (first
                | (go_at_call 15; refine (HA.out _).mono ?_; rintro e w4 ⟨rfl, hb4⟩; have P4 := HP0.out.below hb4; obtain ⟨x0, x1, x2, x3, q0, q1, q2, q3⟩ := P4.cells; have e1' := (hb4.cell (p := ⟨wr.heap.size, 1, none⟩) HSZ.out.1).trans e1; have e2' := (hb4.cell (p := ⟨wr.heap.size, 2, none⟩) HSZ.out.1).trans e2; have e3' := (hb4.cell (p := ⟨wr.heap.size, 3, none⟩) HSZ.out.1).trans e3; have hz4 := hb4.size; have hw4 := Nat.lt_of_lt_of_le HSZ.out.1 hz4; have hv4 := Nat.lt_of_lt_of_le HSZ.out.2.2 hz4; have HP4 := Lib.hid P4; clear hb4 P4 hz4)
                | (go_at_call 16; refine (play_cut (HP4.out.var s') HS'.out).mono ?_; rintro e w5 ⟨rfl, h5⟩; have H5 := Lib.hid h5; clear h5))
              go_meet
              exact ⟨kk, s', rfl, rfl, H5.out⟩
            · have b2 : (o.kind == 2) = false := by simpa using k2
              by_cases k3 : o.kind = 3
              · have b3 : (o.kind == 3) = true := by simpa using k3
                obtain ⟨s', hs'⟩ : ∃ s', s.brk o.n = s' := ⟨_, rfl⟩
                have HS' := Lib.hid hs'
                have HA : Hid (∀ W, Calls Try.prog 17 #[.agg #[.int .i64 (s.room : Int), .int .i64 (s.sure : Int), .int .i64 (nrm s.pow), .string ⟨s.bs.toArray⟩], .int .i64 o.n] W fun e w' => e = .returned (.agg #[.int .i64 (s'.room : Int), .int .i64 (s'.sure : Int), .int .i64 (nrm s'.pow), .string ⟨s'.bs.toArray⟩]) ∧ Below W.heap.size W w') := Lib.hid fun W => by have := refBreak_any (s.room : Int) (s.sure : Int) (nrm s.pow) o.n s.bs W; rw [← HS'.out]; exact this
                clear hs' k0 k1 k2 k3
                go_wp2_with (first
                  | (go_at_call 17; refine (HA.out _).mono ?_; rintro e w4 ⟨rfl, hb4⟩; have P4 := HP0.out.below hb4; obtain ⟨x0, x1, x2, x3, q0, q1, q2, q3⟩ := P4.cells; have e1' := (hb4.cell (p := ⟨wr.heap.size, 1, none⟩) HSZ.out.1).trans e1; have e2' := (hb4.cell (p := ⟨wr.heap.size, 2, none⟩) HSZ.out.1).trans e2; have e3' := (hb4.cell (p := ⟨wr.heap.size, 3, none⟩) HSZ.out.1).trans e3; have hz4 := hb4.size; have hw4 := Nat.lt_of_lt_of_le HSZ.out.1 hz4; have hv4 := Nat.lt_of_lt_of_le HSZ.out.2.2 hz4; have HP4 := Lib.hid P4; clear hb4 P4 hz4)
                  | (go_at_call 18; refine (play_break (HP4.out.var s') hlo hhi HS'.out).mono ?_; rintro e w5 ⟨rfl, h5⟩; have H5 := Lib.hid h5; clear h5))
                go_meet
                exact ⟨0, s', rfl, rfl, H5.out⟩
              · have b3 : (o.kind == 3) = false := by simpa using k3
                by_cases k4 : o.kind = 4
                · have b4 : (o.kind == 4) = true := by simpa using k4
                  obtain ⟨s', hs'⟩ : ∃ s', s.crash o.n = s' := ⟨_, rfl⟩
                  have HS' := Lib.hid hs'
                  have HA : Hid (∀ W, Calls Try.prog 19 #[.agg #[.int .i64 (s.room : Int), .int .i64 (s.sure : Int), .int .i64 (nrm s.pow), .string ⟨s.bs.toArray⟩], .int .i64 o.n] W fun e w' => e = .returned (.agg #[.int .i64 (s'.room : Int), .int .i64 (s'.sure : Int), .int .i64 (nrm s'.pow), .string ⟨s'.bs.toArray⟩]) ∧ Below W.heap.size W w') := Lib.hid fun W => by have := refCrash_any s hOk.out o.n W; rw [HS'.out] at this; exact this
                  clear hs' k0 k1 k2 k3 k4
                  go_wp2_with (first
                    | (go_at_call 19; refine (HA.out _).mono ?_; rintro e w4 ⟨rfl, hb4⟩; have P4 := HP0.out.below hb4; obtain ⟨x0, x1, x2, x3, q0, q1, q2, q3⟩ := P4.cells; have e1' := (hb4.cell (p := ⟨wr.heap.size, 1, none⟩) HSZ.out.1).trans e1; have e2' := (hb4.cell (p := ⟨wr.heap.size, 2, none⟩) HSZ.out.1).trans e2; have e3' := (hb4.cell (p := ⟨wr.heap.size, 3, none⟩) HSZ.out.1).trans e3; have hz4 := hb4.size; have hw4 := Nat.lt_of_lt_of_le HSZ.out.1 hz4; have hv4 := Nat.lt_of_lt_of_le HSZ.out.2.2 hz4; have HP4 := Lib.hid P4; clear hb4 P4 hz4)
                    | (go_at_call 20; refine (play_crash (HP4.out.var s') HS'.out).mono ?_; rintro e w5 ⟨rfl, h5⟩; have H5 := Lib.hid h5; clear h5))
                  go_meet
                  exact ⟨0, s', rfl, rfl, H5.out⟩
                · have b4 : (o.kind == 4) = false := by simpa using k4
                  by_cases k5 : o.kind = 5
                  · have b5 : (o.kind == 5) = true := by simpa using k5
                    obtain ⟨s', kk, hs'⟩ : ∃ s' kk, s.spoil o.n o.x = (s', kk) := ⟨_, _, rfl⟩
                    have HS' := Lib.hid hs'
                    have HA : Hid (∀ W, Calls Try.prog 21 #[.agg #[.int .i64 (s.room : Int), .int .i64 (s.sure : Int), .int .i64 (nrm s.pow), .string ⟨s.bs.toArray⟩], .int .i64 o.n, .int .u8 (o.x.toNat : Int)] W fun e w' => e = .returned (.tuple #[.agg #[.int .i64 (s'.room : Int), .int .i64 (s'.sure : Int), .int .i64 (nrm s'.pow), .string ⟨s'.bs.toArray⟩], .int .i64 kk]) ∧ Below W.heap.size W w') := Lib.hid fun W => by have := refSpoil_any s hOk.out o.n o.x W; rw [HS'.out] at this; exact this
                    clear hs' k0 k1 k2 k3 k4 k5
                    go_wp2_with (first
                      | (go_at_call 21; refine (HA.out _).mono ?_; rintro e w4 ⟨rfl, hb4⟩; have P4 := HP0.out.below hb4; obtain ⟨x0, x1, x2, x3, q0, q1, q2, q3⟩ := P4.cells; have e1' := (hb4.cell (p := ⟨wr.heap.size, 1, none⟩) HSZ.out.1).trans e1; have e2' := (hb4.cell (p := ⟨wr.heap.size, 2, none⟩) HSZ.out.1).trans e2; have e3' := (hb4.cell (p := ⟨wr.heap.size, 3, none⟩) HSZ.out.1).trans e3; have hz4 := hb4.size; have hw4 := Nat.lt_of_lt_of_le HSZ.out.1 hz4; have hv4 := Nat.lt_of_lt_of_le HSZ.out.2.2 hz4; have HP4 := Lib.hid P4; clear hb4 P4 hz4)
                      | (go_at_call 22; refine (play_spoil (HP4.out.var s') HS'.out).mono ?_; rintro e w5 ⟨rfl, h5⟩; have H5 := Lib.hid h5; clear h5))
                    go_meet
                    exact ⟨kk, s', rfl, rfl, H5.out⟩
                  · have b5 : (o.kind == 5) = false := by simpa using k5
                    clear k0 k1 k2 k3 k4 k5
                    go_wp2
                    go_meet
                    exact ⟨0, s, rfl, rfl, HP0.out⟩
      case rest =>
        obtain ⟨kk, s', rfl, rfl, h5⟩ := hcut
        have H5 := Lib.hid h5
        clear h5
        go_upto_region 36 with (go_at_call 23; refine (play_size H5.out).mono ?_; rintro e w6 ⟨rfl, h6⟩; have H6 := Lib.hid h6; obtain ⟨y0, y1, y2, y3, _, _, _, _⟩ := h6.cells; clear h6)
        go_region_with ((go_at_call 24; refine (play_bytes (show PlayRel w w6.drew _ _ _ _ from H6.out.below ⟨rfl, rfl, rfl, Nat.le_refl _, fun _ _ => rfl⟩)).mono ?_; rintro e w7 ⟨A7, n7, c7, rfl, hcv, h7⟩; have H7 := Lib.hid h7; obtain ⟨z0, z1, z2, z3, _, _, _, _⟩ := h7.cells; clear h7))
        all_goals
          go_wp2
          go_roundw
          case rel => exact ⟨k + 1, s', by omega, by go_num, H7.out⟩
          case measure => simp [intOf]; omega
    · obtain rfl : k = n := by omega
      clear hrel
      go_wp2
      go_ret
      exact ⟨rfl, HP.out.old⟩
end Go.Proofs.Ytnkaapghjgnliaa
