/-
  JournalPlays' walk: for whatever room and steps, in whatever memory in which the tables lie: true; nothing old turns.
-/
import Derived.Test.YtgpbpdjamimbfaaDoorQPly
import Derived.Deep.CutBlock
import Derived.Deep.CutRange
import Derived.Deep.RegionWith
namespace Go.Proofs.YtgpbpdjamimbfaaDoor
open Go Go.RowKit Go.Shelf

theorem neq_text {b : List UInt8} {x : ByteArray} (h : (⟨b.toArray⟩ : ByteArray) = x) : ∀ w', (binOp .neq 9 (.string x) (.string x)).run Tryd.prog w' = .ok (.bool false) w' := fun w' => by
  subst h
  have := neq_str b b w'
  rw [beq_self_eq_true] at this
  exact this
theorem JPQ.few {w W : World} {g gd gm q : Nat} {v : Value} {s : JrnS} {sd : SlabS} {r : JrnS} {rd : SlabS} {ca : Array Value} (h : JPQ w g gd gm v s sd r rd q ca W) (hk : KeepJ s sd) : s.recs.length < 900000 := by
  have := h.ok.fits
  have := hk.1
  have := hk.2
  omega
theorem open0 (R : Nat) : openJ ⟨R, [], 0, -1⟩ = (some ⟨[], zeroD, false⟩, ⟨R, [], 0, -1⟩, 0) := openJ_all R [] 0 (-1) (by simp)
set_option maxRecDepth 100000 in
set_option maxHeartbeats 60000000 in
theorem plays_in (R : Nat) (hR : R ≤ 3000) (A : Option Addr) (c n : Nat) (ops : List OpR) (w : World) (hT : Tables w) (hn : n ≤ 40) (hl : ops.length = n) (hr : RdOps w (fun b => b < w.heap.size) A ops) :
    Calls Tryd.prog 3 #[.int .i64 (R : Int), .slice A n c] w fun e w' => e = .returned (.bool true) ∧ Below w.heap.size w w' := by
  have HT := Lib.hid hT
  have HWR := Lib.hid (writes_any w hT)
  have RK := Lib.hid hr
  have LK := Lib.hid hl
  clear hr hl hT
  have hn' : ¬ (40 : Int) < (n : Int) := by omega
  have hn2 : decide ((n : Int) > 40) = false := decide_eq_false (by omega)
  have d1 : decide ((3000 : Int) < (R : Int)) = false := decide_eq_false (by omega)
  have d2 : decide ((R : Int) > 3000) = false := decide_eq_false (by omega)
  have d3 : decide ((R : Int) < 0) = false := decide_eq_false (by omega)
  go_enter Tryd.func3, Tryd.ntmps3
  go_upto_region 9 with (first
    | (go_at_call 10; refine HWR.out.mono ?_; rintro e w1 ⟨rfl, hb1⟩; have B1 := Lib.hid hb1; clear hb1)
    | (go_at_call 11; refine (slabNew_any R (by omega) _).mono ?_; rintro e w2 ⟨rfl, h2, hb2⟩; have H2 := Lib.hid (And.intro h2 (And.intro (B1.out.trans (hb2.mono B1.out.size)) B1.out.size)); clear h2 hb2)
    | (go_at_call 12; refine (refNew_ok (R : Int) (by omega) (by omega) _).mono ?_; rintro e w3 ⟨rfl, hb3⟩; have HB3 := Lib.hid hb3; clear hb3))
  generalize hV3 : World.alloc w3 _ = V3
  obtain ⟨gd, hgd⟩ : ∃ z, w1.heap.size = z := ⟨_, rfl⟩
  have hb33 : Below w3.heap.size w3 V3 := by rw [← hV3]; exact (Below.refl _ _).alloc (Nat.le_refl _) _
  have hb3 : Below w2.heap.size w2 V3 := HB3.out.trans (hb33.mono HB3.out.size)
  have hs3 : SlabAt V3 (fun i => i = gd) gd ⟨R, [], 0, -1⟩ := by have := H2.out.1.below hb3; rw [hgd] at this; exact this
  have hk3 : Blk V3 w3.heap.size 29 #[.int .i64 (R : Int), .int .i64 0, .int .i64 (-1), .string ⟨#[]⟩] := by rw [← hV3]; exact Blk.newAt _ _ rfl rfl
  have hgd2 : gd < w3.heap.size ∧ w.heap.size ≤ gd := by
    have h1 : w1.heap.size < w2.heap.size := by obtain ⟨_, hb, _⟩ := H2.out.1; exact hb.lt
    have := HB3.out.size
    have := H2.out.2.2
    omega
  have HV3 := Lib.hid (And.intro hs3 (And.intro hk3 (And.intro (H2.out.2.1.trans (hb3.mono H2.out.2.1.size)) hgd2)))
  obtain ⟨gv, hgv⟩ : ∃ z, w3.heap.size = z := ⟨_, rfl⟩
  rw [hgd, hgv]
  rw [hgv] at HV3
  clear hV3 hb33 hb3 hs3 hk3 hgd2 hgd hgv H2 HB3 B1
  have HOP := Lib.hid (js_open (HT.out.below HV3.out.2.2.1) HV3.out.1 (open0 R))
  go_upto_region 10 with (go_at_call 13; refine HOP.out.mono ?_; rintro e w4 ⟨g0, T0, rfl, hj4, ht4, hT4⟩)
  have hk4 := ht4.blk HV3.out.2.1 (fun h => by have := HV3.out.2.2.2.1; omega)
  have hb4 : Below w.heap.size w w4 := below_turn HV3.out.2.2.1 (Nat.le_refl _) ht4 (fun i hi => by rw [hi]; exact HV3.out.2.2.2.2)
  have hTT : ∀ i, T0 i → w.heap.size ≤ i := fun i hi => by
    have := HV3.out.2.2.1.size
    have := HV3.out.2.2.2.2
    rcases hT4 i hi with h | h <;> omega
  have HK4 := Lib.hid (And.intro hk4 (And.intro hj4 (And.intro hTT hb4)))
  have HRO : Hid (∀ W, Calls Tryd.prog 14 #[.agg #[.int .i64 (R : Int), .int .i64 0, .int .i64 (-1), .string ⟨#[]⟩]] W fun e w' => ∃ v, e = .returned (.tuple #[.agg (arr 38 (rjF ⟨R, [], 0, -1⟩ v zeroD false)), .int .i64 0]) ∧ Below W.heap.size W w' ∧ w'.ownsRow W.heap.size 9 1 v 0 (strC []).flatten) := Lib.hid fun W => by
    refine (refOpen_any ⟨R, [], 0, -1⟩ ⟨Nat.zero_le _, show R ≤ 4194304 by omega, Nat.zero_le _, show (-9223372036854775808 : Int) ≤ -1 by omega, show (-1 : Int) ≤ 9223372036854775807 by omega⟩ W).mono ?_
    rintro e w' ⟨hb, v, hv⟩
    rw [open0] at hv
    obtain ⟨hz, _, ho⟩ := hv
    exact ⟨v, hz, hb, ho⟩
  clear hk4 hj4 hTT hb4 ht4 hT4
  go_upto_region 11 with (first
    | (guard_target = wpList _ _ _ (Oper.mk _ (.load 29 _) _ _ _ _ :: _) _ _; refine wpList_load_row rfl 29 _ rfl gv rfl 29 _ (0, 0) _ HK4.out.1 Tryd.underlying29 rfl (by kernel_rfl) ?_)
    | (go_at_call 14; refine (HRO.out _).mono ?_; rintro e w5 ⟨v0, rfl, hb5, ho5⟩; have HP0 := Lib.hid (jp_start HK4.out.2.1 HK4.out.2.2.1 HK4.out.2.2.2 hb5 ho5); have V0 := Lib.hid (show v0.oneCell' = true by rcases ownsRow_forms' ho5 with ⟨rfl, _⟩ | ⟨_, _, rfl⟩ <;> rfl); clear hb5 ho5)
    | (guard_target = wpList _ _ _ (Oper.mk _ (.store 39 _ _) _ _ _ _ :: _) _ _; refine wpList_store_row rfl 39 _ _ rfl w5.heap.size (arr 38 (rjF ⟨R, [], 0, -1⟩ v0 zeroD false)) rfl rfl 39 _ (heap_alloc_new w5 _) (by rw [arr_size]; kernel_rfl) (by rw [arr_size]; rfl) (rj_all V0.out) ?_; rw [World.setRow_alloc_new]))
  generalize hV6 : World.alloc w5 _ = V6
  obtain ⟨gm, hgm⟩ : ∃ z, w5.heap.size = z := ⟨_, rfl⟩
  rw [hV6, hgm] at HP0
  rw [hgm]
  clear hV6 hgm HOP HRO HK4 HV3 V0
  go_wp2_with fail
  go_loopw [9, 63] (fun j i wr => ∃ (k : Nat) (T : Nat → Prop) (g : Nat) (v : Value) (s : JrnS) (sd : SlabS), k ≤ n ∧ j = .pointer (some ⟨g, 0, none⟩) ∧ i = .int .i64 (k : Int) ∧ JPC w T g gd gm v s sd s sd wr ∧ KeepJ s sd) (fun _ i _ => n - (intOf i).toNat)
  case atStart => exact ⟨0, T0, g0, v0, _, _, by omega, rfl, rfl, HP0.out, ⟨hR, Nat.le_refl _⟩⟩
  case round =>
    clear HP0
    obtain ⟨k, T, g, v, s, sd, hk, rfl, rfl, hrel, hkp⟩ := hrel
    have HP := Lib.hid hrel
    have HKP := Lib.hid hkp
    obtain ⟨wp, hwp⟩ : ∃ z, z = wr := ⟨_, rfl⟩
    subst hwp
    by_cases hlt : k < n
    · obtain ⟨ad, o, Ad, cd, rfl, c0, c1, c2, c3, hrd, hlo, hhi⟩ := (RK.out.kept (W' := wp) fun a x ha h => (HP.out.old.cell (p := a) ha).trans h).at (k := k) (by rw [LK.out]; exact hlt)
      have hkn : (k : Int) < (n : Int) := by omega
      have HRDW := Lib.hid hrd
      obtain ⟨W0, hW0⟩ : ∃ W0, wp.alloc (.cells #[.int .i64 o.kind, .int .i64 o.n, .int .u8 (o.x.toNat : Int), .slice Ad o.data.length cd] 44) = W0 := ⟨_, rfl⟩
      have HP0 : Hid (JPQ w g gd gm v s sd s sd wp.heap.size #[.int .i64 o.kind, .int .i64 o.n, .int .u8 (o.x.toNat : Int), .slice Ad o.data.length cd] W0) := Lib.hid (by
        rw [← hW0]
        exact ⟨T, HP.out.below ((Below.refl _ _).alloc (Nat.le_refl _) _), Blk.newAt _ _ rfl rfl, fun h => by have := HP.out.1.lt _ h; omega, by have := HP.out.2.2.2.2.1.lt; omega⟩)
      have HQ : Hid (wp.heap.size < W0.heap.size) := Lib.hid (by rw [← hW0]; simp)
      have HW0 := Lib.hid hW0
      clear hrel hkp hrd hW0
      go_upto_block 2 with fail
      rw [HW0.out]
      obtain ⟨e0, e1, e2, e3⟩ := HP0.out.step
      have HRD : Hid (∀ W, Below w.heap.size w W → RdB W (fun i => i < w.heap.size) (.slice Ad o.data.length cd) o.data) := Lib.hid fun W hb => HRDW.out.kept fun a x ha h => (hb.cell (p := a) ha).trans ((HP.out.old.cell (p := a) ha).symm.trans h)
      have ecv := str_rd (HRD.out W0 HP0.out.old)
      obtain ⟨dl, hdl⟩ : ∃ dl, o.data.length = dl := ⟨_, rfl⟩
      rw [hdl] at e3 ecv HRD HP0
      have HDL := Lib.hid hdl
      clear hdl c0 c1 c2 c3 HRDW
      go_cut [9, 15, 16] from 64 to 215 (fun j e c wx => PlayK w wx gd gm j e c)
      case first =>
        by_cases k0 : o.kind = 0
        · have b0 : (o.kind == 0) = true := by simpa using k0
          by_cases h300 : 300 < dl
          · have hd5 : (300 : Int) < (dl : Int) := by omega
            have hd6 : decide ((dl : Int) > 300) = true := decide_eq_true (by omega)
            clear k0
            go_wp2
            go_roundw
            case rel =>
              obtain ⟨T2, h2⟩ := HP0.out.out
              exact ⟨k + 1, T2, g, v, s, sd, by omega, rfl, by go_num, h2, HKP.out⟩
            case measure => simp [intOf]; omega
          · have hd5 : ¬ (300 : Int) < (dl : Int) := by omega
            have hd6 : decide ((dl : Int) > 300) = false := decide_eq_false (by omega)
            as_aux_lemma =>
              obtain ⟨s', sd', kk, hwj⟩ : ∃ s' sd' kk, writeJ s sd o.data = (s', sd', kk) := ⟨_, _, _, rfl⟩
              have HWJ := Lib.hid hwj
              have HKP' : Hid (KeepJ s' sd') := Lib.hid (by have := write_keep o.data HKP.out; rw [HWJ.out] at this; exact this)
              obtain ⟨jz, hjz⟩ : ∃ jz, arr 38 (rjF sd v s.last s.down) = jz := ⟨_, rfl⟩
              have HJB : Hid (Blk W0 gm 39 jz) := Lib.hid (by rw [← hjz]; exact HP0.out.blk)
              have hj38 : jz.size = 38 := by rw [← hjz, arr_size]
              have HJ38 := Lib.hid hj38
              have HN9 := Lib.hid HP0.out.few
              have HRW : Hid (Calls Tryd.prog 15 #[.agg jz, .string ⟨o.data.toArray⟩] W0 fun e w' => ∃ v', e = .returned (.tuple #[.agg (arr 38 (rjF sd' v' s'.last s'.down)), .int .i64 kk]) ∧ Below W0.heap.size W0 w' ∧ w'.ownsRow w.heap.size 9 1 v' s'.recs.length (strC s'.recs).flatten ∧ (v' = v ∨ ∀ i, v'.ownBlock = some i → W0.heap.size ≤ i)) := Lib.hid (by
                have := refWrite_any s sd HP0.out.ok v o.data (by rw [HDL.out]; omega) (HN9.out HKP.out) w.heap.size W0 HP0.out.row.2 HP0.out.row.1
                rw [HWJ.out, hjz] at this
                exact this)
              clear hwj hjz hj38 k0
              go_upto_region 21 with (first
                | (guard_target = wpList _ _ _ (Oper.mk _ (.load 39 _) _ _ _ _ :: _) _ _; refine wpList_load_row rfl 39 _ rfl gm rfl 39 jz (0, 0) _ HJB.out Tryd.underlying39 rfl (by rw [HJ38.out]; kernel_rfl) ?_)
                | (go_at_call 15; refine HRW.out.mono ?_; rintro e w4 ⟨v', rfl, hb4, ho4, hv4⟩; have P4 := Lib.hid (HP0.out.ref (r' := s') (rd' := sd') hb4 ho4 hv4); have K4 := Lib.hid (HJB.out.below hb4 HJB.out.lt); have V4 := Lib.hid (show v'.oneCell' = true by rcases ownsRow_forms' ho4 with ⟨rfl, _⟩ | ⟨_, _, rfl⟩ <;> rfl); have F4 := (hb4.cell (p := ⟨wp.heap.size, 3, none⟩) HQ.out).trans e3; clear hb4 ho4 hv4)
                | (guard_target = wpList _ _ _ (Oper.mk _ (.store 39 _ _) _ _ _ _ :: _) _ _; refine wpList_store_row rfl 39 _ _ rfl gm (arr 38 (rjF sd' v' s'.last s'.down)) rfl rfl 39 _ K4.out (by rw [arr_size]; kernel_rfl) (by rw [arr_size, HJ38.out]) (rj_all V4.out) ?_))
              generalize hW5 : World.setRow _ gm _ = W5
              have HP5 : Hid (JPQ w g gd gm v' s sd s' sd' wp.heap.size #[.int .i64 o.kind, .int .i64 o.n, .int .u8 (o.x.toNat : Int), .slice Ad dl cd] W5) := Lib.hid (by rw [← hW5]; exact P4.out)
              clear hW5 F4 e0 e1 e2 e3
              obtain ⟨f0, f1, f2, f3⟩ := HP5.out.step
              have HWC := Lib.hid (jpq_write HP5.out HT.out (by have := HN9.out HKP.out; omega) (HRD.out _ HP5.out.old) HWJ.out)
              go_wp2_with (go_at_call 16; refine HWC.out.mono ?_; rintro e w6 ⟨rfl, h6⟩; have H6 := Lib.hid h6; clear h6)
              go_meet
              obtain ⟨T6, h6⟩ := H6.out.out
              exact ⟨kk, T6, g, v', s', sd', rfl, rfl, rfl, h6, HKP'.out⟩
        · have b0 : (o.kind == 0) = false := by simpa using k0
          by_cases k1 : o.kind = 1
          · have b1 : (o.kind == 1) = true := by simpa using k1
            as_aux_lemma =>
              obtain ⟨sd1, hsd1⟩ : ∃ z, sd.brk o.n = z := ⟨_, rfl⟩
              obtain ⟨sv, hsv⟩ : ∃ z, slabA sd = z := ⟨_, rfl⟩
              obtain ⟨sv1, hsv1⟩ : ∃ z, slabA sd1 = z := ⟨_, rfl⟩
              have HSV1 := Lib.hid hsv1
              have HSD1 := Lib.hid hsd1
              have HSV := Lib.hid hsv
              have HC1 := Lib.hid (jpq_break HP0.out hlo hhi)
              rw [hsd1] at HC1
              clear hsd1 hsv1 hsv
              go_upto_region 24 with (go_at_call 17; refine HC1.out.mono ?_; rintro e w5 ⟨rfl, h5⟩; have H5 := Lib.hid h5; clear h5)
              clear e0 e1 e2 e3
              obtain ⟨f0, f1, f2, f3⟩ := H5.out.step
              have hls := load_slabR H5.out.blk
              rw [HSV.out] at hls
              have HLS := Lib.hid hls
              clear hls
              have HA : Hid (∀ W, Calls Tryd.prog 18 #[.agg sv, .int .i64 o.n] W fun e w' => e = .returned (.agg sv1) ∧ Below W.heap.size W w') := Lib.hid fun W => by
                have := refBreak_any (sd.room : Int) (sd.sure : Int) (nrm sd.pow) o.n sd.bs W
                rw [← HSV1.out, ← HSD1.out, ← HSV.out]
                exact this
              clear k0 k1
              go_wp2_with (first
                | (guard_target = wpList _ _ _ (Oper.mk _ (.load 29 _) _ _ _ _ :: _) _ _; refine wpList_load_runT (by rfl) 29 _ rfl (.pointer (some ⟨gm, 0, none⟩)) (.agg sv) rfl HLS.out ?_)
                | (go_at_call 18; refine (HA.out _).mono ?_; rintro e w6 ⟨rfl, hb6⟩; have H6 := Lib.hid (H5.out.below hb6); have G6 := (H5.out.below hb6).step; clear hb6)
                | (guard_target = wpList _ _ _ (Oper.mk _ (.store 29 _ _) _ _ _ _ :: _) _ _; refine wpList_store_partJ rfl 29 _ _ rfl gm 0 4 38 (rjF sd v s.last s.down) (rjF sd1 v s.last s.down) rfl (show _ = Value.agg (arr 4 (rjF sd1 v s.last s.down)) by rw [← slabA_arr, HSV1.out]; rfl) 39 H6.out.blk (by kernel_rfl) (by omega) (fun j hj => rj_one4 hj) ?_; intro w7 hw7; rw [rj_put] at hw7; have H7 : Hid (JPQ w g gd gm v s sd1 s sd1 wp.heap.size #[.int .i64 o.kind, .int .i64 o.n, .int .u8 (o.x.toNat : Int), .slice Ad dl cd] w7) := Lib.hid (by rw [hw7]; exact H6.out.part sd1); clear hw7))
              go_meet
              obtain ⟨T7, h7⟩ := H7.out.out
              exact ⟨0, T7, g, v, s, sd1, rfl, rfl, rfl, h7, by rw [← HSD1.out]; exact HKP.out⟩
          · have b1 : (o.kind == 1) = false := by simpa using k1
            by_cases k2 : o.kind = 2
            · have b2 : (o.kind == 2) = true := by simpa using k2
              clear k0 k1 k2
              as_aux_lemma =>
                obtain ⟨sd1, hsd1⟩ : ∃ z, sd.crash o.n = z := ⟨_, rfl⟩
                obtain ⟨sv, hsv⟩ : ∃ z, slabA sd = z := ⟨_, rfl⟩
                obtain ⟨sv1, hsv1⟩ : ∃ z, slabA sd1 = z := ⟨_, rfl⟩
                have HSV1 := Lib.hid hsv1
                have HSD1 := Lib.hid hsd1
                have HSV := Lib.hid hsv
                have HC1 := Lib.hid (jpq_crash (n := o.n) HP0.out)
                rw [hsd1] at HC1
                clear hsd1 hsv1 hsv
                go_upto_region 29 with (go_at_call 19; refine HC1.out.mono ?_; rintro e w5 ⟨rfl, h5⟩; have H5 := Lib.hid h5; clear h5)
                clear e0 e1 e2 e3
                obtain ⟨f0, f1, f2, f3⟩ := H5.out.step
                have hls := load_slabR H5.out.blk
                rw [HSV.out] at hls
                have HLS := Lib.hid hls
                clear hls
                have HA : Hid (∀ W, Calls Tryd.prog 20 #[.agg sv, .int .i64 o.n] W fun e w' => e = .returned (.agg sv1) ∧ Below W.heap.size W w') := Lib.hid fun W => by
                  have := refCrash_any sd HP0.out.ok o.n W
                  rw [HSD1.out, show sd1.v = .agg (slabA sd1) from rfl, show sd.v = .agg (slabA sd) from rfl, HSV1.out, HSV.out] at this
                  exact this
                go_upto_region 32 with (first
                  | (guard_target = wpList _ _ _ (Oper.mk _ (.load 29 _) _ _ _ _ :: _) _ _; refine wpList_load_runT (by rfl) 29 _ rfl (.pointer (some ⟨gm, 0, none⟩)) (.agg sv) rfl HLS.out ?_)
                  | (go_at_call 20; refine (HA.out _).mono ?_; rintro e w6 ⟨rfl, hb6⟩; have H6 := Lib.hid (H5.out.below hb6); have G6 := (H5.out.below hb6).step; clear hb6)
                  | (guard_target = wpList _ _ _ (Oper.mk _ (.store 29 _ _) _ _ _ _ :: _) _ _; refine wpList_store_partJ rfl 29 _ _ rfl gm 0 4 38 (rjF sd v s.last s.down) (rjF sd1 v s.last s.down) rfl (show _ = Value.agg (arr 4 (rjF sd1 v s.last s.down)) by rw [← slabA_arr, HSV1.out]; rfl) 39 H6.out.blk (by kernel_rfl) (by omega) (fun j hj => rj_one4 hj) ?_; intro w7 hw7; rw [rj_put] at hw7; have H7 : Hid (JPQ w g gd gm v s sd1 s sd1 wp.heap.size #[.int .i64 o.kind, .int .i64 o.n, .int .u8 (o.x.toNat : Int), .slice Ad dl cd] w7) := Lib.hid (by rw [hw7]; exact H6.out.part sd1); clear hw7))
                obtain ⟨T7, h7⟩ := H7.out.out
                have hok1 : sd1.Ok := h7.ok
                have hrm : sd1.room ≤ 3000 := by rw [← HSD1.out, crash_room]; exact HKP.out.1
                have HROO := Lib.hid (fun W => refOpen_any sd1 hok1 W)
                rw [show sd1.v = .agg (slabA sd1) from rfl, HSV1.out] at HROO
                obtain ⟨oj, hoj⟩ : ∃ z, openJ sd1 = z := ⟨_, rfl⟩
                obtain ⟨os, sd2, ce⟩ := oj
                have HOJ := Lib.hid hoj
                have HOK1 := Lib.hid (And.intro hok1 hrm)
                clear H7 HLS HA H6 H5 HC1 G6 f0 f1 f2 f3 hok1 hrm
                cases os with
                | none =>
                  obtain ⟨hq1, hq2⟩ := open_none hoj
                  subst hq1
                  have hce : (ce != 0) = true := by rw [bne_iff_ne]; exact hq2
                  have HOP := Lib.hid (h7.shut HT.out hoj)
                  clear hoj hq2 h7
                  go_upto_region 33 with (go_at_call 13; refine HOP.out.mono ?_; rintro e w8 ⟨rfl, h8⟩; have H8 := Lib.hid h8; clear h8)
                  have hls := load_slabR H8.out.blk
                  rw [HSV1.out] at hls
                  have HLS := Lib.hid hls
                  have HZ : Hid (∀ W, Calls Tryd.prog 14 #[.agg sv1] W fun e w' => Below W.heap.size W w' ∧ e = .returned (.tuple #[.agg (arr 38 (rjF sd2 (.slice none 0 0) zeroD false)), .int .i64 ce])) := Lib.hid fun W => by
                    refine (HROO.out W).mono ?_
                    rintro e w' ⟨hb, v0, hv⟩
                    rw [HOJ.out] at hv
                    obtain ⟨z, hz, _, _, _, hzz⟩ := hv
                    rw [hzz] at hz
                    exact ⟨hb, hz⟩
                  clear hls
                  go_upto_region 34 with (first
                    | (guard_target = wpList _ _ _ (Oper.mk _ (.load 29 _) _ _ _ _ :: _) _ _; refine wpList_load_runT (by rfl) 29 _ rfl (.pointer (some ⟨gm, 0, none⟩)) (.agg sv1) rfl HLS.out ?_)
                    | (go_at_call 14; refine (HZ.out _).mono ?_; rintro e w9 ⟨hb9, rfl⟩; have H9 := Lib.hid (H8.out.below hb9); clear hb9)
                    | (guard_target = wpList _ _ _ (Oper.mk _ (.store 39 _ _) _ _ _ _ :: _) _ _; refine wpList_store_row rfl 39 _ _ rfl gm (arr 38 (rjF sd2 (.slice none 0 0) zeroD false)) rfl rfl 39 _ H9.out.blk (by rw [arr_size]; kernel_rfl) (by rw [arr_size, arr_size]) (rj_all rfl) ?_))
                  generalize hW10 : World.setRow _ gm _ = W10
                  have H10 : Hid (JPN w gd gm sd2 (arr 38 (rjF sd2 (.slice none 0 0) zeroD false)) W10) := Lib.hid (by rw [← hW10]; exact H9.out.set _)
                  clear hW10
                  obtain ⟨tb, htb⟩ : ∃ z, (⟨sd2.bs.toArray⟩ : ByteArray) = z := ⟨_, rfl⟩
                  have HC3 : Hid (∀ W, Below W10.heap.size W10 W → W.cell? ⟨gm, 3, none⟩ = some (.string tb)) := Lib.hid fun W hb => by
                    rw [(H10.out.below hb).blk.cell, arr_get, if_pos (by omega), ← htb]
                    rfl
                  have HTX := Lib.hid (fun (W : World) (hb : Below W10.heap.size W10 W) => jpn_text (H10.out.below hb))
                  rw [htb] at HTX
                  have hns := neq_text htb
                  have HT10 := Lib.hid (fun (W : World) (hb : Below W10.heap.size W10 W) => (H10.out.below hb).old)
                  clear htb
                  go_upto_region 36 with fail
                  have hbX : Below W10.heap.size W10 W10.drew := (Below.refl _ _).drew
                  refine wp_region_held_drew (S := fun W' => Below W10.heap.size W10 W') (by kernel_rfl) ?_ (fun hHeld => ?_)
                  · exact hbX
                  refine wpAnyH_take (i := 0) (oi := ⟨some 148, _, _, _, _, _⟩) (v := ?_) rfl (by kernel_rfl) (by kernel_rfl) (by kernel_rfl) (fun _ _ _ h => h) (Or.inl ⟨by rfl, ?_⟩) (by assumption) ?_
                  rotate_left
                  · intro w hSw; (try dsimp only at hSw); go_simp; try (with_reducible rfl)
                  rotate_left 0
                  try simp only [Act.put, List.setIfInBounds_toArray, List.set_cons_zero, List.set_cons_succ]
                  refine wpAnyH_take (i := 1) (oi := ⟨some 149, _, _, _, _, _⟩) (v := ?_) rfl (by kernel_rfl) (by kernel_rfl) (by kernel_rfl) (fun _ _ _ h => h) (Or.inl ⟨by rfl, ?_⟩) (by assumption) ?_
                  rotate_left
                  · intro w hSw; (try dsimp only at hSw); go_simp; try (with_reducible rfl)
                  rotate_left 0
                  try simp only [Act.put, List.setIfInBounds_toArray, List.set_cons_zero, List.set_cons_succ]
                  refine wpAnyH_take (i := 2) (oi := ⟨some 150, _, _, _, _, _⟩) (v := ?_) rfl (by kernel_rfl) (by kernel_rfl) (by kernel_rfl) (fun _ _ _ h => h) (Or.inl ⟨by rfl, ?_⟩) (by assumption) ?_
                  rotate_left
                  · intro w hSw; (try dsimp only at hSw); go_simp; try (with_reducible rfl)
                  rotate_left 0
                  try simp only [Act.put, List.setIfInBounds_toArray, List.set_cons_zero, List.set_cons_succ]
                  refine wpAnyH_take (i := 3) (oi := ⟨some 151, _, _, _, _, _⟩) (v := ?_) rfl (by kernel_rfl) (by kernel_rfl) (by kernel_rfl) (fun _ _ _ h => h) (Or.inl ⟨by rfl, ?_⟩) (by assumption) ?_
                  rotate_left
                  · intro w hSw; (try dsimp only at hSw); go_simp; try (with_reducible rfl)
                  rotate_left 0
                  try simp only [Act.put, List.setIfInBounds_toArray, List.set_cons_zero, List.set_cons_succ]
                  refine wpAnyH_take (i := 4) (oi := ⟨some 152, _, _, _, _, _⟩) (v := ?_) rfl (by kernel_rfl) (by kernel_rfl) (by kernel_rfl) (fun _ _ _ h => h) (Or.inl ⟨by rfl, ?_⟩) (by assumption) ?_
                  rotate_left
                  · intro w hSw; (try dsimp only at hSw); go_simp; try (with_reducible rfl)
                  rotate_left 0
                  try simp only [Act.put, List.setIfInBounds_toArray, List.set_cons_zero, List.set_cons_succ]
                  refine wpAnyH_take (i := 7) (oi := ⟨some 155, _, _, _, _, _⟩) (v := ?_) rfl (by kernel_rfl) (by kernel_rfl) (by kernel_rfl) (fun _ _ _ h => h) (Or.inl ⟨by rfl, ?_⟩) (by assumption) ?_
                  rotate_left
                  · intro w hSw; (try dsimp only at hSw); go_simp; try (with_reducible rfl)
                  rotate_left 0
                  try simp only [Act.put, List.setIfInBounds_toArray, List.set_cons_zero, List.set_cons_succ]
                  refine wpAnyH_take (i := 8) (oi := ⟨some 156, _, _, _, _, _⟩) (v := ?_) rfl (by kernel_rfl) (by kernel_rfl) (by kernel_rfl) (fun _ _ _ h => h) (Or.inl ⟨by rfl, ?_⟩) (by assumption) ?_
                  rotate_left
                  · intro w hSw; (try dsimp only at hSw); go_simp; try (with_reducible rfl)
                  rotate_left 0
                  try simp only [Act.put, List.setIfInBounds_toArray, List.set_cons_zero, List.set_cons_succ]
                  refine wpAnyH_take (i := 9) (oi := ⟨some 157, _, _, _, _, _⟩) (v := (.string tb)) rfl (by kernel_rfl) (by kernel_rfl) (by kernel_rfl) (fun _ _ _ h => h) (Or.inl ⟨by rfl, fun W' hS => by have hcv := HC3.out W' hS; go_simp⟩) (by assumption) ?_
                  try simp only [Act.put, List.setIfInBounds_toArray, List.set_cons_zero, List.set_cons_succ]
                  refine wpAnyH_ready (rs := [5]) (by kernel_rfl) (by simp) ?_
                  refine (AllReadyH.cons (o := ⟨some 153, _, _, _, _, _⟩) rfl (fun K hK => ?_) AllReadyH.nil)
                  (try rw [if_pos (by rfl)])
                  go_simp
                  refine (HTX.out _ hbX).mono ?_
                  rintro e wt ⟨At, nt, ct, rfl, hcvt, hbt⟩
                  replace hbX := hbX.trans (hbt.mono hbX.size)
                  clear hbt
                  try dsimp only
                  refine hK.out _ _ (hbX) (fun hHeld => ?_)
                  clear hK K
                  try simp only [Act.put, List.setIfInBounds_toArray, List.set_cons_zero, List.set_cons_succ]
                  refine wpAnyH_ready (rs := [6]) (by kernel_rfl) (by simp) ?_
                  refine (AllReadyH.cons (o := ⟨some 154, _, _, _, _, _⟩) rfl (fun K hK => ?_) AllReadyH.nil)
                  (try rw [if_pos (by rfl)])
                  refine oper_convP 42 9 _ rfl _ _ rfl hcvt ?_
                  try simp only [Act.put, List.setIfInBounds_toArray, List.set_cons_zero, List.set_cons_succ]
                  clear hcvt
                  try dsimp only
                  refine hK.out _ _ (hbX) (fun hHeld => ?_)
                  clear hK K
                  try simp only [Act.put, List.setIfInBounds_toArray, List.set_cons_zero, List.set_cons_succ]
                  refine wpAnyH_take (i := 10) (oi := ⟨some 158, _, _, _, _, _⟩) (v := ?_) rfl (by kernel_rfl) (by kernel_rfl) (by kernel_rfl) (fun _ _ _ h => h) (Or.inl ⟨by rfl, ?_⟩) (by assumption) ?_
                  rotate_left
                  · intro w hSw; (try dsimp only at hSw); go_simp; try (with_reducible rfl)
                  rotate_left 0
                  try simp only [Act.put, List.setIfInBounds_toArray, List.set_cons_zero, List.set_cons_succ]
                  refine wpAnyH_take (i := 11) (oi := ⟨some 159, _, _, _, _, _⟩) (v := ?_) rfl (by kernel_rfl) (by kernel_rfl) (by kernel_rfl) (fun _ _ _ h => h) (Or.inl ⟨by rfl, ?_⟩) (by assumption) ?_
                  rotate_left
                  · intro w hSw; (try dsimp only at hSw); go_simp; try (with_reducible rfl)
                  rotate_left 0
                  try simp only [Act.put, List.setIfInBounds_toArray, List.set_cons_zero, List.set_cons_succ]
                  refine wpAnyH_done (by kernel_rfl) ?_ _
                  have HX := Lib.hid hbX
                  clear hbX
                  go_wp2
                  go_ret
                  exact ⟨rfl, HT10.out _ HX.out⟩
                | some s2 =>
                  obtain ⟨hkp2, hce0⟩ := open_keep hoj HOK1.out.2
                  subst hce0
                  have hdn := open_down hoj
                  have HDN := Lib.hid hdn
                  have HKP2 := Lib.hid hkp2
                  have HOP := Lib.hid (h7.opened HT.out hoj)
                  clear hoj h7 hdn hkp2
                  go_upto_region 33 with (go_at_call 13; refine HOP.out.mono ?_; rintro e w8 ⟨g8, rfl, T8, h8, _, _⟩; have H8 := Lib.hid h8; clear h8)
                  have hls := load_slabR H8.out.2.2.2.2.1
                  rw [HSV1.out] at hls
                  have HLS := Lib.hid hls
                  have HZ : Hid (∀ W, Calls Tryd.prog 14 #[.agg sv1] W fun e w' => ∃ v9, e = .returned (.tuple #[.agg (arr 38 (rjF sd2 v9 s2.last s2.down)), .int .i64 0]) ∧ Below W.heap.size W w' ∧ w'.ownsRow W.heap.size 9 1 v9 s2.recs.length (strC s2.recs).flatten) := Lib.hid fun W => by
                    refine (HROO.out W).mono ?_
                    rintro e w' ⟨hb, v0, hv⟩
                    rw [HOJ.out] at hv
                    obtain ⟨hz, _, ho⟩ := hv
                    rw [HDN.out]
                    exact ⟨v0, hz, hb, ho⟩
                  clear hls
                  go_upto_region 34 with (first
                    | (guard_target = wpList _ _ _ (Oper.mk _ (.load 29 _) _ _ _ _ :: _) _ _; refine wpList_load_runT (by rfl) 29 _ rfl (.pointer (some ⟨gm, 0, none⟩)) (.agg sv1) rfl HLS.out ?_)
                    | (go_at_call 14; refine (HZ.out _).mono ?_; rintro e w9 ⟨v9, rfl, hb9, ho9⟩; have H9 := Lib.hid (H8.out.ref (r' := s2) (rd' := sd2) hb9 (own_base ho9 H8.out.old.size) (.inr fun i hi => (ho9.lt i hi).1)); have K9 := Lib.hid (H8.out.2.2.2.2.1.below hb9 H8.out.2.2.2.2.1.lt); have V9 := Lib.hid (show v9.oneCell' = true by rcases ownsRow_forms' ho9 with ⟨rfl, _⟩ | ⟨_, _, rfl⟩ <;> rfl); clear hb9 ho9)
                    | (guard_target = wpList _ _ _ (Oper.mk _ (.store 39 _ _) _ _ _ _ :: _) _ _; refine wpList_store_row rfl 39 _ _ rfl gm (arr 38 (rjF sd2 v9 s2.last s2.down)) rfl rfl 39 _ K9.out (by rw [arr_size]; kernel_rfl) (by rw [arr_size, arr_size]) (rj_all V9.out) ?_))
                  generalize hW10 : World.setRow _ gm _ = W10
                  have H10 : Hid (JPC w T8 g8 gd gm v9 s2 sd2 s2 sd2 W10) := Lib.hid (by rw [← hW10]; exact H9.out)
                  clear hW10
                  obtain ⟨tb, htb⟩ : ∃ z, (⟨sd2.bs.toArray⟩ : ByteArray) = z := ⟨_, rfl⟩
                  have HC3 : Hid (∀ W, Below W10.heap.size W10 W → W.cell? ⟨gm, 3, none⟩ = some (.string tb)) := Lib.hid fun W hb => by
                    rw [(H10.out.below hb).2.2.2.2.1.cell, arr_get, if_pos (by omega), ← htb]
                    rfl
                  have HTX := Lib.hid (fun (W : World) (hb : Below W10.heap.size W10 W) => jpc_text (H10.out.below hb))
                  rw [htb] at HTX
                  have hns := neq_text htb
                  clear htb
                  go_upto_region 36 with fail
                  have hbX : Below W10.heap.size W10 W10.drew := (Below.refl _ _).drew
                  refine wp_region_held_drew (S := fun W' => Below W10.heap.size W10 W') (by kernel_rfl) ?_ (fun hHeld => ?_)
                  · exact hbX
                  refine wpAnyH_take (i := 0) (oi := ⟨some 148, _, _, _, _, _⟩) (v := ?_) rfl (by kernel_rfl) (by kernel_rfl) (by kernel_rfl) (fun _ _ _ h => h) (Or.inl ⟨by rfl, ?_⟩) (by assumption) ?_
                  rotate_left
                  · intro w hSw; (try dsimp only at hSw); go_simp; try (with_reducible rfl)
                  rotate_left 0
                  try simp only [Act.put, List.setIfInBounds_toArray, List.set_cons_zero, List.set_cons_succ]
                  refine wpAnyH_take (i := 1) (oi := ⟨some 149, _, _, _, _, _⟩) (v := ?_) rfl (by kernel_rfl) (by kernel_rfl) (by kernel_rfl) (fun _ _ _ h => h) (Or.inl ⟨by rfl, ?_⟩) (by assumption) ?_
                  rotate_left
                  · intro w hSw; (try dsimp only at hSw); go_simp; try (with_reducible rfl)
                  rotate_left 0
                  try simp only [Act.put, List.setIfInBounds_toArray, List.set_cons_zero, List.set_cons_succ]
                  refine wpAnyH_take (i := 2) (oi := ⟨some 150, _, _, _, _, _⟩) (v := ?_) rfl (by kernel_rfl) (by kernel_rfl) (by kernel_rfl) (fun _ _ _ h => h) (Or.inl ⟨by rfl, ?_⟩) (by assumption) ?_
                  rotate_left
                  · intro w hSw; (try dsimp only at hSw); go_simp; try (with_reducible rfl)
                  rotate_left 0
                  try simp only [Act.put, List.setIfInBounds_toArray, List.set_cons_zero, List.set_cons_succ]
                  refine wpAnyH_take (i := 3) (oi := ⟨some 151, _, _, _, _, _⟩) (v := ?_) rfl (by kernel_rfl) (by kernel_rfl) (by kernel_rfl) (fun _ _ _ h => h) (Or.inl ⟨by rfl, ?_⟩) (by assumption) ?_
                  rotate_left
                  · intro w hSw; (try dsimp only at hSw); go_simp; try (with_reducible rfl)
                  rotate_left 0
                  try simp only [Act.put, List.setIfInBounds_toArray, List.set_cons_zero, List.set_cons_succ]
                  refine wpAnyH_take (i := 4) (oi := ⟨some 152, _, _, _, _, _⟩) (v := ?_) rfl (by kernel_rfl) (by kernel_rfl) (by kernel_rfl) (fun _ _ _ h => h) (Or.inl ⟨by rfl, ?_⟩) (by assumption) ?_
                  rotate_left
                  · intro w hSw; (try dsimp only at hSw); go_simp; try (with_reducible rfl)
                  rotate_left 0
                  try simp only [Act.put, List.setIfInBounds_toArray, List.set_cons_zero, List.set_cons_succ]
                  refine wpAnyH_take (i := 7) (oi := ⟨some 155, _, _, _, _, _⟩) (v := ?_) rfl (by kernel_rfl) (by kernel_rfl) (by kernel_rfl) (fun _ _ _ h => h) (Or.inl ⟨by rfl, ?_⟩) (by assumption) ?_
                  rotate_left
                  · intro w hSw; (try dsimp only at hSw); go_simp; try (with_reducible rfl)
                  rotate_left 0
                  try simp only [Act.put, List.setIfInBounds_toArray, List.set_cons_zero, List.set_cons_succ]
                  refine wpAnyH_take (i := 8) (oi := ⟨some 156, _, _, _, _, _⟩) (v := ?_) rfl (by kernel_rfl) (by kernel_rfl) (by kernel_rfl) (fun _ _ _ h => h) (Or.inl ⟨by rfl, ?_⟩) (by assumption) ?_
                  rotate_left
                  · intro w hSw; (try dsimp only at hSw); go_simp; try (with_reducible rfl)
                  rotate_left 0
                  try simp only [Act.put, List.setIfInBounds_toArray, List.set_cons_zero, List.set_cons_succ]
                  refine wpAnyH_take (i := 9) (oi := ⟨some 157, _, _, _, _, _⟩) (v := (.string tb)) rfl (by kernel_rfl) (by kernel_rfl) (by kernel_rfl) (fun _ _ _ h => h) (Or.inl ⟨by rfl, fun W' hS => by have hcv := HC3.out W' hS; go_simp⟩) (by assumption) ?_
                  try simp only [Act.put, List.setIfInBounds_toArray, List.set_cons_zero, List.set_cons_succ]
                  refine wpAnyH_ready (rs := [5]) (by kernel_rfl) (by simp) ?_
                  refine (AllReadyH.cons (o := ⟨some 153, _, _, _, _, _⟩) rfl (fun K hK => ?_) AllReadyH.nil)
                  (try rw [if_pos (by rfl)])
                  go_simp
                  refine (HTX.out _ hbX).mono ?_
                  rintro e wt ⟨At, nt, ct, rfl, hcvt, hbt⟩
                  replace hbX := hbX.trans (hbt.mono hbX.size)
                  clear hbt
                  try dsimp only
                  refine hK.out _ _ (hbX) (fun hHeld => ?_)
                  clear hK K
                  try simp only [Act.put, List.setIfInBounds_toArray, List.set_cons_zero, List.set_cons_succ]
                  refine wpAnyH_ready (rs := [6]) (by kernel_rfl) (by simp) ?_
                  refine (AllReadyH.cons (o := ⟨some 154, _, _, _, _, _⟩) rfl (fun K hK => ?_) AllReadyH.nil)
                  (try rw [if_pos (by rfl)])
                  refine oper_convP 42 9 _ rfl _ _ rfl hcvt ?_
                  try simp only [Act.put, List.setIfInBounds_toArray, List.set_cons_zero, List.set_cons_succ]
                  clear hcvt
                  try dsimp only
                  refine hK.out _ _ (hbX) (fun hHeld => ?_)
                  clear hK K
                  try simp only [Act.put, List.setIfInBounds_toArray, List.set_cons_zero, List.set_cons_succ]
                  refine wpAnyH_take (i := 10) (oi := ⟨some 158, _, _, _, _, _⟩) (v := ?_) rfl (by kernel_rfl) (by kernel_rfl) (by kernel_rfl) (fun _ _ _ h => h) (Or.inl ⟨by rfl, ?_⟩) (by assumption) ?_
                  rotate_left
                  · intro w hSw; (try dsimp only at hSw); go_simp; try (with_reducible rfl)
                  rotate_left 0
                  try simp only [Act.put, List.setIfInBounds_toArray, List.set_cons_zero, List.set_cons_succ]
                  refine wpAnyH_take (i := 11) (oi := ⟨some 159, _, _, _, _, _⟩) (v := ?_) rfl (by kernel_rfl) (by kernel_rfl) (by kernel_rfl) (fun _ _ _ h => h) (Or.inl ⟨by rfl, ?_⟩) (by assumption) ?_
                  rotate_left
                  · intro w hSw; (try dsimp only at hSw); go_simp; try (with_reducible rfl)
                  rotate_left 0
                  try simp only [Act.put, List.setIfInBounds_toArray, List.set_cons_zero, List.set_cons_succ]
                  refine wpAnyH_done (by kernel_rfl) ?_ _
                  have HX := Lib.hid hbX
                  clear hbX
                  go_wp2
                  go_meet
                  exact ⟨0, T8, g8, v9, s2, sd2, rfl, rfl, rfl, H10.out.below HX.out, HKP2.out⟩
            · have b2 : (o.kind == 2) = false := by simpa using k2
              by_cases k3 : o.kind = 3
              · have b3 : (o.kind == 3) = true := by simpa using k3
                clear k0 k1 k2 k3
                as_aux_lemma =>
                  obtain ⟨spc, hspc⟩ : ∃ z, (sd.spoil o.n o.x).2 = z := ⟨_, rfl⟩
                  have HSPC := Lib.hid hspc
                  clear hspc
                  obtain ⟨sd1, hsd1⟩ : ∃ z, (sd.spoil o.n o.x).1 = z := ⟨_, rfl⟩
                  obtain ⟨sv, hsv⟩ : ∃ z, slabA sd = z := ⟨_, rfl⟩
                  obtain ⟨sv1, hsv1⟩ : ∃ z, slabA sd1 = z := ⟨_, rfl⟩
                  have HSV1 := Lib.hid hsv1
                  have HSD1 := Lib.hid hsd1
                  have HSV := Lib.hid hsv
                  have HC1 := Lib.hid (jpq_spoil (n := o.n) (x := o.x) HP0.out)
                  rw [hsd1, HSPC.out] at HC1
                  clear hsd1 hsv1 hsv
                  go_upto_region 31 with (go_at_call 21; refine HC1.out.mono ?_; rintro e w5 ⟨rfl, h5⟩; have H5 := Lib.hid h5; clear h5)
                  clear e0 e1 e2 e3
                  obtain ⟨f0, f1, f2, f3⟩ := H5.out.step
                  have hls := load_slabR H5.out.blk
                  rw [HSV.out] at hls
                  have HLS := Lib.hid hls
                  clear hls
                  have HA : Hid (∀ W, Calls Tryd.prog 22 #[.agg sv, .int .i64 o.n, .int .u8 (o.x.toNat : Int)] W fun e w' => e = .returned (.tuple #[.agg sv1, .int .i64 spc]) ∧ Below W.heap.size W w') := Lib.hid fun W => by
                    have := refSpoil_any sd HP0.out.ok o.n o.x W
                    rw [HSD1.out, HSPC.out, show sd1.v = .agg (slabA sd1) from rfl, show sd.v = .agg (slabA sd) from rfl, HSV1.out, HSV.out] at this
                    exact this
                  go_upto_region 32 with (first
                    | (guard_target = wpList _ _ _ (Oper.mk _ (.load 29 _) _ _ _ _ :: _) _ _; refine wpList_load_runT (by rfl) 29 _ rfl (.pointer (some ⟨gm, 0, none⟩)) (.agg sv) rfl HLS.out ?_)
                    | (go_at_call 22; refine (HA.out _).mono ?_; rintro e w6 ⟨rfl, hb6⟩; have H6 := Lib.hid (H5.out.below hb6); have G6 := (H5.out.below hb6).step; clear hb6)
                    | (guard_target = wpList _ _ _ (Oper.mk _ (.store 29 _ _) _ _ _ _ :: _) _ _; refine wpList_store_partJ rfl 29 _ _ rfl gm 0 4 38 (rjF sd v s.last s.down) (rjF sd1 v s.last s.down) rfl (show _ = Value.agg (arr 4 (rjF sd1 v s.last s.down)) by rw [← slabA_arr, HSV1.out]; rfl) 39 H6.out.blk (by kernel_rfl) (by omega) (fun j hj => rj_one4 hj) ?_; intro w7 hw7; rw [rj_put] at hw7; have H7 : Hid (JPQ w g gd gm v s sd1 s sd1 wp.heap.size #[.int .i64 o.kind, .int .i64 o.n, .int .u8 (o.x.toNat : Int), .slice Ad dl cd] w7) := Lib.hid (by rw [hw7]; exact H6.out.part sd1); clear hw7))
                  obtain ⟨T7, h7⟩ := H7.out.out
                  have hok1 : sd1.Ok := h7.ok
                  have hrm : sd1.room ≤ 3000 := by rw [← HSD1.out, spoil_room]; exact HKP.out.1
                  have HROO := Lib.hid (fun W => refOpen_any sd1 hok1 W)
                  rw [show sd1.v = .agg (slabA sd1) from rfl, HSV1.out] at HROO
                  obtain ⟨oj, hoj⟩ : ∃ z, openJ sd1 = z := ⟨_, rfl⟩
                  obtain ⟨os, sd2, ce⟩ := oj
                  have HOJ := Lib.hid hoj
                  have HOK1 := Lib.hid (And.intro hok1 hrm)
                  clear H7 HLS HA H6 H5 HC1 G6 f0 f1 f2 f3 hok1 hrm
                  cases os with
                  | none =>
                    obtain ⟨hq1, hq2⟩ := open_none hoj
                    subst hq1
                    have hce : (ce != 0) = true := by rw [bne_iff_ne]; exact hq2
                    have HOP := Lib.hid (h7.shut HT.out hoj)
                    clear hoj hq2 h7
                    go_upto_region 33 with (go_at_call 13; refine HOP.out.mono ?_; rintro e w8 ⟨rfl, h8⟩; have H8 := Lib.hid h8; clear h8)
                    have hls := load_slabR H8.out.blk
                    rw [HSV1.out] at hls
                    have HLS := Lib.hid hls
                    have HZ : Hid (∀ W, Calls Tryd.prog 14 #[.agg sv1] W fun e w' => Below W.heap.size W w' ∧ e = .returned (.tuple #[.agg (arr 38 (rjF sd2 (.slice none 0 0) zeroD false)), .int .i64 ce])) := Lib.hid fun W => by
                      refine (HROO.out W).mono ?_
                      rintro e w' ⟨hb, v0, hv⟩
                      rw [HOJ.out] at hv
                      obtain ⟨z, hz, _, _, _, hzz⟩ := hv
                      rw [hzz] at hz
                      exact ⟨hb, hz⟩
                    clear hls
                    go_upto_region 34 with (first
                      | (guard_target = wpList _ _ _ (Oper.mk _ (.load 29 _) _ _ _ _ :: _) _ _; refine wpList_load_runT (by rfl) 29 _ rfl (.pointer (some ⟨gm, 0, none⟩)) (.agg sv1) rfl HLS.out ?_)
                      | (go_at_call 14; refine (HZ.out _).mono ?_; rintro e w9 ⟨hb9, rfl⟩; have H9 := Lib.hid (H8.out.below hb9); clear hb9)
                      | (guard_target = wpList _ _ _ (Oper.mk _ (.store 39 _ _) _ _ _ _ :: _) _ _; refine wpList_store_row rfl 39 _ _ rfl gm (arr 38 (rjF sd2 (.slice none 0 0) zeroD false)) rfl rfl 39 _ H9.out.blk (by rw [arr_size]; kernel_rfl) (by rw [arr_size, arr_size]) (rj_all rfl) ?_))
                    generalize hW10 : World.setRow _ gm _ = W10
                    have H10 : Hid (JPN w gd gm sd2 (arr 38 (rjF sd2 (.slice none 0 0) zeroD false)) W10) := Lib.hid (by rw [← hW10]; exact H9.out.set _)
                    clear hW10
                    obtain ⟨tb, htb⟩ : ∃ z, (⟨sd2.bs.toArray⟩ : ByteArray) = z := ⟨_, rfl⟩
                    have HC3 : Hid (∀ W, Below W10.heap.size W10 W → W.cell? ⟨gm, 3, none⟩ = some (.string tb)) := Lib.hid fun W hb => by
                      rw [(H10.out.below hb).blk.cell, arr_get, if_pos (by omega), ← htb]
                      rfl
                    have HTX := Lib.hid (fun (W : World) (hb : Below W10.heap.size W10 W) => jpn_text (H10.out.below hb))
                    rw [htb] at HTX
                    have hns := neq_text htb
                    have HT10 := Lib.hid (fun (W : World) (hb : Below W10.heap.size W10 W) => (H10.out.below hb).old)
                    clear htb
                    go_upto_region 36 with fail
                    have hbX : Below W10.heap.size W10 W10.drew := (Below.refl _ _).drew
                    refine wp_region_held_drew (S := fun W' => Below W10.heap.size W10 W') (by kernel_rfl) ?_ (fun hHeld => ?_)
                    · exact hbX
                    refine wpAnyH_take (i := 0) (oi := ⟨some 148, _, _, _, _, _⟩) (v := ?_) rfl (by kernel_rfl) (by kernel_rfl) (by kernel_rfl) (fun _ _ _ h => h) (Or.inl ⟨by rfl, ?_⟩) (by assumption) ?_
                    rotate_left
                    · intro w hSw; (try dsimp only at hSw); go_simp; try (with_reducible rfl)
                    rotate_left 0
                    try simp only [Act.put, List.setIfInBounds_toArray, List.set_cons_zero, List.set_cons_succ]
                    refine wpAnyH_take (i := 1) (oi := ⟨some 149, _, _, _, _, _⟩) (v := ?_) rfl (by kernel_rfl) (by kernel_rfl) (by kernel_rfl) (fun _ _ _ h => h) (Or.inl ⟨by rfl, ?_⟩) (by assumption) ?_
                    rotate_left
                    · intro w hSw; (try dsimp only at hSw); go_simp; try (with_reducible rfl)
                    rotate_left 0
                    try simp only [Act.put, List.setIfInBounds_toArray, List.set_cons_zero, List.set_cons_succ]
                    refine wpAnyH_take (i := 2) (oi := ⟨some 150, _, _, _, _, _⟩) (v := ?_) rfl (by kernel_rfl) (by kernel_rfl) (by kernel_rfl) (fun _ _ _ h => h) (Or.inl ⟨by rfl, ?_⟩) (by assumption) ?_
                    rotate_left
                    · intro w hSw; (try dsimp only at hSw); go_simp; try (with_reducible rfl)
                    rotate_left 0
                    try simp only [Act.put, List.setIfInBounds_toArray, List.set_cons_zero, List.set_cons_succ]
                    refine wpAnyH_take (i := 3) (oi := ⟨some 151, _, _, _, _, _⟩) (v := ?_) rfl (by kernel_rfl) (by kernel_rfl) (by kernel_rfl) (fun _ _ _ h => h) (Or.inl ⟨by rfl, ?_⟩) (by assumption) ?_
                    rotate_left
                    · intro w hSw; (try dsimp only at hSw); go_simp; try (with_reducible rfl)
                    rotate_left 0
                    try simp only [Act.put, List.setIfInBounds_toArray, List.set_cons_zero, List.set_cons_succ]
                    refine wpAnyH_take (i := 4) (oi := ⟨some 152, _, _, _, _, _⟩) (v := ?_) rfl (by kernel_rfl) (by kernel_rfl) (by kernel_rfl) (fun _ _ _ h => h) (Or.inl ⟨by rfl, ?_⟩) (by assumption) ?_
                    rotate_left
                    · intro w hSw; (try dsimp only at hSw); go_simp; try (with_reducible rfl)
                    rotate_left 0
                    try simp only [Act.put, List.setIfInBounds_toArray, List.set_cons_zero, List.set_cons_succ]
                    refine wpAnyH_take (i := 7) (oi := ⟨some 155, _, _, _, _, _⟩) (v := ?_) rfl (by kernel_rfl) (by kernel_rfl) (by kernel_rfl) (fun _ _ _ h => h) (Or.inl ⟨by rfl, ?_⟩) (by assumption) ?_
                    rotate_left
                    · intro w hSw; (try dsimp only at hSw); go_simp; try (with_reducible rfl)
                    rotate_left 0
                    try simp only [Act.put, List.setIfInBounds_toArray, List.set_cons_zero, List.set_cons_succ]
                    refine wpAnyH_take (i := 8) (oi := ⟨some 156, _, _, _, _, _⟩) (v := ?_) rfl (by kernel_rfl) (by kernel_rfl) (by kernel_rfl) (fun _ _ _ h => h) (Or.inl ⟨by rfl, ?_⟩) (by assumption) ?_
                    rotate_left
                    · intro w hSw; (try dsimp only at hSw); go_simp; try (with_reducible rfl)
                    rotate_left 0
                    try simp only [Act.put, List.setIfInBounds_toArray, List.set_cons_zero, List.set_cons_succ]
                    refine wpAnyH_take (i := 9) (oi := ⟨some 157, _, _, _, _, _⟩) (v := (.string tb)) rfl (by kernel_rfl) (by kernel_rfl) (by kernel_rfl) (fun _ _ _ h => h) (Or.inl ⟨by rfl, fun W' hS => by have hcv := HC3.out W' hS; go_simp⟩) (by assumption) ?_
                    try simp only [Act.put, List.setIfInBounds_toArray, List.set_cons_zero, List.set_cons_succ]
                    refine wpAnyH_ready (rs := [5]) (by kernel_rfl) (by simp) ?_
                    refine (AllReadyH.cons (o := ⟨some 153, _, _, _, _, _⟩) rfl (fun K hK => ?_) AllReadyH.nil)
                    (try rw [if_pos (by rfl)])
                    go_simp
                    refine (HTX.out _ hbX).mono ?_
                    rintro e wt ⟨At, nt, ct, rfl, hcvt, hbt⟩
                    replace hbX := hbX.trans (hbt.mono hbX.size)
                    clear hbt
                    try dsimp only
                    refine hK.out _ _ (hbX) (fun hHeld => ?_)
                    clear hK K
                    try simp only [Act.put, List.setIfInBounds_toArray, List.set_cons_zero, List.set_cons_succ]
                    refine wpAnyH_ready (rs := [6]) (by kernel_rfl) (by simp) ?_
                    refine (AllReadyH.cons (o := ⟨some 154, _, _, _, _, _⟩) rfl (fun K hK => ?_) AllReadyH.nil)
                    (try rw [if_pos (by rfl)])
                    refine oper_convP 42 9 _ rfl _ _ rfl hcvt ?_
                    try simp only [Act.put, List.setIfInBounds_toArray, List.set_cons_zero, List.set_cons_succ]
                    clear hcvt
                    try dsimp only
                    refine hK.out _ _ (hbX) (fun hHeld => ?_)
                    clear hK K
                    try simp only [Act.put, List.setIfInBounds_toArray, List.set_cons_zero, List.set_cons_succ]
                    refine wpAnyH_take (i := 10) (oi := ⟨some 158, _, _, _, _, _⟩) (v := ?_) rfl (by kernel_rfl) (by kernel_rfl) (by kernel_rfl) (fun _ _ _ h => h) (Or.inl ⟨by rfl, ?_⟩) (by assumption) ?_
                    rotate_left
                    · intro w hSw; (try dsimp only at hSw); go_simp; try (with_reducible rfl)
                    rotate_left 0
                    try simp only [Act.put, List.setIfInBounds_toArray, List.set_cons_zero, List.set_cons_succ]
                    refine wpAnyH_take (i := 11) (oi := ⟨some 159, _, _, _, _, _⟩) (v := ?_) rfl (by kernel_rfl) (by kernel_rfl) (by kernel_rfl) (fun _ _ _ h => h) (Or.inl ⟨by rfl, ?_⟩) (by assumption) ?_
                    rotate_left
                    · intro w hSw; (try dsimp only at hSw); go_simp; try (with_reducible rfl)
                    rotate_left 0
                    try simp only [Act.put, List.setIfInBounds_toArray, List.set_cons_zero, List.set_cons_succ]
                    refine wpAnyH_done (by kernel_rfl) ?_ _
                    have HX := Lib.hid hbX
                    clear hbX
                    go_wp2
                    go_ret
                    exact ⟨rfl, HT10.out _ HX.out⟩
                  | some s2 =>
                    obtain ⟨hkp2, hce0⟩ := open_keep hoj HOK1.out.2
                    subst hce0
                    have hdn := open_down hoj
                    have HDN := Lib.hid hdn
                    have HKP2 := Lib.hid hkp2
                    have HOP := Lib.hid (h7.opened HT.out hoj)
                    clear hoj h7 hdn hkp2
                    go_upto_region 33 with (go_at_call 13; refine HOP.out.mono ?_; rintro e w8 ⟨g8, rfl, T8, h8, _, _⟩; have H8 := Lib.hid h8; clear h8)
                    have hls := load_slabR H8.out.2.2.2.2.1
                    rw [HSV1.out] at hls
                    have HLS := Lib.hid hls
                    have HZ : Hid (∀ W, Calls Tryd.prog 14 #[.agg sv1] W fun e w' => ∃ v9, e = .returned (.tuple #[.agg (arr 38 (rjF sd2 v9 s2.last s2.down)), .int .i64 0]) ∧ Below W.heap.size W w' ∧ w'.ownsRow W.heap.size 9 1 v9 s2.recs.length (strC s2.recs).flatten) := Lib.hid fun W => by
                      refine (HROO.out W).mono ?_
                      rintro e w' ⟨hb, v0, hv⟩
                      rw [HOJ.out] at hv
                      obtain ⟨hz, _, ho⟩ := hv
                      rw [HDN.out]
                      exact ⟨v0, hz, hb, ho⟩
                    clear hls
                    go_upto_region 34 with (first
                      | (guard_target = wpList _ _ _ (Oper.mk _ (.load 29 _) _ _ _ _ :: _) _ _; refine wpList_load_runT (by rfl) 29 _ rfl (.pointer (some ⟨gm, 0, none⟩)) (.agg sv1) rfl HLS.out ?_)
                      | (go_at_call 14; refine (HZ.out _).mono ?_; rintro e w9 ⟨v9, rfl, hb9, ho9⟩; have H9 := Lib.hid (H8.out.ref (r' := s2) (rd' := sd2) hb9 (own_base ho9 H8.out.old.size) (.inr fun i hi => (ho9.lt i hi).1)); have K9 := Lib.hid (H8.out.2.2.2.2.1.below hb9 H8.out.2.2.2.2.1.lt); have V9 := Lib.hid (show v9.oneCell' = true by rcases ownsRow_forms' ho9 with ⟨rfl, _⟩ | ⟨_, _, rfl⟩ <;> rfl); clear hb9 ho9)
                      | (guard_target = wpList _ _ _ (Oper.mk _ (.store 39 _ _) _ _ _ _ :: _) _ _; refine wpList_store_row rfl 39 _ _ rfl gm (arr 38 (rjF sd2 v9 s2.last s2.down)) rfl rfl 39 _ K9.out (by rw [arr_size]; kernel_rfl) (by rw [arr_size, arr_size]) (rj_all V9.out) ?_))
                    generalize hW10 : World.setRow _ gm _ = W10
                    have H10 : Hid (JPC w T8 g8 gd gm v9 s2 sd2 s2 sd2 W10) := Lib.hid (by rw [← hW10]; exact H9.out)
                    clear hW10
                    obtain ⟨tb, htb⟩ : ∃ z, (⟨sd2.bs.toArray⟩ : ByteArray) = z := ⟨_, rfl⟩
                    have HC3 : Hid (∀ W, Below W10.heap.size W10 W → W.cell? ⟨gm, 3, none⟩ = some (.string tb)) := Lib.hid fun W hb => by
                      rw [(H10.out.below hb).2.2.2.2.1.cell, arr_get, if_pos (by omega), ← htb]
                      rfl
                    have HTX := Lib.hid (fun (W : World) (hb : Below W10.heap.size W10 W) => jpc_text (H10.out.below hb))
                    rw [htb] at HTX
                    have hns := neq_text htb
                    clear htb
                    go_upto_region 36 with fail
                    have hbX : Below W10.heap.size W10 W10.drew := (Below.refl _ _).drew
                    refine wp_region_held_drew (S := fun W' => Below W10.heap.size W10 W') (by kernel_rfl) ?_ (fun hHeld => ?_)
                    · exact hbX
                    refine wpAnyH_take (i := 0) (oi := ⟨some 148, _, _, _, _, _⟩) (v := ?_) rfl (by kernel_rfl) (by kernel_rfl) (by kernel_rfl) (fun _ _ _ h => h) (Or.inl ⟨by rfl, ?_⟩) (by assumption) ?_
                    rotate_left
                    · intro w hSw; (try dsimp only at hSw); go_simp; try (with_reducible rfl)
                    rotate_left 0
                    try simp only [Act.put, List.setIfInBounds_toArray, List.set_cons_zero, List.set_cons_succ]
                    refine wpAnyH_take (i := 1) (oi := ⟨some 149, _, _, _, _, _⟩) (v := ?_) rfl (by kernel_rfl) (by kernel_rfl) (by kernel_rfl) (fun _ _ _ h => h) (Or.inl ⟨by rfl, ?_⟩) (by assumption) ?_
                    rotate_left
                    · intro w hSw; (try dsimp only at hSw); go_simp; try (with_reducible rfl)
                    rotate_left 0
                    try simp only [Act.put, List.setIfInBounds_toArray, List.set_cons_zero, List.set_cons_succ]
                    refine wpAnyH_take (i := 2) (oi := ⟨some 150, _, _, _, _, _⟩) (v := ?_) rfl (by kernel_rfl) (by kernel_rfl) (by kernel_rfl) (fun _ _ _ h => h) (Or.inl ⟨by rfl, ?_⟩) (by assumption) ?_
                    rotate_left
                    · intro w hSw; (try dsimp only at hSw); go_simp; try (with_reducible rfl)
                    rotate_left 0
                    try simp only [Act.put, List.setIfInBounds_toArray, List.set_cons_zero, List.set_cons_succ]
                    refine wpAnyH_take (i := 3) (oi := ⟨some 151, _, _, _, _, _⟩) (v := ?_) rfl (by kernel_rfl) (by kernel_rfl) (by kernel_rfl) (fun _ _ _ h => h) (Or.inl ⟨by rfl, ?_⟩) (by assumption) ?_
                    rotate_left
                    · intro w hSw; (try dsimp only at hSw); go_simp; try (with_reducible rfl)
                    rotate_left 0
                    try simp only [Act.put, List.setIfInBounds_toArray, List.set_cons_zero, List.set_cons_succ]
                    refine wpAnyH_take (i := 4) (oi := ⟨some 152, _, _, _, _, _⟩) (v := ?_) rfl (by kernel_rfl) (by kernel_rfl) (by kernel_rfl) (fun _ _ _ h => h) (Or.inl ⟨by rfl, ?_⟩) (by assumption) ?_
                    rotate_left
                    · intro w hSw; (try dsimp only at hSw); go_simp; try (with_reducible rfl)
                    rotate_left 0
                    try simp only [Act.put, List.setIfInBounds_toArray, List.set_cons_zero, List.set_cons_succ]
                    refine wpAnyH_take (i := 7) (oi := ⟨some 155, _, _, _, _, _⟩) (v := ?_) rfl (by kernel_rfl) (by kernel_rfl) (by kernel_rfl) (fun _ _ _ h => h) (Or.inl ⟨by rfl, ?_⟩) (by assumption) ?_
                    rotate_left
                    · intro w hSw; (try dsimp only at hSw); go_simp; try (with_reducible rfl)
                    rotate_left 0
                    try simp only [Act.put, List.setIfInBounds_toArray, List.set_cons_zero, List.set_cons_succ]
                    refine wpAnyH_take (i := 8) (oi := ⟨some 156, _, _, _, _, _⟩) (v := ?_) rfl (by kernel_rfl) (by kernel_rfl) (by kernel_rfl) (fun _ _ _ h => h) (Or.inl ⟨by rfl, ?_⟩) (by assumption) ?_
                    rotate_left
                    · intro w hSw; (try dsimp only at hSw); go_simp; try (with_reducible rfl)
                    rotate_left 0
                    try simp only [Act.put, List.setIfInBounds_toArray, List.set_cons_zero, List.set_cons_succ]
                    refine wpAnyH_take (i := 9) (oi := ⟨some 157, _, _, _, _, _⟩) (v := (.string tb)) rfl (by kernel_rfl) (by kernel_rfl) (by kernel_rfl) (fun _ _ _ h => h) (Or.inl ⟨by rfl, fun W' hS => by have hcv := HC3.out W' hS; go_simp⟩) (by assumption) ?_
                    try simp only [Act.put, List.setIfInBounds_toArray, List.set_cons_zero, List.set_cons_succ]
                    refine wpAnyH_ready (rs := [5]) (by kernel_rfl) (by simp) ?_
                    refine (AllReadyH.cons (o := ⟨some 153, _, _, _, _, _⟩) rfl (fun K hK => ?_) AllReadyH.nil)
                    (try rw [if_pos (by rfl)])
                    go_simp
                    refine (HTX.out _ hbX).mono ?_
                    rintro e wt ⟨At, nt, ct, rfl, hcvt, hbt⟩
                    replace hbX := hbX.trans (hbt.mono hbX.size)
                    clear hbt
                    try dsimp only
                    refine hK.out _ _ (hbX) (fun hHeld => ?_)
                    clear hK K
                    try simp only [Act.put, List.setIfInBounds_toArray, List.set_cons_zero, List.set_cons_succ]
                    refine wpAnyH_ready (rs := [6]) (by kernel_rfl) (by simp) ?_
                    refine (AllReadyH.cons (o := ⟨some 154, _, _, _, _, _⟩) rfl (fun K hK => ?_) AllReadyH.nil)
                    (try rw [if_pos (by rfl)])
                    refine oper_convP 42 9 _ rfl _ _ rfl hcvt ?_
                    try simp only [Act.put, List.setIfInBounds_toArray, List.set_cons_zero, List.set_cons_succ]
                    clear hcvt
                    try dsimp only
                    refine hK.out _ _ (hbX) (fun hHeld => ?_)
                    clear hK K
                    try simp only [Act.put, List.setIfInBounds_toArray, List.set_cons_zero, List.set_cons_succ]
                    refine wpAnyH_take (i := 10) (oi := ⟨some 158, _, _, _, _, _⟩) (v := ?_) rfl (by kernel_rfl) (by kernel_rfl) (by kernel_rfl) (fun _ _ _ h => h) (Or.inl ⟨by rfl, ?_⟩) (by assumption) ?_
                    rotate_left
                    · intro w hSw; (try dsimp only at hSw); go_simp; try (with_reducible rfl)
                    rotate_left 0
                    try simp only [Act.put, List.setIfInBounds_toArray, List.set_cons_zero, List.set_cons_succ]
                    refine wpAnyH_take (i := 11) (oi := ⟨some 159, _, _, _, _, _⟩) (v := ?_) rfl (by kernel_rfl) (by kernel_rfl) (by kernel_rfl) (fun _ _ _ h => h) (Or.inl ⟨by rfl, ?_⟩) (by assumption) ?_
                    rotate_left
                    · intro w hSw; (try dsimp only at hSw); go_simp; try (with_reducible rfl)
                    rotate_left 0
                    try simp only [Act.put, List.setIfInBounds_toArray, List.set_cons_zero, List.set_cons_succ]
                    refine wpAnyH_done (by kernel_rfl) ?_ _
                    have HX := Lib.hid hbX
                    clear hbX
                    go_wp2
                    go_meet
                    exact ⟨0, T8, g8, v9, s2, sd2, rfl, rfl, rfl, H10.out.below HX.out, HKP2.out⟩
              · have b3 : (o.kind == 3) = false := by simpa using k3
                clear k0 k1 k2 k3
                go_wp2
                go_meet
                obtain ⟨T2, h2⟩ := HP0.out.out
                exact ⟨0, T2, g, v, s, sd, rfl, rfl, rfl, h2, HKP.out⟩
      case rest =>
        as_aux_lemma =>
          obtain ⟨kk, T6, g6, v6, s6, sd6, rfl, rfl, rfl, h6, hkp6⟩ := hcut
          have HP6 := Lib.hid h6
          have HKP6 := Lib.hid hkp6
          obtain ⟨Y6, Z6, hj6, _, _, _, _, _⟩ := h6.1
          have HJ6 := Lib.hid hj6
          have HJS := Lib.hid h6.1
          obtain ⟨tb, htb⟩ : ∃ z, (⟨sd6.bs.toArray⟩ : ByteArray) = z := ⟨_, rfl⟩
          obtain ⟨lv, hlv⟩ : ∃ z, (arr 32 fun i => bv (s6.last i)) = z := ⟨_, rfl⟩
          obtain ⟨Ln, hLn⟩ : ∃ Ln, s6.recs.length = Ln := ⟨_, rfl⟩
          have hL4 : Ln ≤ 4194304 := by rw [← hLn]; have := hkp6.1; have := hkp6.2; have := h6.ok.fits; omega
          have how := h6.2.2.2.2.2.1
          rw [hLn] at how
          obtain ⟨Av, cv, rfl, _⟩ := own_len how
          have HOW := Lib.hid how
          have HLn := Lib.hid hLn
          have HC3 : Hid (∀ W, Below wc.heap.size wc W → W.cell? ⟨gm, 3, none⟩ = some (.string tb)) := Lib.hid fun W hb => by
            rw [(HP6.out.below hb).2.2.2.2.1.cell, arr_get, if_pos (by omega), ← htb]
            rfl
          have HC4 : Hid (∀ W, Below wc.heap.size wc W → W.cell? ⟨gm, 4, none⟩ = some (.slice Av Ln cv)) := Lib.hid fun W hb => by
            rw [(HP6.out.below hb).2.2.2.2.1.cell, arr_get, if_pos (by omega)]
            rfl
          have HL5 : Hid (∀ W, Below wc.heap.size wc W → (Instr.loadAt 37 (.pointer (some ⟨gm, 5, none⟩))).run Tryd.prog W = .ok (.agg lv) W) := Lib.hid fun W hb => by
            rw [← hlv]
            exact load_lastR (HP6.out.below hb).2.2.2.2.1
          have HTX := Lib.hid (fun (W : World) (hb : Below wc.heap.size wc W) => jpc_text (HP6.out.below hb))
          rw [htb] at HTX
          have hns := neq_text htb
          have HLEN := Lib.hid (fun (W : World) (hb : Below wc.heap.size wc W) => js_len (HJS.out.below hb))
          rw [hLn] at HLEN
          have HLST := Lib.hid (fun (W : World) (hb : Below wc.heap.size wc W) => js_last (HJS.out.below hb))
          rw [hlv] at HLST
          have hnl : ∀ w', (binOp .neq 37 (.agg lv) (.agg lv)).run Tryd.prog w' = .ok (.bool false) w' := fun w' => by rw [← hlv]; exact neq_sameJ _ w'
          clear h6 hkp6 hj6 how hLn htb hlv
          have hbX : Below wc.heap.size wc wc.drew := (Below.refl _ _).drew
          go_upto_region 42 with fail
          refine wp_region_held_drew (S := fun W' => Below wc.heap.size wc W') (by kernel_rfl) ?_ (fun hHeld => ?_)
          · exact hbX
          refine wpAnyH_take (i := 0) (oi := ⟨some 163, _, _, _, _, _⟩) (v := ?_) rfl (by kernel_rfl) (by kernel_rfl) (by kernel_rfl) (fun _ _ _ h => h) (Or.inl ⟨by rfl, ?_⟩) (by assumption) ?_
          rotate_left
          · intro w hSw; (try dsimp only at hSw); go_simp; try (with_reducible rfl)
          rotate_left 0
          try simp only [Act.put, List.setIfInBounds_toArray, List.set_cons_zero, List.set_cons_succ]
          refine wpAnyH_take (i := 1) (oi := ⟨some 164, _, _, _, _, _⟩) (v := ?_) rfl (by kernel_rfl) (by kernel_rfl) (by kernel_rfl) (fun _ _ _ h => h) (Or.inl ⟨by rfl, ?_⟩) (by assumption) ?_
          rotate_left
          · intro w hSw; (try dsimp only at hSw); go_simp; try (with_reducible rfl)
          rotate_left 0
          try simp only [Act.put, List.setIfInBounds_toArray, List.set_cons_zero, List.set_cons_succ]
          refine wpAnyH_take (i := 2) (oi := ⟨some 165, _, _, _, _, _⟩) (v := ?_) rfl (by kernel_rfl) (by kernel_rfl) (by kernel_rfl) (fun _ _ _ h => h) (Or.inl ⟨by rfl, ?_⟩) (by assumption) ?_
          rotate_left
          · intro w hSw; (try dsimp only at hSw); go_simp; try (with_reducible rfl)
          rotate_left 0
          try simp only [Act.put, List.setIfInBounds_toArray, List.set_cons_zero, List.set_cons_succ]
          refine wpAnyH_take (i := 3) (oi := ⟨some 166, _, _, _, _, _⟩) (v := ?_) rfl (by kernel_rfl) (by kernel_rfl) (by kernel_rfl) (fun _ _ _ h => h) (Or.inl ⟨by rfl, ?_⟩) (by assumption) ?_
          rotate_left
          · intro w hSw; (try dsimp only at hSw); go_simp; try (with_reducible rfl)
          rotate_left 0
          try simp only [Act.put, List.setIfInBounds_toArray, List.set_cons_zero, List.set_cons_succ]
          refine wpAnyH_take (i := 4) (oi := ⟨some 167, _, _, _, _, _⟩) (v := ?_) rfl (by kernel_rfl) (by kernel_rfl) (by kernel_rfl) (fun _ _ _ h => h) (Or.inl ⟨by rfl, ?_⟩) (by assumption) ?_
          rotate_left
          · intro w hSw; (try dsimp only at hSw); go_simp; try (with_reducible rfl)
          rotate_left 0
          try simp only [Act.put, List.setIfInBounds_toArray, List.set_cons_zero, List.set_cons_succ]
          refine wpAnyH_take (i := 7) (oi := ⟨some 170, _, _, _, _, _⟩) (v := ?_) rfl (by kernel_rfl) (by kernel_rfl) (by kernel_rfl) (fun _ _ _ h => h) (Or.inl ⟨by rfl, ?_⟩) (by assumption) ?_
          rotate_left
          · intro w hSw; (try dsimp only at hSw); go_simp; try (with_reducible rfl)
          rotate_left 0
          try simp only [Act.put, List.setIfInBounds_toArray, List.set_cons_zero, List.set_cons_succ]
          refine wpAnyH_take (i := 8) (oi := ⟨some 171, _, _, _, _, _⟩) (v := ?_) rfl (by kernel_rfl) (by kernel_rfl) (by kernel_rfl) (fun _ _ _ h => h) (Or.inl ⟨by rfl, ?_⟩) (by assumption) ?_
          rotate_left
          · intro w hSw; (try dsimp only at hSw); go_simp; try (with_reducible rfl)
          rotate_left 0
          try simp only [Act.put, List.setIfInBounds_toArray, List.set_cons_zero, List.set_cons_succ]
          refine wpAnyH_take (i := 9) (oi := ⟨some 172, _, _, _, _, _⟩) (v := (.string tb)) rfl (by kernel_rfl) (by kernel_rfl) (by kernel_rfl) (fun _ _ _ h => h) (Or.inl ⟨by rfl, fun W' hS => by have hcv := HC3.out W' hS; go_simp⟩) (by assumption) ?_
          try simp only [Act.put, List.setIfInBounds_toArray, List.set_cons_zero, List.set_cons_succ]
          refine wpAnyH_ready (rs := [5]) (by kernel_rfl) (by simp) ?_
          refine (AllReadyH.cons (o := ⟨some 168, _, _, _, _, _⟩) rfl (fun K hK => ?_) AllReadyH.nil)
          (try rw [if_pos (by rfl)])
          go_simp
          refine (HTX.out _ hbX).mono ?_
          rintro e wt ⟨At, nt, ct, rfl, hcvt, hbt⟩
          replace hbX := hbX.trans (hbt.mono hbX.size)
          clear hbt
          try dsimp only
          refine hK.out _ _ (hbX) (fun hHeld => ?_)
          clear hK K
          try simp only [Act.put, List.setIfInBounds_toArray, List.set_cons_zero, List.set_cons_succ]
          refine wpAnyH_ready (rs := [6]) (by kernel_rfl) (by simp) ?_
          refine (AllReadyH.cons (o := ⟨some 169, _, _, _, _, _⟩) rfl (fun K hK => ?_) AllReadyH.nil)
          (try rw [if_pos (by rfl)])
          refine oper_convP 42 9 _ rfl _ _ rfl hcvt ?_
          try simp only [Act.put, List.setIfInBounds_toArray, List.set_cons_zero, List.set_cons_succ]
          clear hcvt
          try dsimp only
          refine hK.out _ _ (hbX) (fun hHeld => ?_)
          clear hK K
          try simp only [Act.put, List.setIfInBounds_toArray, List.set_cons_zero, List.set_cons_succ]
          refine wpAnyH_take (i := 10) (oi := ⟨some 173, _, _, _, _, _⟩) (v := ?_) rfl (by kernel_rfl) (by kernel_rfl) (by kernel_rfl) (fun _ _ _ h => h) (Or.inl ⟨by rfl, ?_⟩) (by assumption) ?_
          rotate_left
          · intro w hSw; (try dsimp only at hSw); go_simp; try (with_reducible rfl)
          rotate_left 0
          try simp only [Act.put, List.setIfInBounds_toArray, List.set_cons_zero, List.set_cons_succ]
          refine wpAnyH_take (i := 11) (oi := ⟨some 174, _, _, _, _, _⟩) (v := ?_) rfl (by kernel_rfl) (by kernel_rfl) (by kernel_rfl) (fun _ _ _ h => h) (Or.inl ⟨by rfl, ?_⟩) (by assumption) ?_
          rotate_left
          · intro w hSw; (try dsimp only at hSw); go_simp; try (with_reducible rfl)
          rotate_left 0
          try simp only [Act.put, List.setIfInBounds_toArray, List.set_cons_zero, List.set_cons_succ]
          refine wpAnyH_take (i := 12) (oi := ⟨some 175, _, _, _, _, _⟩) (v := ?_) rfl (by kernel_rfl) (by kernel_rfl) (by kernel_rfl) (fun _ _ _ h => h) (Or.inl ⟨by rfl, ?_⟩) (by assumption) ?_
          rotate_left
          · intro w hSw; (try dsimp only at hSw); go_simp; try (with_reducible rfl)
          rotate_left 0
          try simp only [Act.put, List.setIfInBounds_toArray, List.set_cons_zero, List.set_cons_succ]
          refine wpAnyH_take (i := 13) (oi := ⟨some 176, _, _, _, _, _⟩) (v := ?_) rfl (by kernel_rfl) (by kernel_rfl) (by kernel_rfl) (fun _ _ _ h => h) (Or.inl ⟨by rfl, ?_⟩) (by assumption) ?_
          rotate_left
          · intro w hSw; (try dsimp only at hSw); go_simp; try (with_reducible rfl)
          rotate_left 0
          try simp only [Act.put, List.setIfInBounds_toArray, List.set_cons_zero, List.set_cons_succ]
          refine wpAnyH_take (i := 15) (oi := ⟨some 178, _, _, _, _, _⟩) (v := ?_) rfl (by kernel_rfl) (by kernel_rfl) (by kernel_rfl) (fun _ _ _ h => h) (Or.inl ⟨by rfl, ?_⟩) (by assumption) ?_
          rotate_left
          · intro w hSw; (try dsimp only at hSw); go_simp; try (with_reducible rfl)
          rotate_left 0
          try simp only [Act.put, List.setIfInBounds_toArray, List.set_cons_zero, List.set_cons_succ]
          refine wpAnyH_take (i := 16) (oi := ⟨some 179, _, _, _, _, _⟩) (v := (.slice Av Ln cv)) rfl (by kernel_rfl) (by kernel_rfl) (by kernel_rfl) (fun _ _ _ h => h) (Or.inl ⟨by rfl, fun W' hS => by have hcv := HC4.out W' hS; go_simp⟩) (by assumption) ?_
          try simp only [Act.put, List.setIfInBounds_toArray, List.set_cons_zero, List.set_cons_succ]
          refine wpAnyH_take (i := 17) (oi := ⟨some 180, _, _, _, _, _⟩) (v := ?_) rfl (by kernel_rfl) (by kernel_rfl) (by kernel_rfl) (fun _ _ _ h => h) (Or.inl ⟨by rfl, ?_⟩) (by assumption) ?_
          rotate_left
          · intro w hSw; (try dsimp only at hSw); go_simp; try (with_reducible rfl)
          rotate_left 0
          try simp only [Act.put, List.setIfInBounds_toArray, List.set_cons_zero, List.set_cons_succ]
          refine wpAnyH_ready (rs := [14]) (by kernel_rfl) (by simp) ?_
          refine (AllReadyH.cons (o := ⟨some 177, _, _, _, _, _⟩) rfl (fun K hK => ?_) AllReadyH.nil)
          (try rw [if_pos (by rfl)])
          go_simp
          refine (HLEN.out _ hbX).mono ?_
          rintro e WX ⟨rfl, rfl⟩
          try dsimp only
          refine hK.out _ _ (hbX) (fun hHeld => ?_)
          clear hK K
          try simp only [Act.put, List.setIfInBounds_toArray, List.set_cons_zero, List.set_cons_succ]
          refine wpAnyH_take (i := 18) (oi := ⟨some 181, _, _, _, _, _⟩) (v := ?_) rfl (by kernel_rfl) (by kernel_rfl) (by kernel_rfl) (fun _ _ _ h => h) (Or.inl ⟨by rfl, ?_⟩) (by assumption) ?_
          rotate_left
          · intro w hSw; (try dsimp only at hSw); go_simp; try (with_reducible rfl)
          rotate_left 0
          try simp only [Act.put, List.setIfInBounds_toArray, List.set_cons_zero, List.set_cons_succ]
          refine wpAnyH_take (i := 19) (oi := ⟨some 182, _, _, _, _, _⟩) (v := ?_) rfl (by kernel_rfl) (by kernel_rfl) (by kernel_rfl) (fun _ _ _ h => h) (Or.inl ⟨by rfl, ?_⟩) (by assumption) ?_
          rotate_left
          · intro w hSw; (try dsimp only at hSw); go_simp; try (with_reducible rfl)
          rotate_left 0
          try simp only [Act.put, List.setIfInBounds_toArray, List.set_cons_zero, List.set_cons_succ]
          refine wpAnyH_take (i := 20) (oi := ⟨some 183, _, _, _, _, _⟩) (v := ?_) rfl (by kernel_rfl) (by kernel_rfl) (by kernel_rfl) (fun _ _ _ h => h) (Or.inl ⟨by rfl, ?_⟩) (by assumption) ?_
          rotate_left
          · intro w hSw; (try dsimp only at hSw); go_simp; try (with_reducible rfl)
          rotate_left 0
          try simp only [Act.put, List.setIfInBounds_toArray, List.set_cons_zero, List.set_cons_succ]
          refine wpAnyH_take (i := 21) (oi := ⟨some 184, _, _, _, _, _⟩) (v := ?_) rfl (by kernel_rfl) (by kernel_rfl) (by kernel_rfl) (fun _ _ _ h => h) (Or.inl ⟨by rfl, ?_⟩) (by assumption) ?_
          rotate_left
          · intro w hSw; (try dsimp only at hSw); go_simp; try (with_reducible rfl)
          rotate_left 0
          try simp only [Act.put, List.setIfInBounds_toArray, List.set_cons_zero, List.set_cons_succ]
          refine wpAnyH_take (i := 23) (oi := ⟨some 186, _, _, _, _, _⟩) (v := ?_) rfl (by kernel_rfl) (by kernel_rfl) (by kernel_rfl) (fun _ _ _ h => h) (Or.inl ⟨by rfl, ?_⟩) (by assumption) ?_
          rotate_left
          · intro w hSw; (try dsimp only at hSw); go_simp; try (with_reducible rfl)
          rotate_left 0
          try simp only [Act.put, List.setIfInBounds_toArray, List.set_cons_zero, List.set_cons_succ]
          refine wpAnyH_take (i := 24) (oi := ⟨some 187, _, _, _, _, _⟩) (v := (.agg lv)) rfl (by kernel_rfl) (by kernel_rfl) (by kernel_rfl) (fun _ _ _ h => h) (yields_loadR (by rfl) 37 _ rfl (.pointer (some ⟨gm, 5, none⟩)) rfl _ (fun W' hS => HL5.out W' hS)) (by assumption) ?_
          try simp only [Act.put, List.setIfInBounds_toArray, List.set_cons_zero, List.set_cons_succ]
          refine wpAnyH_ready (rs := [22]) (by kernel_rfl) (by simp) ?_
          refine (AllReadyH.cons (o := ⟨some 185, _, _, _, _, _⟩) rfl (fun K hK => ?_) AllReadyH.nil)
          (try rw [if_pos (by rfl)])
          go_simp
          refine (HLST.out _ hbX).mono ?_
          rintro e wl ⟨rfl, hbl⟩
          replace hbX := hbX.trans (hbl.mono hbX.size)
          clear hbl
          try dsimp only
          refine hK.out _ _ (hbX) (fun hHeld => ?_)
          clear hK K
          try simp only [Act.put, List.setIfInBounds_toArray, List.set_cons_zero, List.set_cons_succ]
          refine wpAnyH_take (i := 25) (oi := ⟨some 188, _, _, _, _, _⟩) (v := (.bool false)) rfl (by kernel_rfl) (by kernel_rfl) (by kernel_rfl) (fun _ _ _ h => h) (yields_binJ (by rfl) .neq _ _ _ _ rfl (.agg lv) (.agg lv) rfl rfl _ (fun _ => rfl) hnl) (by assumption) ?_
          try simp only [Act.put, List.setIfInBounds_toArray, List.set_cons_zero, List.set_cons_succ]
          refine wpAnyH_take (i := 26) (oi := ⟨some 189, _, _, _, _, _⟩) (v := ?_) rfl (by kernel_rfl) (by kernel_rfl) (by kernel_rfl) (fun _ _ _ h => h) (Or.inl ⟨by rfl, ?_⟩) (by assumption) ?_
          rotate_left
          · intro w hSw; (try dsimp only at hSw); go_simp; try (with_reducible rfl)
          rotate_left 0
          try simp only [Act.put, List.setIfInBounds_toArray, List.set_cons_zero, List.set_cons_succ]
          refine wpAnyH_done (by kernel_rfl) ?_ _
          have HX := Lib.hid hbX
          have h4 := HC4.out _ hbX
          clear hbX
          go_wp2_with fail
          go_loopw [193] (fun i wy => ∃ qq : Nat, qq ≤ Ln ∧ i = .int .i64 (qq : Int) ∧ Below wc.heap.size wc wy) (fun i _ => Ln - (intOf i).toNat)
          case atStart => exact ⟨0, Nat.zero_le _, rfl, HX.out⟩
          case round =>
            clear HX
            obtain ⟨qq, hq, rfl, hbx⟩ := hrel
            by_cases hql : qq < Ln
            · have hqi : (qq : Int) < (Ln : Int) := by omega
              have hg1 : decide ((Ln : Int) ≤ (qq : Int)) = false := decide_eq_false (by omega)
              have hg2 : decide (Ln ≤ qq) = false := decide_eq_false (by omega)
              obtain ⟨x, hx⟩ : ∃ x, s6.recs.getD qq [] = x := ⟨_, rfl⟩
              have hxs : s6.recs[qq]? = some x := by
                have h : qq < s6.recs.length := by rw [HLn.out]; exact hql
                rw [List.getElem?_eq_getElem h, ← hx, List.getD_eq_getElem?_getD, List.getElem?_eq_getElem h]
                rfl
              obtain ⟨ad, rfl, hcx⟩ := str_here HOW.out hxs
              have had : ad.block < wc.heap.size := by
                have := World.ownsRow.lt HOW.out ad.block rfl
                exact this.2
              have HCS : Hid (∀ W, Below wc.heap.size wc W → W.cell? (ad.add qq) = some (.string ⟨x.toArray⟩)) := Lib.hid fun W hb => (hb.cell (p := ad.add qq) (by rw [block_add]; exact had)).trans hcx
              have HAT := Lib.hid (fun (W : World) hb => at_any Y6 g6 gd s6 qq (by rw [HLn.out]; exact hql) W (HJ6.out.below (w' := W) hb))
              rw [hx] at HAT
              obtain ⟨m, hm⟩ : ∃ m, x.length = m := ⟨_, rfl⟩
              rw [hm] at HAT
              clear hx hxs hcx had hm
              go_upto_region 48 with (go_at_call 26; refine (HAT.out _ hbx).mono ?_; rintro e W7 ⟨A7, c7, rfl, hr7, _, hb7⟩)
              have hb97 := hbx.trans (hb7.mono hbx.size)
              have HB97 := Lib.hid hb97
              have HR7 := Lib.hid hr7
              have hbX : Below W7.heap.size W7 W7.drew := (Below.refl _ _).drew
              have HCW : Hid (∀ W, Below W7.heap.size W7 W → W.cell? ⟨gm, 4, none⟩ = some (.slice (some ad) Ln cv)) := Lib.hid fun W hb => HC4.out W (HB97.out.trans (hb.mono HB97.out.size))
              have HSW : Hid (∀ W, Below W7.heap.size W7 W → W.cell? (ad.add qq) = some (.string ⟨x.toArray⟩)) := Lib.hid fun W hb => HCS.out W (HB97.out.trans (hb.mono HB97.out.size))
              have HCV : Hid (∀ W, Below W7.heap.size W7 W → (convert 42 9 (.slice A7 m c7)).run Tryd.prog W = .ok (.string ⟨x.toArray⟩) W) := Lib.hid fun W hb => str_rd (HR7.out.kept fun i y hi h => (hb.cell (p := i) hi.2).trans h)
              have hnx : ∀ w', (binOp .neq 9 (.string ⟨x.toArray⟩) (.string ⟨x.toArray⟩)).run Tryd.prog w' = .ok (.bool false) w' := fun w' => by
                have := neq_str x x w'
                rw [beq_self_eq_true] at this
                exact this
              clear hb7 hr7 hb97 hbx
              refine wp_region_held_drew (S := fun W' => Below W7.heap.size W7 W') (by kernel_rfl) ?_ (fun hHeld => ?_)
              · exact hbX
              refine wpAnyH_take (i := 0) (oi := ⟨some 202, _, _, _, _, _⟩) (v := ?_) rfl (by kernel_rfl) (by kernel_rfl) (by kernel_rfl) (fun _ _ _ h => h) (Or.inl ⟨by rfl, ?_⟩) (by assumption) ?_
              rotate_left
              · intro w hSw; (try dsimp only at hSw); go_simp; try (with_reducible rfl)
              rotate_left 0
              try simp only [Act.put, List.setIfInBounds_toArray, List.set_cons_zero, List.set_cons_succ]
              refine wpAnyH_take (i := 1) (oi := ⟨some 203, _, _, _, _, _⟩) (v := ?_) rfl (by kernel_rfl) (by kernel_rfl) (by kernel_rfl) (fun _ _ _ h => h) (Or.inl ⟨by rfl, ?_⟩) (by assumption) ?_
              rotate_left
              · intro w hSw; (try dsimp only at hSw); go_simp; try (with_reducible rfl)
              rotate_left 0
              try simp only [Act.put, List.setIfInBounds_toArray, List.set_cons_zero, List.set_cons_succ]
              refine wpAnyH_take (i := 2) (oi := ⟨some 204, _, _, _, _, _⟩) (v := ?_) rfl (by kernel_rfl) (by kernel_rfl) (by kernel_rfl) (fun _ _ _ h => h) (Or.inl ⟨by rfl, ?_⟩) (by assumption) ?_
              rotate_left
              · intro w hSw; (try dsimp only at hSw); go_simp; try (with_reducible rfl)
              rotate_left 0
              try simp only [Act.put, List.setIfInBounds_toArray, List.set_cons_zero, List.set_cons_succ]
              refine wpAnyH_take (i := 3) (oi := ⟨some 205, _, _, _, _, _⟩) (v := ?_) rfl (by kernel_rfl) (by kernel_rfl) (by kernel_rfl) (fun _ _ _ h => h) (Or.inl ⟨by rfl, ?_⟩) (by assumption) ?_
              rotate_left
              · intro w hSw; (try dsimp only at hSw); go_simp; try (with_reducible rfl)
              rotate_left 0
              try simp only [Act.put, List.setIfInBounds_toArray, List.set_cons_zero, List.set_cons_succ]
              refine wpAnyH_take (i := 4) (oi := ⟨some 206, _, _, _, _, _⟩) (v := (.string ⟨x.toArray⟩)) rfl (by kernel_rfl) (by kernel_rfl) (by kernel_rfl) (fun _ _ _ h => h) (Or.inl ⟨by rfl, fun W' hS => by have hcv := HCV.out W' hS; go_simp⟩) (by assumption) ?_
              try simp only [Act.put, List.setIfInBounds_toArray, List.set_cons_zero, List.set_cons_succ]
              refine wpAnyH_take (i := 5) (oi := ⟨some 207, _, _, _, _, _⟩) (v := ?_) rfl (by kernel_rfl) (by kernel_rfl) (by kernel_rfl) (fun _ _ _ h => h) (Or.inl ⟨by rfl, ?_⟩) (by assumption) ?_
              rotate_left
              · intro w hSw; (try dsimp only at hSw); go_simp; try (with_reducible rfl)
              rotate_left 0
              try simp only [Act.put, List.setIfInBounds_toArray, List.set_cons_zero, List.set_cons_succ]
              refine wpAnyH_take (i := 6) (oi := ⟨some 208, _, _, _, _, _⟩) (v := (.slice (some ad) Ln cv)) rfl (by kernel_rfl) (by kernel_rfl) (by kernel_rfl) (fun _ _ _ h => h) (Or.inl ⟨by rfl, fun W' hS => by have hcv := HCW.out W' hS; go_simp⟩) (by assumption) ?_
              try simp only [Act.put, List.setIfInBounds_toArray, List.set_cons_zero, List.set_cons_succ]
              refine wpAnyH_take (i := 7) (oi := ⟨some 209, _, _, _, _, _⟩) (v := ?_) rfl (by kernel_rfl) (by kernel_rfl) (by kernel_rfl) (fun _ _ _ h => h) (Or.inl ⟨by rfl, ?_⟩) (by assumption) ?_
              rotate_left
              · intro w hSw; (try dsimp only at hSw); go_simp; try (with_reducible rfl)
              rotate_left 0
              try simp only [Act.put, List.setIfInBounds_toArray, List.set_cons_zero, List.set_cons_succ]
              refine wpAnyH_take (i := 8) (oi := ⟨some 210, _, _, _, _, _⟩) (v := ?_) rfl (by kernel_rfl) (by kernel_rfl) (by kernel_rfl) (fun _ _ _ h => h) (Or.inl ⟨by rfl, ?_⟩) (by assumption) ?_
              rotate_left
              · intro w hSw; (try dsimp only at hSw); go_simp; try (with_reducible rfl)
              rotate_left 0
              try simp only [Act.put, List.setIfInBounds_toArray, List.set_cons_zero, List.set_cons_succ]
              refine wpAnyH_take (i := 9) (oi := ⟨some 211, _, _, _, _, _⟩) (v := (.string ⟨x.toArray⟩)) rfl (by kernel_rfl) (by kernel_rfl) (by kernel_rfl) (fun _ _ _ h => h) (Or.inl ⟨by rfl, fun W' hS => by have hcv := HSW.out W' hS; go_simp⟩) (by assumption) ?_
              try simp only [Act.put, List.setIfInBounds_toArray, List.set_cons_zero, List.set_cons_succ]
              refine wpAnyH_take (i := 10) (oi := ⟨some 212, _, _, _, _, _⟩) (v := ?_) rfl (by kernel_rfl) (by kernel_rfl) (by kernel_rfl) (fun _ _ _ h => h) (Or.inl ⟨by rfl, ?_⟩) (by assumption) ?_
              rotate_left
              · intro w hSw; (try dsimp only at hSw); go_simp; try (with_reducible rfl)
              rotate_left 0
              try simp only [Act.put, List.setIfInBounds_toArray, List.set_cons_zero, List.set_cons_succ]
              refine wpAnyH_take (i := 11) (oi := ⟨some 213, _, _, _, _, _⟩) (v := ?_) rfl (by kernel_rfl) (by kernel_rfl) (by kernel_rfl) (fun _ _ _ h => h) (Or.inl ⟨by rfl, ?_⟩) (by assumption) ?_
              rotate_left
              · intro w hSw; (try dsimp only at hSw); go_simp; try (with_reducible rfl)
              rotate_left 0
              try simp only [Act.put, List.setIfInBounds_toArray, List.set_cons_zero, List.set_cons_succ]
              refine wpAnyH_done (by kernel_rfl) ?_ _
              have HXX := Lib.hid (HB97.out.trans (hbX.mono HB97.out.size))
              clear hbX
              go_wp2
              go_roundw
              · exact ⟨qq + 1, by omega, by go_num, HXX.out⟩
              · simp [intOf]
                omega
            · obtain rfl : Ln = qq := by omega
              have HXX := Lib.hid hbx
              clear hbx h4
              go_wp2
              go_roundw
              · exact ⟨k + 1, T6, g6, _, s6, sd6, by omega, rfl, by go_num, HP6.out.below HXX.out, HKP6.out⟩
              · simp [intOf]
                omega
    · obtain rfl : k = n := by omega
      obtain ⟨Ye, Ze, hje, _⟩ := hrel.1
      have HLE := Lib.hid (len_any Ye g gd s wp hje)
      have HNO := Lib.hid (at_no Ye g gd s (s.recs.length : Int) (.inr (Int.le_refl _)) wp hje)
      obtain ⟨Le, hLe⟩ : ∃ z, s.recs.length = z := ⟨_, rfl⟩
      rw [hLe] at HLE HNO
      clear hrel hje hLe
      go_wp2_with (first
        | (go_at_call 24; refine HLE.out.mono ?_; rintro e W1 ⟨rfl, rfl⟩)
        | (go_at_call 26; refine HNO.out.mono ?_; rintro e W1 ⟨rfl, rfl⟩))
      go_ret
      exact ⟨rfl, HP.out.old⟩
end Go.Proofs.YtgpbpdjamimbfaaDoor
