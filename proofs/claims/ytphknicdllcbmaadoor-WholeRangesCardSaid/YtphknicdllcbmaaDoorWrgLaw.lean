/-
  The law WholeRanges, in whatever memory in which the tables lie. No condition.
-/
import Derived.Test.YtphknicdllcbmaaDoorWrgKit
import Derived.Test.YtphknicdllcbmaaDoorPrfTruth
import Derived.Test.YtphknicdllcbmaaDoorPrfOut
import Derived.Test.YtphknicdllcbmaaDoorTreeEnt
import Derived.Test.YtphknicdllcbmaaDoorBoolArg
namespace Go.Proofs.YtphknicdllcbmaaDoor
open Go Go.RowKit Go.Shelf TreeM

section
variable {ops : Array Oper} {rest : List Oper} {o : Oper} {a : Act} {w : World} {Q : Exit → Act → World → Prop}
theorem wpList_buildIdC (hw : Region.wanted o (yielded ops a.tmps) = true) (x : Operand) (ho : o.op = .buildSlice 22 1 #[(0, x)]) (f : D) (C : Array Value) (hC : (arr 32 fun i => bv (f i)) = C) (hx : a.eval x = .agg C)
    (h : wpList Tryd.prog ops Q rest (a.put o.dst (.slice (some ⟨w.heap.size, 0, none⟩) 1 1)) (w.alloc (.cells C 30))) : wpList Tryd.prog ops Q (o :: rest) a w := by
  subst hC
  exact wpList_buildIdG hw x ho f hx h
end
theorem neq_same (f : D) (w : World) : (binOp .neq 30 (.agg (arr 32 fun i => bv (f i))) (.agg (arr 32 fun i => bv (f i)))).run Tryd.prog w = .ok (.bool false) w := by
  have := neq_id f f w
  rw [beq_self_eq_true] at this
  exact this
def lvs (ps : List (List UInt8)) : List D := ps.map leafD
/-- Between two rounds. -/
def WRel (w : World) (ps : List (List UInt8)) (k : Nat) (r vL vR : Value) (wr : World) : Prop :=
  ∃ g Z AL cL AR cR, r = .pointer (some ⟨g, 0, none⟩) ∧ vL = .slice AL k cL ∧ vR = .slice AR k cR ∧ (∀ x ∈ ps.take k, x.length ≤ 200) ∧ WR w (lvs (ps.take k)) (lvs (ps.take k)) (rootsW (lvs (ps.take k))) g Z vL vR wr
set_option maxRecDepth 100000 in
set_option maxHeartbeats 60000000 in
theorem wranges_law (A : Option Addr) (c : Nat) (ps : List (List UInt8)) (A2 : Option Addr) (c2 : Nat) (ks : List Bool) (w : World) (hT : Tables w) (hm : ps.length ≤ 140737488351232) (hr : RdP w (fun b => b < w.heap.size) A ps) (hm2 : ks.length ≤ 140737488351232) (hr2 : RdO w (fun b => b < w.heap.size) A2 ks) :
    Calls Tryd.prog 9 #[.slice A ps.length c, .slice A2 ks.length c2] w fun e w' => e = .returned (.bool true) ∧ Below w.heap.size w w' := by
  have HT := Lib.hid hT
  have HR := Lib.hid hr
  have HR2 := Lib.hid hr2
  obtain ⟨n, hn⟩ : ∃ n, ps.length = n := ⟨_, rfl⟩
  obtain ⟨m, hm0⟩ : ∃ n, ks.length = n := ⟨_, rfl⟩
  rw [hn] at hm
  rw [hm0] at hm2
  rw [hn, hm0]
  have HN := Lib.hid (And.intro hn hm0)
  have HM := Lib.hid (And.intro hm hm2)
  clear hT hr hr2 hn hm0 hm hm2
  have HOF : Hid (∀ W, Below w.heap.size w W → Calls Tryd.prog 12 #[.slice none 0 0] W fun e w' => ∃ g Z, e = .returned (.pointer (some ⟨g, 0, none⟩)) ∧ TreeAt w' Z g [] ∧ Below W.heap.size W w' ∧ ∀ i, Z i → W.heap.size ≤ i) := Lib.hid fun W hb => treeOf_any (.slice none 0 0) [] W (HT.out.below hb) (RdI.nil _ _ _ _) (by simp)
  have HRT : Hid (∀ ts g Z W, Below w.heap.size w W → TreeAt W Z g ts → Calls Tryd.prog 14 #[.pointer (some ⟨g, 0, none⟩)] W fun e w' => e = .returned (.agg (arr 32 fun i => bv (mth ts i))) ∧ Below W.heap.size W w') := Lib.hid fun ts g Z W hb h => callsIn_wide.1 (treeRoot_any Z g ts W (HT.out.below hb) h)
  have HAP : Hid (∀ ts l v g Z W (ok : Nat → Prop), TreeAt W Z g ts → (∀ i, Z i → w.heap.size ≤ i) → Below w.heap.size w W → RdI W ok v l → (∀ b, ok b → b < W.heap.size ∧ ¬ Z b) → ts.length + l.length ≤ 1099511627776 → Calls Tryd.prog 13 #[.pointer (some ⟨g, 0, none⟩), v] W fun e w' => e = .returned (.int .i64 0) ∧ TLeft Z g (ts ++ l) W w') := Lib.hid fun ts l v g Z W ok h hz hb hr hok hn => treeAppend_any w HT.out Z g ts v l W h hz hb ok hr hok hn
  have HT0 : Hid (∀ W, Below w.heap.size w W → Calls Tryd.prog 20 #[.slice none 0 0] W fun e w' => e = .returned (.agg (arr 32 fun i => bv (mth [] i))) ∧ Below W.heap.size W w') := Lib.hid fun W hb => troot_any (.slice none 0 0) [] W (HT.out.below hb) (RdI.nil _ _ _ _) (by simp)
  have hB1 : Tryd.prog.built 30 [(0, .int .u8 1)] = some (arr 32 fun i => bv (d1 i)) := by kernel_rfl
  obtain ⟨a1, ha1⟩ : ∃ z, (arr 32 fun i => bv (d1 i)) = z := ⟨_, rfl⟩
  have HA1 := Lib.hid ha1
  have ne0 := neq_same (mth [])
  have ne1 := neq_same d1
  have HR00 := Lib.hid (fun g Z W hb h => HRT.out [] g Z W hb h)
  have HR11 := Lib.hid (fun g Z W hb h => HRT.out [d1] g Z W hb h)
  rw [mth_one] at HR11
  rw [ha1] at hB1 ne1 HR11
  obtain ⟨m0, hm0⟩ : ∃ z, (arr 32 fun i => bv (mth [] i)) = z := ⟨_, rfl⟩
  rw [hm0] at HR00 HT0 ne0
  have HAP1 : Hid (∀ g Z W, TreeAt W Z g [] → (∀ i, Z i → w.heap.size ≤ i) → Below w.heap.size w W → Calls Tryd.prog 13 #[.pointer (some ⟨g, 0, none⟩), .slice (some ⟨W.heap.size, 0, none⟩) 1 1] (W.alloc (.cells a1 30)) fun e w' => e = .returned (.int .i64 0) ∧ ∃ Z', TreeAt w' Z' g [d1] ∧ Below w.heap.size w w') := Lib.hid fun g Z W h hz hb => by
    have hb' : Below W.heap.size W (W.alloc (.cells a1 30)) := (Below.refl _ _).alloc (Nat.le_refl _) _
    have hl : ∀ i, Z i → i < W.heap.size := RangeAt.lt h
    refine (HAP.out [] [d1] _ g Z _ _ (RangeAt.below h hb') hz (hb.trans (hb'.mono hb.size)) (rd_one (f := d1) (by rw [HA1.out])) (fun b e => ⟨by rw [e]; simp, fun hzb => by have := hl b hzb; omega⟩) (by simp)).mono ?_
    rintro e w' ⟨rfl, Z', h1, h2, h3⟩
    exact ⟨rfl, Z', h1, below_turnW (hb.trans (hb'.mono hb.size)) (Nat.le_refl _) h2 hz⟩
  clear ha1 hm0
  go_enter Tryd.func9, Tryd.ntmps9
  go_upto_region 2 with (go_at_call 12; refine (HOF.out _ (Below.refl _ _)).mono ?_; rintro e W1 ⟨g0, Z0, rfl, ht, hb, hz⟩; have HA_1 := Lib.hid ht; have HB_1 := Lib.hid hb; have HZ_1 := Lib.hid hz; clear ht hb hz)
  go_upto_region 4 with (first
    | (guard_target = wpList _ _ _ (Oper.mk _ (.build _ #[(0, .const (.int .u8 1))]) _ _ _ _ :: _) _ _; go_must (refine wpList_buildTo (by rfl) 30 #[(0, .const (.int .u8 1))] rfl a1 (by simp only [List.map_toArray, List.map_cons, List.map_nil]; exact hB1) ?_))
    | (guard_target = wpList _ _ _ (Oper.mk _ (.buildSlice 22 _ _) _ _ _ _ :: _) _ _; go_must (refine wpList_buildIdC (by rfl) _ rfl d1 a1 HA1.out rfl ?_))
    | (go_at_call 14; refine (HR11.out g0 Z4 _ HB_4.out HA_4.out).mono ?_; rintro e W5 ⟨rfl, hb5⟩; have HB_5 := Lib.hid (HB_4.out.trans (hb5.mono HB_4.out.size)); clear hb5)
    | (go_at_call 13; refine (HAP1.out g0 Z0 _ HA_3.out HZ_1.out HB_3.out).mono ?_; rintro e W4 ⟨rfl, Z4, h1, h2⟩; have HA_4 := Lib.hid h1; have HB_4 := Lib.hid h2; clear h1 h2)
    | (go_at_call 20; refine (HT0.out _ HB_2.out).mono ?_; rintro e W3 ⟨rfl, hb3⟩; have HB_3 := Lib.hid (HB_2.out.trans (hb3.mono HB_2.out.size)); have HA_3 := Lib.hid (RangeAt.below HA_2.out hb3); clear hb3)
    | (go_at_call 14; refine (HR00.out g0 Z0 _ HB_1.out HA_1.out).mono ?_; rintro e W2 ⟨rfl, hb2⟩; have HB_2 := Lib.hid (HB_1.out.trans (hb2.mono HB_1.out.size)); have HA_2 := Lib.hid (RangeAt.below HA_1.out hb2); clear hb2))
  clear hB1 ne0 ne1 HAP1 HR00 HR11
  by_cases h20 : 20 < n
  · have e4 : decide ((n : Int) > 20) = true := decide_eq_true (by omega)
    clear h20
    go_wp2_with fail
    go_ret
    exact ⟨rfl, HB_5.out⟩
  · have e4 : decide ((n : Int) > 20) = false := decide_eq_false (by omega)
    have hn20 : n ≤ 20 := by omega
    clear h20
    go_upto_region 7 with (go_at_call 12; refine (HOF.out _ HB_5.out).mono ?_; rintro e W6 ⟨g6, Z6, rfl, ht, hb, hz⟩; have HST : Hid (WRel w ps 0 (.pointer (some ⟨g6, 0, none⟩)) (.slice none 0 0) (.slice none 0 0) W6) := Lib.hid ⟨g6, Z6, none, 0, none, 0, rfl, rfl, rfl, by simp, wr_start ht (fun i hi => Nat.le_trans HB_5.out.size (hz i hi)) (HB_5.out.trans (hb.mono HB_5.out.size))⟩; clear ht hb hz)
    clear HOF HT0 e4
    go_wp2_with fail
    go_loopw [5, 6, 7, 47] (fun r vL vR i wr => ∃ k : Nat, k ≤ n ∧ i = .int .i64 (k : Int) ∧ WRel w ps k r vL vR wr) (fun _ _ _ i _ => n - (intOf i).toNat)
    case atStart => exact ⟨0, Nat.zero_le _, rfl, HST.out⟩
    case round =>
      clear HST
      obtain ⟨k, hk, rfl, g, Z, AL, cL, AR, cR, rfl, rfl, rfl, hall, hst⟩ := hrel
      obtain ⟨wk, hwk⟩ : ∃ z, z = wr := ⟨_, rfl⟩
      subst hwk
      have HST := Lib.hid hst
      have HALL := Lib.hid hall
      clear hst hall
      by_cases hkn : k < n
      · have hki : (k : Int) < (n : Int) := by omega
        have hk20 : k < 20 := by omega
        obtain ⟨ad, vx, rfl, hok, hcell, hrd⟩ := HR.out k (by rw [HN.out.1]; exact hkn)
        obtain ⟨x0, hx0⟩ : ∃ z, ps.getD k [] = z := ⟨_, rfl⟩
        rw [hx0] at hrd
        have htk : ps.take (k + 1) = ps.take k ++ [x0] := by
          have hl : k < ps.length := by rw [HN.out.1]; exact hkn
          rw [List.take_succ_eq_append_getElem hl, ← hx0, List.getD_eq_getElem?_getD, List.getElem?_eq_getElem hl]
          rfl
        have HTK := Lib.hid htk
        obtain ⟨Ax, cx, rfl, _⟩ := id hrd
        have hcw := (HST.out.old.cell (p := ad.add k) (by rw [block_add]; exact hok)).trans hcell
        obtain ⟨xn, hxn⟩ : ∃ z, x0.length = z := ⟨_, rfl⟩
        have HXN := Lib.hid hxn
        rw [hxn] at hrd hcw
        have HRD := Lib.hid hrd
        clear hcell hok hrd hx0 htk hxn
        by_cases h200 : 200 < xn
        · have e5 : decide ((xn : Int) > 200) = true := decide_eq_true (by omega)
          clear h200
          go_wp2_with fail
          go_ret
          exact ⟨rfl, HST.out.old⟩
        · have e5 : decide ((xn : Int) > 200) = false := decide_eq_false (by omega)
          have HALL2 : Hid (∀ x ∈ ps.take (k + 1), x.length ≤ 200) := Lib.hid fun x hx => by
            rw [HTK.out] at hx
            rcases List.mem_append.1 hx with hx | hx
            · exact HALL.out x hx
            · rw [List.mem_singleton.1 hx, HXN.out]
              omega
          obtain ⟨ls, hls⟩ : ∃ z, lvs (ps.take k) = z := ⟨_, rfl⟩
          have hlsn : ls.length = k := by rw [← hls]; unfold lvs; rw [List.length_map, List.length_take, HN.out.1]; omega
          have hls2 : lvs (ps.take (k + 1)) = ls ++ [leafD x0] := by rw [HTK.out, ← hls]; unfold lvs; rw [List.map_append]; rfl
          have HST2 : Hid (WR w ls ls (rootsW ls) g Z (.slice AL k cL) (.slice AR k cR) wk) := Lib.hid (by rw [← hls]; exact HST.out)
          have HLN := Lib.hid hlsn
          have HL2 := Lib.hid hls2
          have HEN : Hid (Calls Tryd.prog 23 #[.slice (some ⟨wk.heap.size, 0, none⟩) 1 1] (wk.alloc (.cells #[.slice Ax xn cx] 47)) fun e w' => ∃ gE, e = .returned (.slice (some ⟨gE, 0, none⟩) 1 1) ∧ wk.heap.size ≤ gE ∧ RdI w' (fun b => b = gE) (.slice (some ⟨gE, 0, none⟩) 1 1) [leafD x0] ∧ Below wk.heap.size wk w' ∧ gE < w'.heap.size) := Lib.hid (by
            have hb0 : Below wk.heap.size wk (wk.alloc (.cells #[.slice Ax xn cx] 47)) := (Below.refl _ _).alloc (Nat.le_refl _) _
            have hbw := HST.out.old.trans (hb0.mono HST.out.old.size)
            refine (entries_any (some ⟨wk.heap.size, 0, none⟩) 1 1 [x0] rfl (by omega) _ (HT.out.below hbw) (fun j hj => ?_)).mono ?_
            · obtain rfl : j = 0 := by simp at hj; omega
              exact ⟨_, _, rfl, by simp, by rw [add_zero_block, (Blk.newAt wk _ rfl rfl : Blk (wk.alloc _) wk.heap.size 47 #[.slice Ax xn cx]).cell]; rfl, (HRD.out.kept fun i y hi h => (hbw.cell (p := i) hi).trans h).mono fun b hb => Nat.lt_of_lt_of_le hb hbw.size⟩
            · rintro e w' ⟨gE, rfl, q1, q2, q3, q4⟩
              exact ⟨gE, rfl, Nat.le_trans hb0.size q1, q2, hb0.trans (q3.mono hb0.size), q4⟩)
          clear hls hlsn hls2 HST
          go_upto_region 15 with (go_at_call 23; refine HEN.out.mono ?_; rintro e W1 ⟨gE, rfl, q1, q2, q3, q4⟩; have HS1 := Lib.hid (HST2.out.below q3); have HE1 := Lib.hid (And.intro q1 (And.intro q2 q4)); clear q1 q2 q3 q4)
          clear HEN
          obtain ⟨v2, W2, hrun, ho2, hg2, hv2⟩ := app_idsO HS1.out.old.size HS1.out.lf HE1.out.2.1 (by rw [HLN.out]; omega)
          have hs2 := HS1.out.app rfl ho2 hg2 hv2
          obtain ⟨AL2, cL2, rfl, _⟩ := own_len hs2.lf
          rw [show (ls ++ [leafD x0]).length = k + 1 from by rw [List.length_append, HLN.out]; rfl] at hs2 hrun
          have hE2 : RdI W2 (fun b => b = gE) (.slice (some ⟨gE, 0, none⟩) 1 1) [leafD x0] := HE1.out.2.1.kept fun i y hi h => by
            have t : Turn (fun i => (Value.slice AL k cL).ownBlock = some i) W1 W2 := (Turn.refl _ _).grown hg2 (fun k hk _ => hk)
            exact t.cell h (fun he => by have := (HST2.out.lf.lt i.block he).2; have := HE1.out.1; omega)
          have hgz : gE < W2.heap.size ∧ ¬ Z gE := ⟨Nat.lt_of_lt_of_le HE1.out.2.2 (by have := hg2.size; exact this), fun hz => by have := HST2.out.zlt gE hz; have := HE1.out.1; omega⟩
          have HAP2 := Lib.hid (HAP.out ls [leafD x0] _ g Z W2 _ hs2.tree hs2.zb hs2.old hE2 (fun b e => by rw [e]; exact hgz) (by rw [HLN.out]; simp; omega))
          have HS2 := Lib.hid hs2
          have HRUN := Lib.hid hrun
          clear ho2 hg2 hv2 hs2 hE2 hgz hrun
          go_upto_region 18 with (first
            | (at_builtin; refine wpList_append_run rfl (.tmp 58) (.tmp 59) _ _ rfl _ _ rfl rfl _ _ HRUN.out ?_)
            | (go_at_call 13; refine HAP2.out.mono ?_; rintro e W3 ⟨rfl, hl3⟩; obtain ⟨Z3, hs3⟩ := HS2.out.put hl3; have HS3 := Lib.hid hs3; clear hl3 hs3))
          clear HAP2 HRUN HS1 HE1
          obtain ⟨L, hL⟩ : ∃ z, ls ++ [leafD x0] = z := ⟨_, rfl⟩
          rw [hL] at HS3 HL2
          have HLL : Hid (L.length = k + 1 ∧ rootsW L = rootsW ls ++ [mth L]) := Lib.hid (by
            rw [← hL]
            exact ⟨by rw [List.length_append, HLN.out]; rfl, rootsW_snoc ls (leafD x0)⟩)
          clear hL
          obtain ⟨n1, hn1⟩ : ∃ z, k + 1 = z := ⟨_, rfl⟩
          have HN1 := Lib.hid hn1
          rw [hn1] at HS3 HLL ⊢
          have hn1b : n1 ≤ 20 := by omega
          have hn1c : 0 < n1 := by omega
          clear hn1
          go_cut [74] from 65 to 74 (fun s74 wx => (∃ b : Bool, s74 = .bool b) ∧ wx = W3)
          case first =>
            by_cases hkm : k < m
            · have hkmi : (k : Int) < (m : Int) := by omega
              obtain ⟨ad2, rfl, hok2, hc2⟩ := HR2.out k (by rw [HN.out.2]; exact hkm)
              have hcw2 := (HS3.out.old.cell (p := ad2.add k) (by rw [block_add]; exact hok2)).trans hc2
              clear hc2
              go_wp2_with fail
              go_meet
              exact ⟨⟨_, rfl⟩, rfl⟩
            · have hkmi : ¬ (k : Int) < (m : Int) := by omega
              go_wp2_with fail
              go_meet
              exact ⟨⟨_, rfl⟩, rfl⟩
          case rest =>
            obtain ⟨⟨b, rfl⟩, hw9⟩ := hcut
            subst hw9
            go_upto_if 74 with fail
            go_cut [5, 11, 12] from 75 to 89 (fun r s11 s12 wx => ∃ g4 Z4, r = .pointer (some ⟨g4, 0, none⟩) ∧ WR w L L (rootsW ls) g4 Z4 (.slice AL2 n1 cL2) (.slice AR k cR) wx)
            case first =>
              cases b with
              | true =>
                have HSZ : Hid (Calls Tryd.prog 16 #[.pointer (some ⟨g, 0, none⟩)] wc fun e w' => e = .returned (.int .i64 (n1 : Int)) ∧ w' = wc) := Lib.hid (by
                  have := treeSize_any Z3 g L wc HS3.out.tree
                  rw [HLL.out.1] at this
                  exact this)
                have HTP := Lib.hid (tops_rd Z3 g L wc HS3.out.tree)
                have HRS : Hid (∀ v W, RdI W (fun b => b < W.heap.size) v (tops L) → Calls Tryd.prog 21 #[.int .i64 (n1 : Int), v] W fun e w' => ∃ g Z, e = .returned (.tuple #[.pointer (some ⟨g, 0, none⟩), .int .i64 0]) ∧ TreeAt w' Z g L ∧ (∀ i, Z i → W.heap.size ≤ i) ∧ Below W.heap.size W w') := Lib.hid fun v W hr => by
                  have := restore_tree L (by rw [HLL.out.1]; omega) v W hr
                  rw [HLL.out.1] at this
                  exact this
                go_wp2_with (first
                  | (go_at_call 16; refine HSZ.out.mono ?_; rintro e W4 ⟨rfl, rfl⟩)
                  | (go_at_call 18; refine HTP.out.mono ?_; rintro e W5 ⟨A5, c5, rfl, hr5, hb5⟩; have HR5 := Lib.hid hr5; have HS5 := Lib.hid (HS3.out.below hb5); clear hr5 hb5)
                  | (go_at_call 21; refine (HRS.out _ _ HR5.out).mono ?_; rintro e W6 ⟨g6, Z6, rfl, ht6, hz6, hb6⟩; have HS6 := Lib.hid (HS5.out.fresh ht6 hz6 hb6); clear ht6 hz6 hb6))
                go_meet
                exact ⟨g6, Z6, rfl, HS6.out⟩
              | false =>
                go_wp2_with fail
                go_meet
                exact ⟨g, Z3, rfl, HS3.out⟩
            case rest =>
              obtain ⟨g4, Z4, rfl, hs4⟩ := hcut
              have HS4 := Lib.hid hs4
              clear hs4
              obtain ⟨mL, hmL⟩ : ∃ z, (arr 32 fun i => bv (mth L i)) = z := ⟨_, rfl⟩
              have HML := Lib.hid hmL
              have HRX0 : Hid (∀ W, WR w L L (rootsW ls) g4 Z4 (.slice AL2 n1 cL2) (.slice AR k cR) W → Calls Tryd.prog 14 #[.pointer (some ⟨g4, 0, none⟩)] W fun e w' => e = .returned (.agg mL) ∧ Below W.heap.size W w') := Lib.hid fun W h => by rw [← hmL]; exact HRT.out L g4 Z4 W h.old h.tree
              have HAPR : Hid (∀ W, WR w L L (rootsW ls) g4 Z4 (.slice AL2 n1 cL2) (.slice AR k cR) W → ∃ AR' cR' W7, (Builtin.append_ #[22, 22] 22 #[.slice AR k cR, .slice (some ⟨W.heap.size, 0, none⟩) 1 1]).run Tryd.prog (W.alloc (.cells mL 30)) = .ok (.slice AR' n1 cR') W7 ∧ WR w L L (rootsW L) g4 Z4 (.slice AL2 n1 cL2) (.slice AR' n1 cR') W7) := Lib.hid fun W h => by
                have hb : Below W.heap.size W (W.alloc (.cells mL 30)) := (Below.refl _ _).alloc (Nat.le_refl _) _
                have h' := h.below hb
                obtain ⟨v', W7, q1, q2, q3, q4⟩ := app_idsO (h'.old.size) h'.rt (rd_one (f := mth L) (by rw [hmL])) (by rw [rootsW_length]; have := HLN.out; omega)
                have q2' : W7.ownsRow w.heap.size 30 32 v' ((rootsW ls).length + 1) (idCells (rootsW ls) ++ idc (mth L)) := by rw [← idCells_one]; exact q2
                have hz := h'.appR q2' q3 q4
                rw [← HLL.out.2] at hz
                obtain ⟨AR', cR', rfl, _⟩ := own_len hz.rt
                rw [rootsW_length, HLL.out.1] at hz q1
                exact ⟨AR', cR', W7, q1, hz⟩
              go_upto_region 24 with (first
                | (go_at_call 14; refine (HRX0.out _ HS4.out).mono ?_; rintro e W5 ⟨rfl, hb5⟩; have HS5 := Lib.hid (HS4.out.below hb5); clear hb5)
                | (guard_target = wpList _ _ _ (Oper.mk _ (.buildSlice 22 _ _) _ _ _ _ :: _) _ _; go_must (refine wpList_buildIdC (by rfl) _ rfl (mth L) mL HML.out rfl ?_))
                | (at_builtin; obtain ⟨AR7, cR7, W7, hrun, hs7⟩ := HAPR.out _ HS5.out; have HS7 := Lib.hid hs7; refine wpList_append_run rfl (.tmp 90) (.tmp 93) _ _ rfl _ _ rfl rfl _ _ hrun ?_; clear hrun hs7))
              clear HRX0 HAPR HS4 HML hmL
              have HRXW : Hid (∀ W, Below W7.heap.size W7 W → Calls Tryd.prog 14 #[.pointer (some ⟨g4, 0, none⟩)] W fun e w' => e = .returned (.agg (arr 32 fun i => bv (mth L i))) ∧ Below W.heap.size W w') := Lib.hid fun W hb => HRT.out L g4 Z4 W (HS7.out.below hb).old (HS7.out.below hb).tree
              have HTW : Hid (∀ W, Below W7.heap.size W7 W → Tables W) := Lib.hid fun W hb => HT.out.below (HS7.out.below hb).old
              have HLW : Hid (∀ W, Below W7.heap.size W7 W → RdI W (fun b => b < W.heap.size) (.slice AL2 n1 cL2) L) := Lib.hid fun W hb => (HS7.out.below hb).leaves (by rw [HLL.out.1]; omega)
              have HRW : Hid (∀ W, Below W7.heap.size W7 W → RdI W (fun b => b < W.heap.size) (.slice AR7 n1 cR7) (rootsW L)) := Lib.hid fun W hb => (HS7.out.below hb).roots (by rw [rootsW_length, HLL.out.1]; omega)
              obtain ⟨adL, rfl, _, _⟩ := (HLW.out W7 (Below.refl _ _)).at_ (k := 0) hn1c
              obtain ⟨adR, rfl, _, _⟩ := (HRW.out W7 (Below.refl _ _)).at_ (k := 0) hn1c
              go_wp2_with fail
              go_loopw [97] (fun i wr => ∃ q : Nat, q ≤ n1 ∧ i = .int .i64 (q : Int) ∧ Below W7.heap.size W7 wr) (fun i _ => n1 - (intOf i).toNat)
              case atStart => exact ⟨0, Nat.zero_le _, rfl, Below.refl _ _⟩
              case round =>
                obtain ⟨q, hq, rfl, hbq⟩ := hrel
                obtain ⟨wq, hwq⟩ : ∃ z, z = wr := ⟨_, rfl⟩
                subst hwq
                have HQ := Lib.hid hbq
                clear hbq
                by_cases hqn : q < n1
                · have hqi : (q : Int) < (n1 : Int) := by omega
                  have hq0 : (0 : Int) ≤ (q : Int) := by omega
                  have hq20 : (q : Int) ≤ 20 := by omega
                  obtain ⟨x, hx⟩ : ∃ x, L.getD q dz = x := ⟨_, rfl⟩
                  obtain ⟨P1, hP1⟩ : ∃ P1, (wayP q 0 n1).reverse.map (rtP L) = P1 := ⟨_, rfl⟩
                  obtain ⟨N1, hN1⟩ : ∃ N1, (wayP q 0 n1).length = N1 := ⟨_, rfl⟩
                  have HIN : Hid (Calls Tryd.prog 26 #[.slice (some adL) n1 cL2, .int .i64 (q : Int)] wq fun e w' => ∃ g1, e = .returned (.tuple #[.slice (some ⟨g1, 0, none⟩) N1 N1, .int .i64 0]) ∧ RdI w' (fun b => b < w'.heap.size) (.slice (some ⟨g1, 0, none⟩) N1 N1) P1 ∧ Below wq.heap.size wq w') := Lib.hid ((inclusion_in _ L q wq (HTW.out _ HQ.out) (HLW.out _ HQ.out) (by rw [HLL.out.1]; omega) (by rw [HLL.out.1]; exact hqn)).mono (by
                    rintro e w' ⟨g1, N, rfl, h1, h2, h3⟩
                    rw [HLL.out.1] at h1 h2
                    rw [hP1] at h2
                    rw [hN1] at h1
                    subst h1
                    exact ⟨g1, rfl, h2.mono fun b hb => hb.2, h3⟩))
                  have HCI' : Hid (∀ g W, Below W7.heap.size W7 W → RdI W (fun b => b < W.heap.size) (.slice (some ⟨g, 0, none⟩) N1 N1) P1 → Calls Tryd.prog 28 #[.agg (arr 32 fun i => bv (x i)), .int .i64 (q : Int), .int .i64 (n1 : Int), .slice (some ⟨g, 0, none⟩) N1 N1, .agg (arr 32 fun i => bv (mth L i))] W fun e w' => e = .returned (.int .i64 0) ∧ Below W.heap.size W w') := Lib.hid fun g W hb' hr' => by
                    have := cinc_any x (mth L) q n1 _ P1 W (HTW.out _ hb') hr'
                    have h0 := cinc_true L q (by rw [HLL.out.1]; exact hqn) (by rw [HLL.out.1]; omega)
                    rw [HLL.out.1, hx, hP1] at h0
                    rw [h0] at this
                    exact this
                  go_upto_region 28 with (go_at_call 26; refine HIN.out.mono ?_; rintro e W8 ⟨g1, rfl, hi8, hb8⟩; have HI8 := Lib.hid hi8; have HB8 := Lib.hid hb8; clear hi8 hb8)
                  have HQ8 := Lib.hid (HQ.out.trans (HB8.out.mono HQ.out.size))
                  have HLK : Hid (∀ W, Below W8.heap.size W8 W → ∀ i, i < 32 → W.cell? ((adL.add (q * 32)).add i) = some (bv (x i))) := Lib.hid fun W hb' i hi => by
                    obtain ⟨ad', e, _, hc⟩ := (HLW.out W (HQ8.out.trans (hb'.mono HQ8.out.size))).at_ hqn
                    injection e with e
                    subst e
                    have := hc i hi
                    rw [hx, Nat.mul_comm 32 q] at this
                    exact this
                  have HRX := Lib.hid fun W (hb' : Below W8.heap.size W8 W) => HRXW.out W (HQ8.out.trans (hb'.mono HQ8.out.size))
                  have HCI := Lib.hid fun W (hb' : Below W8.heap.size W8 W) => HCI'.out g1 W (HQ8.out.trans (hb'.mono HQ8.out.size)) (HI8.out.below hb')
                  have hbX : Below W8.heap.size W8 W8.drew := (Below.refl _ _).drew
                  clear HCI' HIN HI8 HQ8 hx hP1 hN1
                  refine wp_region_held_drew (S := fun W' => Below W8.heap.size W8 W') (by kernel_rfl) ?_ (fun hHeld => ?_)
                  · exact hbX
                  refine wpAnyH_take (i := 0) (oi := ⟨some 106, _, _, _, _, _⟩) (v := ?_) rfl (by kernel_rfl) (by kernel_rfl) (by kernel_rfl) (fun _ _ _ h => h) (Or.inl ⟨by rfl, ?_⟩) (by assumption) ?_
                  rotate_left
                  · intro w hSw; (try dsimp only at hSw); go_simp; try (with_reducible rfl)
                  rotate_left 0
                  try simp only [Act.put, List.setIfInBounds_toArray, List.set_cons_zero, List.set_cons_succ]
                  refine wpAnyH_take (i := 1) (oi := ⟨some 107, _, _, _, _, _⟩) (v := ?_) rfl (by kernel_rfl) (by kernel_rfl) (by kernel_rfl) (fun _ _ _ h => h) (Or.inl ⟨by rfl, ?_⟩) (by assumption) ?_
                  rotate_left
                  · intro w hSw; (try dsimp only at hSw); go_simp; try (with_reducible rfl)
                  rotate_left 0
                  try simp only [Act.put, List.setIfInBounds_toArray, List.set_cons_zero, List.set_cons_succ]
                  refine wpAnyH_take (i := 2) (oi := ⟨some 108, _, _, _, _, _⟩) (v := ?_) rfl (by kernel_rfl) (by kernel_rfl) (by kernel_rfl) (fun _ _ _ h => h) (Or.inl ⟨by rfl, ?_⟩) (by assumption) ?_
                  rotate_left
                  · intro w hSw; (try dsimp only at hSw); go_simp; try (with_reducible rfl)
                  rotate_left 0
                  try simp only [Act.put, List.setIfInBounds_toArray, List.set_cons_zero, List.set_cons_succ]
                  refine wpAnyH_take (i := 3) (oi := ⟨some 109, _, _, _, _, _⟩) (v := ?_) rfl (by kernel_rfl) (by kernel_rfl) (by kernel_rfl) (fun _ _ _ h => h) (Or.inl ⟨by rfl, ?_⟩) (by assumption) ?_
                  rotate_left
                  · intro w hSw; (try dsimp only at hSw); go_simp; try (with_reducible rfl)
                  rotate_left 0
                  try simp only [Act.put, List.setIfInBounds_toArray, List.set_cons_zero, List.set_cons_succ]
                  refine wpAnyH_take (i := 4) (oi := ⟨some 110, _, _, _, _, _⟩) (v := ?_) rfl (by kernel_rfl) (by kernel_rfl) (by kernel_rfl) (fun _ _ _ h => h) (Or.inl ⟨by rfl, ?_⟩) (by assumption) ?_
                  rotate_left
                  · intro w hSw; (try dsimp only at hSw); go_simp; try (with_reducible rfl)
                  rotate_left 0
                  try simp only [Act.put, List.setIfInBounds_toArray, List.set_cons_zero, List.set_cons_succ]
                  refine wpAnyH_take (i := 5) (oi := ⟨some 111, _, _, _, _, _⟩) (v := ?_) rfl (by kernel_rfl) (by kernel_rfl) (by kernel_rfl) (fun _ _ _ h => h) (Or.inl ⟨by rfl, ?_⟩) (by assumption) ?_
                  rotate_left
                  · intro w hSw; (try dsimp only at hSw); go_simp; try (with_reducible rfl)
                  rotate_left 0
                  try simp only [Act.put, List.setIfInBounds_toArray, List.set_cons_zero, List.set_cons_succ]
                  refine wpAnyH_take (i := 6) (oi := ⟨some 112, _, _, _, _, _⟩) (v := (.agg (arr 32 fun i => bv (x i)))) rfl (by kernel_rfl) (by kernel_rfl) (by kernel_rfl) (fun _ _ _ h => h) (yieldsIf_load_at (by rfl) 30 _ rfl (adL.add (q * 32)) rfl 32 (fun i => bv (x i)) 5 (fun W hS => HLK.out W hS) Tryd.underlying30 (by kernel_rfl)) (by assumption) ?_
                  try simp only [Act.put, List.setIfInBounds_toArray, List.set_cons_zero, List.set_cons_succ]
                  refine wpAnyH_take (i := 7) (oi := ⟨some 113, _, _, _, _, _⟩) (v := ?_) rfl (by kernel_rfl) (by kernel_rfl) (by kernel_rfl) (fun _ _ _ h => h) (Or.inl ⟨by rfl, ?_⟩) (by assumption) ?_
                  rotate_left
                  · intro w hSw; (try dsimp only at hSw); go_simp; try (with_reducible rfl)
                  rotate_left 0
                  try simp only [Act.put, List.setIfInBounds_toArray, List.set_cons_zero, List.set_cons_succ]
                  refine wpAnyH_take (i := 8) (oi := ⟨some 114, _, _, _, _, _⟩) (v := ?_) rfl (by kernel_rfl) (by kernel_rfl) (by kernel_rfl) (fun _ _ _ h => h) (Or.inl ⟨by rfl, ?_⟩) (by assumption) ?_
                  rotate_left
                  · intro w hSw; (try dsimp only at hSw); go_simp; try (with_reducible rfl)
                  rotate_left 0
                  try simp only [Act.put, List.setIfInBounds_toArray, List.set_cons_zero, List.set_cons_succ]
                  refine wpAnyH_take (i := 9) (oi := ⟨some 115, _, _, _, _, _⟩) (v := ?_) rfl (by kernel_rfl) (by kernel_rfl) (by kernel_rfl) (fun _ _ _ h => h) (Or.inl ⟨by rfl, ?_⟩) (by assumption) ?_
                  rotate_left
                  · intro w hSw; (try dsimp only at hSw); go_simp; try (with_reducible rfl)
                  rotate_left 0
                  try simp only [Act.put, List.setIfInBounds_toArray, List.set_cons_zero, List.set_cons_succ]
                  refine wpAnyH_take (i := 10) (oi := ⟨some 116, _, _, _, _, _⟩) (v := ?_) rfl (by kernel_rfl) (by kernel_rfl) (by kernel_rfl) (fun _ _ _ h => h) (Or.inl ⟨by rfl, ?_⟩) (by assumption) ?_
                  rotate_left
                  · intro w hSw; (try dsimp only at hSw); go_simp; try (with_reducible rfl)
                  rotate_left 0
                  try simp only [Act.put, List.setIfInBounds_toArray, List.set_cons_zero, List.set_cons_succ]
                  refine wpAnyH_take (i := 11) (oi := ⟨some 117, _, _, _, _, _⟩) (v := ?_) rfl (by kernel_rfl) (by kernel_rfl) (by kernel_rfl) (fun _ _ _ h => h) (Or.inl ⟨by rfl, ?_⟩) (by assumption) ?_
                  rotate_left
                  · intro w hSw; (try dsimp only at hSw); go_simp; try (with_reducible rfl)
                  rotate_left 0
                  try simp only [Act.put, List.setIfInBounds_toArray, List.set_cons_zero, List.set_cons_succ]
                  refine wpAnyH_ready (rs := [12]) (by kernel_rfl) (by simp) ?_
                  refine (AllReadyH.cons (o := ⟨some 118, _, _, _, _, _⟩) rfl (fun K hK => ?_) AllReadyH.nil)
                  (try rw [if_pos (by rfl)])
                  go_simp
                  refine (HRX.out _ hbX).mono ?_
                  rintro e W9 ⟨rfl, hb9⟩
                  replace hbX := hbX.trans (hb9.mono hbX.size)
                  try dsimp only
                  refine hK.out _ _ (hbX) (fun hHeld => ?_)
                  clear hK K
                  try simp only [Act.put, List.setIfInBounds_toArray, List.set_cons_zero, List.set_cons_succ]
                  refine wpAnyH_ready (rs := [13]) (by kernel_rfl) (by simp) ?_
                  refine (AllReadyH.cons (o := ⟨some 119, _, _, _, _, _⟩) rfl (fun K hK => ?_) AllReadyH.nil)
                  (try rw [if_pos (by rfl)])
                  go_simp
                  refine (HCI.out _ hbX).mono ?_
                  rintro e W10 ⟨rfl, hb10⟩
                  replace hbX := hbX.trans (hb10.mono hbX.size)
                  try dsimp only
                  refine hK.out _ _ (hbX) (fun hHeld => ?_)
                  clear hK K
                  try simp only [Act.put, List.setIfInBounds_toArray, List.set_cons_zero, List.set_cons_succ]
                  refine wpAnyH_take (i := 14) (oi := ⟨some 120, _, _, _, _, _⟩) (v := ?_) rfl (by kernel_rfl) (by kernel_rfl) (by kernel_rfl) (fun _ _ _ h => h) (Or.inl ⟨by rfl, ?_⟩) (by assumption) ?_
                  rotate_left
                  · intro w hSw; (try dsimp only at hSw); go_simp; try (with_reducible rfl)
                  rotate_left 0
                  try simp only [Act.put, List.setIfInBounds_toArray, List.set_cons_zero, List.set_cons_succ]
                  refine wpAnyH_take (i := 15) (oi := ⟨some 121, _, _, _, _, _⟩) (v := ?_) rfl (by kernel_rfl) (by kernel_rfl) (by kernel_rfl) (fun _ _ _ h => h) (Or.inl ⟨by rfl, ?_⟩) (by assumption) ?_
                  rotate_left
                  · intro w hSw; (try dsimp only at hSw); go_simp; try (with_reducible rfl)
                  rotate_left 0
                  try simp only [Act.put, List.setIfInBounds_toArray, List.set_cons_zero, List.set_cons_succ]
                  refine wpAnyH_done (by kernel_rfl) ?_ _
                  have HX := Lib.hid (HQ.out.trans ((HB8.out.trans (hbX.mono HB8.out.size)).mono HQ.out.size))
                  clear hbX
                  go_wp2
                  go_roundw
                  case rel => exact ⟨q + 1, by omega, by go_num, HX.out⟩
                  case measure => simp [intOf]; omega
                · obtain rfl : q = n1 := by omega
                  have HS8 := Lib.hid (HS7.out.below HQ.out)
                  go_wp2_with fail
                  go_loopw [125] (fun i wr => ∃ p : Nat, p ≤ q ∧ i = .int .i64 (p : Int) ∧ Below W7.heap.size W7 wr) (fun i _ => q - (intOf i).toNat)
                  case atStart => exact ⟨0, Nat.zero_le _, rfl, HQ.out⟩
                  case round =>
                    obtain ⟨p, hp, rfl, hbp⟩ := hrel
                    obtain ⟨wp, hwp⟩ : ∃ z, z = wr := ⟨_, rfl⟩
                    subst hwp
                    have HQP := Lib.hid HQ.out
                    have HQ := Lib.hid hbp
                    clear hbp
                    by_cases hpn : p < q
                    · have hpi : (p : Int) < (q : Int) := by omega
                      have hp0 : (0 : Int) ≤ (p : Int) := by omega
                      have hp20 : (p : Int) ≤ 20 := by omega
                      have hwp1 : IntKind.i64.wrap ((p : Int) + 1) = (p : Int) + 1 := by rw [IntKind.wrap_i64]; omega
                      obtain ⟨R2, hR2⟩ : ∃ R2, mth (L.take (p + 1)) = R2 := ⟨_, rfl⟩
                      have hRG : (rootsW L).getD p dz = R2 := by rw [rootsW_get L p (by rw [HLL.out.1]; exact hpn), hR2]
                      obtain ⟨P2, hP2⟩ : ∃ P2, (linkP (p + 1) 0 q).reverse.map (rtP L) = P2 := ⟨_, rfl⟩
                      obtain ⟨N2, hN2⟩ : ∃ N2, (linkP (p + 1) 0 q).length = N2 := ⟨_, rfl⟩
                      have HCN : Hid (Calls Tryd.prog 27 #[.slice (some adL) q cL2, .int .i64 ((p : Int) + 1)] wp fun e w' => ∃ g1, e = .returned (.tuple #[.slice (some ⟨g1, 0, none⟩) N2 N2, .int .i64 0]) ∧ RdI w' (fun b => b < w'.heap.size) (.slice (some ⟨g1, 0, none⟩) N2 N2) P2 ∧ Below wp.heap.size wp w') := Lib.hid ((consistency_in _ L (p + 1) wp (HTW.out _ HQ.out) (HLW.out _ HQ.out) (by rw [HLL.out.1]; omega) (by omega) (by rw [HLL.out.1]; omega)).mono (by
                        rintro e w' ⟨g1, N, rfl, h1, h2, h3⟩
                        rw [HLL.out.1] at h1 h2
                        rw [hP2] at h2
                        rw [hN2] at h1
                        subst h1
                        exact ⟨g1, rfl, h2.mono fun b hb => hb.2, h3⟩))
                      have HCI' : Hid (∀ g W, Below W7.heap.size W7 W → RdI W (fun b => b < W.heap.size) (.slice (some ⟨g, 0, none⟩) N2 N2) P2 → Calls Tryd.prog 29 #[.int .i64 ((p : Int) + 1), .int .i64 (q : Int), .agg (arr 32 fun i => bv (R2 i)), .agg (arr 32 fun i => bv (mth L i)), .slice (some ⟨g, 0, none⟩) N2 N2] W fun e w' => e = .returned (.int .i64 0) ∧ Below W.heap.size W w') := Lib.hid fun g W hb' hr' => by
                        have := ccon_any R2 (mth L) ((p + 1 : Nat) : Int) q _ P2 W (HTW.out _ hb') hr'
                        have h0 := ccon_true L (p + 1) (by omega) (by rw [HLL.out.1]; omega) (by rw [HLL.out.1]; omega)
                        rw [HLL.out.1, hR2, hP2] at h0
                        rw [h0] at this
                        exact this
                      go_upto_region 35 with (go_at_call 27; refine HCN.out.mono ?_; rintro e W8 ⟨g1, rfl, hi8, hb8⟩; have HI8 := Lib.hid hi8; have HB8 := Lib.hid hb8; clear hi8 hb8)
                      have HQ8 := Lib.hid (HQ.out.trans (HB8.out.mono HQ.out.size))
                      have HLK : Hid (∀ W, Below W8.heap.size W8 W → ∀ i, i < 32 → W.cell? ((adR.add (p * 32)).add i) = some (bv (R2 i))) := Lib.hid fun W hb' i hi => by
                        obtain ⟨ad', e, _, hc⟩ := (HRW.out W (HQ8.out.trans (hb'.mono HQ8.out.size))).at_ hpn
                        injection e with e
                        subst e
                        have := hc i hi
                        rw [hRG, Nat.mul_comm 32 p] at this
                        exact this
                      have HRX := Lib.hid fun W (hb' : Below W8.heap.size W8 W) => HRXW.out W (HQ8.out.trans (hb'.mono HQ8.out.size))
                      have HCI := Lib.hid fun W (hb' : Below W8.heap.size W8 W) => HCI'.out g1 W (HQ8.out.trans (hb'.mono HQ8.out.size)) (HI8.out.below hb')
                      have hbX : Below W8.heap.size W8 W8.drew := (Below.refl _ _).drew
                      clear HCI' HCN HI8 HQ8 hR2 hRG hP2 hN2
                      refine wp_region_held_drew (S := fun W' => Below W8.heap.size W8 W') (by kernel_rfl) ?_ (fun hHeld => ?_)
                      · exact hbX
                      refine wpAnyH_take (i := 0) (oi := ⟨some 135, _, _, _, _, _⟩) (v := ?_) rfl (by kernel_rfl) (by kernel_rfl) (by kernel_rfl) (fun _ _ _ h => h) (Or.inl ⟨by rfl, ?_⟩) (by assumption) ?_
                      rotate_left
                      · intro w hSw; (try dsimp only at hSw); go_simp; try (with_reducible rfl)
                      rotate_left 0
                      try simp only [Act.put, List.setIfInBounds_toArray, List.set_cons_zero, List.set_cons_succ]
                      refine wpAnyH_take (i := 1) (oi := ⟨some 136, _, _, _, _, _⟩) (v := ?_) rfl (by kernel_rfl) (by kernel_rfl) (by kernel_rfl) (fun _ _ _ h => h) (Or.inl ⟨by rfl, ?_⟩) (by assumption) ?_
                      rotate_left
                      · intro w hSw; (try dsimp only at hSw); go_simp; try (with_reducible rfl)
                      rotate_left 0
                      try simp only [Act.put, List.setIfInBounds_toArray, List.set_cons_zero, List.set_cons_succ]
                      refine wpAnyH_take (i := 2) (oi := ⟨some 137, _, _, _, _, _⟩) (v := ?_) rfl (by kernel_rfl) (by kernel_rfl) (by kernel_rfl) (fun _ _ _ h => h) (Or.inl ⟨by rfl, ?_⟩) (by assumption) ?_
                      rotate_left
                      · intro w hSw; (try dsimp only at hSw); go_simp; try (with_reducible rfl)
                      rotate_left 0
                      try simp only [Act.put, List.setIfInBounds_toArray, List.set_cons_zero, List.set_cons_succ]
                      refine wpAnyH_take (i := 3) (oi := ⟨some 138, _, _, _, _, _⟩) (v := ?_) rfl (by kernel_rfl) (by kernel_rfl) (by kernel_rfl) (fun _ _ _ h => h) (Or.inl ⟨by rfl, ?_⟩) (by assumption) ?_
                      rotate_left
                      · intro w hSw; (try dsimp only at hSw); go_simp; try (with_reducible rfl)
                      rotate_left 0
                      try simp only [Act.put, List.setIfInBounds_toArray, List.set_cons_zero, List.set_cons_succ]
                      refine wpAnyH_take (i := 4) (oi := ⟨some 139, _, _, _, _, _⟩) (v := (.int .i64 ((p : Int) + 1))) rfl (by kernel_rfl) (by kernel_rfl) (by kernel_rfl) (fun _ _ _ h => h) (Or.inl ⟨by rfl, fun w hSw => by go_simp⟩) (by assumption) ?_
                      try simp only [Act.put, List.setIfInBounds_toArray, List.set_cons_zero, List.set_cons_succ]
                      refine wpAnyH_take (i := 5) (oi := ⟨some 140, _, _, _, _, _⟩) (v := ?_) rfl (by kernel_rfl) (by kernel_rfl) (by kernel_rfl) (fun _ _ _ h => h) (Or.inl ⟨by rfl, ?_⟩) (by assumption) ?_
                      rotate_left
                      · intro w hSw; (try dsimp only at hSw); go_simp; try (with_reducible rfl)
                      rotate_left 0
                      try simp only [Act.put, List.setIfInBounds_toArray, List.set_cons_zero, List.set_cons_succ]
                      refine wpAnyH_take (i := 6) (oi := ⟨some 141, _, _, _, _, _⟩) (v := ?_) rfl (by kernel_rfl) (by kernel_rfl) (by kernel_rfl) (fun _ _ _ h => h) (Or.inl ⟨by rfl, ?_⟩) (by assumption) ?_
                      rotate_left
                      · intro w hSw; (try dsimp only at hSw); go_simp; try (with_reducible rfl)
                      rotate_left 0
                      try simp only [Act.put, List.setIfInBounds_toArray, List.set_cons_zero, List.set_cons_succ]
                      refine wpAnyH_take (i := 7) (oi := ⟨some 142, _, _, _, _, _⟩) (v := ?_) rfl (by kernel_rfl) (by kernel_rfl) (by kernel_rfl) (fun _ _ _ h => h) (Or.inl ⟨by rfl, ?_⟩) (by assumption) ?_
                      rotate_left
                      · intro w hSw; (try dsimp only at hSw); go_simp; try (with_reducible rfl)
                      rotate_left 0
                      try simp only [Act.put, List.setIfInBounds_toArray, List.set_cons_zero, List.set_cons_succ]
                      refine wpAnyH_take (i := 8) (oi := ⟨some 143, _, _, _, _, _⟩) (v := ?_) rfl (by kernel_rfl) (by kernel_rfl) (by kernel_rfl) (fun _ _ _ h => h) (Or.inl ⟨by rfl, ?_⟩) (by assumption) ?_
                      rotate_left
                      · intro w hSw; (try dsimp only at hSw); go_simp; try (with_reducible rfl)
                      rotate_left 0
                      try simp only [Act.put, List.setIfInBounds_toArray, List.set_cons_zero, List.set_cons_succ]
                      refine wpAnyH_take (i := 9) (oi := ⟨some 144, _, _, _, _, _⟩) (v := ?_) rfl (by kernel_rfl) (by kernel_rfl) (by kernel_rfl) (fun _ _ _ h => h) (Or.inl ⟨by rfl, ?_⟩) (by assumption) ?_
                      rotate_left
                      · intro w hSw; (try dsimp only at hSw); go_simp; try (with_reducible rfl)
                      rotate_left 0
                      try simp only [Act.put, List.setIfInBounds_toArray, List.set_cons_zero, List.set_cons_succ]
                      refine wpAnyH_take (i := 10) (oi := ⟨some 145, _, _, _, _, _⟩) (v := (.agg (arr 32 fun i => bv (R2 i)))) rfl (by kernel_rfl) (by kernel_rfl) (by kernel_rfl) (fun _ _ _ h => h) (yieldsIf_load_at (by rfl) 30 _ rfl (adR.add (p * 32)) rfl 32 (fun i => bv (R2 i)) 5 (fun W hS => HLK.out W hS) Tryd.underlying30 (by kernel_rfl)) (by assumption) ?_
                      try simp only [Act.put, List.setIfInBounds_toArray, List.set_cons_zero, List.set_cons_succ]
                      refine wpAnyH_take (i := 11) (oi := ⟨some 146, _, _, _, _, _⟩) (v := ?_) rfl (by kernel_rfl) (by kernel_rfl) (by kernel_rfl) (fun _ _ _ h => h) (Or.inl ⟨by rfl, ?_⟩) (by assumption) ?_
                      rotate_left
                      · intro w hSw; (try dsimp only at hSw); go_simp; try (with_reducible rfl)
                      rotate_left 0
                      try simp only [Act.put, List.setIfInBounds_toArray, List.set_cons_zero, List.set_cons_succ]
                      refine wpAnyH_take (i := 13) (oi := ⟨some 148, _, _, _, _, _⟩) (v := ?_) rfl (by kernel_rfl) (by kernel_rfl) (by kernel_rfl) (fun _ _ _ h => h) (Or.inl ⟨by rfl, ?_⟩) (by assumption) ?_
                      rotate_left
                      · intro w hSw; (try dsimp only at hSw); go_simp; try (with_reducible rfl)
                      rotate_left 0
                      try simp only [Act.put, List.setIfInBounds_toArray, List.set_cons_zero, List.set_cons_succ]
                      refine wpAnyH_ready (rs := [12]) (by kernel_rfl) (by simp) ?_
                      refine (AllReadyH.cons (o := ⟨some 147, _, _, _, _, _⟩) rfl (fun K hK => ?_) AllReadyH.nil)
                      (try rw [if_pos (by rfl)])
                      go_simp
                      refine (HRX.out _ hbX).mono ?_
                      rintro e W9 ⟨rfl, hb9⟩
                      replace hbX := hbX.trans (hb9.mono hbX.size)
                      try dsimp only
                      refine hK.out _ _ (hbX) (fun hHeld => ?_)
                      clear hK K
                      try simp only [Act.put, List.setIfInBounds_toArray, List.set_cons_zero, List.set_cons_succ]
                      refine wpAnyH_ready (rs := [14]) (by kernel_rfl) (by simp) ?_
                      refine (AllReadyH.cons (o := ⟨some 149, _, _, _, _, _⟩) rfl (fun K hK => ?_) AllReadyH.nil)
                      (try rw [if_pos (by rfl)])
                      go_simp
                      refine (HCI.out _ hbX).mono ?_
                      rintro e W10 ⟨rfl, hb10⟩
                      replace hbX := hbX.trans (hb10.mono hbX.size)
                      try dsimp only
                      refine hK.out _ _ (hbX) (fun hHeld => ?_)
                      clear hK K
                      try simp only [Act.put, List.setIfInBounds_toArray, List.set_cons_zero, List.set_cons_succ]
                      refine wpAnyH_take (i := 15) (oi := ⟨some 150, _, _, _, _, _⟩) (v := ?_) rfl (by kernel_rfl) (by kernel_rfl) (by kernel_rfl) (fun _ _ _ h => h) (Or.inl ⟨by rfl, ?_⟩) (by assumption) ?_
                      rotate_left
                      · intro w hSw; (try dsimp only at hSw); go_simp; try (with_reducible rfl)
                      rotate_left 0
                      try simp only [Act.put, List.setIfInBounds_toArray, List.set_cons_zero, List.set_cons_succ]
                      refine wpAnyH_take (i := 16) (oi := ⟨some 151, _, _, _, _, _⟩) (v := ?_) rfl (by kernel_rfl) (by kernel_rfl) (by kernel_rfl) (fun _ _ _ h => h) (Or.inl ⟨by rfl, ?_⟩) (by assumption) ?_
                      rotate_left
                      · intro w hSw; (try dsimp only at hSw); go_simp; try (with_reducible rfl)
                      rotate_left 0
                      try simp only [Act.put, List.setIfInBounds_toArray, List.set_cons_zero, List.set_cons_succ]
                      refine wpAnyH_done (by kernel_rfl) ?_ _
                      have HX := Lib.hid (HQ.out.trans ((HB8.out.trans (hbX.mono HB8.out.size)).mono HQ.out.size))
                      clear hbX
                      go_wp2
                      go_roundw
                      case rel => exact ⟨p + 1, by omega, by go_num, HX.out⟩
                      case measure => simp [intOf]; omega
                    · obtain rfl : p = q := by omega
                      have HS9 := Lib.hid (HS7.out.below HQ.out)
                      go_wp2_with fail
                      go_roundw
                      · have e1 := HN1.out
                        subst e1
                        exact ⟨k + 1, by omega, by go_num, g4, Z4, some adL, cL2, some adR, cR7, rfl, rfl, rfl, HALL2.out, by rw [HL2.out]; exact HS9.out⟩
                      · have e1 := HN1.out
                        simp [intOf]
                        omega
      · obtain rfl : k = n := by omega
        go_wp2_with fail
        go_ret
        exact ⟨rfl, HST.out.old⟩
end Go.Proofs.YtphknicdllcbmaaDoor
