/-
  Layer 10: the law JournalSpoilt. In whatever memory in which the tables lie. No condition.
-/
import Derived.Test.YtbmogeafhmejbaaDoorJrnLawW
import Derived.Test.YtbmogeafhmejbaaDoorJrnRefO
namespace Go.Proofs.YtbmogeafhmejbaaDoor
open Go Go.RowKit Go.Shelf

theorem spoil_v (l : List (List UInt8)) (k : Int) (x : UInt8) : slabA ((sF 100000 l).spoil k x).1 = #[.int .i64 100000, .int .i64 ((((sF 100000 l).spoil k x).1.bs.length : Nat) : Int), .int .i64 (-1), .string ⟨((sF 100000 l).spoil k x).1.bs.toArray⟩] := by
  unfold SlabS.spoil
  split
  · rfl
  · simp only [slabA, sF, sL, List.length_set]
    rfl
theorem slab_builtR (a b c : Int) (x : ByteArray) : (Tryd.prog.built 29 [(0, .int .i64 a), (1, .int .i64 b), (2, .int .i64 c), (3, .string x)]).getD #[] = #[.int .i64 a, .int .i64 b, .int .i64 c, .string x] := by kernel_rfl
theorem slab_someR (a b c : Int) (x : ByteArray) : (Tryd.prog.built 29 [(0, .int .i64 a), (1, .int .i64 b), (2, .int .i64 c), (3, .string x)]).isSome = true := by kernel_rfl
theorem readJ_len (N : Nat) : ∀ (a : Nat → UInt8) (b : List UInt8), b.length ≤ N → (readJ a b).1.length ≤ b.length := by
  induction N with
  | zero =>
    intro a b h
    rw [readJ_no (fun hc => by have := codeJ_zero hc; omega)]
    exact Nat.zero_le _
  | succ N ih =>
    intro a b h
    by_cases hc : codeJ a b = 0
    · have := codeJ_zero hc
      rw [readJ_yes hc]
      have := ih (withD a (dataJ b)) (b.drop (35 + sizeJ b)) (by rw [List.length_drop]; omega)
      rw [List.length_drop] at this
      rw [List.length_cons]
      omega
    · rw [readJ_no hc]
      exact Nat.zero_le _
theorem openJ_len {sd : SlabS} {s : JrnS} (h : (openJ sd).1 = some s) : s.recs.length ≤ sd.bs.length := by
  have hl := readJ_len _ zeroD sd.bs (Nat.le_refl _)
  unfold openJ at h
  split at h
  · cases h
  · split at h
    · injection h with h
      subst h
      exact hl
    · split at h
      · injection h with h
        subst h
        exact hl
      · cases h
/-- Between two records. -/
def SpoR (w : World) (g gd k : Nat) (ps : List (List UInt8)) (wr : World) : Prop :=
  ∃ T, JS wr T g gd (jL (ps.take k)) (sF 100000 (ps.take k)) ∧ (∀ i, T i → w.heap.size ≤ i) ∧ Below w.heap.size w wr
set_option maxRecDepth 100000 in
set_option maxHeartbeats 4000000 in
theorem spoilt_law (A : Option Addr) (c : Nat) (ps : List (List UInt8)) (at_ : Int) (xb : UInt8) (w : World) (hT : Tables w) (hm : ps.length ≤ 140737488351232) (hr : RdP w (fun b => b < w.heap.size) A ps) :
    Calls Tryd.prog 5 #[.slice A ps.length c, .int .i64 at_, .int .u8 (xb.toNat : Int)] w fun e w' => e = .returned (.bool true) ∧ Below w.heap.size w w' := by
  have HT := Lib.hid hT
  have HWR := Lib.hid (writes_any w hT)
  obtain ⟨n, hn⟩ : ∃ n, ps.length = n := ⟨_, rfl⟩
  rw [hn] at hm ⊢
  have HN := Lib.hid hn
  have HR := Lib.hid hr
  clear hT hr hn
  by_cases h8 : 8 < n
  · have e1 : decide ((n : Int) > 8) = true := decide_eq_true (by omega)
    go_enter Tryd.func5, Tryd.ntmps5
    go_wp2_with (go_at_call 10; refine HWR.out.mono ?_; rintro e W1 ⟨rfl, hb1⟩)
    go_ret
    exact ⟨rfl, hb1⟩
  · have e1 : decide ((n : Int) > 8) = false := decide_eq_false (by omega)
    have hn8 : n ≤ 8 := by omega
    go_enter Tryd.func5, Tryd.ntmps5
    go_wp2_with (go_at_call 10; refine HWR.out.mono ?_; rintro e W1 ⟨rfl, hb1⟩)
    refine (new_100000 W1).mono ?_
    rintro e W2 ⟨rfl, hd2, hb2⟩
    have hb12 := hb1.trans (hb2.mono hb1.size)
    have HS1 := Lib.hid hb1.size
    dsimp only
    go_wp2_with fail
    refine (js_open (HT.out.below hb12) hd2 (openJ_all 100000 [] 0 (-1) (by simp))).mono ?_
    rintro e W3 ⟨g, T, rfl, hj3, ht3, hT3⟩
    have hb3 : Below w.heap.size w W3 := below_turn hb12 (Nat.le_refl _) ht3 (fun i hi => by rw [hi]; exact HS1.out)
    have HSTART : Hid (SpoR w g W1.heap.size 0 ps W3) := Lib.hid ⟨T, hj3, fun i hi => by
      have := hb12.size
      have := HS1.out
      rcases hT3 i hi with h | h
      · rw [h]; exact HS1.out
      · omega, hb3⟩
    obtain ⟨gd, hgd⟩ : ∃ gd, W1.heap.size = gd := ⟨_, rfl⟩
    rw [hgd] at HSTART ⊢
    clear hgd hd2 hb2 hb1 hb12 hj3 ht3 hT3 hb3
    dsimp only
    go_wp2_with fail
    go_loopw [41] (fun i wr => ∃ k : Nat, k ≤ n ∧ i = .int .i64 (k : Int) ∧ (∀ d ∈ ps.take k, d.length ≤ 300) ∧ SpoR w g gd k ps wr) (fun i _ => n - (intOf i).toNat)
    case atStart => exact ⟨0, Nat.zero_le _, rfl, by simp, HSTART.out⟩
    case round =>
      clear HSTART
      obtain ⟨k, hk, rfl, hl3, T, hj, hT, hbw⟩ := hrel
      by_cases hkn : k < n
      · have hki : (k : Int) < (n : Int) := by omega
        obtain ⟨ad, v, rfl, hok, hcell, hrd⟩ := HR.out k (by rw [HN.out]; exact hkn)
        have hcw := (hbw.cell (p := ad.add k) (by rw [block_add]; exact hok)).trans hcell
        obtain ⟨d, hd⟩ : ∃ d, ps.getD k [] = d := ⟨_, rfl⟩
        have htk : ps.take (k + 1) = ps.take k ++ [d] := by
          have hl : k < ps.length := by rw [HN.out]; exact hkn
          rw [List.take_succ_eq_append_getElem hl, ← hd, List.getD_eq_getElem?_getD, List.getElem?_eq_getElem hl]
          rfl
        have HDK := Lib.hid hd
        rw [hd] at hrd
        obtain ⟨Ae, ce, rfl, _⟩ := id hrd
        obtain ⟨m, hdm⟩ : ∃ m, d.length = m := ⟨_, rfl⟩
        rw [hdm] at hrd hcw
        have HRD := Lib.hid hrd
        have HDM := Lib.hid hdm
        have HTK := Lib.hid htk
        have HL3 := Lib.hid hl3
        clear hcell hrd hd hdm htk hl3
        by_cases h200 : 200 < m
        · have e4 : decide ((m : Int) > 200) = true := decide_eq_true (by omega)
          clear hj hT
          go_wp2
          go_ret
          exact ⟨rfl, hbw⟩
        · have e4 : decide ((m : Int) > 200) = false := decide_eq_false (by omega)
          have HL4 : Hid (∀ x ∈ ps.take (k + 1), x.length ≤ 300) := Lib.hid fun x hx => by
            rw [HTK.out] at hx
            rcases List.mem_append.1 hx with hx | hx
            · exact HL3.out x hx
            · rw [List.mem_singleton.1 hx, HDM.out]
              omega
          have HDR : Hid (∀ W (T : Nat → Prop), Below w.heap.size w W → (∀ i, T i → w.heap.size ≤ i) → RdB W (fun i => i < W.heap.size ∧ ¬ T i) (.slice Ae m ce) d) := Lib.hid fun W T hb hS => (HRD.out.kept fun i x hi h => (hb.cell (p := i) hi).trans h).mono fun i hi => ⟨Nat.lt_of_lt_of_le hi hb.size, fun h => by have := hS i h; omega⟩
          have HLK : Hid ((ps.take k).length = k ∧ (recsT zeroD (ps.take k)).length ≤ 4020) := Lib.hid (by
            have h1 : (ps.take k).length = k := by rw [List.length_take, HN.out]; omega
            have h2 := recs_le HL3.out
            exact ⟨h1, by omega⟩)
          have HWY : Hid (writeJ (jL (ps.take k)) (sF 100000 (ps.take k)) d = (jL (ps.take (k + 1)), sF 100000 (ps.take (k + 1)), 0)) := Lib.hid (by
            rw [HTK.out]
            have := HLK.out.2
            exact write_yes 100000 _ _ d (by rw [HDM.out]; omega) (by rw [HDM.out]; omega))
          have HWC := Lib.hid (js_write Ae m ce d (HT.out.below hbw) hj (by show (ps.take k).length < 100000000; rw [HLK.out.1]; omega) (HDR.out wr T hbw hT))
          rw [HWY.out] at HWC
          have HT0 := Lib.hid hT
          have HBW := Lib.hid hbw
          clear hj hT hbw
          go_wp2_with (go_at_call 16; refine HWC.out.mono ?_; rintro e W6 ⟨rfl, T6, hj6, ht6, hT6⟩)
          go_roundw
          · exact ⟨k + 1, by omega, by go_num, HL4.out, T6, hj6, fun i hi => (hT6 i hi).elim (HT0.out i) (fun h => Nat.le_trans HBW.out.size h), below_turn HBW.out (Nat.le_refl _) ht6 HT0.out⟩
          · simp [intOf]
            omega
      · obtain rfl : k = n := by omega
        have htk : ps.take k = ps := by rw [← HN.out]; exact List.take_length
        rw [htk] at hj hl3
        have HV := spoil_v ps at_ xb
        have HSP := Lib.hid (js_left (r := .returned (.int .i64 ((sF 100000 ps).spoil at_ xb).2)) (args := #[.pointer (some ⟨gd, 0, none⟩), .int .i64 at_, .int .u8 (xb.toNat : Int)]) hj (fun Z hZ => slabSpoil_any Z gd _ at_ xb wr hZ))
        obtain ⟨sd, hsd⟩ : ∃ sd, ((sF 100000 ps).spoil at_ xb).1 = sd := ⟨_, rfl⟩
        obtain ⟨spc, hspc⟩ : ∃ z, ((sF 100000 ps).spoil at_ xb).2 = z := ⟨_, rfl⟩
        rw [hsd] at HSP HV
        rw [hspc] at HSP
        have HT0 := Lib.hid hT
        have HBW := Lib.hid hbw
        obtain ⟨tl, htl⟩ : ∃ z, sd.bs.length = z := ⟨_, rfl⟩
        rw [htl] at HV
        have HVH := Lib.hid HV
        have HTL := Lib.hid htl
        clear hj hT hbw htk hl3 hsd hspc HV htl
        go_upto_region 20 with (go_at_call 21; refine HSP.out.mono ?_; rintro e W5 ⟨rfl, T5, hj5, ht5, hT5⟩)
        have hb5 := below_turn HBW.out (Nat.le_refl _) ht5 HT0.out
        have hT5' : ∀ i, T5 i → w.heap.size ≤ i := (fun i hi => (hT5 i hi).elim (HT0.out i) (fun h => Nat.le_trans HBW.out.size h))
        obtain ⟨Y5, Z5, _, hz5, _, _, hz5T⟩ := js_new hj5
        have hok : sd.Ok := by obtain ⟨_, _, _, _, _, _, q⟩ := hz5; exact q
        have htl4 : tl ≤ 4194304 := by have := hok.fits; have := hok.room; have := HTL.out; omega
        have HBY := Lib.hid (slabBytes_any Z5 gd sd W5 hz5)
        rw [HTL.out] at HBY
        have HRO := Lib.hid (fun W => refOpen_any sd hok W)
        have HRV : sd.v = .agg #[.int .i64 100000, .int .i64 (tl : Int), .int .i64 (-1), .string ⟨sd.bs.toArray⟩] := by rw [show sd.v = .agg (slabA sd) from rfl, HVH.out]
        rw [HRV] at HRO
        have HZ5 := Lib.hid hz5
        have HB5 := Lib.hid hb5
        have HZT : Hid (∀ i, Z5 i → w.heap.size ≤ i) := Lib.hid fun i hi => hT5' i (hz5T i hi)
        obtain ⟨bs, hbs⟩ : ∃ z, sd.bs = z := ⟨_, rfl⟩
        rw [hbs] at HBY HRO
        have hbl : bs.length = tl := by rw [← hbs]; exact HTL.out
        have hsz : (⟨bs.toArray⟩ : ByteArray).size = tl := by rw [ba_len, hbl]
        have HBL := Lib.hid hbl
        have hol : ∀ s, (openJ sd).1 = some s → s.recs.length ≤ 4194304 := fun s h => by have := openJ_len h; rw [hbs, hbl] at this; omega
        have HOL := Lib.hid hol
        have hsb := slab_builtR 100000 (tl : Int) (-1) ⟨bs.toArray⟩
        have hss := slab_someR 100000 (tl : Int) (-1) ⟨bs.toArray⟩
        have HSB := Lib.hid hsb
        have HSS := Lib.hid hss
        clear hj5 ht5 hT5 hb5 hT5' hz5 hz5T hok HRV hbs hbl hol hsb hss
        go_upto_region 21 with (go_at_call 23; refine HBY.out.mono ?_; rintro e W6 ⟨A6, c6, rfl, ho6, hb6⟩; have hcs := str_rd (rdB_own ho6 HBL.out (by omega)))
        have HW6 : Hid (Below W5.heap.size W5 W6) := Lib.hid hb6
        clear hcs ho6 hb6
        obtain ⟨oj, hoj⟩ : ∃ z, openJ sd = z := ⟨_, rfl⟩
        obtain ⟨os, sd2, ce⟩ := oj
        cases os with
        | none =>
          go_upto_region 22 with (first
            | (guard_target = wpList _ _ _ (Oper.mk _ (.build 29 _) _ _ _ _ :: _) _ _; refine wpList_build rfl 29 _ rfl (by simp only [List.map_toArray, List.map_cons, List.map_nil]; exact HSS.out) ?_; simp only [List.map_toArray, List.map_cons, List.map_nil]; go_simp; rw [HSB.out])
            | (go_at_call 14; refine (HRO.out W6).mono ?_; rintro e W7 ⟨hb7, v, hv⟩; rw [hoj] at hv; obtain ⟨z, rfl, hce0, hz38, hzall⟩ := hv)
            | (guard_target = wpList _ _ _ (Oper.mk _ (.store 39 _ _) _ _ _ _ :: _) _ _; refine wpList_store_row rfl 39 _ _ rfl W7.heap.size (z) rfl rfl 39 _ (heap_alloc_new W7 _) (by rw [hz38]; kernel_rfl) (by rw [hz38]; rfl) (hzall) ?_; rw [World.setRow_alloc_new]))
          try dsimp only at hce0
          generalize hW8 : World.alloc W7 _ = W8
          have hb8 : Below W5.heap.size W5 W8 := by
            rw [← hW8]
            exact (HW6.out.trans (hb7.mono HW6.out.size)).alloc (Nat.le_trans HW6.out.size hb7.size) _
          have HOP := Lib.hid (open_any Z5 gd sd W8 (HT.out.below (HB5.out.trans (hb8.mono HB5.out.size))) (HZ5.out.below hb8))
          rw [hoj] at HOP
          have HB8 := Lib.hid (HB5.out.trans (hb8.mono HB5.out.size))
          have hce : (ce != 0) = true := by rw [bne_iff_ne]; exact hce0
          clear hW8 hb8 hb7
          go_wp2_with (go_at_call 13; refine HOP.out.mono ?_; rintro e W9 ⟨Z9, p9, rfl, hz9, ht9, _, rfl⟩)
          go_ret
          exact ⟨rfl, below_turn HB8.out (Nat.le_refl _) ht9 HZT.out⟩
        | some s =>
          go_upto_region 22 with (first
            | (guard_target = wpList _ _ _ (Oper.mk _ (.build 29 _) _ _ _ _ :: _) _ _; refine wpList_build rfl 29 _ rfl (by simp only [List.map_toArray, List.map_cons, List.map_nil]; exact HSS.out) ?_; simp only [List.map_toArray, List.map_cons, List.map_nil]; go_simp; rw [HSB.out])
            | (go_at_call 14; refine (HRO.out W6).mono ?_; rintro e W7 ⟨hb7, v, hv⟩; rw [hoj] at hv; obtain ⟨rfl, hce0, hown⟩ := hv; have hv1 : v.oneCell' = true := (by rcases ownsRow_forms' hown with ⟨rfl, _⟩ | ⟨_, _, rfl⟩ <;> rfl))
            | (guard_target = wpList _ _ _ (Oper.mk _ (.store 39 _ _) _ _ _ _ :: _) _ _; refine wpList_store_row rfl 39 _ _ rfl W7.heap.size (arr 38 (rjF sd2 v s.last false)) rfl rfl 39 _ (heap_alloc_new W7 _) (by rw [arr_size]; kernel_rfl) (by rw [arr_size]; rfl) (rj_all hv1) ?_; rw [World.setRow_alloc_new]))
          try dsimp only at hce0
          subst hce0
          generalize hW8 : World.alloc W7 _ = W8
          have hb8 : Below W5.heap.size W5 W8 := by
            rw [← hW8]
            exact (HW6.out.trans (hb7.mono HW6.out.size)).alloc (Nat.le_trans HW6.out.size hb7.size) _
          have k8 : Blk W8 W7.heap.size 39 (arr 38 (rjF sd2 v s.last false)) := by rw [← hW8]; exact Blk.newAt _ _ rfl rfl
          have own8 := ownsRow_kept hown (w' := W8) (by rw [← hW8]; exact (Below.refl _ _).alloc (Nat.le_refl _) _)
          have HOP := Lib.hid (open_any Z5 gd sd W8 (HT.out.below (HB5.out.trans (hb8.mono HB5.out.size))) (HZ5.out.below hb8))
          rw [hoj] at HOP
          have HB8 := Lib.hid (HB5.out.trans (hb8.mono HB5.out.size))
          have HZ8 : Hid (∀ i, Z5 i → i < W5.heap.size) := Lib.hid (by obtain ⟨_, _, _, _, _, q, _⟩ := HZ5.out; exact q)
          have hs67 : W5.heap.size ≤ W7.heap.size := Nat.le_trans HW6.out.size hb7.size
          obtain ⟨gj, hgj⟩ : ∃ z, W7.heap.size = z := ⟨_, rfl⟩
          have hown5 : ∀ i, v.ownBlock = some i → W5.heap.size ≤ i := fun i hi => Nat.le_trans HW6.out.size (hown.lt i hi).1
          rw [hgj] at k8 hs67 ⊢
          have HK8 := Lib.hid (And.intro k8 (And.intro own8 (And.intro hs67 hown5)))
          clear hW8 hb8 hb7 k8 own8 hs67 hgj hown hown5
          go_upto_region 23 with (go_at_call 13; refine HOP.out.mono ?_; rintro e W9 ⟨Z9, p9, rfl, hz9, ht9, _, g, Y, rfl, hj9, hY9, _⟩)
          have HB9 := Lib.hid (below_turn HB8.out (Nat.le_refl _) ht9 HZT.out)
          have hk9 : Blk W9 gj 39 (arr 38 (rjF sd2 v s.last false)) := ht9.blk HK8.out.1 (fun h => by have := HZ8.out _ h; have := HK8.out.2.2.1; omega)
          have ho9 := ht9.own HK8.out.2.1 (fun i hi h => by have := HZ8.out _ h; have := HK8.out.2.2.2 i hi; omega)
          have HJ9 := Lib.hid hj9
          obtain ⟨Ln, hLn⟩ : ∃ Ln, s.recs.length = Ln := ⟨_, rfl⟩
          have hL4 : Ln ≤ 4194304 := by rw [← hLn]; exact HOL.out s (by rw [hoj])
          rw [hLn] at ho9
          obtain ⟨Av, cv, rfl, _⟩ := own_len ho9
          have HK9 := Lib.hid (And.intro hk9 ho9)
          have HLn := Lib.hid hLn
          have HLEN : Hid (∀ W, Below W9.heap.size W9 W → Calls Tryd.prog 24 #[.pointer (some ⟨g, 0, none⟩)] W fun e w' => e = .returned (.int .i64 (Ln : Int)) ∧ w' = W) := Lib.hid fun W hb => by
            have := len_any Y g gd s W (HJ9.out.below hb)
            rw [HLn.out] at this
            exact this
          have HCL : Hid (∀ W, Below W9.heap.size W9 W → W.cell? ⟨gj, 4, none⟩ = some (.slice Av Ln cv)) := Lib.hid fun W hb => by
            rw [(HK9.out.1.below hb HK9.out.1.lt).cell, arr_get, if_pos (by omega)]
            rfl
          clear hz9 ht9 hj9 hY9 hk9 ho9 hLn hoj
          go_wp2_with fail
          go_loopw [18] (fun i wx => ∃ q : Nat, q ≤ Ln ∧ i = .int .i64 (q : Int) ∧ Below W9.heap.size W9 wx) (fun i _ => Ln - (intOf i).toNat)
          case atStart => exact ⟨0, Nat.zero_le _, rfl, Below.refl _ _⟩
          case round =>
            obtain ⟨q, hq, rfl, hbx⟩ := hrel
            by_cases hql : q < Ln
            · have hqi : (q : Int) < (Ln : Int) := by omega
              have hg1 : decide ((Ln : Int) ≤ (q : Int)) = false := decide_eq_false (by omega)
              have hg2 : decide (Ln ≤ q) = false := decide_eq_false (by omega)
              obtain ⟨x, hx⟩ : ∃ x, s.recs.getD q [] = x := ⟨_, rfl⟩
              have hxs : s.recs[q]? = some x := by
                have h : q < s.recs.length := by rw [HLn.out]; exact hql
                rw [List.getElem?_eq_getElem h, ← hx, List.getD_eq_getElem?_getD, List.getElem?_eq_getElem h]
                rfl
              obtain ⟨ad, rfl, hcx⟩ := str_here HK9.out.2 hxs
              have had : ad.block < W9.heap.size := by
                have := World.ownsRow.lt HK9.out.2 ad.block rfl
                exact this.2
              have HCS : Hid (∀ W, Below W9.heap.size W9 W → W.cell? (ad.add q) = some (.string ⟨x.toArray⟩)) := Lib.hid fun W hb => (hb.cell (p := ad.add q) (by rw [block_add]; exact had)).trans hcx
              have HAT := Lib.hid (fun (W : World) hb => at_any Y g gd s q (by rw [HLn.out]; exact hql) W (HJ9.out.below (w' := W) hb))
              rw [hx] at HAT
              obtain ⟨m, hm⟩ : ∃ m, x.length = m := ⟨_, rfl⟩
              rw [hm] at HAT
              clear hx hxs hcx had hm
              go_upto_region 31 with (first
                | (go_at_call 24; refine (HLEN.out _ hbx).mono ?_; rintro e Wm ⟨rfl, rfl⟩)
                | (go_at_call 26; refine (HAT.out _ hbx).mono ?_; rintro e W7 ⟨A7, c7, rfl, hr7, _, hb7⟩))
              have hb97 := hbx.trans (hb7.mono hbx.size)
              have HB97 := Lib.hid hb97
              have HR7 := Lib.hid hr7
              have hbX : Below W7.heap.size W7 W7.drew := (Below.refl _ _).drew
              have HCW : Hid (∀ W, Below W7.heap.size W7 W → W.cell? ⟨gj, 4, none⟩ = some (.slice (some ad) Ln cv)) := Lib.hid fun W hb => HCL.out W (HB97.out.trans (hb.mono HB97.out.size))
              have HSW : Hid (∀ W, Below W7.heap.size W7 W → W.cell? (ad.add q) = some (.string ⟨x.toArray⟩)) := Lib.hid fun W hb => HCS.out W (HB97.out.trans (hb.mono HB97.out.size))
              have HCV : Hid (∀ W, Below W7.heap.size W7 W → (convert 42 9 (.slice A7 m c7)).run Tryd.prog W = .ok (.string ⟨x.toArray⟩) W) := Lib.hid fun W hb => str_rd (HR7.out.kept fun i y hi h => (hb.cell (p := i) hi.2).trans h)
              have hns : ∀ w', (binOp .neq 9 (.string ⟨x.toArray⟩) (.string ⟨x.toArray⟩)).run Tryd.prog w' = .ok (.bool false) w' := fun w' => by
                have := neq_str x x w'
                rw [beq_self_eq_true] at this
                exact this
              clear hb7 hr7 hb97 hbx
              refine wp_region_held_drew (S := fun W' => Below W7.heap.size W7 W') (by kernel_rfl) ?_ (fun hHeld => ?_)
              · exact hbX
              refine wpAnyH_take (i := 0) (oi := ⟨some 97, _, _, _, _, _⟩) (v := ?_) rfl (by kernel_rfl) (by kernel_rfl) (by kernel_rfl) (fun _ _ _ h => h) (Or.inl ⟨by rfl, ?_⟩) (by assumption) ?_
              rotate_left
              · intro w hSw; (try dsimp only at hSw); go_simp; try (with_reducible rfl)
              rotate_left 0
              try simp only [Act.put, List.setIfInBounds_toArray, List.set_cons_zero, List.set_cons_succ]
              refine wpAnyH_take (i := 1) (oi := ⟨some 98, _, _, _, _, _⟩) (v := ?_) rfl (by kernel_rfl) (by kernel_rfl) (by kernel_rfl) (fun _ _ _ h => h) (Or.inl ⟨by rfl, ?_⟩) (by assumption) ?_
              rotate_left
              · intro w hSw; (try dsimp only at hSw); go_simp; try (with_reducible rfl)
              rotate_left 0
              try simp only [Act.put, List.setIfInBounds_toArray, List.set_cons_zero, List.set_cons_succ]
              refine wpAnyH_take (i := 2) (oi := ⟨some 99, _, _, _, _, _⟩) (v := ?_) rfl (by kernel_rfl) (by kernel_rfl) (by kernel_rfl) (fun _ _ _ h => h) (Or.inl ⟨by rfl, ?_⟩) (by assumption) ?_
              rotate_left
              · intro w hSw; (try dsimp only at hSw); go_simp; try (with_reducible rfl)
              rotate_left 0
              try simp only [Act.put, List.setIfInBounds_toArray, List.set_cons_zero, List.set_cons_succ]
              refine wpAnyH_take (i := 3) (oi := ⟨some 100, _, _, _, _, _⟩) (v := ?_) rfl (by kernel_rfl) (by kernel_rfl) (by kernel_rfl) (fun _ _ _ h => h) (Or.inl ⟨by rfl, ?_⟩) (by assumption) ?_
              rotate_left
              · intro w hSw; (try dsimp only at hSw); go_simp; try (with_reducible rfl)
              rotate_left 0
              try simp only [Act.put, List.setIfInBounds_toArray, List.set_cons_zero, List.set_cons_succ]
              refine wpAnyH_take (i := 4) (oi := ⟨some 101, _, _, _, _, _⟩) (v := ?_) rfl (by kernel_rfl) (by kernel_rfl) (by kernel_rfl) (fun _ _ _ h => h) (Or.inl ⟨by rfl, ?_⟩) (by assumption) ?_
              rotate_left
              · intro w hSw; (try dsimp only at hSw); go_simp; try (with_reducible rfl)
              rotate_left 0
              try simp only [Act.put, List.setIfInBounds_toArray, List.set_cons_zero, List.set_cons_succ]
              refine wpAnyH_take (i := 5) (oi := ⟨some 102, _, _, _, _, _⟩) (v := (.slice (some ad) Ln cv)) rfl (by kernel_rfl) (by kernel_rfl) (by kernel_rfl) (fun _ _ _ h => h) (Or.inl ⟨by rfl, fun W' hS => by have hcv := HCW.out W' hS; go_simp⟩) (by assumption) ?_
              try simp only [Act.put, List.setIfInBounds_toArray, List.set_cons_zero, List.set_cons_succ]
              refine wpAnyH_take (i := 6) (oi := ⟨some 103, _, _, _, _, _⟩) (v := ?_) rfl (by kernel_rfl) (by kernel_rfl) (by kernel_rfl) (fun _ _ _ h => h) (Or.inl ⟨by rfl, ?_⟩) (by assumption) ?_
              rotate_left
              · intro w hSw; (try dsimp only at hSw); go_simp; try (with_reducible rfl)
              rotate_left 0
              try simp only [Act.put, List.setIfInBounds_toArray, List.set_cons_zero, List.set_cons_succ]
              refine wpAnyH_take (i := 7) (oi := ⟨some 104, _, _, _, _, _⟩) (v := ?_) rfl (by kernel_rfl) (by kernel_rfl) (by kernel_rfl) (fun _ _ _ h => h) (Or.inl ⟨by rfl, ?_⟩) (by assumption) ?_
              rotate_left
              · intro w hSw; (try dsimp only at hSw); go_simp; try (with_reducible rfl)
              rotate_left 0
              try simp only [Act.put, List.setIfInBounds_toArray, List.set_cons_zero, List.set_cons_succ]
              refine wpAnyH_take (i := 8) (oi := ⟨some 105, _, _, _, _, _⟩) (v := ?_) rfl (by kernel_rfl) (by kernel_rfl) (by kernel_rfl) (fun _ _ _ h => h) (Or.inl ⟨by rfl, ?_⟩) (by assumption) ?_
              rotate_left
              · intro w hSw; (try dsimp only at hSw); go_simp; try (with_reducible rfl)
              rotate_left 0
              try simp only [Act.put, List.setIfInBounds_toArray, List.set_cons_zero, List.set_cons_succ]
              refine wpAnyH_take (i := 9) (oi := ⟨some 106, _, _, _, _, _⟩) (v := ?_) rfl (by kernel_rfl) (by kernel_rfl) (by kernel_rfl) (fun _ _ _ h => h) (Or.inl ⟨by rfl, ?_⟩) (by assumption) ?_
              rotate_left
              · intro w hSw; (try dsimp only at hSw); go_simp; try (with_reducible rfl)
              rotate_left 0
              try simp only [Act.put, List.setIfInBounds_toArray, List.set_cons_zero, List.set_cons_succ]
              refine wpAnyH_take (i := 10) (oi := ⟨some 107, _, _, _, _, _⟩) (v := ?_) rfl (by kernel_rfl) (by kernel_rfl) (by kernel_rfl) (fun _ _ _ h => h) (Or.inl ⟨by rfl, ?_⟩) (by assumption) ?_
              rotate_left
              · intro w hSw; (try dsimp only at hSw); go_simp; try (with_reducible rfl)
              rotate_left 0
              try simp only [Act.put, List.setIfInBounds_toArray, List.set_cons_zero, List.set_cons_succ]
              refine wpAnyH_take (i := 11) (oi := ⟨some 108, _, _, _, _, _⟩) (v := (.string ⟨x.toArray⟩)) rfl (by kernel_rfl) (by kernel_rfl) (by kernel_rfl) (fun _ _ _ h => h) (Or.inl ⟨by rfl, fun W' hS => by have hcv := HCV.out W' hS; go_simp⟩) (by assumption) ?_
              try simp only [Act.put, List.setIfInBounds_toArray, List.set_cons_zero, List.set_cons_succ]
              refine wpAnyH_take (i := 12) (oi := ⟨some 109, _, _, _, _, _⟩) (v := ?_) rfl (by kernel_rfl) (by kernel_rfl) (by kernel_rfl) (fun _ _ _ h => h) (Or.inl ⟨by rfl, ?_⟩) (by assumption) ?_
              rotate_left
              · intro w hSw; (try dsimp only at hSw); go_simp; try (with_reducible rfl)
              rotate_left 0
              try simp only [Act.put, List.setIfInBounds_toArray, List.set_cons_zero, List.set_cons_succ]
              refine wpAnyH_take (i := 13) (oi := ⟨some 110, _, _, _, _, _⟩) (v := (.slice (some ad) Ln cv)) rfl (by kernel_rfl) (by kernel_rfl) (by kernel_rfl) (fun _ _ _ h => h) (Or.inl ⟨by rfl, fun W' hS => by have hcv := HCW.out W' hS; go_simp⟩) (by assumption) ?_
              try simp only [Act.put, List.setIfInBounds_toArray, List.set_cons_zero, List.set_cons_succ]
              refine wpAnyH_take (i := 14) (oi := ⟨some 111, _, _, _, _, _⟩) (v := ?_) rfl (by kernel_rfl) (by kernel_rfl) (by kernel_rfl) (fun _ _ _ h => h) (Or.inl ⟨by rfl, ?_⟩) (by assumption) ?_
              rotate_left
              · intro w hSw; (try dsimp only at hSw); go_simp; try (with_reducible rfl)
              rotate_left 0
              try simp only [Act.put, List.setIfInBounds_toArray, List.set_cons_zero, List.set_cons_succ]
              refine wpAnyH_take (i := 15) (oi := ⟨some 112, _, _, _, _, _⟩) (v := ?_) rfl (by kernel_rfl) (by kernel_rfl) (by kernel_rfl) (fun _ _ _ h => h) (Or.inl ⟨by rfl, ?_⟩) (by assumption) ?_
              rotate_left
              · intro w hSw; (try dsimp only at hSw); go_simp; try (with_reducible rfl)
              rotate_left 0
              try simp only [Act.put, List.setIfInBounds_toArray, List.set_cons_zero, List.set_cons_succ]
              refine wpAnyH_take (i := 16) (oi := ⟨some 113, _, _, _, _, _⟩) (v := (.string ⟨x.toArray⟩)) rfl (by kernel_rfl) (by kernel_rfl) (by kernel_rfl) (fun _ _ _ h => h) (Or.inl ⟨by rfl, fun W' hS => by have hcv := HSW.out W' hS; go_simp⟩) (by assumption) ?_
              try simp only [Act.put, List.setIfInBounds_toArray, List.set_cons_zero, List.set_cons_succ]
              refine wpAnyH_take (i := 17) (oi := ⟨some 114, _, _, _, _, _⟩) (v := ?_) rfl (by kernel_rfl) (by kernel_rfl) (by kernel_rfl) (fun _ _ _ h => h) (Or.inl ⟨by rfl, ?_⟩) (by assumption) ?_
              rotate_left
              · intro w hSw; (try dsimp only at hSw); go_simp; try (with_reducible rfl)
              rotate_left 0
              try simp only [Act.put, List.setIfInBounds_toArray, List.set_cons_zero, List.set_cons_succ]
              refine wpAnyH_take (i := 18) (oi := ⟨some 115, _, _, _, _, _⟩) (v := ?_) rfl (by kernel_rfl) (by kernel_rfl) (by kernel_rfl) (fun _ _ _ h => h) (Or.inl ⟨by rfl, ?_⟩) (by assumption) ?_
              rotate_left
              · intro w hSw; (try dsimp only at hSw); go_simp; try (with_reducible rfl)
              rotate_left 0
              try simp only [Act.put, List.setIfInBounds_toArray, List.set_cons_zero, List.set_cons_succ]
              refine wpAnyH_done (by kernel_rfl) ?_ _
              have HX := Lib.hid (HB97.out.trans (hbX.mono HB97.out.size))
              clear hbX
              go_wp2
              go_roundw
              · exact ⟨q + 1, by omega, by go_num, HX.out⟩
              · simp [intOf]
                omega
            · obtain rfl : Ln = q := by omega
              go_upto_region 33 with (go_at_call 24; refine (HLEN.out _ hbx).mono ?_; rintro e Wm ⟨rfl, rfl⟩)
              have hbX : Below W9.heap.size W9 Wm.drew := hbx.drew
              clear hbx
              refine wp_region_held_drew (S := fun W' => Below W9.heap.size W9 W') (by kernel_rfl) ?_ (fun hHeld => ?_)
              · exact hbX
              refine wpAnyH_take (i := 0) (oi := ⟨some 116, _, _, _, _, _⟩) (v := ?_) rfl (by kernel_rfl) (by kernel_rfl) (by kernel_rfl) (fun _ _ _ h => h) (Or.inl ⟨by rfl, ?_⟩) (by assumption) ?_
              rotate_left
              · intro w hSw; (try dsimp only at hSw); go_simp; try (with_reducible rfl)
              rotate_left 0
              try simp only [Act.put, List.setIfInBounds_toArray, List.set_cons_zero, List.set_cons_succ]
              refine wpAnyH_take (i := 2) (oi := ⟨some 118, _, _, _, _, _⟩) (v := ?_) rfl (by kernel_rfl) (by kernel_rfl) (by kernel_rfl) (fun _ _ _ h => h) (Or.inl ⟨by rfl, ?_⟩) (by assumption) ?_
              rotate_left
              · intro w hSw; (try dsimp only at hSw); go_simp; try (with_reducible rfl)
              rotate_left 0
              try simp only [Act.put, List.setIfInBounds_toArray, List.set_cons_zero, List.set_cons_succ]
              refine wpAnyH_take (i := 3) (oi := ⟨some 119, _, _, _, _, _⟩) (v := (.slice Av Ln cv)) rfl (by kernel_rfl) (by kernel_rfl) (by kernel_rfl) (fun _ _ _ h => h) (Or.inl ⟨by rfl, fun W' hS => by have hcv := HCL.out W' hS; go_simp⟩) (by assumption) ?_
              try simp only [Act.put, List.setIfInBounds_toArray, List.set_cons_zero, List.set_cons_succ]
              refine wpAnyH_take (i := 4) (oi := ⟨some 120, _, _, _, _, _⟩) (v := ?_) rfl (by kernel_rfl) (by kernel_rfl) (by kernel_rfl) (fun _ _ _ h => h) (Or.inl ⟨by rfl, ?_⟩) (by assumption) ?_
              rotate_left
              · intro w hSw; (try dsimp only at hSw); go_simp; try (with_reducible rfl)
              rotate_left 0
              try simp only [Act.put, List.setIfInBounds_toArray, List.set_cons_zero, List.set_cons_succ]
              refine wpAnyH_ready (rs := [1]) (by kernel_rfl) (by simp) ?_
              refine (AllReadyH.cons (o := ⟨some 117, _, _, _, _, _⟩) rfl (fun K hK => ?_) AllReadyH.nil)
              (try rw [if_pos (by rfl)])
              go_simp
              refine (HLEN.out _ hbX).mono ?_
              rintro e WX ⟨rfl, rfl⟩
              try dsimp only
              refine hK.out _ _ (hbX) (fun hHeld => ?_)
              clear hK K
              try simp only [Act.put, List.setIfInBounds_toArray, List.set_cons_zero, List.set_cons_succ]
              refine wpAnyH_take (i := 5) (oi := ⟨some 121, _, _, _, _, _⟩) (v := ?_) rfl (by kernel_rfl) (by kernel_rfl) (by kernel_rfl) (fun _ _ _ h => h) (Or.inl ⟨by rfl, ?_⟩) (by assumption) ?_
              rotate_left
              · intro w hSw; (try dsimp only at hSw); go_simp; try (with_reducible rfl)
              rotate_left 0
              try simp only [Act.put, List.setIfInBounds_toArray, List.set_cons_zero, List.set_cons_succ]
              refine wpAnyH_take (i := 6) (oi := ⟨some 6, _, _, _, _, _⟩) (v := ?_) rfl (by kernel_rfl) (by kernel_rfl) (by kernel_rfl) (fun _ _ _ h => h) (Or.inl ⟨by rfl, ?_⟩) (by assumption) ?_
              rotate_left
              · intro w hSw; (try dsimp only at hSw); go_simp; try (with_reducible rfl)
              rotate_left 0
              try simp only [Act.put, List.setIfInBounds_toArray, List.set_cons_zero, List.set_cons_succ]
              refine wpAnyH_done (by kernel_rfl) ?_ _
              have HX := Lib.hid (HB9.out.trans (hbX.mono HB9.out.size))
              clear hbX
              go_wp2
              go_ret
              exact ⟨rfl, HX.out⟩
end Go.Proofs.YtbmogeafhmejbaaDoor
