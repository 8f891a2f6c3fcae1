/-
  TimerOnce: walked. No condition.
-/
import Derived.Test.YtgcpiaogodgphaaTmrOnceM
namespace Go.Proofs.Ytgcpiaogodgphaa
open Go Go.RowKit Go.Maps

theorem keep_turned {W W' : World} {b : Nat} {S : List Int} (h : SeenM W b S) (ht : W.mapTurned W' b) : Keep (fun _ => False) W W' :=
  ⟨by rw [turned_size ht]; exact Nat.le_refl _, fun i o ho hc _ => by
    by_cases hi : i = b
    · subst hi
      obtain ⟨D, ⟨es, clock, h1, _⟩, _⟩ := h
      rw [h1] at ho
      cases ho
      cases hc
    · rw [turned_other ht hi]
      exact ho⟩
theorem past_zero (l : List (List Int)) : stepL (pastP l 0) = [] := by
  unfold stepL pastP
  rw [List.map_eq_nil_iff, List.filter_eq_nil_iff]
  intro x _
  have := (dly_low (x.getD 0 0)).1
  simp only [decide_eq_true_eq]
  omega
/-- Between two rounds of the inner loop. -/
structure OnceR (w wx : World) (g b : Nat) (L : List Int) (n p q : Nat) (v : Value) : Prop where
  seen : SeenM wx b (stepL (pastP (setL L n) p) ++ stepL ((nextP (setL L n) p).take q))
  tm : TimerAt wx g ((p : Int) + 1) (runP (setL L n) (p + 1))
  row : RdK 2 wx wx.heap.size v ((nextP (setL L n) p).map pairT)
  below : Below w.heap.size w wx
  ord : w.heap.size ≤ b ∧ g ≠ b
theorem OnceR.kept {w wx wy : World} {g b : Nat} {L : List Int} {n p q : Nat} {v : Value} (h : OnceR w wx g b L n p q v) (hb : Below wx.heap.size wx wy) : OnceR w wy g b L n p q v :=
  ⟨h.seen.same (hb.block _ h.seen.lt), h.tm.below hb, (h.row.old hb).mono hb.size, h.below.trans (hb.mono h.below.size), h.ord⟩
theorem OnceR.next {w wx wy : World} {g b : Nat} {L : List Int} {n p q : Nat} {v : Value} {i : Int} {x : List Int} (h : OnceR w wx g b L n p q v) (hx : (nextP (setL L n) p)[q]? = some x) (hi : x.getD 1 0 = i) (hs : SeenM wy b ((stepL (pastP (setL L n) p) ++ stepL ((nextP (setL L n) p).take q)) ++ [i])) (ht : wx.mapTurned wy b) : OnceR w wy g b L n p (q + 1) v := by
  have e : stepL (pastP (setL L n) p) ++ stepL ((nextP (setL L n) p).take (q + 1)) = (stepL (pastP (setL L n) p) ++ stepL ((nextP (setL L n) p).take q)) ++ [i] := by
    rw [List.append_assoc, List.take_add_one, hx]
    unfold stepL
    rw [List.map_append, ← hi]
    rfl
  refine ⟨by rw [e]; exact hs, h.tm.same (turned_other ht h.ord.2), (h.row.keep (keep_turned h.seen ht) (fun _ _ _ _ h => h)).mono (by rw [turned_size ht]; exact Nat.le_refl _), h.below.grown ht.grown h.below.size (fun i hi => by have := Option.some.inj hi; have := h.ord; omega), h.ord⟩
set_option maxRecDepth 100000 in
set_option maxHeartbeats 4000000 in
theorem once_early (A : Option Addr) (n c : Nat) (h : 40 < (n : Int)) (w : World) : Calls Try.prog 4 #[.slice A n c] w fun e w' => e = .returned (.bool true) ∧ Below w.heap.size w w' := by
  go_enter Try.func4, Try.ntmps4
  go_wp2_with (first
    | (go_at_call 7; refine (runs_any _).mono ?_; rintro e W1 ⟨rfl, hb1⟩; have HB1 := Lib.hid hb1; clear hb1))
  go_ret
  exact ⟨rfl, HB1.out⟩
set_option maxRecDepth 100000 in
set_option maxHeartbeats 8000000 in
theorem once_high (A : Option Addr) (n c : Nat) (L : List Int) (w : World) (hrd : RdN w (.slice A n c) L) (hL : L.length = n) (hn : n ≤ 40) : Calls Try.prog 4 #[.slice A n c] w fun e w' => e = .returned (.bool true) ∧ Below w.heap.size w w' := by
  have h1 : ¬ 40 < (n : Int) := by omega
  have HRDN := Lib.hid hrd
  have HLN := Lib.hid hL
  have hzt := timer_zero
  have hmm := @run_makeMap Try.prog
  clear hrd hL
  go_enter Try.func4, Try.ntmps4
  go_upto_region 7 with (first
    | (go_at_call 7; refine (runs_any _).mono ?_; rintro e W1 ⟨rfl, hb1⟩; have HB1 := Lib.hid hb1; clear hb1))
  obtain ⟨g, hg⟩ : ∃ g, W1.heap.size = g := ⟨_, rfl⟩
  obtain ⟨W2, hW2⟩ : ∃ W2, W1.alloc (.cells (intN 122 fun _ => 0) 28) = W2 := ⟨_, rfl⟩
  have ht2 := timer_new W1
  have hb2 : Below w.heap.size w W2 := by rw [← hW2]; exact HB1.out.alloc HB1.out.size _
  rw [hW2, hg] at ht2
  rw [hW2, hg]
  have HT2 := Lib.hid ht2
  have HB2 := Lib.hid hb2
  have HGW : Hid (w.heap.size ≤ g) := Lib.hid (by rw [← hg]; exact HB1.out.size)
  clear ht2 hb2 hW2 hg
  go_loopw [19] (fun s wr => ∃ j : Nat, j ≤ n ∧ s = .int .i64 (j : Int) ∧ TimerAt wr g 0 (setL L j) ∧ (∀ i x, i < j → L[i]? = some x → 0 ≤ x ∧ x ≤ 20) ∧ Below w.heap.size w wr) (fun s _ => n - (intOf s).toNat)
  case atStart => exact ⟨0, Nat.zero_le _, rfl, HT2.out, fun i x hi => by omega, HB2.out⟩
  case round =>
    obtain ⟨j, hj, rfl, ht, hlo, hb⟩ := hrel
    have HT := Lib.hid ht
    have HLO := Lib.hid hlo
    have HB := Lib.hid hb
    clear ht hlo hb
    by_cases hlt : j < n
    · have hji : (j : Int) < (n : Int) := by omega
      have hj0 : (0 : Int) ≤ (j : Int) := by omega
      obtain ⟨x, hx⟩ : ∃ x, L[j]? = some x := ⟨_, List.getElem?_eq_getElem (by rw [HLN.out]; exact hlt)⟩
      obtain ⟨ad, c', he, hcell⟩ := HRDN.out.here hx
      rw [HLN.out] at he
      obtain ⟨rfl, -, rfl⟩ := Value.slice.inj he
      have cx := hcell wr HB.out
      have HX := Lib.hid hx
      clear hx hcell
      by_cases hx0 : x < 0
      · go_wp2_with fail
        go_ret
        exact ⟨rfl, HB.out⟩
      · by_cases hx1 : 20 < x
        · go_wp2_with fail
          go_ret
          exact ⟨rfl, HB.out⟩
        · have HS := Lib.hid (set_any HT.out x (j : Int) (by rw [setL_len]; omega))
          rw [← setL_next L j HX.out] at HS
          have HLO2 : Hid (∀ i y, i < j + 1 → L[i]? = some y → 0 ≤ y ∧ y ≤ 20) := Lib.hid fun i y hi hy => by
            rcases Nat.lt_or_ge i j with h | h
            · exact HLO.out i y h hy
            · obtain rfl : i = j := by omega
              rw [HX.out] at hy
              cases hy
              omega
          have HDA := Lib.hid fun (m : Int) (W : World) => delay_any m W
          have hdd : 0 < x → ¬ dly x ≤ dly (x - 1) := fun h => by unfold dly; omega
          by_cases hxp : 0 < x
          · have hdd2 := hdd hxp
            clear hdd
            obtain ⟨d1, hd1⟩ : ∃ d1, dly x = d1 := ⟨_, rfl⟩
            obtain ⟨d2, hd2⟩ : ∃ d2, dly (x - 1) = d2 := ⟨_, rfl⟩
            have HD1 := Lib.hid fun W => delay_any x W
            have HD2 := Lib.hid fun W => delay_any (x - 1) W
            rw [hd1] at HD1 hdd2
            rw [hd2] at HD2 hdd2
            clear hd1 hd2 HDA
            go_wp2_with (first
              | (go_at_call 9; refine HS.out.mono ?_; rintro e W3 ⟨rfl, ht3, hg3⟩; have HT3 := Lib.hid ht3; have HB3 := Lib.hid (grown_base HB.out hg3 HGW.out); clear ht3 hg3)
              | (go_at_call 10; first | (refine (HD1.out _).mono ?_; rintro e W8 ⟨rfl, h8⟩; obtain rfl := h8.symm) | (refine (HD2.out _).mono ?_; rintro e W8 ⟨rfl, h8⟩; obtain rfl := h8.symm)))
            go_roundw
            case rel => exact ⟨j + 1, hlt, by go_num, HT3.out, HLO2.out, HB3.out⟩
            case measure => simp [intOf]; omega
          · clear hdd
            go_wp2_with (first
              | (go_at_call 9; refine HS.out.mono ?_; rintro e W3 ⟨rfl, ht3, hg3⟩; have HT3 := Lib.hid ht3; have HB3 := Lib.hid (grown_base HB.out hg3 HGW.out); clear ht3 hg3))
            go_roundw
            case rel => exact ⟨j + 1, hlt, by go_num, HT3.out, HLO2.out, HB3.out⟩
            case measure => simp [intOf]; omega
    · obtain rfl : j = n := by omega
      have hji : ¬ (j : Int) < (j : Int) := by omega
      obtain ⟨wz, hwz⟩ : ∃ z, z = wr := ⟨_, rfl⟩
      subst hwz
      go_upto_region 16 with fail
      obtain ⟨b, hbe⟩ : ∃ b, wz.heap.size = b := ⟨_, rfl⟩
      obtain ⟨W4, hW4⟩ : ∃ z, wz.alloc (.map #[] 0) = z := ⟨_, rfl⟩
      have hb4 : Below wz.heap.size wz W4 := by rw [← hW4]; exact (Below.refl _ _).alloc (Nat.le_refl _) _
      have hsm := seenM_made wz
      rw [hW4, hbe] at hsm
      have HSM0 := Lib.hid hsm
      have HT4 := Lib.hid (HT.out.below hb4)
      have HB4 := Lib.hid (HB.out.trans (hb4.mono HB.out.size))
      have HORD : Hid (w.heap.size ≤ b ∧ g ≠ b) := Lib.hid ⟨by rw [← hbe]; exact HB.out.size, by rw [← hbe]; exact Nat.ne_of_lt HT.out.lt⟩
      try simp only [hW4, hbe]
      clear hW4 hbe hb4 hsm
      go_loopw [7] (fun s wr => ∃ p : Nat, p ≤ 50 ∧ s = .int .i64 ((p : Int) + 1) ∧ TimerAt wr g (p : Int) (runP (setL L j) p) ∧ SeenM wr b (stepL (pastP (setL L j) p)) ∧ Below w.heap.size w wr) (fun s _ => 51 - (intOf s).toNat)
      case atStart => exact ⟨0, by omega, by go_num, by rw [runP_zero]; exact HT4.out, by rw [past_zero]; exact HSM0.out, HB4.out⟩
      case round =>
        clear HT HB HT4 HB4 HSM0
        obtain ⟨p, hp, rfl, ht, hsm, hb⟩ := hrel
        have HT := Lib.hid ht
        have HSN := Lib.hid hsm
        have HB := Lib.hid hb
        clear ht hsm hb
        by_cases hlt : p < 50
        · have hpi : (p : Int) + 1 ≤ 50 := by omega
          have HP50 := Lib.hid hlt
          have hov := over_any HT.out (show OkL ((p : Int) + 1) (runP (setL L j) p) from ⟨by omega, fun x hx => (setL_ok L j (show (0 : Int) ≤ (p : Int) + 1 by omega) (by omega)).2 x (List.mem_filter.1 hx).1⟩) (by omega)
          rw [over_run, keep_run] at hov
          have HOV := Lib.hid hov
          obtain ⟨m, hm⟩ : ∃ m, (nextP (setL L j) p).length = m := ⟨_, rfl⟩
          have HM := Lib.hid hm
          have HMJ : Hid (m ≤ 40 ∧ (stepL (pastP (setL L j) p)).length ≤ 40) := Lib.hid ⟨by rw [← hm]; exact Nat.le_trans (List.length_filter_le _ _) (by rw [setL_len]; exact hn), by unfold stepL pastP; rw [List.length_map]; exact Nat.le_trans (List.length_filter_le _ _) (by rw [setL_len]; exact hn)⟩
          clear hov hm
          go_upto_region 19 with (first
            | (go_at_call 13; refine HOV.out.mono ?_; rintro e W5 ⟨v, rfl, hrd, ht5, hg5⟩; obtain ⟨A5, c5, rfl⟩ : ∃ A5 c5, v = .slice A5 m c5 := (by obtain ⟨_, A5, c5, h, _⟩ := hrd; exact ⟨A5, c5, (by rw [h, List.length_map, HM.out])⟩); have HO5 : Hid (OnceR w W5 g b L j p 0 (.slice A5 m c5)) := Lib.hid ⟨(by rw [List.take_zero]; unfold stepL at *; simpa using HSN.out.same (hg5.block _ HSN.out.lt (fun e => HORD.out.2 (Option.some.inj e).symm))), ht5, hrd, grown_base HB.out hg5 HGW.out, HORD.out⟩; clear hrd ht5 hg5))
          go_loopw [54] (fun s wx => ∃ q : Nat, q ≤ m ∧ s = .int .i64 (q : Int) ∧ OnceR w wx g b L j p q (.slice A5 m c5)) (fun s _ => m - (intOf s).toNat)
          case atStart => exact ⟨0, Nat.zero_le _, rfl, HO5.out⟩
          case round =>
            obtain ⟨q, hq, rfl, ho⟩ := hrel
            have HO := Lib.hid ho
            clear ho
            by_cases hlq : q < m
            · have hm40 : m ≤ 40 := HMJ.out.1
              have hqi : (q : Int) < (m : Int) := by omega
              have hq0 : (0 : Int) ≤ (q : Int) := by omega
              obtain ⟨x, hx⟩ : ∃ x, (nextP (setL L j) p)[q]? = some x := ⟨_, List.getElem?_eq_getElem (by rw [HM.out]; exact hlq)⟩
              have hnew := next_new hx
              obtain ⟨hx1, hx2⟩ := List.mem_filter.1 (List.mem_of_getElem? hx)
              obtain ⟨i1, hi1, hxe⟩ := mem_setL hx1
              obtain ⟨r1, hr1⟩ : ∃ r1, L.getD i1 0 = r1 := ⟨_, rfl⟩
              rw [hr1] at hxe
              subst hxe
              have hdx : dly r1 = (p : Int) + 1 := of_decide_eq_true hx2
              have hri : L[i1]? = some r1 := by rw [← hr1, List.getD_eq_getElem?_getD, List.getElem?_eq_getElem (by rw [HLN.out]; exact hi1)]; rfl
              obtain ⟨ad, c', he, hld⟩ := load_pair (j := q) (r := r1) (s := (i1 : Int)) HO.out.row (by rw [List.getElem?_map, hx]; rfl)
              rw [List.length_map, HM.out] at he
              obtain ⟨rfl, -, rfl⟩ := Value.slice.inj he
              obtain ⟨ad2, c2, he2, hcell⟩ := HRDN.out.here hri
              rw [HLN.out] at he2
              obtain ⟨rfl, -, rfl⟩ := Value.slice.inj he2
              have HLD := Lib.hid (hld _ (Below.refl _ _))
              have HX := Lib.hid hx
              have HNW := Lib.hid hnew
              have HDL := Lib.hid fun W => delay_any r1 W
              rw [hdx] at HDL
              have HCL := Lib.hid hcell
              have hi1n : (i1 : Int) < (j : Int) := by omega
              have hi10 : (0 : Int) ≤ (i1 : Int) := by omega
              have d1 : decide ((i1 : Int) < 0) = false := decide_eq_false (by omega)
              have d2 : decide (j ≤ i1) = false := decide_eq_false (by omega)
              have d3 : decide ((j : Int) ≤ (i1 : Int)) = false := decide_eq_false (by omega)
              have HWI : Hid (wf64 (i1 : Int)) := Lib.hid (WalkArith.wf_i64 (by omega))
              clear hx hnew hx1 hx2 hr1 hdx hri hld hcell
              obtain ⟨wx, hwx⟩ : ∃ z, z = wr := ⟨_, rfl⟩
              subst hwx
              go_upto_region 21 with (first
                | (guard_target = wpList _ _ _ (Oper.mk _ (.load 41 _) _ _ _ _ :: _) _ _; refine wpList_load_runT (by rfl) 41 _ rfl (.pointer (some (ad.add (q * 2)))) (.agg #[.int .i64 r1, .int .i64 (i1 : Int)]) rfl (HLD.out) ?_))
              obtain ⟨Wy, hWy⟩ : ∃ z, wx.alloc (.cells #[.int .i64 r1, .int .i64 (i1 : Int)] 41) = z := ⟨_, rfl⟩
              obtain ⟨bp, hbp⟩ : ∃ bp, wx.heap.size = bp := ⟨_, rfl⟩
              have hby : Below wx.heap.size wx Wy := by rw [← hWy]; exact (Below.refl _ _).alloc (Nat.le_refl _) _
              have HKP : Hid (Blk Wy bp 41 #[.int .i64 r1, .int .i64 (i1 : Int)]) := Lib.hid (by rw [← hWy, ← hbp]; exact Blk.new _ _ _)
              have HBY := Lib.hid hby
              have HOY := Lib.hid (HO.out.kept hby.drew)
              have HSM := Lib.hid HO.out.seen
              have HNEW := HNW
              have HSL : Hid ((stepL (pastP (setL L j) p) ++ stepL ((nextP (setL L j) p).take q)).length < maxLen) := Lib.hid (by
                have h1 : (stepL ((nextP (setL L j) p).take q)).length ≤ 40 := by
                  unfold stepL
                  rw [List.length_map, List.length_take]
                  have := HM.out
                  have := HMJ.out
                  omega
                rw [List.length_append]
                have := HMJ.out
                unfold maxLen
                omega)
              have HNEXT : Hid (∀ W9, SeenM W9 b ((stepL (pastP (setL L j) p) ++ stepL ((nextP (setL L j) p).take q)) ++ [(i1 : Int)]) → Wy.drew.mapTurned W9 b → OnceR w W9 g b L j p (q + 1) (.slice (some ad) m c5)) := Lib.hid fun W9 hs ht => HOY.out.next HX.out rfl hs ht
              have cxr : Wy.drew.cell? (ad2.add i1) = some (.int .i64 r1) := HCL.out _ HOY.out.below
              have HP0 : Hid (∀ W', Below Wy.heap.size Wy W' → W'.cell? ⟨bp, 0, none⟩ = some (.int .i64 r1)) := Lib.hid fun W' hb => by rw [(HKP.out.below hb HKP.out.lt).cell]; rfl
              have HP1 : Hid (∀ W', Below Wy.heap.size Wy W' → W'.cell? ⟨bp, 1, none⟩ = some (.int .i64 (i1 : Int))) := Lib.hid fun W' hb => by rw [(HKP.out.below hb HKP.out.lt).cell]; rfl
              try simp only [hWy, hbp]
              clear hWy hbp hby
              refine wp_region_held_drew (S := fun W' => Below Wy.heap.size Wy W') (by kernel_rfl) ?_ (fun hHeld => ?_)
              · exact (Below.refl _ _).drew
              refine wpAnyH_take (i := 0) (oi := ⟨some 58, _, _, _, _, _⟩) (v := ?_) rfl (by kernel_rfl) (by kernel_rfl) (by kernel_rfl) (fun _ _ _ h => h) (Or.inl ⟨by rfl, ?_⟩) (by assumption) ?_
              rotate_left
              · intro w hSw; (try dsimp only at hSw); go_simp; try (with_reducible rfl)
              rotate_left 0
              try simp only [Act.put, List.setIfInBounds_toArray, List.set_cons_zero, List.set_cons_succ]
              refine wpAnyH_take (i := 1) (oi := ⟨some 59, _, _, _, _, _⟩) (v := (.int .i64 r1)) rfl (by kernel_rfl) (by kernel_rfl) (by kernel_rfl) (fun _ _ _ h => h) (yields_cell (by rfl) 3 _ rfl ⟨bp, 0, none⟩ rfl _ _ (fun W' hS => HP0.out W' hS) Try.underlying3 rfl) (by assumption) ?_
              try simp only [Act.put, List.setIfInBounds_toArray, List.set_cons_zero, List.set_cons_succ]
              refine wpAnyH_take (i := 2) (oi := ⟨some 60, _, _, _, _, _⟩) (v := ?_) rfl (by kernel_rfl) (by kernel_rfl) (by kernel_rfl) (fun _ _ _ h => h) (Or.inl ⟨by rfl, ?_⟩) (by assumption) ?_
              rotate_left
              · intro w hSw; (try dsimp only at hSw); go_simp; try (with_reducible rfl)
              rotate_left 0
              try simp only [Act.put, List.setIfInBounds_toArray, List.set_cons_zero, List.set_cons_succ]
              refine wpAnyH_take (i := 3) (oi := ⟨some 61, _, _, _, _, _⟩) (v := (.int .i64 (i1 : Int))) rfl (by kernel_rfl) (by kernel_rfl) (by kernel_rfl) (fun _ _ _ h => h) (yields_cell (by rfl) 3 _ rfl ⟨bp, 1, none⟩ rfl _ _ (fun W' hS => HP1.out W' hS) Try.underlying3 rfl) (by assumption) ?_
              try simp only [Act.put, List.setIfInBounds_toArray, List.set_cons_zero, List.set_cons_succ]
              refine wpAnyH_take (i := 4) (oi := ⟨some 10, _, _, _, _, _⟩) (v := ?_) rfl (by kernel_rfl) (by kernel_rfl) (by kernel_rfl) (fun _ _ _ h => h) (Or.inl ⟨by rfl, ?_⟩) (by assumption) ?_
              rotate_left
              · intro w hSw; (try dsimp only at hSw); go_simp; try (with_reducible rfl)
              rotate_left 0
              try simp only [Act.put, List.setIfInBounds_toArray, List.set_cons_zero, List.set_cons_succ]
              refine wpAnyH_take (i := 5) (oi := ⟨some 11, _, _, _, _, _⟩) (v := ?_) rfl (by kernel_rfl) (by kernel_rfl) (by kernel_rfl) (fun _ _ _ h => h) (Or.inl ⟨by rfl, ?_⟩) (by assumption) ?_
              rotate_left
              · intro w hSw; (try dsimp only at hSw); go_simp; try (with_reducible rfl)
              rotate_left 0
              try simp only [Act.put, List.setIfInBounds_toArray, List.set_cons_zero, List.set_cons_succ]
              refine wpAnyH_done (by kernel_rfl) ?_ _
              go_upto_region 24 with (first
                | (guard_target = wpList _ _ _ (Oper.mk _ (.lookup _ _ _ false) _ _ _ _ :: _) _ _; refine wpList_seen_look (by rfl) _ _ rfl rfl (HSM.out.same (by first | exact (Below.block (HBY.out.drew) _ HSM.out.lt) | rfl)) (i1 : Int) rfl HWI.out HNEW.out ?_)
                | (go_at_call 10; refine (HDL.out _).mono ?_; rintro e W8 ⟨rfl, h8⟩; obtain rfl := h8.symm))
              go_wp2_with (first
                | (guard_target = wpList _ _ _ (Oper.mk _ (.mapUpdate _ _ _ _) _ _ _ _ :: _) _ _; refine wpList_seen_store rfl _ _ _ rfl rfl (HSM.out.same (Below.block (HBY.out.drew) _ HSM.out.lt)) (i1 : Int) rfl rfl HWI.out HNEW.out HSL.out ?_; intro W9 hs9 ht9; have HS9 := Lib.hid hs9; have HT9 := Lib.hid ht9; clear hs9 ht9))
              go_roundw
              case rel => exact ⟨q + 1, hlq, by go_num, HNEXT.out W9 HS9.out HT9.out⟩
              case measure => simp [intOf]; omega
            · obtain rfl : q = m := by omega
              have hqi : ¬ (q : Int) < (q : Int) := by omega
              have hfin := HO.out.seen
              rw [List.take_of_length_le (Nat.le_of_eq HM.out)] at hfin
              have HSF : Hid (SeenM wr b (stepL (pastP (setL L j) (p + 1)))) := Lib.hid (hfin.congr (by rw [List.length_append]; unfold stepL; rw [List.length_map, List.length_map, List.length_map, past_next_len]) (past_next_mem _ _))
              have HTF := Lib.hid HO.out.tm
              have HBF := Lib.hid HO.out.below
              have epp : ((p + 1 : Nat) : Int) = (p : Int) + 1 := by omega
              clear hfin
              go_wp2_with fail
              go_roundw
              case rel => exact ⟨p + 1, by omega, by go_num, by rw [epp]; exact HTF.out, HSF.out, HBF.out⟩
              case measure => simp [intOf]; omega
        · obtain rfl : p = 50 := by omega
          obtain ⟨hpl, hpr⟩ := past_all (L := L) (n := j) HLN.out (fun x hx => by
            obtain ⟨i, hi⟩ := List.getElem?_of_mem hx
            exact (HLO.out i x (by rw [← HLN.out]; exact (List.getElem?_eq_some_iff.1 hi).1) hi).2)
          have ht50 := HT.out
          rw [hpr] at ht50
          have HLE := Lib.hid (len_any ht50)
          have HPL := Lib.hid hpl
          clear ht50 hpr hpl
          go_wp2_with (first
            | (guard_target = wpList _ _ _ (Oper.mk _ (.call _) _ _ _ _ :: _) _ _; refine wpList_seen_len rfl (.tmp 92) rfl rfl HSN.out ?_; rw [HPL.out])
            | (go_at_call 15; refine HLE.out.mono ?_; rintro e W20 ⟨rfl, h20⟩; obtain rfl := h20.symm))
          go_ret
          exact ⟨by simp, HB.out⟩
theorem once_law (v : Value) (L : List Int) (w : World) (hr : RdN w v L) : Calls Try.prog 4 #[v] w fun e w' => e = .returned (.bool true) ∧ Below w.heap.size w w' := by
  obtain ⟨A, c, rfl, _, _⟩ := id hr
  by_cases h : 40 < (L.length : Int)
  · exact once_early A L.length c h w
  · exact once_high A L.length c L w hr rfl (by omega)
end Go.Proofs.Ytgcpiaogodgphaa
