/-
  RoundLives, walked. No condition.
-/
import Derived.Test.YtbgojlcciealiaaQLv
namespace Go.Proofs.Ytbgojlcciealiaa
open Go Go.RowKit Go.Maps

set_option maxRecDepth 100000 in
set_option maxHeartbeats 20000000 in
theorem lives_go (N p : Nat) (hN : 0 ≤ faults (N : Int)) (hN1 : 1 ≤ N) (hN7 : N ≤ 7) (hp : proposer (N : Int) 5 0 = (p : Int)) (hpN : p < N) (A : Option Addr) (mm cc : Nat) (L : List Int) (w : World) (hr : RdQ w (.slice A mm cc) L) (hl : L.length = mm) : Calls Try.prog 11 #[.int .i64 (N : Int), .slice A mm cc] w fun e w' => e = .returned (.bool true) ∧ Below w.heap.size w w' := by
  have HN := Lib.hid hN
  have HRQ := Lib.hid hr
  have HL := Lib.hid hl
  have HP := Lib.hid hp
  have HPR : Hid (∀ W, Calls Try.prog 43 #[.int .i64 (N : Int), .int .i64 5, .int .i64 0] W fun e w' => e = .returned (.int .i64 (p : Int)) ∧ w' = W) := Lib.hid fun W => hp ▸ proposer_any (N : Int) 5 0 (by omega) (by omega) (by omega) (by omega) W
  have hfn : ¬ faults (N : Int) < 0 := by omega
  have hp7 : p < 7 := by omega
  have HP7 := Lib.hid hp7
  have HN7 := Lib.hid hN7
  have hmk : ∀ w, (Instr.makeSlice 49 (.int .i64 (N : Int)) (.int .i64 (N : Int))).run Try.prog w = .ok (.slice (some ⟨w.heap.size, 0, none⟩) N N) (w.alloc (.cells (arr (32 * N) fun _ => .int .u8 0) 24)) := fun w => run_mk_idsH N (by omega) w
  clear hN hr hl hp
  go_enter Try.func11, Try.ntmps11
  go_upto_region 3 with (go_at_call 32; refine (agrees_any _).mono ?_; rintro e W1 ⟨rfl, hb1⟩; have HB1 := Lib.hid hb1; clear hb1)
  go_upto_region 5 with (go_at_call 18; refine (faults_any _ _).mono ?_; rintro e Wf ⟨rfl, h1⟩; obtain rfl := h1.symm)
  go_upto_region 6 with fail
  generalize hW3 : World.alloc (World.alloc W1 _) _ = W3
  have hk3 : Blk W3 (W1.heap.size + 1) 82 (arr 4 (haF (.slice none 0 0) (.slice none 0 0) (.slice (some ⟨W1.heap.size, 0, none⟩) N N) N)) := by
    rw [← hW3, ← ha_new]
    exact Blk.newAt _ _ (show (Array.push _ _).size = _ from Array.size_push _) rfl
  have hd3 : Blk W3 W1.heap.size 24 (arr (32 * N) (dsF (List.replicate N zeroId))) := by
    rw [← hW3]
    exact ((Blk.new W1 _ _).same (ds_zero N)).below ((Below.refl _ _).alloc (Nat.le_refl _) _) (by show _ < (Array.push _ _).size; rw [Array.size_push]; omega)
  have hb3 : Below w.heap.size w W3 := by
    rw [← hW3]
    exact (HB1.out.alloc HB1.out.size _).alloc (Nat.le_trans HB1.out.size (by show _ ≤ (Array.push _ _).size; rw [Array.size_push]; omega)) _
  obtain ⟨Db, hDb⟩ : ∃ Db, W1.heap.size = Db := ⟨_, rfl⟩
  obtain ⟨Hb, hHb⟩ : ∃ Hb, W1.heap.size + 1 = Hb := ⟨_, rfl⟩
  have hlow : w.heap.size ≤ Hb ∧ w.heap.size ≤ Db := by have := HB1.out.size; omega
  rw [hHb, hDb] at hk3
  rw [hDb] at hd3
  rw [hHb]
  have HO1 : Hid (OpenL w.heap.size W3 N Hb Db (.slice none 0 0) [] []) := Lib.hid ⟨hall_nil _ _, hk3, World.ownsRow_nil _ _ _ _, hd3, fun i x hx => (by simp at hx), fun i x hx => (by simp at hx), fun g hg => (by cases hg), hlow⟩
  have HB3 := Lib.hid hb3
  have HBWN : Hid (w.heap.size ≤ w.heap.size) := Lib.hid (Nat.le_refl _)
  clear hW3 hk3 hd3 hb3 hDb hHb hlow hmk HB1
  go_upto_region 7 with fail
  go_loopw [6] (fun s6 wr => ∃ (i : Nat) (l : List RB) (va : Value), i ≤ N ∧ s6 = .int .i64 (i : Int) ∧ OpenL w.heap.size wr N Hb Db va (ptrsOf l) l ∧ l.length = i ∧ (∀ (q : Nat) (x : RB), l[q]? = some x → Early N (q : Int) (kidN p) x.s ∧ x.n ≤ 202) ∧ Below w.heap.size w wr) (fun s6 _ => N - (intOf s6).toNat)
  case atStart => exact ⟨0, [], _, Nat.zero_le _, rfl, HO1.out, rfl, fun q x hx => (by simp at hx), HB3.out⟩
  case round =>
    obtain ⟨i, l, va, hi, rfl, hOS, hll, hln, hB⟩ := hrel
    by_cases hiH : i < N
    · have hii : (i : Int) < (N : Int) := by omega
      have hi0 : (0 : Int) ≤ (i : Int) := by omega
      have hBB : w.heap.size ≤ wr.heap.size := hB.size
      go_upto_region 10 with (go_at_call 33; refine (newR_good (N : Int) (i : Int) 5 _ HN.out (by omega) (by omega) (by decide) (wfi_small (by decide) (by decide))).mono ?_; rintro e W2 ⟨B, C, M, rfl, hra, hbw, h1, h2, h3⟩)
      replace hOS := hOS.new hBB hbw hra h1 h2 h3
      replace hB := hB.trans (hbw.mono hBB)
      have HXI : Hid ((l ++ [RB.mk B C M 0 (.slice none 0 0) (newS (N : Int).toNat (i : Int) 5)])[i]? = some ⟨B, C, M, 0, .slice none 0 0, newS (N : Int).toNat (i : Int) 5⟩) := Lib.hid (by rw [List.getElem?_append_right (by rw [hll]; exact Nat.le_refl _), hll, Nat.sub_self]; rfl)
      have HLI := Lib.hid hll
      have HLN := Lib.hid hln
      have HOS := Lib.hid hOS
      have HB2 := Lib.hid hB
      clear hra hbw h1 h2 h3 hOS hB hll hln hBB
      go_upto_region 13 with (first
  | (go_at_call 43; refine (HPR.out _).mono ?_; rintro e Wp ⟨rfl, h1⟩; obtain rfl := h1.symm)
  | (guard_target = wpList _ _ _ (Oper.mk _ (.build 24 _) _ _ _ _ :: _) _ _; refine wpList_yields (S := fun _ => True) trivial (v := idv (kidN p)) (yields_build (by rfl) 24 _ rfl [(0, .int .u8 (((p : Nat) : Int) + 1))] rfl _ (built_next p HP7.out)) (by rfl) ?_)
  | (go_at_call 45; refine (know_any (HOS.out.hall.at_ i _ HXI.out) (kidN p) (kidN_ok p) (by show 0 + 202 < _; unfold maxLen; omega)).mono ?_; rintro e Wk hdn; obtain ⟨vk, kv', rfl, hOK, hBK⟩ := HOS.out.know (Nat.le_trans HBWN.out HB2.out.size) HXI.out hdn))
      have hOK2 : OpenL w.heap.size Wk N Hb Db va (ptrsOf l) (l ++ [RB.mk B C M (0 + 202) kv' (settleS (remS (newS (N : Int).toNat (i : Int) 5) (kidN p)))]) := by
        rw [List.set_append_right _ _ (by rw [HLI.out]; exact Nat.le_refl _), HLI.out, Nat.sub_self] at hOK
        exact hOK
      replace hOK := hOK2
      clear hOK2 hdn
      have ca : Wk.cell? ⟨Hb, 0, none⟩ = some va := by rw [hOK.blk.cell, arr_get, if_pos (by omega)]; rfl
      obtain ⟨A1, c1, hva⟩ := row_slice hOK.own
      obtain ⟨pn, hpn⟩ : ∃ pn, (ptrsOf l).length = pn := ⟨_, rfl⟩
      have hvb : va = .slice A1 pn c1 := hva.trans (by rw [← hpn])
      subst hvb
      have HOX := Lib.hid hOK
      have HPN := Lib.hid hpn
      have HBZ : Hid (w.heap.size ≤ Wk.heap.size) := Lib.hid (Nat.le_trans HB2.out.size hBK.size)
      have HBK := Lib.hid (HB2.out.trans hBK)
      clear hva hpn hOK hBK
      go_wp2_with (first
  | (at_builtin; have HBP := Lib.hid ((Below.refl Wk.heap.size Wk).alloc (Nat.le_refl _) (.cells #[.pointer (some ⟨B, 0, none⟩)] 62)); have HPB : Hid (Blk (Wk.alloc (.cells #[.pointer (some ⟨B, 0, none⟩)] 62)) Wk.heap.size 62 #[.pointer (some ⟨B, 0, none⟩)]) := Lib.hid (Blk.new _ _ _); go_loud (obtain ⟨v5, W5, hrun, how5, hg5, hor5⟩ := app_ptr (Nat.le_trans HBZ.out HBP.out.size) (rowV_kept HOX.out.own HBP.out) (.pointer (some ⟨B, 0, none⟩)) rfl HPB.out (by rw [HPN.out]; have h9 := HPN.out; unfold ptrsOf at h9; rw [List.length_map, HLI.out] at h9; omega)); rw [HPN.out] at how5; refine wpList_append_run rfl _ _ _ _ rfl _ _ rfl rfl v5 W5 hrun ?_; have HOW5 := Lib.hid how5; have HG5 := Lib.hid (grown_trans (grown_of_below HBP.out _) hg5); have HOR5 : Hid (v5.ownBlock = Value.ownBlock (.slice A1 pn c1) ∨ ∃ g, v5.ownBlock = some g ∧ Wk.heap.size ≤ g) := Lib.hid (hor5.imp (fun e => e) fun e => ⟨_, e, HBP.out.size⟩); have HBK5 : Hid (Blk W5 Hb 82 (arr 4 (haF (.slice A1 pn c1) (.slice none 0 0) (.slice (some ⟨Db, 0, none⟩) N N) N))) := Lib.hid (HOX.out.blk.grown HG5.out fun e => by (obtain ⟨ds, h3, _⟩ := row_at HOX.out.own e.symm; exact blk_ne HOX.out.blk h3 (by decide) rfl)); clear hrun how5 hg5 hor5)
  | (guard_target = wpList _ _ _ (Oper.mk _ (.store 79 _ _) _ _ _ _ :: _) _ _; refine wpList_plain rfl fun K hK => oper_store_val 79 _ _ rfl Hb 0 4 _ v5 (own_cells HOW5.out).1 (own_cells HOW5.out).2 rfl rfl 82 HBK5.out (by kernel_rfl) (by omega) fun W6 hw6 => hK _ _ ?_; have HBK6 : Hid (Blk W6 Hb 82 (arr 4 (haF v5 (.slice none 0 0) (.slice (some ⟨Db, 0, none⟩) N N) N))) := Lib.hid (by rw [hw6]; exact (HBK5.out.setRow _).same (ha_put0 _ _ _ _ _)); have HG6 : Hid (W5.grownBy W6 (some Hb)) := Lib.hid (by rw [hw6]; exact grown_row _ _ _); clear hw6))
      have hfin := HOX.out.push HBZ.out HG5.out (by rw [HPN.out]; exact HOW5.out) HOR5.out HBK6.out HG6.out
      go_roundw
      case rel => exact ⟨i + 1, l ++ [RB.mk B C M (0 + 202) kv' (settleS (remS (newS (N : Int).toNat (i : Int) 5) (kidN p)))], v5, hiH, by go_num, by rw [ptrs_more]; exact hfin.1, by rw [List.length_append, HLI.out]; rfl, fun q y hy => early_more HLN.out HLI.out HP7.out rfl (Nat.le_refl _) hy, HBK.out.trans hfin.2⟩
      case measure => simp [intOf]; omega
    · obtain rfl : i = N := by omega
      have hii : ¬ (i : Int) < (i : Int) := by omega
      have HLN := Lib.hid hln
      have HLL := Lib.hid hll
      obtain ⟨Ab, cap, hvb⟩ : ∃ Ab cap, va = .slice (some ⟨Ab, 0, none⟩) i cap := by
        have hpl : (ptrsOf l).length = i := by unfold ptrsOf; rw [List.length_map]; exact hll
        rcases hOS.own.2 with ⟨_, h0⟩ | ⟨g, cap, cur, hv, _⟩
        · omega
        · exact ⟨g, cap, by rw [hv, hpl]⟩
      subst hvb
      have ca : wr.cell? ⟨Hb, 0, none⟩ = some (.slice (some ⟨Ab, 0, none⟩) i cap) := by rw [hOS.blk.cell, arr_get, if_pos (by omega)]; rfl
      have HD0 := Lib.hid (DwL.start (p := p) (hOS.hallM hll) hll HN7.out hB hln)
      clear hOS hll hln hB
      go_upto_region 15 with fail
      clear ca
      obtain ⟨wp, hwp⟩ : ∃ z, z = wr := ⟨_, rfl⟩
      subst hwp
      go_loopw [61] (fun s61 wr => ∃ (k : Nat) (h : HM), k ≤ i ∧ s61 = .int .i64 (k : Int) ∧ DwL w i p Hb Ab k h wr ∧ h.cap = cap) (fun s61 _ => i - (intOf s61).toNat)
      case atStart => exact ⟨0, _, Nat.zero_le _, rfl, HD0.out, rfl⟩
      case round =>
        obtain ⟨k, h, hk, rfl, hA, hcap⟩ := hrel
        by_cases hkN : k < i
        · have hki : (k : Int) < (i : Int) := by omega
          have hk0 : (0 : Int) ≤ (k : Int) := by omega
          have hk7 : k < 7 := by omega
          have HK7 := Lib.hid hk7
          obtain ⟨x, hx⟩ : ∃ x, h.l[k]? = some x := ⟨_, List.getElem?_eq_getElem (by rw [hA.m.len]; exact hkN)⟩
          have ck : wr.cell? ⟨Ab, k, none⟩ = some (.pointer (some ⟨x.B, 0, none⟩)) := by
            obtain ⟨cs, a1, a2⟩ := hA.m.all
            rw [← hA.ab, a1.cell]
            exact a2 k x hx
          have HX := Lib.hid hx
          have HKN := Lib.hid hkN
          have HCP := Lib.hid hcap
          have HA := Lib.hid hA
          have HHB := Lib.hid hA.hb
          clear hx hcap hA
          go_upto_region 17 with fail
          clear ck
          go_wp2_with (first
  | (guard_target = wpList _ _ _ (Oper.mk _ (.build 24 _) _ _ _ _ :: _) _ _; refine wpList_yields (S := fun _ => True) trivial (v := idv (kidN k)) (yields_build (by rfl) 24 _ rfl [(0, .int .u8 (((k : Nat) : Int) + 1))] rfl _ (built_next k HK7.out)) (by rfl) ?_)
  | (go_at_call 39; refine (beginM_any (HA.out.m.hall.at_ k x HX.out) (kidN k) (kidN_ok k) (by have := HA.out.few k x HX.out; have := HK7.out; unfold maxLen; omega)).mono ?_; rintro e Wv hdn; obtain ⟨vv, kv', rfl, hov, hM2, hB2, _⟩ := HA.out.m.did HA.out.base.size HX.out hdn; have HOV := Lib.hid hov; have HM2 := Lib.hid hM2; have HB2 := Lib.hid hB2; clear hdn hov hM2 hB2)
  | (go_at_call 38; refine (take_at HM2.out HHB.out (Nat.le_trans HA.out.base.size HB2.out.size) k HKN.out HN7.out _ _ _ HOV.out).mono ?_; rintro e Wt ⟨⟨vt, rfl⟩, hB3, vm', hM3, hT⟩))
          have hD := HA.out.begins HN.out HN7.out HP.out hpN HKN.out HX.out hM3 (HB2.out.trans hB3)
          go_roundw
          case rel => exact ⟨k + 1, _, HKN.out, by go_num, hD, HCP.out⟩
          case measure => simp [intOf]; omega
        · obtain rfl : k = i := by omega
          have hki : ¬ (k : Int) < (k : Int) := by omega
          have HPL := Lib.hid (hA.plays hpN HN7.out)
          clear hA hcap
          obtain ⟨wp3, hwp3⟩ : ∃ z, z = wr := ⟨_, rfl⟩
          subst hwp3
          go_upto_region 20 with fail
          go_loopw [11] (fun s11 wr => ∃ (n : Nat) (h : HM), s11 = .int .i64 (n : Int) ∧ PlL w k p Hb n h wr) (fun s11 _ => 200 - (intOf s11).toNat)
          case atStart => exact ⟨0, _, rfl, HPL.out⟩
          case round =>
            obtain ⟨n, h, rfl, hA⟩ := hrel
            obtain ⟨A1, c1, hv1⟩ := row_slice hA.m.own
            obtain ⟨mn, hmn⟩ : ∃ mn, h.ms.length = mn := ⟨_, rfl⟩
            rw [hmn] at hv1
            have HVM := Lib.hid hv1
            have HML := Lib.hid hmn
            have hn150 : n ≤ 150 := by have := hA.bound; omega
            have HNB := Lib.hid hn150
            have ch : wr.cell? ⟨Hb, 2, none⟩ = some (.slice A1 mn c1) := (hA.cell (c := 2) (by omega)).trans (congrArg some hv1)
            clear hv1 hmn
            by_cases hm0 : 0 < mn
            · have hmi : (0 : Int) < (mn : Int) := by omega
              have HM0 := Lib.hid hm0
              have HA := Lib.hid hA
              go_upto_region 23 with fail
              clear ch hA
              go_cut [94] from 84 to 94 (fun s94 wx => (∃ b : Bool, s94 = .bool b ∧ (b = true → ∃ q : Int, L[n]? = some q ∧ 0 ≤ q)) ∧ wx = wr)
              case first =>
                by_cases hnm : n < mm
                · have hnmi : (n : Int) < (mm : Int) := by omega
                  have hn0 : (0 : Int) ≤ (n : Int) := by omega
                  obtain ⟨q, hq⟩ : ∃ q, L[n]? = some q := ⟨_, List.getElem?_eq_getElem (by rw [HL.out]; exact hnm)⟩
                  obtain ⟨ad, c', he, hwf, hld⟩ := HRQ.out.here hq
                  rw [HL.out] at he
                  obtain ⟨rfl, -, rfl⟩ := Value.slice.inj he
                  have cq := hld _ HA.out.base
                  have HQ := Lib.hid hq
                  clear he hld hq
                  by_cases h0 : 0 ≤ q
                  · go_wp2_with fail
                    go_meet
                    exact ⟨⟨true, rfl, fun _ => ⟨q, HQ.out, h0⟩⟩, rfl⟩
                  · go_wp2_with fail
                    go_meet
                    exact ⟨⟨false, rfl, fun e => by cases e⟩, rfl⟩
                · have hnmi : ¬ (n : Int) < (mm : Int) := by omega
                  go_wp2_with fail
                  go_meet
                  exact ⟨⟨false, rfl, fun e => by cases e⟩, rfl⟩
              case rest =>
                obtain ⟨⟨b, rfl, hb⟩, hw9⟩ := hcut
                subst hw9
                have HBQ := Lib.hid hb
                clear hb
                go_upto_if 94 with fail
                go_cut [12] from 95 to 104 (fun s12 wx => (∃ a : Nat, a < mn ∧ s12 = .int .i64 (a : Int)) ∧ PlL w k p Hb n h wx)
                case first =>
                  cases b with
                  | false =>
                    go_wp2_with fail
                    go_meet
                    exact ⟨⟨0, HM0.out, rfl⟩, HA.out⟩
                  | true =>
                    obtain ⟨q, hq, h0⟩ := HBQ.out rfl
                    obtain ⟨q, rfl⟩ := Int.eq_ofNat_of_zero_le h0
                    obtain ⟨ad, c', he, hwf, hld⟩ := HRQ.out.here hq
                    rw [HL.out] at he
                    obtain ⟨rfl, -, rfl⟩ := Value.slice.inj he
                    have hnm : n < mm := by have h1 := (List.getElem?_eq_some_iff.1 hq).1; rw [HL.out] at h1; exact h1
                    have hnmi : (n : Int) < (mm : Int) := by omega
                    have hn0 : (0 : Int) ≤ (n : Int) := by omega
                    have HQL : Hid ((q : Int) < 9223372036854775808) := Lib.hid (by have := wfi_lt hwf; omega)
                    have HLD := Lib.hid (hld _ HA.out.base)
                    clear he hld hwf hq h0
                    go_upto_region 24 with fail
                    refine wp_region_held_drew (S := fun W' => W'.cell? (ad.add n) = some (.int .i64 (q : Int)) ∧ W'.cell? ⟨Hb, 2, none⟩ = some (.slice A1 mn c1)) (by kernel_rfl) ?_ (fun hHeld => ?_)
                    · exact ⟨HLD.out, (HA.out.cell (c := 2) (by omega)).trans (congrArg some HVM.out)⟩
                    refine tkH (v := ?_) 0 ⟨some 95, _, _, _, _, _⟩ rfl (Or.inl ⟨by rfl, ?_⟩) ?_
                    rotate_left
                    · intro w hSw; (try dsimp only at hSw); go_simp; try (with_reducible rfl)
                    try simp only [Act.put, nz1, nz2, nz3]
                    refine tkH (v := ?_) 1 ⟨some 96, _, _, _, _, _⟩ rfl (Or.inl ⟨by rfl, ?_⟩) ?_
                    rotate_left
                    · intro w hSw; (try dsimp only at hSw); go_simp; try (with_reducible rfl)
                    try simp only [Act.put, nz1, nz2, nz3]
                    refine tkH (v := ?_) 2 ⟨some 97, _, _, _, _, _⟩ rfl (Or.inl ⟨by rfl, ?_⟩) ?_
                    rotate_left
                    · intro w hSw; (try dsimp only at hSw); go_simp; try (with_reducible rfl)
                    try simp only [Act.put, nz1, nz2, nz3]
                    refine tkH (v := (.int .i64 (q : Int))) 3 ⟨some 98, _, _, _, _, _⟩ rfl (yields_one (by rfl) 3 _ rfl (ad.add n) rfl _ _ (fun W' hS => hS.1) Try.underlying3 rfl) ?_
                    try simp only [Act.put, nz1, nz2, nz3]
                    refine tkH (v := ?_) 4 ⟨some 99, _, _, _, _, _⟩ rfl (Or.inl ⟨by rfl, ?_⟩) ?_
                    rotate_left
                    · intro w hSw; (try dsimp only at hSw); go_simp; try (with_reducible rfl)
                    try simp only [Act.put, nz1, nz2, nz3]
                    refine tkH (v := ?_) 5 ⟨some 100, _, _, _, _, _⟩ rfl (Or.inl ⟨by rfl, ?_⟩) ?_
                    rotate_left
                    · intro w hSw; (try dsimp only at hSw); go_simp; try (with_reducible rfl)
                    try simp only [Act.put, nz1, nz2, nz3]
                    refine tkH (v := ?_) 6 ⟨some 101, _, _, _, _, _⟩ rfl (Or.inl ⟨by rfl, ?_⟩) ?_
                    rotate_left
                    · intro w hSw; (try dsimp only at hSw); go_simp; try (with_reducible rfl)
                    try simp only [Act.put, nz1, nz2, nz3]
                    refine tkH (v := (.slice A1 mn c1)) 7 ⟨some 102, _, _, _, _, _⟩ rfl (yields_one (by rfl) 80 _ rfl ⟨Hb, 2, none⟩ rfl _ _ (fun W' hS => hS.2) Try.underlying80 rfl) ?_
                    try simp only [Act.put, nz1, nz2, nz3]
                    refine tkH (v := ?_) 8 ⟨some 103, _, _, _, _, _⟩ rfl (Or.inl ⟨by rfl, ?_⟩) ?_
                    rotate_left
                    · intro w hSw; (try dsimp only at hSw); go_simp; try (with_reducible rfl)
                    try simp only [Act.put, nz1, nz2, nz3]
                    refine tkH (v := (.int .i64 ((q % mn : Nat) : Int))) 9 ⟨some 104, _, _, _, _, _⟩ rfl (yields_binR (by rfl) .rem 3 _ _ _ rfl (.int .i64 (q : Int)) (.int .i64 (mn : Int)) rfl rfl _ (fun w => by rfl) (fun w => int_remQ q mn HM0.out HQL.out w)) ?_
                    try simp only [Act.put, nz1, nz2, nz3]
                    refine tkH (v := ?_) 10 ⟨some 12, _, _, _, _, _⟩ rfl (Or.inl ⟨by rfl, ?_⟩) ?_
                    rotate_left
                    · intro w hSw; (try dsimp only at hSw); go_simp; try (with_reducible rfl)
                    try simp only [Act.put, nz1, nz2, nz3]
                    refine wpAnyH_done (by kernel_rfl) ?_ _
                    go_wp2_with fail
                    go_meet
                    exact ⟨⟨q % mn, Nat.mod_lt _ HM0.out, rfl⟩, HA.out.below (Below.refl _ _).drew⟩
                case rest =>
                  obtain ⟨⟨at1, hat, rfl⟩, hA⟩ := hcut
                  have HA := Lib.hid hA
                  obtain ⟨m, hm⟩ : ∃ m, h.ms[at1]? = some m := ⟨_, List.getElem?_eq_getElem (by rw [HML.out]; exact hat)⟩
                  obtain ⟨d, x, hd, hdd, hx, hmo⟩ := hA.whose hm
                  obtain ⟨g1, hA1, hcc⟩ : ∃ g, A1 = some ⟨g, 0, none⟩ ∧ mn ≤ c1 := by
                    rcases hA.m.own.2 with ⟨hv0, h0⟩ | ⟨g, cap, cur, hv0, _, _, hnc, _⟩
                    · have := HML.out
                      omega
                    · rw [HVM.out] at hv0
                      obtain ⟨e1, -, e3⟩ := Value.slice.inj hv0
                      exact ⟨g, e1, by rw [e3, ← HML.out]; exact hnc⟩
                  subst hA1
                  have HLM : Hid ((Instr.loadAt 85 (.pointer (some ⟨g1, at1 * 38, none⟩))).run Try.prog wc = .ok (.agg (mailA m)) wc) := Lib.hid (by
                    obtain ⟨ad, c9, e1, e2, _, e4⟩ := (rdMl_own hA.m.own hA.m.mok rfl (by have := hA.m.few; omega)).here hm
                    have e5 := HVM.out.symm.trans e1
                    have e6 := (Value.slice.inj e5).1
                    have e7 : ad = ⟨g1, 0, none⟩ := (Option.some.inj e6).symm
                    rw [e7, show (⟨g1, 0, none⟩ : Addr).add (at1 * 38) = ⟨g1, at1 * 38, none⟩ by unfold Addr.add; split <;> simp_all] at e4
                    exact e4 _ (Below.refl _ _))
                  have HMO := Lib.hid hmo
                  have HD := Lib.hid hd
                  have HDD := Lib.hid hdd
                  have HX := Lib.hid hx
                  have HXN : Hid (x.n + 202 < maxLen) := Lib.hid (by have := HA.out.few d x hx; have := HNB.out; unfold maxLen; omega)
                  have HMM := Lib.hid hm
                  have HAT := Lib.hid hat
                  have HCC := Lib.hid hcc
                  have HHB := Lib.hid hA.hb
                  have HMB : Hid (mn ≤ 2000) := Lib.hid (by rw [← HML.out]; exact hA.m.few)
                  have hati : (at1 : Int) < (mn : Int) := by omega
                  have hat0 : (0 : Int) ≤ (at1 : Int) := by omega
                  have ch : wc.cell? ⟨Hb, 2, none⟩ = some (.slice (some ⟨g1, 0, none⟩) mn c1) := (hA.cell (c := 2) (by omega)).trans (congrArg some HVM.out)
                  clear hm hd hdd hx hmo hA hat hcc
                  go_upto_region 26 with (first
                    | (guard_target = wpList _ _ _ (Oper.mk _ (.load 85 _) _ _ _ _ :: _) _ _; refine wpList_load_runS (by rfl) 85 _ rfl _ _ rfl (by first | exact HLM.out | (rw [show (⟨g1, 0, none⟩ : Addr).add (at1 * 38) = ⟨g1, at1 * 38, none⟩ by unfold Addr.add; split <;> simp_all]; exact HLM.out)) ?_)
                    | (guard_target = wpList _ _ _ (Oper.mk _ (.store 85 _ _) _ _ _ _ :: _) _ _; refine wpList_store_mailL rfl _ _ rfl wc.heap.size m rfl rfl HMO.out 85 _ (Blk.newAt _ _ rfl rfl) rfl ?_; intro W9 hS9 hz9 hb9 hk9; have HB9 := Lib.hid (((Below.refl _ wc).alloc (Nat.le_refl _) _).trans hb9); clear hz9 hb9 hk9))
                  clear ch
                  have HA9 := Lib.hid ((HA.out.below HB9.out).below (Below.refl _ _).drew)
                  have HS9 := Lib.hid hS9
                  have CM : Hid (W9.drew.cell? ⟨Hb, 2, none⟩ = some (.slice (some ⟨g1, 0, none⟩) mn c1)) := Lib.hid ((HA9.out.cell (c := 2) (by omega)).trans (congrArg some HVM.out))
                  have HBD : Hid (Blk W9.drew Hb 82 (arr 4 (haF (h.va k) h.vm (h.vd k) k))) := Lib.hid (HHB.out ▸ HA9.out.m.blk)
                  have HVN : Hid (∀ g, h.vm.ownBlock = some g → g ≠ wc.heap.size) := Lib.hid fun g e => by have := (HA.out.m.own.lt g e).2; omega
                  obtain ⟨Fb, hFb⟩ : ∃ z, z = wc.heap.size := ⟨_, rfl⟩
                  rw [← hFb] at HS9 HVN
                  rw [← hFb]
                  clear hFb hS9
                  refine wp_region_held_drew (S := fun _ => True) (by kernel_rfl) ?_ (fun hHeld => ?_)
                  · exact trivial
                  refine tkH (v := ?_) 0 ⟨some 112, _, _, _, _, _⟩ rfl (Or.inl ⟨by rfl, ?_⟩) ?_
                  rotate_left
                  · intro w hSw; (try dsimp only at hSw); go_simp; try (with_reducible rfl)
                  try simp only [Act.put, nz1, nz2, nz3]
                  refine tkH (v := ?_) 1 ⟨some 113, _, _, _, _, _⟩ rfl (Or.inl ⟨by rfl, ?_⟩) ?_
                  rotate_left
                  · intro w hSw; (try dsimp only at hSw); go_simp; try (with_reducible rfl)
                  try simp only [Act.put, nz1, nz2, nz3]
                  refine tkH (v := ?_) 2 ⟨some 114, _, _, _, _, _⟩ rfl (Or.inl ⟨by rfl, ?_⟩) ?_
                  rotate_left
                  · intro w hSw; (try dsimp only at hSw); go_simp; try (with_reducible rfl)
                  try simp only [Act.put, nz1, nz2, nz3]
                  refine tkH (v := ?_) 3 ⟨some 115, _, _, _, _, _⟩ rfl (Or.inl ⟨by rfl, ?_⟩) ?_
                  rotate_left
                  · intro w hSw; (try dsimp only at hSw); go_simp; try (with_reducible rfl)
                  try simp only [Act.put, nz1, nz2, nz3]
                  refine tkH (v := ?_) 5 ⟨some 117, _, _, _, _, _⟩ rfl (Or.inl ⟨by rfl, ?_⟩) ?_
                  rotate_left
                  · intro w hSw; (try dsimp only at hSw); go_simp; try (with_reducible rfl)
                  try simp only [Act.put, nz1, nz2, nz3]
                  refine tkH (v := ?_) 7 ⟨some 119, _, _, _, _, _⟩ rfl (Or.inl ⟨by rfl, ?_⟩) ?_
                  rotate_left
                  · intro w hSw; (try dsimp only at hSw); go_simp; try (with_reducible rfl)
                  try simp only [Act.put, nz1, nz2, nz3]
                  refine tkH (v := ?_) 8 ⟨some 120, _, _, _, _, _⟩ rfl (Or.inl ⟨by rfl, ?_⟩) ?_
                  rotate_left
                  · intro w hSw; (try dsimp only at hSw); go_simp; try (with_reducible rfl)
                  try simp only [Act.put, nz1, nz2, nz3]
                  refine tkH (v := ?_) 9 ⟨some 121, _, _, _, _, _⟩ rfl (Or.inl ⟨by rfl, ?_⟩) ?_
                  rotate_left
                  · intro w hSw; (try dsimp only at hSw); go_simp; try (with_reducible rfl)
                  try simp only [Act.put, nz1, nz2, nz3]
                  refine tkH (v := ?_) 11 ⟨some 123, _, _, _, _, _⟩ rfl (Or.inl ⟨by rfl, ?_⟩) ?_
                  rotate_left
                  · intro w hSw; (try dsimp only at hSw); go_simp; try (with_reducible rfl)
                  try simp only [Act.put, nz1, nz2, nz3]
                  refine tkH (v := (.int .i64 ((at1 + 1 : Nat) : Int))) 12 ⟨some 124, _, _, _, _, _⟩ rfl (yields_binR (by rfl) .add 3 _ _ _ rfl (.int .i64 (at1 : Int)) (.int .i64 1) rfl rfl _ (fun w => by rfl) (fun w => int_addL at1 (by have := HAT.out; have := HMB.out; omega) w)) ?_
                  try simp only [Act.put, nz1, nz2, nz3]
                  refine wpAnyH_ready (rs := [4, 10]) (by kernel_rfl) (by simp) ?_
                  refine (AllReadyH.cons (o := ⟨some 116, _, _, _, _, _⟩) rfl (fun K hK => ?_) (AllReadyH.cons (o := ⟨some 122, _, _, _, _, _⟩) rfl (fun K hK => ?_) AllReadyH.nil))
                  · (try rw [if_pos (by rfl)])
                    refine oper_load 80 _ rfl _ _ rfl (loadVar_one Try.underlying80 rfl CM.out) ?_
                    try simp only [Act.put, nz1, nz2, nz3]
                    try dsimp only
                    refine hK.out _ _ (trivial) (fun hHeld => ?_)
                    clear hK K
                    try simp only [Act.put, nz1, nz2, nz3]
                    refine tkH (v := (.slice (some ⟨g1, 0, none⟩) at1 c1)) 6 ⟨some 118, _, _, _, _, _⟩ rfl (yields_sliceM (by rfl) 80 _ none (some _) rfl (.slice (some ⟨g1, 0, none⟩) mn c1) rfl none (some (.int .i64 (at1 : Int))) rfl rfl _ (fun w => run_sliceM_to _ mn c1 at1 (Nat.le_trans (Nat.le_of_lt HAT.out) HCC.out) w)) ?_
                    try simp only [Act.put, nz1, nz2, nz3]
                    refine wpAnyH_ready (rs := [10]) (by kernel_rfl) (by simp) ?_
                    refine (AllReadyH.cons (o := ⟨some 122, _, _, _, _, _⟩) rfl (fun K hK => ?_) AllReadyH.nil)
                    (try rw [if_pos (by rfl)])
                    refine oper_load 80 _ rfl _ _ rfl (loadVar_one Try.underlying80 rfl CM.out) ?_
                    try simp only [Act.put, nz1, nz2, nz3]
                    try dsimp only
                    refine hK.out _ _ (trivial) (fun hHeld => ?_)
                    clear hK K
                    try simp only [Act.put, nz1, nz2, nz3]
                    refine tkH (v := (.slice (cutM (some ⟨g1, 0, none⟩) c1 (at1 + 1)) (mn - (at1 + 1)) (c1 - (at1 + 1)))) 13 ⟨some 125, _, _, _, _, _⟩ rfl (yields_sliceM (by rfl) 80 _ (some _) none rfl (.slice (some ⟨g1, 0, none⟩) mn c1) rfl (some (.int .i64 ((at1 + 1 : Nat) : Int))) none rfl rfl _ (fun w => run_sliceM_from _ mn c1 (at1 + 1) HAT.out w)) ?_
                    try simp only [Act.put, nz1, nz2, nz3]
                    refine wpAnyH_ready (rs := [14]) (by kernel_rfl) (by simp) ?_
                    refine (AllReadyH.cons (o := ⟨some 126, _, _, _, _, _⟩) rfl (fun K hK => ?_) AllReadyH.nil)
                    (try rw [if_pos (by rfl)])
                    obtain ⟨v5, W5, hrun, how5, hg5, hor5⟩ := mails_shift HA9.out.base.size HA9.out.m.mok HML.out HMB.out HAT.out (by have h9 := HA9.out.m.own; rw [HVM.out, HML.out] at h9; exact h9)
                    refine oper_append _ _ _ _ rfl _ _ rfl rfl v5 W5 hrun ?_
                    have HOW5 := Lib.hid how5
                    have HG5 : Hid (W9.drew.grownBy W5 h.vm.ownBlock) := Lib.hid (by rw [HVM.out]; exact hg5)
                    have HOR5 : Hid (v5.ownBlock = h.vm.ownBlock ∨ ∃ g, v5.ownBlock = some g ∧ W9.drew.heap.size ≤ g) := Lib.hid (by rw [HVM.out]; exact hor5.imp (fun e => e) fun e => ⟨_, e, Nat.le_refl _⟩)
                    have HBK5 : Hid (Blk W5 Hb 82 (arr 4 (haF (h.va k) h.vm (h.vd k) k))) := Lib.hid (HBD.out.grown HG5.out fun e => by (obtain ⟨ds, h3, _⟩ := row_at HA9.out.m.own e.symm; exact blk_ne HBD.out h3 (by decide) rfl))
                    clear hrun how5 hg5 hor5
                    try dsimp only
                    refine hK.out _ _ (trivial) (fun hHeld => ?_)
                    clear hK K
                    try simp only [Act.put, nz1, nz2, nz3]
                    refine tkH (v := ?_) 15 ⟨some 127, _, _, _, _, _⟩ rfl (Or.inl ⟨by rfl, ?_⟩) ?_
                    rotate_left
                    · intro w hSw; (try dsimp only at hSw); go_simp; try (with_reducible rfl)
                    try simp only [Act.put, nz1, nz2, nz3]
                    refine tkH (v := ?_) 16 ⟨some 128, _, _, _, _, _⟩ rfl (Or.inl ⟨by rfl, ?_⟩) ?_
                    rotate_left
                    · intro w hSw; (try dsimp only at hSw); go_simp; try (with_reducible rfl)
                    try simp only [Act.put, nz1, nz2, nz3]
                    refine wpAnyH_ready (rs := [17]) (by kernel_rfl) (by simp) ?_
                    refine (AllReadyH.cons (o := ⟨none, _, _, _, _, _⟩) rfl (fun K hK => ?_) AllReadyH.nil)
                    (try rw [if_pos (by rfl)])
                    refine oper_store_val 80 _ _ rfl Hb 2 4 _ v5 (own_cells HOW5.out).1 (own_cells HOW5.out).2 rfl rfl 82 HBK5.out (by kernel_rfl) (by omega) ?_
                    intro W6 hw6
                    have HBK6 : Hid (Blk W6 Hb 82 (arr 4 (haF (h.va k) v5 (h.vd k) k))) := Lib.hid (by rw [hw6]; exact (HBK5.out.setRow _).same (ha_put _ _ _ _ _))
                    have HG6 : Hid (W5.grownBy W6 (some Hb)) := Lib.hid (by rw [hw6]; exact grown_row _ _ _)
                    clear hw6
                    try dsimp only
                    refine hK.out _ _ (trivial) (fun hHeld => ?_)
                    clear hK K
                    try simp only [Act.put]
                    refine wpAnyH_done (by kernel_rfl) ?_ _
                    have hsw := HA9.out.swapped HG5.out HOW5.out HOR5.out HBK6.out HG6.out
                    have hbx := (HS9.out.drew).eqAt ((HG6.out.block Fb (Nat.lt_of_lt_of_le HS9.out.drew.lt HG5.out.size) (fun e => blk_ne HS9.out.drew HBD.out (by decide) (Option.some.inj e))).trans (HG5.out.block Fb HS9.out.drew.lt (fun e => HVN.out Fb e.symm rfl)))
                    have HV5 : Hid (some Fb ≠ v5.ownBlock) := Lib.hid fun e => by
                      rcases HOR5.out with q | ⟨g, q, hg⟩
                      · exact HVN.out Fb (by rw [← q]; exact e.symm) rfl
                      · rw [q] at e
                        have h1 := Option.some.inj e
                        have h2 : Fb < W9.heap.size := HS9.out.lt
                        have h3 : W9.heap.size ≤ g := hg
                        omega
                    have ck : W6.cell? ⟨Fb, 2, none⟩ = some (.int .i64 m.act.kind) := by rw [hbx.cell]; rfl
                    have HSW := Lib.hid hsw
                    have HBX := Lib.hid hbx
                    clear hsw hbx
                    go_upto_region 27 with fail
                    by_cases hk2 : m.act.kind = 2
                    · as_aux_lemma =>
                      have e1 : mailIn m = ⟨3, m.act.round, m.act.num, m.src, 0, m.act.id⟩ := if_pos hk2
                      have HE1 := Lib.hid e1
                      rw [hk2] at ck
                      clear e1 hk2
                      go_upto_region 28 with fail
                      clear ck
                      have hM := (HSW.out.1.below (Below.refl _ _).drew)
                      have hbx := HBX.out.drew
                      have hB := HSW.out.2.trans ((Below.refl _ _).drew.mono HSW.out.2.size)
                      refine wp_region_held_drew (S := fun W' => W'.cell? ⟨Hb, 0, none⟩ = some (.slice (some ⟨h.Ab, 0, none⟩) k h.cap) ∧ W'.cell? ⟨h.Ab, d, none⟩ = some (.pointer (some ⟨x.B, 0, none⟩)) ∧ W'.cell? ⟨Fb, 1, none⟩ = some (.int .i64 (d : Int)) ∧ W'.cell? ⟨Fb, 3, none⟩ = some (.int .i64 m.act.round) ∧ W'.cell? ⟨Fb, 4, none⟩ = some (.int .i64 m.act.num) ∧ W'.cell? ⟨Fb, 0, none⟩ = some (.int .i64 m.src) ∧ (Instr.loadAt 24 (.pointer (some ⟨Fb, 6, none⟩))).run Try.prog W' = .ok (idv m.act.id) W') (by kernel_rfl) ?_ (fun hHeld => ?_)
                      · exact ⟨hall_c0 hM HHB.out rfl rfl, by first | exact hall_ptr hM rfl HX.out rfl | exact hall_ptr hM rfl (get_setB HX.out _) rfl, by rw [hbx.cell]; first | rfl | exact congrArg (fun z => some (Value.int .i64 z)) HDD.out, by rw [hbx.cell]; first | rfl | exact congrArg (fun z => some (Value.int .i64 z)) HDD.out, by rw [hbx.cell]; first | rfl | exact congrArg (fun z => some (Value.int .i64 z)) HDD.out, by rw [hbx.cell]; first | rfl | exact congrArg (fun z => some (Value.int .i64 z)) HDD.out, mail_id hbx HMO.out⟩
                      refine tkH (v := ?_) 0 ⟨some 133, _, _, _, _, _⟩ rfl (Or.inl ⟨by rfl, ?_⟩) ?_
                      rotate_left
                      · intro w hSw; (try dsimp only at hSw); go_simp; try (with_reducible rfl)
                      try simp only [Act.put, nz1, nz2, nz3]
                      refine tkH (v := ?_) 1 ⟨some 134, _, _, _, _, _⟩ rfl (Or.inl ⟨by rfl, ?_⟩) ?_
                      rotate_left
                      · intro w hSw; (try dsimp only at hSw); go_simp; try (with_reducible rfl)
                      try simp only [Act.put, nz1, nz2, nz3]
                      refine tkH (v := (.int .i64 (d : Int))) 2 ⟨some 135, _, _, _, _, _⟩ rfl (yields_one (by rfl) 3 _ rfl ⟨Fb, 1, none⟩ rfl _ _ (fun W' hS => hS.2.2.1) Try.underlying3 rfl) ?_
                      try simp only [Act.put, nz1, nz2, nz3]
                      refine tkH (v := ?_) 3 ⟨some 136, _, _, _, _, _⟩ rfl (Or.inl ⟨by rfl, ?_⟩) ?_
                      rotate_left
                      · intro w hSw; (try dsimp only at hSw); go_simp; try (with_reducible rfl)
                      try simp only [Act.put, nz1, nz2, nz3]
                      refine tkH (v := ?_) 4 ⟨some 137, _, _, _, _, _⟩ rfl (Or.inl ⟨by rfl, ?_⟩) ?_
                      rotate_left
                      · intro w hSw; (try dsimp only at hSw); go_simp; try (with_reducible rfl)
                      try simp only [Act.put, nz1, nz2, nz3]
                      refine tkH (v := ?_) 5 ⟨some 138, _, _, _, _, _⟩ rfl (Or.inl ⟨by rfl, ?_⟩) ?_
                      rotate_left
                      · intro w hSw; (try dsimp only at hSw); go_simp; try (with_reducible rfl)
                      try simp only [Act.put, nz1, nz2, nz3]
                      refine tkH (v := (.slice (some ⟨h.Ab, 0, none⟩) k h.cap)) 6 ⟨some 139, _, _, _, _, _⟩ rfl (yields_one (by rfl) 79 _ rfl ⟨Hb, 0, none⟩ rfl _ _ (fun W' hS => hS.1) Try.underlying79 rfl) ?_
                      try simp only [Act.put, nz1, nz2, nz3]
                      refine tkH (v := ?_) 7 ⟨some 140, _, _, _, _, _⟩ rfl (Or.inl ⟨by rfl, ?_⟩) ?_
                      rotate_left
                      · intro w hSw; (try dsimp only at hSw); go_simp; try (with_reducible rfl)
                      try simp only [Act.put, nz1, nz2, nz3]
                      refine tkH (v := (.int .i64 (d : Int))) 8 ⟨some 141, _, _, _, _, _⟩ rfl (yields_one (by rfl) 3 _ rfl ⟨Fb, 1, none⟩ rfl _ _ (fun W' hS => hS.2.2.1) Try.underlying3 rfl) ?_
                      try simp only [Act.put, nz1, nz2, nz3]
                      refine tkH (v := (.pointer (some ⟨h.Ab, d, none⟩))) 9 ⟨some 142, _, _, _, _, _⟩ rfl (yields_indexH (by rfl) 79 _ _ rfl (.slice (some ⟨h.Ab, 0, none⟩) k h.cap) (.int .i64 (d : Int)) _ rfl rfl (fun w => index_ptrs h.Ab k h.cap d HD.out w)) ?_
                      try simp only [Act.put, nz1, nz2, nz3]
                      refine tkH (v := (.pointer (some ⟨x.B, 0, none⟩))) 10 ⟨some 143, _, _, _, _, _⟩ rfl (yields_one (by rfl) 62 _ rfl ⟨h.Ab, d, none⟩ rfl _ _ (fun W' hS => hS.2.1) Try.underlying62 rfl) ?_
                      try simp only [Act.put, nz1, nz2, nz3]
                      refine tkH (v := ?_) 11 ⟨some 144, _, _, _, _, _⟩ rfl (Or.inl ⟨by rfl, ?_⟩) ?_
                      rotate_left
                      · intro w hSw; (try dsimp only at hSw); go_simp; try (with_reducible rfl)
                      try simp only [Act.put, nz1, nz2, nz3]
                      refine tkH (v := ?_) 12 ⟨some 145, _, _, _, _, _⟩ rfl (Or.inl ⟨by rfl, ?_⟩) ?_
                      rotate_left
                      · intro w hSw; (try dsimp only at hSw); go_simp; try (with_reducible rfl)
                      try simp only [Act.put, nz1, nz2, nz3]
                      refine tkH (v := (.int .i64 m.act.round)) 13 ⟨some 146, _, _, _, _, _⟩ rfl (yields_one (by rfl) 3 _ rfl ⟨Fb, 3, none⟩ rfl _ _ (fun W' hS => hS.2.2.2.1) Try.underlying3 rfl) ?_
                      try simp only [Act.put, nz1, nz2, nz3]
                      refine tkH (v := ?_) 14 ⟨some 147, _, _, _, _, _⟩ rfl (Or.inl ⟨by rfl, ?_⟩) ?_
                      rotate_left
                      · intro w hSw; (try dsimp only at hSw); go_simp; try (with_reducible rfl)
                      try simp only [Act.put, nz1, nz2, nz3]
                      refine tkH (v := ?_) 15 ⟨some 148, _, _, _, _, _⟩ rfl (Or.inl ⟨by rfl, ?_⟩) ?_
                      rotate_left
                      · intro w hSw; (try dsimp only at hSw); go_simp; try (with_reducible rfl)
                      try simp only [Act.put, nz1, nz2, nz3]
                      refine tkH (v := (.int .i64 m.act.num)) 16 ⟨some 149, _, _, _, _, _⟩ rfl (yields_one (by rfl) 3 _ rfl ⟨Fb, 4, none⟩ rfl _ _ (fun W' hS => hS.2.2.2.2.1) Try.underlying3 rfl) ?_
                      try simp only [Act.put, nz1, nz2, nz3]
                      refine tkH (v := ?_) 17 ⟨some 150, _, _, _, _, _⟩ rfl (Or.inl ⟨by rfl, ?_⟩) ?_
                      rotate_left
                      · intro w hSw; (try dsimp only at hSw); go_simp; try (with_reducible rfl)
                      try simp only [Act.put, nz1, nz2, nz3]
                      refine tkH (v := (.int .i64 m.src)) 18 ⟨some 151, _, _, _, _, _⟩ rfl (yields_one (by rfl) 3 _ rfl ⟨Fb, 0, none⟩ rfl _ _ (fun W' hS => hS.2.2.2.2.2.1) Try.underlying3 rfl) ?_
                      try simp only [Act.put, nz1, nz2, nz3]
                      refine tkH (v := ?_) 19 ⟨some 152, _, _, _, _, _⟩ rfl (Or.inl ⟨by rfl, ?_⟩) ?_
                      rotate_left
                      · intro w hSw; (try dsimp only at hSw); go_simp; try (with_reducible rfl)
                      try simp only [Act.put, nz1, nz2, nz3]
                      refine tkH (v := ?_) 20 ⟨some 153, _, _, _, _, _⟩ rfl (Or.inl ⟨by rfl, ?_⟩) ?_
                      rotate_left
                      · intro w hSw; (try dsimp only at hSw); go_simp; try (with_reducible rfl)
                      try simp only [Act.put, nz1, nz2, nz3]
                      refine tkH (v := (idv m.act.id)) 21 ⟨some 154, _, _, _, _, _⟩ rfl (yields_run (by rfl) 24 _ rfl (.pointer (some ⟨Fb, 6, none⟩)) _ rfl (fun W' hS => hS.2.2.2.2.2.2)) ?_
                      try simp only [Act.put, nz1, nz2, nz3]
                      refine wpAnyH_ready (rs := [22]) (by kernel_rfl) (by simp) ?_
                      refine (AllReadyH.cons (o := ⟨some 155, _, _, _, _, _⟩) rfl (fun K hK => ?_) AllReadyH.nil)
                      (try rw [if_pos (by rfl)])
                      go_simp
                      refine (voted_any (hM.hall.at_ d x HX.out) m.act.round m.act.num m.src HMO.out.act.round HMO.out.act.num HMO.out.src m.act.id HMO.out.act.id HXN.out).mono ?_
                      rintro e Wv hdn
                      obtain ⟨vv, kv', rfl, hov, hM2, hB2, hbk⟩ := hM.did hB.size HX.out hdn
                      replace hbx := hbk _ _ _ hbx (by decide) (by decide)
                      replace hB := hB.trans hB2
                      clear hM hdn hB2 hbk
                      have hM := hM2
                      clear hM2
                      try dsimp only
                      refine hK.out _ _ (⟨hall_c0 hM HHB.out rfl rfl, by first | exact hall_ptr hM rfl HX.out rfl | exact hall_ptr hM rfl (get_setB HX.out _) rfl, by rw [hbx.cell]; first | rfl | exact congrArg (fun z => some (Value.int .i64 z)) HDD.out, by rw [hbx.cell]; first | rfl | exact congrArg (fun z => some (Value.int .i64 z)) HDD.out, by rw [hbx.cell]; first | rfl | exact congrArg (fun z => some (Value.int .i64 z)) HDD.out, by rw [hbx.cell]; first | rfl | exact congrArg (fun z => some (Value.int .i64 z)) HDD.out, mail_id hbx HMO.out⟩) (fun hHeld => ?_)
                      clear hK K
                      try simp only [Act.put, nz1, nz2, nz3]
                      refine wpAnyH_ready (rs := [23]) (by kernel_rfl) (by simp) ?_
                      refine (AllReadyH.cons (o := ⟨some 156, _, _, _, _, _⟩) rfl (fun K hK => ?_) AllReadyH.nil)
                      (try rw [if_pos (by rfl)])
                      go_simp
                      refine (take_at hM HHB.out hB.size d HD.out HN7.out _ _ _ hov).mono ?_
                      rintro e Wt ⟨⟨vt, rfl⟩, hB2, vm', hM2, hT⟩
                      replace hbx := hbx.eqAt (hT.block _ hbx.lt (blk_ne hbx hM.blk (by decide)) (blk_ne hbx hM.done (by decide)) (fun e => HV5.out e))
                      replace hB := hB.trans hB2
                      clear hM hB2 hT hov
                      have hM := hM2
                      clear hM2
                      try dsimp only
                      refine hK.out _ _ (⟨hall_c0 hM HHB.out rfl rfl, by first | exact hall_ptr hM rfl HX.out rfl | exact hall_ptr hM rfl (get_setB HX.out _) rfl, by rw [hbx.cell]; first | rfl | exact congrArg (fun z => some (Value.int .i64 z)) HDD.out, by rw [hbx.cell]; first | rfl | exact congrArg (fun z => some (Value.int .i64 z)) HDD.out, by rw [hbx.cell]; first | rfl | exact congrArg (fun z => some (Value.int .i64 z)) HDD.out, by rw [hbx.cell]; first | rfl | exact congrArg (fun z => some (Value.int .i64 z)) HDD.out, mail_id hbx HMO.out⟩) (fun hHeld => ?_)
                      clear hK K
                      try simp only [Act.put, nz1, nz2, nz3]
                      refine wpAnyH_done (by kernel_rfl) ?_ _
                      have hfin := HA.out.comes HN.out HN7.out hpN HMM.out HDD.out HX.out (kv' := kv') (vm5 := v5) (vm' := vm') (by rw [HE1.out, giveS_voted, giveA_voted]; exact hM) hB
                      go_wp2_with fail
                      go_roundw
                      case rel => exact ⟨n + 1, _, by go_num, hfin⟩
                      case measure => simp [intOf]; omega
                    · as_aux_lemma =>
                      have e1 : mailIn m = ⟨2, m.act.round, 0, 0, m.act.valid, m.act.id⟩ := if_neg hk2
                      have HE1 := Lib.hid e1
                      have hkb : (m.act.kind == 2) = false := by rw [beq_eq_false_iff_ne]; exact hk2
                      clear e1
                      go_upto_region 29 with fail
                      clear ck hkb hk2
                      have hM := (HSW.out.1.below (Below.refl _ _).drew)
                      have hbx := HBX.out.drew
                      have hB := HSW.out.2.trans ((Below.refl _ _).drew.mono HSW.out.2.size)
                      refine wp_region_held_drew (S := fun W' => W'.cell? ⟨Hb, 0, none⟩ = some (.slice (some ⟨h.Ab, 0, none⟩) k h.cap) ∧ W'.cell? ⟨h.Ab, d, none⟩ = some (.pointer (some ⟨x.B, 0, none⟩)) ∧ W'.cell? ⟨Fb, 1, none⟩ = some (.int .i64 (d : Int)) ∧ W'.cell? ⟨Fb, 3, none⟩ = some (.int .i64 m.act.round) ∧ W'.cell? ⟨Fb, 5, none⟩ = some (.int .i64 m.act.valid) ∧ (Instr.loadAt 24 (.pointer (some ⟨Fb, 6, none⟩))).run Try.prog W' = .ok (idv m.act.id) W') (by kernel_rfl) ?_ (fun hHeld => ?_)
                      · exact ⟨hall_c0 hM HHB.out rfl rfl, by first | exact hall_ptr hM rfl HX.out rfl | exact hall_ptr hM rfl (get_setB HX.out _) rfl, by rw [hbx.cell]; first | rfl | exact congrArg (fun z => some (Value.int .i64 z)) HDD.out, by rw [hbx.cell]; first | rfl | exact congrArg (fun z => some (Value.int .i64 z)) HDD.out, by rw [hbx.cell]; first | rfl | exact congrArg (fun z => some (Value.int .i64 z)) HDD.out, mail_id hbx HMO.out⟩
                      refine tkH (v := ?_) 0 ⟨some 157, _, _, _, _, _⟩ rfl (Or.inl ⟨by rfl, ?_⟩) ?_
                      rotate_left
                      · intro w hSw; (try dsimp only at hSw); go_simp; try (with_reducible rfl)
                      try simp only [Act.put, nz1, nz2, nz3]
                      refine tkH (v := ?_) 1 ⟨some 158, _, _, _, _, _⟩ rfl (Or.inl ⟨by rfl, ?_⟩) ?_
                      rotate_left
                      · intro w hSw; (try dsimp only at hSw); go_simp; try (with_reducible rfl)
                      try simp only [Act.put, nz1, nz2, nz3]
                      refine tkH (v := (.int .i64 (d : Int))) 2 ⟨some 159, _, _, _, _, _⟩ rfl (yields_one (by rfl) 3 _ rfl ⟨Fb, 1, none⟩ rfl _ _ (fun W' hS => hS.2.2.1) Try.underlying3 rfl) ?_
                      try simp only [Act.put, nz1, nz2, nz3]
                      refine tkH (v := ?_) 3 ⟨some 160, _, _, _, _, _⟩ rfl (Or.inl ⟨by rfl, ?_⟩) ?_
                      rotate_left
                      · intro w hSw; (try dsimp only at hSw); go_simp; try (with_reducible rfl)
                      try simp only [Act.put, nz1, nz2, nz3]
                      refine tkH (v := ?_) 4 ⟨some 161, _, _, _, _, _⟩ rfl (Or.inl ⟨by rfl, ?_⟩) ?_
                      rotate_left
                      · intro w hSw; (try dsimp only at hSw); go_simp; try (with_reducible rfl)
                      try simp only [Act.put, nz1, nz2, nz3]
                      refine tkH (v := ?_) 5 ⟨some 162, _, _, _, _, _⟩ rfl (Or.inl ⟨by rfl, ?_⟩) ?_
                      rotate_left
                      · intro w hSw; (try dsimp only at hSw); go_simp; try (with_reducible rfl)
                      try simp only [Act.put, nz1, nz2, nz3]
                      refine tkH (v := (.slice (some ⟨h.Ab, 0, none⟩) k h.cap)) 6 ⟨some 163, _, _, _, _, _⟩ rfl (yields_one (by rfl) 79 _ rfl ⟨Hb, 0, none⟩ rfl _ _ (fun W' hS => hS.1) Try.underlying79 rfl) ?_
                      try simp only [Act.put, nz1, nz2, nz3]
                      refine tkH (v := ?_) 7 ⟨some 164, _, _, _, _, _⟩ rfl (Or.inl ⟨by rfl, ?_⟩) ?_
                      rotate_left
                      · intro w hSw; (try dsimp only at hSw); go_simp; try (with_reducible rfl)
                      try simp only [Act.put, nz1, nz2, nz3]
                      refine tkH (v := (.int .i64 (d : Int))) 8 ⟨some 165, _, _, _, _, _⟩ rfl (yields_one (by rfl) 3 _ rfl ⟨Fb, 1, none⟩ rfl _ _ (fun W' hS => hS.2.2.1) Try.underlying3 rfl) ?_
                      try simp only [Act.put, nz1, nz2, nz3]
                      refine tkH (v := (.pointer (some ⟨h.Ab, d, none⟩))) 9 ⟨some 166, _, _, _, _, _⟩ rfl (yields_indexH (by rfl) 79 _ _ rfl (.slice (some ⟨h.Ab, 0, none⟩) k h.cap) (.int .i64 (d : Int)) _ rfl rfl (fun w => index_ptrs h.Ab k h.cap d HD.out w)) ?_
                      try simp only [Act.put, nz1, nz2, nz3]
                      refine tkH (v := (.pointer (some ⟨x.B, 0, none⟩))) 10 ⟨some 167, _, _, _, _, _⟩ rfl (yields_one (by rfl) 62 _ rfl ⟨h.Ab, d, none⟩ rfl _ _ (fun W' hS => hS.2.1) Try.underlying62 rfl) ?_
                      try simp only [Act.put, nz1, nz2, nz3]
                      refine tkH (v := ?_) 11 ⟨some 168, _, _, _, _, _⟩ rfl (Or.inl ⟨by rfl, ?_⟩) ?_
                      rotate_left
                      · intro w hSw; (try dsimp only at hSw); go_simp; try (with_reducible rfl)
                      try simp only [Act.put, nz1, nz2, nz3]
                      refine tkH (v := ?_) 12 ⟨some 169, _, _, _, _, _⟩ rfl (Or.inl ⟨by rfl, ?_⟩) ?_
                      rotate_left
                      · intro w hSw; (try dsimp only at hSw); go_simp; try (with_reducible rfl)
                      try simp only [Act.put, nz1, nz2, nz3]
                      refine tkH (v := (.int .i64 m.act.round)) 13 ⟨some 170, _, _, _, _, _⟩ rfl (yields_one (by rfl) 3 _ rfl ⟨Fb, 3, none⟩ rfl _ _ (fun W' hS => hS.2.2.2.1) Try.underlying3 rfl) ?_
                      try simp only [Act.put, nz1, nz2, nz3]
                      refine tkH (v := ?_) 14 ⟨some 171, _, _, _, _, _⟩ rfl (Or.inl ⟨by rfl, ?_⟩) ?_
                      rotate_left
                      · intro w hSw; (try dsimp only at hSw); go_simp; try (with_reducible rfl)
                      try simp only [Act.put, nz1, nz2, nz3]
                      refine tkH (v := ?_) 15 ⟨some 172, _, _, _, _, _⟩ rfl (Or.inl ⟨by rfl, ?_⟩) ?_
                      rotate_left
                      · intro w hSw; (try dsimp only at hSw); go_simp; try (with_reducible rfl)
                      try simp only [Act.put, nz1, nz2, nz3]
                      refine tkH (v := (.int .i64 m.act.valid)) 16 ⟨some 173, _, _, _, _, _⟩ rfl (yields_one (by rfl) 3 _ rfl ⟨Fb, 5, none⟩ rfl _ _ (fun W' hS => hS.2.2.2.2.1) Try.underlying3 rfl) ?_
                      try simp only [Act.put, nz1, nz2, nz3]
                      refine tkH (v := ?_) 17 ⟨some 174, _, _, _, _, _⟩ rfl (Or.inl ⟨by rfl, ?_⟩) ?_
                      rotate_left
                      · intro w hSw; (try dsimp only at hSw); go_simp; try (with_reducible rfl)
                      try simp only [Act.put, nz1, nz2, nz3]
                      refine tkH (v := ?_) 18 ⟨some 175, _, _, _, _, _⟩ rfl (Or.inl ⟨by rfl, ?_⟩) ?_
                      rotate_left
                      · intro w hSw; (try dsimp only at hSw); go_simp; try (with_reducible rfl)
                      try simp only [Act.put, nz1, nz2, nz3]
                      refine tkH (v := (idv m.act.id)) 19 ⟨some 176, _, _, _, _, _⟩ rfl (yields_run (by rfl) 24 _ rfl (.pointer (some ⟨Fb, 6, none⟩)) _ rfl (fun W' hS => hS.2.2.2.2.2)) ?_
                      try simp only [Act.put, nz1, nz2, nz3]
                      refine wpAnyH_ready (rs := [20]) (by kernel_rfl) (by simp) ?_
                      refine (AllReadyH.cons (o := ⟨some 177, _, _, _, _, _⟩) rfl (fun K hK => ?_) AllReadyH.nil)
                      (try rw [if_pos (by rfl)])
                      go_simp
                      refine (offered_any (hM.hall.at_ d x HX.out) m.act.round m.act.valid m.act.id HMO.out.act.id HXN.out).mono ?_
                      rintro e Wv hdn
                      obtain ⟨vv, kv', rfl, hov, hM2, hB2, hbk⟩ := hM.did hB.size HX.out hdn
                      replace hbx := hbk _ _ _ hbx (by decide) (by decide)
                      replace hB := hB.trans hB2
                      clear hM hdn hB2 hbk
                      have hM := hM2
                      clear hM2
                      try dsimp only
                      refine hK.out _ _ (⟨hall_c0 hM HHB.out rfl rfl, by first | exact hall_ptr hM rfl HX.out rfl | exact hall_ptr hM rfl (get_setB HX.out _) rfl, by rw [hbx.cell]; first | rfl | exact congrArg (fun z => some (Value.int .i64 z)) HDD.out, by rw [hbx.cell]; first | rfl | exact congrArg (fun z => some (Value.int .i64 z)) HDD.out, by rw [hbx.cell]; first | rfl | exact congrArg (fun z => some (Value.int .i64 z)) HDD.out, mail_id hbx HMO.out⟩) (fun hHeld => ?_)
                      clear hK K
                      try simp only [Act.put, nz1, nz2, nz3]
                      refine wpAnyH_ready (rs := [21]) (by kernel_rfl) (by simp) ?_
                      refine (AllReadyH.cons (o := ⟨some 178, _, _, _, _, _⟩) rfl (fun K hK => ?_) AllReadyH.nil)
                      (try rw [if_pos (by rfl)])
                      go_simp
                      refine (take_at hM HHB.out hB.size d HD.out HN7.out _ _ _ hov).mono ?_
                      rintro e Wt ⟨⟨vt, rfl⟩, hB2, vm', hM2, hT⟩
                      replace hbx := hbx.eqAt (hT.block _ hbx.lt (blk_ne hbx hM.blk (by decide)) (blk_ne hbx hM.done (by decide)) (fun e => HV5.out e))
                      replace hB := hB.trans hB2
                      clear hM hB2 hT hov
                      have hM := hM2
                      clear hM2
                      try dsimp only
                      refine hK.out _ _ (⟨hall_c0 hM HHB.out rfl rfl, by first | exact hall_ptr hM rfl HX.out rfl | exact hall_ptr hM rfl (get_setB HX.out _) rfl, by rw [hbx.cell]; first | rfl | exact congrArg (fun z => some (Value.int .i64 z)) HDD.out, by rw [hbx.cell]; first | rfl | exact congrArg (fun z => some (Value.int .i64 z)) HDD.out, by rw [hbx.cell]; first | rfl | exact congrArg (fun z => some (Value.int .i64 z)) HDD.out, mail_id hbx HMO.out⟩) (fun hHeld => ?_)
                      clear hK K
                      try simp only [Act.put, nz1, nz2, nz3]
                      refine wpAnyH_done (by kernel_rfl) ?_ _
                      have hfin := HA.out.comes HN.out HN7.out hpN HMM.out HDD.out HX.out (kv' := kv') (vm5 := v5) (vm' := vm') (by rw [HE1.out, giveS_offered, giveA_offered]; exact hM) hB
                      go_wp2_with fail
                      go_roundw
                      case rel => exact ⟨n + 1, _, by go_num, hfin⟩
                      case measure => simp [intOf]; omega
                  · (try rw [if_pos (by rfl)])
                    refine oper_load 80 _ rfl _ _ rfl (loadVar_one Try.underlying80 rfl CM.out) ?_
                    try simp only [Act.put, nz1, nz2, nz3]
                    try dsimp only
                    refine hK.out _ _ (trivial) (fun hHeld => ?_)
                    clear hK K
                    try simp only [Act.put, nz1, nz2, nz3]
                    refine tkH (v := (.slice (cutM (some ⟨g1, 0, none⟩) c1 (at1 + 1)) (mn - (at1 + 1)) (c1 - (at1 + 1)))) 13 ⟨some 125, _, _, _, _, _⟩ rfl (yields_sliceM (by rfl) 80 _ (some _) none rfl (.slice (some ⟨g1, 0, none⟩) mn c1) rfl (some (.int .i64 ((at1 + 1 : Nat) : Int))) none rfl rfl _ (fun w => run_sliceM_from _ mn c1 (at1 + 1) HAT.out w)) ?_
                    try simp only [Act.put, nz1, nz2, nz3]
                    refine wpAnyH_ready (rs := [4]) (by kernel_rfl) (by simp) ?_
                    refine (AllReadyH.cons (o := ⟨some 116, _, _, _, _, _⟩) rfl (fun K hK => ?_) AllReadyH.nil)
                    (try rw [if_pos (by rfl)])
                    refine oper_load 80 _ rfl _ _ rfl (loadVar_one Try.underlying80 rfl CM.out) ?_
                    try simp only [Act.put, nz1, nz2, nz3]
                    try dsimp only
                    refine hK.out _ _ (trivial) (fun hHeld => ?_)
                    clear hK K
                    try simp only [Act.put, nz1, nz2, nz3]
                    refine tkH (v := (.slice (some ⟨g1, 0, none⟩) at1 c1)) 6 ⟨some 118, _, _, _, _, _⟩ rfl (yields_sliceM (by rfl) 80 _ none (some _) rfl (.slice (some ⟨g1, 0, none⟩) mn c1) rfl none (some (.int .i64 (at1 : Int))) rfl rfl _ (fun w => run_sliceM_to _ mn c1 at1 (Nat.le_trans (Nat.le_of_lt HAT.out) HCC.out) w)) ?_
                    try simp only [Act.put, nz1, nz2, nz3]
                    refine wpAnyH_ready (rs := [14]) (by kernel_rfl) (by simp) ?_
                    refine (AllReadyH.cons (o := ⟨some 126, _, _, _, _, _⟩) rfl (fun K hK => ?_) AllReadyH.nil)
                    (try rw [if_pos (by rfl)])
                    obtain ⟨v5, W5, hrun, how5, hg5, hor5⟩ := mails_shift HA9.out.base.size HA9.out.m.mok HML.out HMB.out HAT.out (by have h9 := HA9.out.m.own; rw [HVM.out, HML.out] at h9; exact h9)
                    refine oper_append _ _ _ _ rfl _ _ rfl rfl v5 W5 hrun ?_
                    have HOW5 := Lib.hid how5
                    have HG5 : Hid (W9.drew.grownBy W5 h.vm.ownBlock) := Lib.hid (by rw [HVM.out]; exact hg5)
                    have HOR5 : Hid (v5.ownBlock = h.vm.ownBlock ∨ ∃ g, v5.ownBlock = some g ∧ W9.drew.heap.size ≤ g) := Lib.hid (by rw [HVM.out]; exact hor5.imp (fun e => e) fun e => ⟨_, e, Nat.le_refl _⟩)
                    have HBK5 : Hid (Blk W5 Hb 82 (arr 4 (haF (h.va k) h.vm (h.vd k) k))) := Lib.hid (HBD.out.grown HG5.out fun e => by (obtain ⟨ds, h3, _⟩ := row_at HA9.out.m.own e.symm; exact blk_ne HBD.out h3 (by decide) rfl))
                    clear hrun how5 hg5 hor5
                    try dsimp only
                    refine hK.out _ _ (trivial) (fun hHeld => ?_)
                    clear hK K
                    try simp only [Act.put, nz1, nz2, nz3]
                    refine tkH (v := ?_) 15 ⟨some 127, _, _, _, _, _⟩ rfl (Or.inl ⟨by rfl, ?_⟩) ?_
                    rotate_left
                    · intro w hSw; (try dsimp only at hSw); go_simp; try (with_reducible rfl)
                    try simp only [Act.put, nz1, nz2, nz3]
                    refine tkH (v := ?_) 16 ⟨some 128, _, _, _, _, _⟩ rfl (Or.inl ⟨by rfl, ?_⟩) ?_
                    rotate_left
                    · intro w hSw; (try dsimp only at hSw); go_simp; try (with_reducible rfl)
                    try simp only [Act.put, nz1, nz2, nz3]
                    refine wpAnyH_ready (rs := [17]) (by kernel_rfl) (by simp) ?_
                    refine (AllReadyH.cons (o := ⟨none, _, _, _, _, _⟩) rfl (fun K hK => ?_) AllReadyH.nil)
                    (try rw [if_pos (by rfl)])
                    refine oper_store_val 80 _ _ rfl Hb 2 4 _ v5 (own_cells HOW5.out).1 (own_cells HOW5.out).2 rfl rfl 82 HBK5.out (by kernel_rfl) (by omega) ?_
                    intro W6 hw6
                    have HBK6 : Hid (Blk W6 Hb 82 (arr 4 (haF (h.va k) v5 (h.vd k) k))) := Lib.hid (by rw [hw6]; exact (HBK5.out.setRow _).same (ha_put _ _ _ _ _))
                    have HG6 : Hid (W5.grownBy W6 (some Hb)) := Lib.hid (by rw [hw6]; exact grown_row _ _ _)
                    clear hw6
                    try dsimp only
                    refine hK.out _ _ (trivial) (fun hHeld => ?_)
                    clear hK K
                    try simp only [Act.put]
                    refine wpAnyH_done (by kernel_rfl) ?_ _
                    have hsw := HA9.out.swapped HG5.out HOW5.out HOR5.out HBK6.out HG6.out
                    have hbx := (HS9.out.drew).eqAt ((HG6.out.block Fb (Nat.lt_of_lt_of_le HS9.out.drew.lt HG5.out.size) (fun e => blk_ne HS9.out.drew HBD.out (by decide) (Option.some.inj e))).trans (HG5.out.block Fb HS9.out.drew.lt (fun e => HVN.out Fb e.symm rfl)))
                    have HV5 : Hid (some Fb ≠ v5.ownBlock) := Lib.hid fun e => by
                      rcases HOR5.out with q | ⟨g, q, hg⟩
                      · exact HVN.out Fb (by rw [← q]; exact e.symm) rfl
                      · rw [q] at e
                        have h1 := Option.some.inj e
                        have h2 : Fb < W9.heap.size := HS9.out.lt
                        have h3 : W9.heap.size ≤ g := hg
                        omega
                    have ck : W6.cell? ⟨Fb, 2, none⟩ = some (.int .i64 m.act.kind) := by rw [hbx.cell]; rfl
                    have HSW := Lib.hid hsw
                    have HBX := Lib.hid hbx
                    clear hsw hbx
                    go_upto_region 27 with fail
                    by_cases hk2 : m.act.kind = 2
                    · as_aux_lemma =>
                      have e1 : mailIn m = ⟨3, m.act.round, m.act.num, m.src, 0, m.act.id⟩ := if_pos hk2
                      have HE1 := Lib.hid e1
                      rw [hk2] at ck
                      clear e1 hk2
                      go_upto_region 28 with fail
                      clear ck
                      have hM := (HSW.out.1.below (Below.refl _ _).drew)
                      have hbx := HBX.out.drew
                      have hB := HSW.out.2.trans ((Below.refl _ _).drew.mono HSW.out.2.size)
                      refine wp_region_held_drew (S := fun W' => W'.cell? ⟨Hb, 0, none⟩ = some (.slice (some ⟨h.Ab, 0, none⟩) k h.cap) ∧ W'.cell? ⟨h.Ab, d, none⟩ = some (.pointer (some ⟨x.B, 0, none⟩)) ∧ W'.cell? ⟨Fb, 1, none⟩ = some (.int .i64 (d : Int)) ∧ W'.cell? ⟨Fb, 3, none⟩ = some (.int .i64 m.act.round) ∧ W'.cell? ⟨Fb, 4, none⟩ = some (.int .i64 m.act.num) ∧ W'.cell? ⟨Fb, 0, none⟩ = some (.int .i64 m.src) ∧ (Instr.loadAt 24 (.pointer (some ⟨Fb, 6, none⟩))).run Try.prog W' = .ok (idv m.act.id) W') (by kernel_rfl) ?_ (fun hHeld => ?_)
                      · exact ⟨hall_c0 hM HHB.out rfl rfl, by first | exact hall_ptr hM rfl HX.out rfl | exact hall_ptr hM rfl (get_setB HX.out _) rfl, by rw [hbx.cell]; first | rfl | exact congrArg (fun z => some (Value.int .i64 z)) HDD.out, by rw [hbx.cell]; first | rfl | exact congrArg (fun z => some (Value.int .i64 z)) HDD.out, by rw [hbx.cell]; first | rfl | exact congrArg (fun z => some (Value.int .i64 z)) HDD.out, by rw [hbx.cell]; first | rfl | exact congrArg (fun z => some (Value.int .i64 z)) HDD.out, mail_id hbx HMO.out⟩
                      refine tkH (v := ?_) 0 ⟨some 133, _, _, _, _, _⟩ rfl (Or.inl ⟨by rfl, ?_⟩) ?_
                      rotate_left
                      · intro w hSw; (try dsimp only at hSw); go_simp; try (with_reducible rfl)
                      try simp only [Act.put, nz1, nz2, nz3]
                      refine tkH (v := ?_) 1 ⟨some 134, _, _, _, _, _⟩ rfl (Or.inl ⟨by rfl, ?_⟩) ?_
                      rotate_left
                      · intro w hSw; (try dsimp only at hSw); go_simp; try (with_reducible rfl)
                      try simp only [Act.put, nz1, nz2, nz3]
                      refine tkH (v := (.int .i64 (d : Int))) 2 ⟨some 135, _, _, _, _, _⟩ rfl (yields_one (by rfl) 3 _ rfl ⟨Fb, 1, none⟩ rfl _ _ (fun W' hS => hS.2.2.1) Try.underlying3 rfl) ?_
                      try simp only [Act.put, nz1, nz2, nz3]
                      refine tkH (v := ?_) 3 ⟨some 136, _, _, _, _, _⟩ rfl (Or.inl ⟨by rfl, ?_⟩) ?_
                      rotate_left
                      · intro w hSw; (try dsimp only at hSw); go_simp; try (with_reducible rfl)
                      try simp only [Act.put, nz1, nz2, nz3]
                      refine tkH (v := ?_) 4 ⟨some 137, _, _, _, _, _⟩ rfl (Or.inl ⟨by rfl, ?_⟩) ?_
                      rotate_left
                      · intro w hSw; (try dsimp only at hSw); go_simp; try (with_reducible rfl)
                      try simp only [Act.put, nz1, nz2, nz3]
                      refine tkH (v := ?_) 5 ⟨some 138, _, _, _, _, _⟩ rfl (Or.inl ⟨by rfl, ?_⟩) ?_
                      rotate_left
                      · intro w hSw; (try dsimp only at hSw); go_simp; try (with_reducible rfl)
                      try simp only [Act.put, nz1, nz2, nz3]
                      refine tkH (v := (.slice (some ⟨h.Ab, 0, none⟩) k h.cap)) 6 ⟨some 139, _, _, _, _, _⟩ rfl (yields_one (by rfl) 79 _ rfl ⟨Hb, 0, none⟩ rfl _ _ (fun W' hS => hS.1) Try.underlying79 rfl) ?_
                      try simp only [Act.put, nz1, nz2, nz3]
                      refine tkH (v := ?_) 7 ⟨some 140, _, _, _, _, _⟩ rfl (Or.inl ⟨by rfl, ?_⟩) ?_
                      rotate_left
                      · intro w hSw; (try dsimp only at hSw); go_simp; try (with_reducible rfl)
                      try simp only [Act.put, nz1, nz2, nz3]
                      refine tkH (v := (.int .i64 (d : Int))) 8 ⟨some 141, _, _, _, _, _⟩ rfl (yields_one (by rfl) 3 _ rfl ⟨Fb, 1, none⟩ rfl _ _ (fun W' hS => hS.2.2.1) Try.underlying3 rfl) ?_
                      try simp only [Act.put, nz1, nz2, nz3]
                      refine tkH (v := (.pointer (some ⟨h.Ab, d, none⟩))) 9 ⟨some 142, _, _, _, _, _⟩ rfl (yields_indexH (by rfl) 79 _ _ rfl (.slice (some ⟨h.Ab, 0, none⟩) k h.cap) (.int .i64 (d : Int)) _ rfl rfl (fun w => index_ptrs h.Ab k h.cap d HD.out w)) ?_
                      try simp only [Act.put, nz1, nz2, nz3]
                      refine tkH (v := (.pointer (some ⟨x.B, 0, none⟩))) 10 ⟨some 143, _, _, _, _, _⟩ rfl (yields_one (by rfl) 62 _ rfl ⟨h.Ab, d, none⟩ rfl _ _ (fun W' hS => hS.2.1) Try.underlying62 rfl) ?_
                      try simp only [Act.put, nz1, nz2, nz3]
                      refine tkH (v := ?_) 11 ⟨some 144, _, _, _, _, _⟩ rfl (Or.inl ⟨by rfl, ?_⟩) ?_
                      rotate_left
                      · intro w hSw; (try dsimp only at hSw); go_simp; try (with_reducible rfl)
                      try simp only [Act.put, nz1, nz2, nz3]
                      refine tkH (v := ?_) 12 ⟨some 145, _, _, _, _, _⟩ rfl (Or.inl ⟨by rfl, ?_⟩) ?_
                      rotate_left
                      · intro w hSw; (try dsimp only at hSw); go_simp; try (with_reducible rfl)
                      try simp only [Act.put, nz1, nz2, nz3]
                      refine tkH (v := (.int .i64 m.act.round)) 13 ⟨some 146, _, _, _, _, _⟩ rfl (yields_one (by rfl) 3 _ rfl ⟨Fb, 3, none⟩ rfl _ _ (fun W' hS => hS.2.2.2.1) Try.underlying3 rfl) ?_
                      try simp only [Act.put, nz1, nz2, nz3]
                      refine tkH (v := ?_) 14 ⟨some 147, _, _, _, _, _⟩ rfl (Or.inl ⟨by rfl, ?_⟩) ?_
                      rotate_left
                      · intro w hSw; (try dsimp only at hSw); go_simp; try (with_reducible rfl)
                      try simp only [Act.put, nz1, nz2, nz3]
                      refine tkH (v := ?_) 15 ⟨some 148, _, _, _, _, _⟩ rfl (Or.inl ⟨by rfl, ?_⟩) ?_
                      rotate_left
                      · intro w hSw; (try dsimp only at hSw); go_simp; try (with_reducible rfl)
                      try simp only [Act.put, nz1, nz2, nz3]
                      refine tkH (v := (.int .i64 m.act.num)) 16 ⟨some 149, _, _, _, _, _⟩ rfl (yields_one (by rfl) 3 _ rfl ⟨Fb, 4, none⟩ rfl _ _ (fun W' hS => hS.2.2.2.2.1) Try.underlying3 rfl) ?_
                      try simp only [Act.put, nz1, nz2, nz3]
                      refine tkH (v := ?_) 17 ⟨some 150, _, _, _, _, _⟩ rfl (Or.inl ⟨by rfl, ?_⟩) ?_
                      rotate_left
                      · intro w hSw; (try dsimp only at hSw); go_simp; try (with_reducible rfl)
                      try simp only [Act.put, nz1, nz2, nz3]
                      refine tkH (v := (.int .i64 m.src)) 18 ⟨some 151, _, _, _, _, _⟩ rfl (yields_one (by rfl) 3 _ rfl ⟨Fb, 0, none⟩ rfl _ _ (fun W' hS => hS.2.2.2.2.2.1) Try.underlying3 rfl) ?_
                      try simp only [Act.put, nz1, nz2, nz3]
                      refine tkH (v := ?_) 19 ⟨some 152, _, _, _, _, _⟩ rfl (Or.inl ⟨by rfl, ?_⟩) ?_
                      rotate_left
                      · intro w hSw; (try dsimp only at hSw); go_simp; try (with_reducible rfl)
                      try simp only [Act.put, nz1, nz2, nz3]
                      refine tkH (v := ?_) 20 ⟨some 153, _, _, _, _, _⟩ rfl (Or.inl ⟨by rfl, ?_⟩) ?_
                      rotate_left
                      · intro w hSw; (try dsimp only at hSw); go_simp; try (with_reducible rfl)
                      try simp only [Act.put, nz1, nz2, nz3]
                      refine tkH (v := (idv m.act.id)) 21 ⟨some 154, _, _, _, _, _⟩ rfl (yields_run (by rfl) 24 _ rfl (.pointer (some ⟨Fb, 6, none⟩)) _ rfl (fun W' hS => hS.2.2.2.2.2.2)) ?_
                      try simp only [Act.put, nz1, nz2, nz3]
                      refine wpAnyH_ready (rs := [22]) (by kernel_rfl) (by simp) ?_
                      refine (AllReadyH.cons (o := ⟨some 155, _, _, _, _, _⟩) rfl (fun K hK => ?_) AllReadyH.nil)
                      (try rw [if_pos (by rfl)])
                      go_simp
                      refine (voted_any (hM.hall.at_ d x HX.out) m.act.round m.act.num m.src HMO.out.act.round HMO.out.act.num HMO.out.src m.act.id HMO.out.act.id HXN.out).mono ?_
                      rintro e Wv hdn
                      obtain ⟨vv, kv', rfl, hov, hM2, hB2, hbk⟩ := hM.did hB.size HX.out hdn
                      replace hbx := hbk _ _ _ hbx (by decide) (by decide)
                      replace hB := hB.trans hB2
                      clear hM hdn hB2 hbk
                      have hM := hM2
                      clear hM2
                      try dsimp only
                      refine hK.out _ _ (⟨hall_c0 hM HHB.out rfl rfl, by first | exact hall_ptr hM rfl HX.out rfl | exact hall_ptr hM rfl (get_setB HX.out _) rfl, by rw [hbx.cell]; first | rfl | exact congrArg (fun z => some (Value.int .i64 z)) HDD.out, by rw [hbx.cell]; first | rfl | exact congrArg (fun z => some (Value.int .i64 z)) HDD.out, by rw [hbx.cell]; first | rfl | exact congrArg (fun z => some (Value.int .i64 z)) HDD.out, by rw [hbx.cell]; first | rfl | exact congrArg (fun z => some (Value.int .i64 z)) HDD.out, mail_id hbx HMO.out⟩) (fun hHeld => ?_)
                      clear hK K
                      try simp only [Act.put, nz1, nz2, nz3]
                      refine wpAnyH_ready (rs := [23]) (by kernel_rfl) (by simp) ?_
                      refine (AllReadyH.cons (o := ⟨some 156, _, _, _, _, _⟩) rfl (fun K hK => ?_) AllReadyH.nil)
                      (try rw [if_pos (by rfl)])
                      go_simp
                      refine (take_at hM HHB.out hB.size d HD.out HN7.out _ _ _ hov).mono ?_
                      rintro e Wt ⟨⟨vt, rfl⟩, hB2, vm', hM2, hT⟩
                      replace hbx := hbx.eqAt (hT.block _ hbx.lt (blk_ne hbx hM.blk (by decide)) (blk_ne hbx hM.done (by decide)) (fun e => HV5.out e))
                      replace hB := hB.trans hB2
                      clear hM hB2 hT hov
                      have hM := hM2
                      clear hM2
                      try dsimp only
                      refine hK.out _ _ (⟨hall_c0 hM HHB.out rfl rfl, by first | exact hall_ptr hM rfl HX.out rfl | exact hall_ptr hM rfl (get_setB HX.out _) rfl, by rw [hbx.cell]; first | rfl | exact congrArg (fun z => some (Value.int .i64 z)) HDD.out, by rw [hbx.cell]; first | rfl | exact congrArg (fun z => some (Value.int .i64 z)) HDD.out, by rw [hbx.cell]; first | rfl | exact congrArg (fun z => some (Value.int .i64 z)) HDD.out, by rw [hbx.cell]; first | rfl | exact congrArg (fun z => some (Value.int .i64 z)) HDD.out, mail_id hbx HMO.out⟩) (fun hHeld => ?_)
                      clear hK K
                      try simp only [Act.put, nz1, nz2, nz3]
                      refine wpAnyH_done (by kernel_rfl) ?_ _
                      have hfin := HA.out.comes HN.out HN7.out hpN HMM.out HDD.out HX.out (kv' := kv') (vm5 := v5) (vm' := vm') (by rw [HE1.out, giveS_voted, giveA_voted]; exact hM) hB
                      go_wp2_with fail
                      go_roundw
                      case rel => exact ⟨n + 1, _, by go_num, hfin⟩
                      case measure => simp [intOf]; omega
                    · as_aux_lemma =>
                      have e1 : mailIn m = ⟨2, m.act.round, 0, 0, m.act.valid, m.act.id⟩ := if_neg hk2
                      have HE1 := Lib.hid e1
                      have hkb : (m.act.kind == 2) = false := by rw [beq_eq_false_iff_ne]; exact hk2
                      clear e1
                      go_upto_region 29 with fail
                      clear ck hkb hk2
                      have hM := (HSW.out.1.below (Below.refl _ _).drew)
                      have hbx := HBX.out.drew
                      have hB := HSW.out.2.trans ((Below.refl _ _).drew.mono HSW.out.2.size)
                      refine wp_region_held_drew (S := fun W' => W'.cell? ⟨Hb, 0, none⟩ = some (.slice (some ⟨h.Ab, 0, none⟩) k h.cap) ∧ W'.cell? ⟨h.Ab, d, none⟩ = some (.pointer (some ⟨x.B, 0, none⟩)) ∧ W'.cell? ⟨Fb, 1, none⟩ = some (.int .i64 (d : Int)) ∧ W'.cell? ⟨Fb, 3, none⟩ = some (.int .i64 m.act.round) ∧ W'.cell? ⟨Fb, 5, none⟩ = some (.int .i64 m.act.valid) ∧ (Instr.loadAt 24 (.pointer (some ⟨Fb, 6, none⟩))).run Try.prog W' = .ok (idv m.act.id) W') (by kernel_rfl) ?_ (fun hHeld => ?_)
                      · exact ⟨hall_c0 hM HHB.out rfl rfl, by first | exact hall_ptr hM rfl HX.out rfl | exact hall_ptr hM rfl (get_setB HX.out _) rfl, by rw [hbx.cell]; first | rfl | exact congrArg (fun z => some (Value.int .i64 z)) HDD.out, by rw [hbx.cell]; first | rfl | exact congrArg (fun z => some (Value.int .i64 z)) HDD.out, by rw [hbx.cell]; first | rfl | exact congrArg (fun z => some (Value.int .i64 z)) HDD.out, mail_id hbx HMO.out⟩
                      refine tkH (v := ?_) 0 ⟨some 157, _, _, _, _, _⟩ rfl (Or.inl ⟨by rfl, ?_⟩) ?_
                      rotate_left
                      · intro w hSw; (try dsimp only at hSw); go_simp; try (with_reducible rfl)
                      try simp only [Act.put, nz1, nz2, nz3]
                      refine tkH (v := ?_) 1 ⟨some 158, _, _, _, _, _⟩ rfl (Or.inl ⟨by rfl, ?_⟩) ?_
                      rotate_left
                      · intro w hSw; (try dsimp only at hSw); go_simp; try (with_reducible rfl)
                      try simp only [Act.put, nz1, nz2, nz3]
                      refine tkH (v := (.int .i64 (d : Int))) 2 ⟨some 159, _, _, _, _, _⟩ rfl (yields_one (by rfl) 3 _ rfl ⟨Fb, 1, none⟩ rfl _ _ (fun W' hS => hS.2.2.1) Try.underlying3 rfl) ?_
                      try simp only [Act.put, nz1, nz2, nz3]
                      refine tkH (v := ?_) 3 ⟨some 160, _, _, _, _, _⟩ rfl (Or.inl ⟨by rfl, ?_⟩) ?_
                      rotate_left
                      · intro w hSw; (try dsimp only at hSw); go_simp; try (with_reducible rfl)
                      try simp only [Act.put, nz1, nz2, nz3]
                      refine tkH (v := ?_) 4 ⟨some 161, _, _, _, _, _⟩ rfl (Or.inl ⟨by rfl, ?_⟩) ?_
                      rotate_left
                      · intro w hSw; (try dsimp only at hSw); go_simp; try (with_reducible rfl)
                      try simp only [Act.put, nz1, nz2, nz3]
                      refine tkH (v := ?_) 5 ⟨some 162, _, _, _, _, _⟩ rfl (Or.inl ⟨by rfl, ?_⟩) ?_
                      rotate_left
                      · intro w hSw; (try dsimp only at hSw); go_simp; try (with_reducible rfl)
                      try simp only [Act.put, nz1, nz2, nz3]
                      refine tkH (v := (.slice (some ⟨h.Ab, 0, none⟩) k h.cap)) 6 ⟨some 163, _, _, _, _, _⟩ rfl (yields_one (by rfl) 79 _ rfl ⟨Hb, 0, none⟩ rfl _ _ (fun W' hS => hS.1) Try.underlying79 rfl) ?_
                      try simp only [Act.put, nz1, nz2, nz3]
                      refine tkH (v := ?_) 7 ⟨some 164, _, _, _, _, _⟩ rfl (Or.inl ⟨by rfl, ?_⟩) ?_
                      rotate_left
                      · intro w hSw; (try dsimp only at hSw); go_simp; try (with_reducible rfl)
                      try simp only [Act.put, nz1, nz2, nz3]
                      refine tkH (v := (.int .i64 (d : Int))) 8 ⟨some 165, _, _, _, _, _⟩ rfl (yields_one (by rfl) 3 _ rfl ⟨Fb, 1, none⟩ rfl _ _ (fun W' hS => hS.2.2.1) Try.underlying3 rfl) ?_
                      try simp only [Act.put, nz1, nz2, nz3]
                      refine tkH (v := (.pointer (some ⟨h.Ab, d, none⟩))) 9 ⟨some 166, _, _, _, _, _⟩ rfl (yields_indexH (by rfl) 79 _ _ rfl (.slice (some ⟨h.Ab, 0, none⟩) k h.cap) (.int .i64 (d : Int)) _ rfl rfl (fun w => index_ptrs h.Ab k h.cap d HD.out w)) ?_
                      try simp only [Act.put, nz1, nz2, nz3]
                      refine tkH (v := (.pointer (some ⟨x.B, 0, none⟩))) 10 ⟨some 167, _, _, _, _, _⟩ rfl (yields_one (by rfl) 62 _ rfl ⟨h.Ab, d, none⟩ rfl _ _ (fun W' hS => hS.2.1) Try.underlying62 rfl) ?_
                      try simp only [Act.put, nz1, nz2, nz3]
                      refine tkH (v := ?_) 11 ⟨some 168, _, _, _, _, _⟩ rfl (Or.inl ⟨by rfl, ?_⟩) ?_
                      rotate_left
                      · intro w hSw; (try dsimp only at hSw); go_simp; try (with_reducible rfl)
                      try simp only [Act.put, nz1, nz2, nz3]
                      refine tkH (v := ?_) 12 ⟨some 169, _, _, _, _, _⟩ rfl (Or.inl ⟨by rfl, ?_⟩) ?_
                      rotate_left
                      · intro w hSw; (try dsimp only at hSw); go_simp; try (with_reducible rfl)
                      try simp only [Act.put, nz1, nz2, nz3]
                      refine tkH (v := (.int .i64 m.act.round)) 13 ⟨some 170, _, _, _, _, _⟩ rfl (yields_one (by rfl) 3 _ rfl ⟨Fb, 3, none⟩ rfl _ _ (fun W' hS => hS.2.2.2.1) Try.underlying3 rfl) ?_
                      try simp only [Act.put, nz1, nz2, nz3]
                      refine tkH (v := ?_) 14 ⟨some 171, _, _, _, _, _⟩ rfl (Or.inl ⟨by rfl, ?_⟩) ?_
                      rotate_left
                      · intro w hSw; (try dsimp only at hSw); go_simp; try (with_reducible rfl)
                      try simp only [Act.put, nz1, nz2, nz3]
                      refine tkH (v := ?_) 15 ⟨some 172, _, _, _, _, _⟩ rfl (Or.inl ⟨by rfl, ?_⟩) ?_
                      rotate_left
                      · intro w hSw; (try dsimp only at hSw); go_simp; try (with_reducible rfl)
                      try simp only [Act.put, nz1, nz2, nz3]
                      refine tkH (v := (.int .i64 m.act.valid)) 16 ⟨some 173, _, _, _, _, _⟩ rfl (yields_one (by rfl) 3 _ rfl ⟨Fb, 5, none⟩ rfl _ _ (fun W' hS => hS.2.2.2.2.1) Try.underlying3 rfl) ?_
                      try simp only [Act.put, nz1, nz2, nz3]
                      refine tkH (v := ?_) 17 ⟨some 174, _, _, _, _, _⟩ rfl (Or.inl ⟨by rfl, ?_⟩) ?_
                      rotate_left
                      · intro w hSw; (try dsimp only at hSw); go_simp; try (with_reducible rfl)
                      try simp only [Act.put, nz1, nz2, nz3]
                      refine tkH (v := ?_) 18 ⟨some 175, _, _, _, _, _⟩ rfl (Or.inl ⟨by rfl, ?_⟩) ?_
                      rotate_left
                      · intro w hSw; (try dsimp only at hSw); go_simp; try (with_reducible rfl)
                      try simp only [Act.put, nz1, nz2, nz3]
                      refine tkH (v := (idv m.act.id)) 19 ⟨some 176, _, _, _, _, _⟩ rfl (yields_run (by rfl) 24 _ rfl (.pointer (some ⟨Fb, 6, none⟩)) _ rfl (fun W' hS => hS.2.2.2.2.2)) ?_
                      try simp only [Act.put, nz1, nz2, nz3]
                      refine wpAnyH_ready (rs := [20]) (by kernel_rfl) (by simp) ?_
                      refine (AllReadyH.cons (o := ⟨some 177, _, _, _, _, _⟩) rfl (fun K hK => ?_) AllReadyH.nil)
                      (try rw [if_pos (by rfl)])
                      go_simp
                      refine (offered_any (hM.hall.at_ d x HX.out) m.act.round m.act.valid m.act.id HMO.out.act.id HXN.out).mono ?_
                      rintro e Wv hdn
                      obtain ⟨vv, kv', rfl, hov, hM2, hB2, hbk⟩ := hM.did hB.size HX.out hdn
                      replace hbx := hbk _ _ _ hbx (by decide) (by decide)
                      replace hB := hB.trans hB2
                      clear hM hdn hB2 hbk
                      have hM := hM2
                      clear hM2
                      try dsimp only
                      refine hK.out _ _ (⟨hall_c0 hM HHB.out rfl rfl, by first | exact hall_ptr hM rfl HX.out rfl | exact hall_ptr hM rfl (get_setB HX.out _) rfl, by rw [hbx.cell]; first | rfl | exact congrArg (fun z => some (Value.int .i64 z)) HDD.out, by rw [hbx.cell]; first | rfl | exact congrArg (fun z => some (Value.int .i64 z)) HDD.out, by rw [hbx.cell]; first | rfl | exact congrArg (fun z => some (Value.int .i64 z)) HDD.out, mail_id hbx HMO.out⟩) (fun hHeld => ?_)
                      clear hK K
                      try simp only [Act.put, nz1, nz2, nz3]
                      refine wpAnyH_ready (rs := [21]) (by kernel_rfl) (by simp) ?_
                      refine (AllReadyH.cons (o := ⟨some 178, _, _, _, _, _⟩) rfl (fun K hK => ?_) AllReadyH.nil)
                      (try rw [if_pos (by rfl)])
                      go_simp
                      refine (take_at hM HHB.out hB.size d HD.out HN7.out _ _ _ hov).mono ?_
                      rintro e Wt ⟨⟨vt, rfl⟩, hB2, vm', hM2, hT⟩
                      replace hbx := hbx.eqAt (hT.block _ hbx.lt (blk_ne hbx hM.blk (by decide)) (blk_ne hbx hM.done (by decide)) (fun e => HV5.out e))
                      replace hB := hB.trans hB2
                      clear hM hB2 hT hov
                      have hM := hM2
                      clear hM2
                      try dsimp only
                      refine hK.out _ _ (⟨hall_c0 hM HHB.out rfl rfl, by first | exact hall_ptr hM rfl HX.out rfl | exact hall_ptr hM rfl (get_setB HX.out _) rfl, by rw [hbx.cell]; first | rfl | exact congrArg (fun z => some (Value.int .i64 z)) HDD.out, by rw [hbx.cell]; first | rfl | exact congrArg (fun z => some (Value.int .i64 z)) HDD.out, by rw [hbx.cell]; first | rfl | exact congrArg (fun z => some (Value.int .i64 z)) HDD.out, mail_id hbx HMO.out⟩) (fun hHeld => ?_)
                      clear hK K
                      try simp only [Act.put, nz1, nz2, nz3]
                      refine wpAnyH_done (by kernel_rfl) ?_ _
                      have hfin := HA.out.comes HN.out HN7.out hpN HMM.out HDD.out HX.out (kv' := kv') (vm5 := v5) (vm' := vm') (by rw [HE1.out, giveS_offered, giveA_offered]; exact hM) hB
                      go_wp2_with fail
                      go_roundw
                      case rel => exact ⟨n + 1, _, by go_num, hfin⟩
                      case measure => simp [intOf]; omega
            · obtain rfl : mn = 0 := by omega
              have hmi : ¬ (0 : Int) < ((0 : Nat) : Int) := by omega
              have hplay := hA.play
              have hms : h.ms = [] := List.eq_nil_of_length_eq_zero HML.out
              rw [hms] at hplay
              have HDS := Lib.hid (hplay.ends HN.out)
              have cd : wr.cell? ⟨Hb, 3, none⟩ = some (.slice (some ⟨h.Db, 0, none⟩) k k) := hA.cell (c := 3) (by omega)
              have HDN : Hid (Blk wr h.Db 24 (arr (32 * k) (dsF h.ds))) := Lib.hid hA.m.done
              have HDL : Hid (h.ds.length = k ∧ (∀ x ∈ h.ds, IdOk x) ∧ w.heap.size ≤ wr.heap.size) := Lib.hid ⟨hA.m.dlen, hA.m.dok, hA.base.size⟩
              have HBF : Hid (Below w.heap.size w wr) := Lib.hid hA.base
              clear hplay hms hA
              go_upto_region 31 with fail
              clear cd ch
              obtain ⟨wp4, hwp4⟩ : ∃ z, z = wr := ⟨_, rfl⟩
              subst hwp4
              go_loopw [184] (fun s184 wr => ∃ (j : Nat), j ≤ k ∧ s184 = .int .i64 (j : Int) ∧ Blk wr h.Db 24 (arr (32 * k) (dsF h.ds)) ∧ Below w.heap.size w wr) (fun s184 _ => k - (intOf s184).toNat)
              case atStart => exact ⟨0, by omega, rfl, HDN.out, HBF.out⟩
              case round =>
                obtain ⟨j, hj, rfl, hDn, hB⟩ := hrel
                by_cases hjk : j < k
                · have hki : (j : Int) < (k : Int) := by omega
                  have hk0 : (0 : Int) ≤ (j : Int) := by omega
                  have HLY : Hid (∀ W', Blk W' h.Db 24 (arr (32 * k) (dsF h.ds)) → (Instr.loadAt 24 (.pointer (some ⟨h.Db, j * 32, none⟩))).run Try.prog W' = .ok (idv (kidN p)) W') := Lib.hid fun W' hd => load_done HDL.out.1 HDL.out.2.1 hjk (HDS.out j hjk) hd
                  have HDn := Lib.hid hDn
                  have HB := Lib.hid hB
                  clear hDn hB
                  go_upto_region 33 with (first
                | (guard_target = wpList _ _ _ (Oper.mk _ (.load 24 _) _ _ _ _ :: _) _ _; refine wpList_load_runS (by rfl) 24 _ rfl _ _ rfl (by first | exact HLY.out _ HDn.out | (rw [show (⟨h.Db, 0, none⟩ : Addr).add (j * 32) = ⟨h.Db, j * 32, none⟩ by unfold Addr.add; split <;> simp_all]; exact HLY.out _ HDn.out)) ?_)
                | (guard_target = wpList _ _ _ (Oper.mk _ (.store 24 _ _) _ _ _ _ :: _) _ _; refine wpList_store_idv rfl _ _ rfl wr.heap.size (kidN p) rfl rfl (kidN_ok p) 24 _ (Blk.newAt _ _ rfl rfl) rfl ?_; intro W5 hS5 hz5 hb5 hk5; have hbn := (((Below.refl _ wr).alloc (Nat.le_refl _) _).trans hb5); clear hz5 hb5 hk5))
                  have HS5 := Lib.hid hS5
                  have HD5 := Lib.hid (HDn.out.below hbn HDn.out.lt)
                  have HB5 := Lib.hid (HB.out.trans (hbn.mono HB.out.size))
                  clear hS5 hbn
                  refine wp_region_held_drew (S := fun W' => (Instr.loadAt 24 (.pointer (some ⟨wr.heap.size, 0, none⟩))).run Try.prog W' = .ok (idv (kidN p)) W') (by kernel_rfl) ?_ (fun hHeld => ?_)
                  · exact run_loadVar_idv (kidN_ok p) HS5.out.drew
                  refine tkH (v := (idv (kidN p))) 0 ⟨some 188, _, _, _, _, _⟩ rfl (yields_run (by rfl) 24 _ rfl (.pointer (some ⟨wr.heap.size, 0, none⟩)) _ rfl (fun W' hS => hS)) ?_
                  try simp only [Act.put, nz1, nz2, nz3]
                  refine tkH (v := ?_) 1 ⟨some 189, _, _, _, _, _⟩ rfl (Or.inl ⟨by rfl, ?_⟩) ?_
                  rotate_left
                  · intro w hSw; (try dsimp only at hSw); go_simp; try (with_reducible rfl)
                  try simp only [Act.put, nz1, nz2, nz3]
                  refine wpAnyH_ready (rs := [2]) (by kernel_rfl) (by simp) ?_
                  refine (AllReadyH.cons (o := ⟨some 190, _, _, _, _, _⟩) rfl (fun K hK => ?_) AllReadyH.nil)
                  (try rw [if_pos (by rfl)])
                  go_simp
                  refine (HPR.out _).mono ?_
                  rintro e Wp ⟨rfl, h1⟩
                  obtain rfl := h1.symm
                  try dsimp only
                  refine hK.out _ _ (run_loadVar_idv (kidN_ok p) HS5.out.drew) (fun hHeld => ?_)
                  clear hK K
                  try simp only [Act.put, nz1, nz2, nz3]
                  refine tkH (v := (.int .i64 ((p + 1 : Nat) : Int))) 3 ⟨some 191, _, _, _, _, _⟩ rfl (yields_binR (by rfl) .add 3 _ _ _ rfl (.int .i64 (p : Int)) (.int .i64 1) rfl rfl _ (fun w => by rfl) (fun w => int_addL p (by have := HP7.out; omega) w)) ?_
                  try simp only [Act.put, nz1, nz2, nz3]
                  refine tkH (v := (.int .u8 ((p : Int) + 1))) 4 ⟨some 192, _, _, _, _, _⟩ rfl (yieldsIf_convL (by rfl) 3 5 _ rfl (.int .i64 ((p + 1 : Nat) : Int)) _ rfl (fun w => conv_next p HP7.out w)) ?_
                  try simp only [Act.put, nz1, nz2, nz3]
                  refine tkH (v := (idv (kidN p))) 5 ⟨some 193, _, _, _, _, _⟩ rfl (yields_build (by rfl) 24 _ rfl [(0, .int .u8 ((p : Int) + 1))] rfl _ (built_next p HP7.out)) ?_
                  try simp only [Act.put, nz1, nz2, nz3]
                  refine tkH (v := (.bool false)) 6 ⟨some 194, _, _, _, _, _⟩ rfl (yields_binR (by rfl) .neq 24 _ _ _ rfl (idv (kidN p)) (idv (kidN p)) rfl rfl _ (fun w => guardn_idv _ _ _ _ w) (fun w => neq_same (kidN_ok p) w)) ?_
                  try simp only [Act.put, nz1, nz2, nz3]
                  refine wpAnyH_done (by kernel_rfl) ?_ _
                  go_wp2_with fail
                  go_roundw
                  case rel => exact ⟨j + 1, hjk, by go_num, HD5.out.drew, HB5.out.drew⟩
                  case measure => simp [intOf]; omega
                · obtain rfl : j = k := by omega
                  have hki : ¬ (j : Int) < (j : Int) := by omega
                  go_wp2_with fail
                  go_ret
                  exact ⟨rfl, hB⟩
end Go.Proofs.Ytbgojlcciealiaa
