/-
  RoundAgree, walked, with 7. No condition.
-/
import Derived.Test.YtclhfokflagopaaRndAgK
namespace Go.Proofs.Ytclhfokflagopaa
open Go Go.RowKit Go.Maps

set_option maxRecDepth 100000 in
set_option maxHeartbeats 60000000 in
theorem agree_7 (A : Option Addr) (mm cc : Nat) (L : List MoveS) (w : World) (hr : RdMv w w.heap.size (.slice A mm cc) L) (hl : L.length = mm) (hm : mm ≤ 300) : Calls Try.prog 10 #[.int .i64 7, .slice A mm cc] w fun e w' => e = .returned (.bool true) ∧ Below w.heap.size w w' := by
  have HRW := Lib.hid hr
  have HL := Lib.hid hl
  have HMB := Lib.hid hm
  have HFN : Hid (0 ≤ faults (7 : Nat)) := Lib.hid (by decide)
  have hmi : ¬ (300 : Int) < (mm : Int) := by omega
  clear hr hl hm
  go_enter Try.func10, Try.ntmps10
  go_upto_region 3 with (go_at_call 32; refine (agrees_any _).mono ?_; rintro e W1 ⟨rfl, hb1⟩; have HB1 := Lib.hid hb1; clear hb1)
  go_upto_region 6 with (go_at_call 36; refine (open_7 w.heap.size _ HB1.out.size).mono ?_; rintro e W2 ⟨h0, rfl, hm0, hb2, e1, e2, hf⟩)
  have HA0 : Hid (AgL w 7 5 h0.Hb 0 h0 W2) := Lib.hid ⟨hm0, rfl, HB1.out.trans hb2, AgP.begin hm0.len e1 e2 (fun q x hx => (hf q x hx).1), fun q x hx => by have := (hf q x hx).2; omega⟩
  obtain ⟨Hb, hHb⟩ : ∃ z, h0.Hb = z := ⟨_, rfl⟩
  rw [hHb] at HA0
  rw [hHb]
  clear hm0 hb2 e1 e2 hf hHb hmi
  go_upto_region 8 with fail
  go_upto_region 9 with fail
  go_loopw [34] (fun s34 wr => ∃ (j : Nat) (h : HM), j ≤ mm ∧ s34 = .int .i64 (j : Int) ∧ AgL w 7 5 Hb j h wr) (fun s34 _ => mm - (intOf s34).toNat)
  case atStart => exact ⟨0, h0, Nat.zero_le _, rfl, HA0.out⟩
  case round =>
    obtain ⟨j, h, hj, rfl, hA⟩ := hrel
    by_cases hlt : j < mm
    · have hji : (j : Int) < (mm : Int) := by omega
      have hj0 : (0 : Int) ≤ (j : Int) := by omega
      have HJL : Hid (j < 300) := Lib.hid (by have := HMB.out; omega)
      obtain ⟨mv, hi⟩ : ∃ mv, L[j]? = some mv := ⟨_, List.getElem?_eq_getElem (by rw [HL.out]; exact hlt)⟩
      obtain ⟨ad, c', he, hok, _, hld⟩ := HRW.out.here hi
      rw [HL.out] at he
      obtain ⟨rfl, -, rfl⟩ := Value.slice.inj he
      have HOK := Lib.hid hok
      have HLD := Lib.hid hld
      have HBW := Lib.hid hA.base
      clear hi he hok hld
      go_upto_region 11 with (first
  | (guard_target = wpList _ _ _ (Oper.mk _ (.load 78 _) _ _ _ _ :: _) _ _; refine wpList_load_mov (by rfl) _ rfl (ad.add (j * 38)) mv rfl (HLD.out _ HBW.out) ?_)
  | (guard_target = wpList _ _ _ (Oper.mk _ (.store 78 _ _) _ _ _ _ :: _) _ _; refine wpList_store_mov rfl _ _ rfl wr.heap.size mv rfl rfl HOK.out 78 _ (Blk.newAt _ _ rfl rfl) rfl ?_; intro W9 hS9 hz9 hb9 hk9; have HB9 := Lib.hid (((Below.refl _ wr).alloc (Nat.le_refl _) _).trans hb9); clear hz9 hb9 hk9))
      replace hA := hA.below HB9.out
      have ci := mov_kind hS9
      by_cases h1 : mv.kind = 1
      · as_aux_lemma =>
          rw [h1] at ci
          clear h1
          go_upto_region 12 with fail
          clear ci
          replace hA := hA.below (Below.refl _ _).drew
          replace hS9 := hS9.drew
          obtain ⟨A1, c1, hv1⟩ := row_slice hA.m.own
          obtain ⟨mn, hmn⟩ : ∃ mn, h.ms.length = mn := ⟨_, rfl⟩
          rw [hmn] at hv1
          have HVM := Lib.hid hv1
          have HML := Lib.hid hmn
          clear hv1 hmn
          by_cases hI : mv.atm < 0
          · have HI1 : Hid (decide ((0 : Int) ≤ mv.atm) = false) := Lib.hid (decide_eq_false (by omega))
            clear hI
            refine wp_region_held_drew (S := fun W' => W'.cell? ⟨wr.heap.size, 2, none⟩ = some (.int .i64 mv.atm)) (by kernel_rfl) ?_ (fun hHeld => ?_)
            · exact mov_atm hS9
            refine tkH (v := ?_) 0 ⟨some 41, _, _, _, _, _⟩ rfl (Or.inl ⟨by rfl, ?_⟩) ?_
            rotate_left
            · intro w hSw; (try dsimp only at hSw); go_simp; try (with_reducible rfl)
            try simp only [Act.put, nz1, nz2, nz3]
            refine tkH (v := (.int .i64 mv.atm)) 1 ⟨some 42, _, _, _, _, _⟩ rfl (yields_one (by rfl) 3 _ rfl ⟨wr.heap.size, 2, none⟩ rfl _ _ (fun W' hS => hS) Try.underlying3 rfl) ?_
            try simp only [Act.put, nz1, nz2, nz3]
            refine tkH (v := (.bool false)) 2 ⟨some 43, _, _, _, _, _⟩ rfl (yields_binR (by rfl) .geq 3 _ _ _ rfl (.int .i64 mv.atm) (.int .i64 0) rfl rfl _ (fun w => by rfl) (fun w => int_geq _ _ _ HI1.out w)) ?_
            try simp only [Act.put, nz1, nz2, nz3]
            refine tkH (v := ?_) 3 ⟨some 44, _, _, _, _, _⟩ rfl (Or.inl ⟨by rfl, ?_⟩) ?_
            rotate_left
            · intro w hSw; (try dsimp only at hSw); go_simp; try (with_reducible rfl)
            try simp only [Act.put, nz1, nz2, nz3]
            refine tkH (v := undef) 4 ⟨some 45, _, _, _, _, _⟩ rfl (Or.inr ⟨by rfl, rfl⟩) ?_
            try simp only [Act.put, nz1, nz2, nz3]
            refine tkH (v := undef) 5 ⟨some 46, _, _, _, _, _⟩ rfl (Or.inr ⟨by rfl, rfl⟩) ?_
            try simp only [Act.put, nz1, nz2, nz3]
            refine tkH (v := undef) 6 ⟨some 47, _, _, _, _, _⟩ rfl (Or.inr ⟨by rfl, rfl⟩) ?_
            try simp only [Act.put, nz1, nz2, nz3]
            refine tkH (v := undef) 7 ⟨some 48, _, _, _, _, _⟩ rfl (Or.inr ⟨by rfl, rfl⟩) ?_
            try simp only [Act.put, nz1, nz2, nz3]
            refine tkH (v := undef) 8 ⟨some 49, _, _, _, _, _⟩ rfl (Or.inr ⟨by rfl, rfl⟩) ?_
            try simp only [Act.put, nz1, nz2, nz3]
            refine tkH (v := undef) 9 ⟨some 50, _, _, _, _, _⟩ rfl (Or.inr ⟨by rfl, rfl⟩) ?_
            try simp only [Act.put, nz1, nz2, nz3]
            refine tkH (v := undef) 10 ⟨some 51, _, _, _, _, _⟩ rfl (Or.inr ⟨by rfl, rfl⟩) ?_
            try simp only [Act.put, nz1, nz2, nz3]
            refine tkH (v := undef) 11 ⟨some 52, _, _, _, _, _⟩ rfl (Or.inr ⟨by rfl, rfl⟩) ?_
            try simp only [Act.put, nz1, nz2, nz3]
            refine tkH (v := ?_) 12 ⟨some 53, _, _, _, _, _⟩ rfl (Or.inl ⟨by rfl, ?_⟩) ?_
            rotate_left
            · intro w hSw; (try dsimp only at hSw); go_simp; try (with_reducible rfl)
            try simp only [Act.put, nz1, nz2, nz3]
            refine wpAnyH_done (by kernel_rfl) ?_ _
            go_wp2_with fail
            go_roundw
            case rel => exact ⟨j + 1, h, hlt, by go_num, hA.more⟩
            case measure => simp [intOf]; omega
          · have HI1 : Hid (decide ((0 : Int) ≤ mv.atm) = true) := Lib.hid (decide_eq_true (by omega))
            by_cases hJ : mv.atm < (mn : Int)
            · have HI2 : Hid (decide (mv.atm < (mn : Int)) = true) := Lib.hid (decide_eq_true hJ)
              obtain ⟨at1, hat⟩ : ∃ a : Nat, mv.atm = (a : Int) := ⟨mv.atm.toNat, by omega⟩
              have ha1 : at1 < mn := by omega
              obtain ⟨mm, hmm⟩ : ∃ mm, h.ms[at1]? = some mm := ⟨_, List.getElem?_eq_getElem (by rw [HML.out]; exact ha1)⟩
              obtain ⟨i0, d, hs, hdd, hi0, hd, hne, hvt⟩ := hA.ag.mails mm (List.mem_of_getElem? hmm)
              have HMO := Lib.hid (hA.m.mok mm (List.mem_of_getElem? hmm))
              obtain ⟨x, hx⟩ : ∃ x, h.l[d]? = some x := ⟨_, List.getElem?_eq_getElem (by rw [hA.m.len]; exact hd)⟩
              have HN : Hid (x.n + 202 < maxLen) := Lib.hid (by have := hA.few d x hx; have := HJL.out; unfold maxLen; omega)
              have HIN : Hid ((mailIn mm).kind = 3 → ∀ i : Nat, i ≠ d → (mailIn mm).who = (i : Int) → ∀ y : RB, h.l[i]? = some y → y.s.votes (mailIn mm).round (mailIn mm).num i = some (mailIn mm).id) := Lib.hid fun h3 i _ hw y hy => by
                obtain ⟨g1, g2, g3, g4⟩ := mailIn_vote h3
                have hi : i = i0 := by omega
                rw [g3, g4, (mailIn_id mm).1]
                subst hi
                exact hvt g1 y hy
              obtain ⟨g1, hA1⟩ : ∃ g, A1 = some ⟨g, 0, none⟩ := by
                rcases hA.m.own.2 with ⟨hv0, h0⟩ | ⟨g, cap, cur, hv0, _⟩
                · have := HML.out
                  omega
                · rw [HVM.out] at hv0
                  exact ⟨g, (Value.slice.inj hv0).1⟩
              subst hA1
              have HLM : Hid (∀ W' : World, HallM w.heap.size W' 5 h → (Instr.loadAt 85 (.pointer (some ((⟨g1, 0, none⟩ : Addr).add (at1 * 38))))).run Try.prog W' = .ok (.agg (mailA mm)) W') := Lib.hid fun W' hM => by
                obtain ⟨ad, c9, e1, e2, _, e4⟩ := (rdMl_own hM.own hM.mok rfl (by have := hM.few; omega)).here hmm
                have e5 := HVM.out.symm.trans e1
                have e6 := (Value.slice.inj e5).1
                have e7 : ad = ⟨g1, 0, none⟩ := (Option.some.inj e6).symm
                rw [e7] at e4
                exact e4 _ (Below.refl _ _)
              have HX := Lib.hid hx
              have HD := Lib.hid hd
              have HDD := Lib.hid hdd
              have HHB := Lib.hid hA.hb
              have HAT := Lib.hid hat
              have HA1 := Lib.hid ha1
              clear hI hJ hat ha1 hmm hs hdd hi0 hd hne hvt hx
              refine wp_region_held_drew (S := fun W' => W'.cell? ⟨wr.heap.size, 2, none⟩ = some (.int .i64 mv.atm) ∧ W'.cell? ⟨Hb, 2, none⟩ = some (.slice (some ⟨g1, 0, none⟩) mn c1)) (by kernel_rfl) ?_ (fun hHeld => ?_)
              · exact ⟨mov_atm hS9, ((hA.cell (c := 2) (by omega)).trans (congrArg some HVM.out))⟩
              refine tkH (v := ?_) 0 ⟨some 41, _, _, _, _, _⟩ rfl (Or.inl ⟨by rfl, ?_⟩) ?_
              rotate_left
              · intro w hSw; (try dsimp only at hSw); go_simp; try (with_reducible rfl)
              try simp only [Act.put, nz1, nz2, nz3]
              refine tkH (v := (.int .i64 mv.atm)) 1 ⟨some 42, _, _, _, _, _⟩ rfl (yields_one (by rfl) 3 _ rfl ⟨wr.heap.size, 2, none⟩ rfl _ _ (fun W' hS => hS.1) Try.underlying3 rfl) ?_
              try simp only [Act.put, nz1, nz2, nz3]
              refine tkH (v := (.bool true)) 2 ⟨some 43, _, _, _, _, _⟩ rfl (yields_binR (by rfl) .geq 3 _ _ _ rfl (.int .i64 mv.atm) (.int .i64 0) rfl rfl _ (fun w => by rfl) (fun w => int_geq _ _ _ HI1.out w)) ?_
              try simp only [Act.put, nz1, nz2, nz3]
              refine tkH (v := ?_) 3 ⟨some 44, _, _, _, _, _⟩ rfl (Or.inl ⟨by rfl, ?_⟩) ?_
              rotate_left
              · intro w hSw; (try dsimp only at hSw); go_simp; try (with_reducible rfl)
              try simp only [Act.put, nz1, nz2, nz3]
              refine tkH (v := ?_) 4 ⟨some 45, _, _, _, _, _⟩ rfl (Or.inl ⟨by rfl, ?_⟩) ?_
              rotate_left
              · intro w hSw; (try dsimp only at hSw); go_simp; try (with_reducible rfl)
              try simp only [Act.put, nz1, nz2, nz3]
              refine tkH (v := (.int .i64 mv.atm)) 5 ⟨some 46, _, _, _, _, _⟩ rfl (yields_one (by rfl) 3 _ rfl ⟨wr.heap.size, 2, none⟩ rfl _ _ (fun W' hS => hS.1) Try.underlying3 rfl) ?_
              try simp only [Act.put, nz1, nz2, nz3]
              refine tkH (v := ?_) 6 ⟨some 47, _, _, _, _, _⟩ rfl (Or.inl ⟨by rfl, ?_⟩) ?_
              rotate_left
              · intro w hSw; (try dsimp only at hSw); go_simp; try (with_reducible rfl)
              try simp only [Act.put, nz1, nz2, nz3]
              refine tkH (v := ?_) 7 ⟨some 48, _, _, _, _, _⟩ rfl (Or.inl ⟨by rfl, ?_⟩) ?_
              rotate_left
              · intro w hSw; (try dsimp only at hSw); go_simp; try (with_reducible rfl)
              try simp only [Act.put, nz1, nz2, nz3]
              refine tkH (v := ?_) 8 ⟨some 49, _, _, _, _, _⟩ rfl (Or.inl ⟨by rfl, ?_⟩) ?_
              rotate_left
              · intro w hSw; (try dsimp only at hSw); go_simp; try (with_reducible rfl)
              try simp only [Act.put, nz1, nz2, nz3]
              refine tkH (v := (.slice (some ⟨g1, 0, none⟩) mn c1)) 9 ⟨some 50, _, _, _, _, _⟩ rfl (yields_one (by rfl) 80 _ rfl ⟨Hb, 2, none⟩ rfl _ _ (fun W' hS => hS.2) Try.underlying80 rfl) ?_
              try simp only [Act.put, nz1, nz2, nz3]
              refine tkH (v := ?_) 10 ⟨some 51, _, _, _, _, _⟩ rfl (Or.inl ⟨by rfl, ?_⟩) ?_
              rotate_left
              · intro w hSw; (try dsimp only at hSw); go_simp; try (with_reducible rfl)
              try simp only [Act.put, nz1, nz2, nz3]
              refine tkH (v := (.bool true)) 11 ⟨some 52, _, _, _, _, _⟩ rfl (yields_binR (by rfl) .lss 3 _ _ _ rfl (.int .i64 mv.atm) (.int .i64 (mn : Int)) rfl rfl _ (fun w => by rfl) (fun w => int_lssA _ _ _ HI2.out w)) ?_
              try simp only [Act.put, nz1, nz2, nz3]
              refine tkH (v := ?_) 12 ⟨some 53, _, _, _, _, _⟩ rfl (Or.inl ⟨by rfl, ?_⟩) ?_
              rotate_left
              · intro w hSw; (try dsimp only at hSw); go_simp; try (with_reducible rfl)
              try simp only [Act.put, nz1, nz2, nz3]
              refine wpAnyH_done (by kernel_rfl) ?_ _
              go_upto_region 13 with fail
              replace hA := hA.below (Below.refl _ _).drew
              replace hS9 := hS9.drew
              have ca2 := (mov_atm hS9).trans (congrArg (fun z => some (Value.int .i64 z)) HAT.out)
              have cm2 := ((hA.cell (c := 2) (by omega)).trans (congrArg some HVM.out))
              have hlm := HLM.out _ hA.m
              refine wp_region_held_drew (S := fun _ => True) (by kernel_rfl) ?_ (fun hHeld => ?_)
              · exact trivial
              refine tkH (v := ?_) 0 ⟨some 54, _, _, _, _, _⟩ rfl (Or.inl ⟨by rfl, ?_⟩) ?_
              rotate_left
              · intro w hSw; (try dsimp only at hSw); go_simp; try (with_reducible rfl)
              try simp only [Act.put, nz1, nz2, nz3]
              refine tkH (v := ?_) 1 ⟨some 55, _, _, _, _, _⟩ rfl (Or.inl ⟨by rfl, ?_⟩) ?_
              rotate_left
              · intro w hSw; (try dsimp only at hSw); go_simp; try (with_reducible rfl)
              try simp only [Act.put, nz1, nz2, nz3]
              refine tkH (v := ?_) 2 ⟨some 56, _, _, _, _, _⟩ rfl (Or.inl ⟨by rfl, ?_⟩) ?_
              rotate_left
              · intro w hSw; (try dsimp only at hSw); go_simp; try (with_reducible rfl)
              try simp only [Act.put, nz1, nz2, nz3]
              refine tkH (v := ?_) 3 ⟨some 57, _, _, _, _, _⟩ rfl (Or.inl ⟨by rfl, ?_⟩) ?_
              rotate_left
              · intro w hSw; (try dsimp only at hSw); go_simp; try (with_reducible rfl)
              try simp only [Act.put, nz1, nz2, nz3]
              refine tkH (v := ?_) 5 ⟨some 59, _, _, _, _, _⟩ rfl (Or.inl ⟨by rfl, ?_⟩) ?_
              rotate_left
              · intro w hSw; (try dsimp only at hSw); go_simp; try (with_reducible rfl)
              try simp only [Act.put, nz1, nz2, nz3]
              refine wpAnyH_ready (rs := [4, 6]) (by kernel_rfl) (by simp) ?_
              refine (AllReadyH.cons (o := ⟨some 58, _, _, _, _, _⟩) rfl (fun K hK => ?_) (AllReadyH.cons (o := ⟨some 60, _, _, _, _, _⟩) rfl (fun K hK => ?_) AllReadyH.nil))
              · (try rw [if_pos (by rfl)])
                refine oper_load 80 _ rfl _ _ rfl (loadVar_one Try.underlying80 rfl cm2) ?_
                try simp only [Act.put, nz1, nz2, nz3]
                try dsimp only
                refine hK.out _ _ (trivial) (fun hHeld => ?_)
                clear hK K
                try simp only [Act.put, nz1, nz2, nz3]
                refine wpAnyH_ready (rs := [6]) (by kernel_rfl) (by simp) ?_
                refine (AllReadyH.cons (o := ⟨some 60, _, _, _, _, _⟩) rfl (fun K hK => ?_) AllReadyH.nil)
                (try rw [if_pos (by rfl)])
                refine oper_load 3 _ rfl _ _ rfl (loadVar_one Try.underlying3 rfl ca2) ?_
                try simp only [Act.put, nz1, nz2, nz3]
                try dsimp only
                refine hK.out _ _ (trivial) (fun hHeld => ?_)
                clear hK K
                try simp only [Act.put, nz1, nz2, nz3]
                refine tkH (v := (.pointer (some ((⟨g1, 0, none⟩ : Addr).add (at1 * 38))))) 7 ⟨some 61, _, _, _, _, _⟩ rfl (yields_indexH (by rfl) 80 _ _ rfl (.slice (some ⟨g1, 0, none⟩) mn c1) (.int .i64 (at1 : Int)) _ rfl rfl (fun w => index_mails g1 mn c1 at1 HA1.out w _ rfl)) ?_
                try simp only [Act.put, nz1, nz2, nz3]
                refine wpAnyH_ready (rs := [8]) (by kernel_rfl) (by simp) ?_
                refine (AllReadyH.cons (o := ⟨some 62, _, _, _, _, _⟩) rfl (fun K hK => ?_) AllReadyH.nil)
                (try rw [if_pos (by rfl)])
                refine oper_load 85 _ rfl _ _ rfl hlm ?_
                try simp only [Act.put, nz1, nz2, nz3]
                try dsimp only
                refine hK.out _ _ (trivial) (fun hHeld => ?_)
                clear hK K
                try simp only [Act.put, nz1, nz2, nz3]
                refine wpAnyH_ready (rs := [9]) (by kernel_rfl) (by simp) ?_
                refine (AllReadyH.cons (o := ⟨some 63, _, _, _, _, _⟩) rfl (fun K hK => ?_) AllReadyH.nil)
                (try rw [if_pos (by rfl)])
                go_simp
                refine (come_at hA.m HHB.out hA.base.size (by omega) mm HMO.out d HD.out HDD.out x HX.out HN.out).mono ?_
                rintro e Wt ⟨⟨vt, rfl⟩, hB3, kv', vm', hM3⟩
                try dsimp only
                refine hK.out _ _ (trivial) (fun hHeld => ?_)
                clear hK K
                try simp only [Act.put, nz1, nz2, nz3]
                refine wpAnyH_done (by kernel_rfl) ?_ _
                go_wp2_with fail
                go_roundw
                case rel => exact ⟨j + 1, stepH 5 h d x kv' vm' (giveS x.s (mailIn mm)) (giveA x.s (mailIn mm)), hlt, by go_num, hA.step HFN.out HX.out (mailIn mm) (by rw [(mailIn_id mm).1]; exact HMO.out.act.id) (mailIn_id mm).2 HIN.out hM3 (hA.base.trans hB3)⟩
                case measure => simp [intOf]; omega
              · (try rw [if_pos (by rfl)])
                refine oper_load 3 _ rfl _ _ rfl (loadVar_one Try.underlying3 rfl ca2) ?_
                try simp only [Act.put, nz1, nz2, nz3]
                try dsimp only
                refine hK.out _ _ (trivial) (fun hHeld => ?_)
                clear hK K
                try simp only [Act.put, nz1, nz2, nz3]
                refine wpAnyH_ready (rs := [4]) (by kernel_rfl) (by simp) ?_
                refine (AllReadyH.cons (o := ⟨some 58, _, _, _, _, _⟩) rfl (fun K hK => ?_) AllReadyH.nil)
                (try rw [if_pos (by rfl)])
                refine oper_load 80 _ rfl _ _ rfl (loadVar_one Try.underlying80 rfl cm2) ?_
                try simp only [Act.put, nz1, nz2, nz3]
                try dsimp only
                refine hK.out _ _ (trivial) (fun hHeld => ?_)
                clear hK K
                try simp only [Act.put, nz1, nz2, nz3]
                refine tkH (v := (.pointer (some ((⟨g1, 0, none⟩ : Addr).add (at1 * 38))))) 7 ⟨some 61, _, _, _, _, _⟩ rfl (yields_indexH (by rfl) 80 _ _ rfl (.slice (some ⟨g1, 0, none⟩) mn c1) (.int .i64 (at1 : Int)) _ rfl rfl (fun w => index_mails g1 mn c1 at1 HA1.out w _ rfl)) ?_
                try simp only [Act.put, nz1, nz2, nz3]
                refine wpAnyH_ready (rs := [8]) (by kernel_rfl) (by simp) ?_
                refine (AllReadyH.cons (o := ⟨some 62, _, _, _, _, _⟩) rfl (fun K hK => ?_) AllReadyH.nil)
                (try rw [if_pos (by rfl)])
                refine oper_load 85 _ rfl _ _ rfl hlm ?_
                try simp only [Act.put, nz1, nz2, nz3]
                try dsimp only
                refine hK.out _ _ (trivial) (fun hHeld => ?_)
                clear hK K
                try simp only [Act.put, nz1, nz2, nz3]
                refine wpAnyH_ready (rs := [9]) (by kernel_rfl) (by simp) ?_
                refine (AllReadyH.cons (o := ⟨some 63, _, _, _, _, _⟩) rfl (fun K hK => ?_) AllReadyH.nil)
                (try rw [if_pos (by rfl)])
                go_simp
                refine (come_at hA.m HHB.out hA.base.size (by omega) mm HMO.out d HD.out HDD.out x HX.out HN.out).mono ?_
                rintro e Wt ⟨⟨vt, rfl⟩, hB3, kv', vm', hM3⟩
                try dsimp only
                refine hK.out _ _ (trivial) (fun hHeld => ?_)
                clear hK K
                try simp only [Act.put, nz1, nz2, nz3]
                refine wpAnyH_done (by kernel_rfl) ?_ _
                go_wp2_with fail
                go_roundw
                case rel => exact ⟨j + 1, stepH 5 h d x kv' vm' (giveS x.s (mailIn mm)) (giveA x.s (mailIn mm)), hlt, by go_num, hA.step HFN.out HX.out (mailIn mm) (by rw [(mailIn_id mm).1]; exact HMO.out.act.id) (mailIn_id mm).2 HIN.out hM3 (hA.base.trans hB3)⟩
                case measure => simp [intOf]; omega
            · have HI2 : Hid (decide (mv.atm < (mn : Int)) = false) := Lib.hid (decide_eq_false hJ)
              clear hI hJ
              refine wp_region_held_drew (S := fun W' => W'.cell? ⟨wr.heap.size, 2, none⟩ = some (.int .i64 mv.atm) ∧ W'.cell? ⟨Hb, 2, none⟩ = some (.slice A1 mn c1)) (by kernel_rfl) ?_ (fun hHeld => ?_)
              · exact ⟨mov_atm hS9, ((hA.cell (c := 2) (by omega)).trans (congrArg some HVM.out))⟩
              refine tkH (v := ?_) 0 ⟨some 41, _, _, _, _, _⟩ rfl (Or.inl ⟨by rfl, ?_⟩) ?_
              rotate_left
              · intro w hSw; (try dsimp only at hSw); go_simp; try (with_reducible rfl)
              try simp only [Act.put, nz1, nz2, nz3]
              refine tkH (v := (.int .i64 mv.atm)) 1 ⟨some 42, _, _, _, _, _⟩ rfl (yields_one (by rfl) 3 _ rfl ⟨wr.heap.size, 2, none⟩ rfl _ _ (fun W' hS => hS.1) Try.underlying3 rfl) ?_
              try simp only [Act.put, nz1, nz2, nz3]
              refine tkH (v := (.bool true)) 2 ⟨some 43, _, _, _, _, _⟩ rfl (yields_binR (by rfl) .geq 3 _ _ _ rfl (.int .i64 mv.atm) (.int .i64 0) rfl rfl _ (fun w => by rfl) (fun w => int_geq _ _ _ HI1.out w)) ?_
              try simp only [Act.put, nz1, nz2, nz3]
              refine tkH (v := ?_) 3 ⟨some 44, _, _, _, _, _⟩ rfl (Or.inl ⟨by rfl, ?_⟩) ?_
              rotate_left
              · intro w hSw; (try dsimp only at hSw); go_simp; try (with_reducible rfl)
              try simp only [Act.put, nz1, nz2, nz3]
              refine tkH (v := ?_) 4 ⟨some 45, _, _, _, _, _⟩ rfl (Or.inl ⟨by rfl, ?_⟩) ?_
              rotate_left
              · intro w hSw; (try dsimp only at hSw); go_simp; try (with_reducible rfl)
              try simp only [Act.put, nz1, nz2, nz3]
              refine tkH (v := (.int .i64 mv.atm)) 5 ⟨some 46, _, _, _, _, _⟩ rfl (yields_one (by rfl) 3 _ rfl ⟨wr.heap.size, 2, none⟩ rfl _ _ (fun W' hS => hS.1) Try.underlying3 rfl) ?_
              try simp only [Act.put, nz1, nz2, nz3]
              refine tkH (v := ?_) 6 ⟨some 47, _, _, _, _, _⟩ rfl (Or.inl ⟨by rfl, ?_⟩) ?_
              rotate_left
              · intro w hSw; (try dsimp only at hSw); go_simp; try (with_reducible rfl)
              try simp only [Act.put, nz1, nz2, nz3]
              refine tkH (v := ?_) 7 ⟨some 48, _, _, _, _, _⟩ rfl (Or.inl ⟨by rfl, ?_⟩) ?_
              rotate_left
              · intro w hSw; (try dsimp only at hSw); go_simp; try (with_reducible rfl)
              try simp only [Act.put, nz1, nz2, nz3]
              refine tkH (v := ?_) 8 ⟨some 49, _, _, _, _, _⟩ rfl (Or.inl ⟨by rfl, ?_⟩) ?_
              rotate_left
              · intro w hSw; (try dsimp only at hSw); go_simp; try (with_reducible rfl)
              try simp only [Act.put, nz1, nz2, nz3]
              refine tkH (v := (.slice A1 mn c1)) 9 ⟨some 50, _, _, _, _, _⟩ rfl (yields_one (by rfl) 80 _ rfl ⟨Hb, 2, none⟩ rfl _ _ (fun W' hS => hS.2) Try.underlying80 rfl) ?_
              try simp only [Act.put, nz1, nz2, nz3]
              refine tkH (v := ?_) 10 ⟨some 51, _, _, _, _, _⟩ rfl (Or.inl ⟨by rfl, ?_⟩) ?_
              rotate_left
              · intro w hSw; (try dsimp only at hSw); go_simp; try (with_reducible rfl)
              try simp only [Act.put, nz1, nz2, nz3]
              refine tkH (v := (.bool false)) 11 ⟨some 52, _, _, _, _, _⟩ rfl (yields_binR (by rfl) .lss 3 _ _ _ rfl (.int .i64 mv.atm) (.int .i64 (mn : Int)) rfl rfl _ (fun w => by rfl) (fun w => int_lssA _ _ _ HI2.out w)) ?_
              try simp only [Act.put, nz1, nz2, nz3]
              refine tkH (v := ?_) 12 ⟨some 53, _, _, _, _, _⟩ rfl (Or.inl ⟨by rfl, ?_⟩) ?_
              rotate_left
              · intro w hSw; (try dsimp only at hSw); go_simp; try (with_reducible rfl)
              try simp only [Act.put, nz1, nz2, nz3]
              refine wpAnyH_done (by kernel_rfl) ?_ _
              go_wp2_with fail
              go_roundw
              case rel => exact ⟨j + 1, h, hlt, by go_num, hA.more⟩
              case measure => simp [intOf]; omega
      · as_aux_lemma =>
          have k1b : (mv.kind == 1) = false := by rw [beq_eq_false_iff_ne]; exact h1
          go_upto_region 14 with fail
          clear ci k1b
          replace hA := hA.below (Below.refl _ _).drew
          replace hS9 := hS9.drew
          by_cases hI : mv.i < 0
          · have HI1 : Hid (decide (mv.i < 0) = true) := Lib.hid (decide_eq_true hI)
            clear hI
            refine wp_region_held_drew (S := fun W' => W'.cell? ⟨wr.heap.size, 1, none⟩ = some (.int .i64 mv.i)) (by kernel_rfl) ?_ (fun hHeld => ?_)
            · exact mov_i hS9
            refine tkH (v := ?_) 0 ⟨some 64, _, _, _, _, _⟩ rfl (Or.inl ⟨by rfl, ?_⟩) ?_
            rotate_left
            · intro w hSw; (try dsimp only at hSw); go_simp; try (with_reducible rfl)
            try simp only [Act.put, nz1, nz2, nz3]
            refine tkH (v := (.int .i64 mv.i)) 1 ⟨some 65, _, _, _, _, _⟩ rfl (yields_one (by rfl) 3 _ rfl ⟨wr.heap.size, 1, none⟩ rfl _ _ (fun W' hS => hS) Try.underlying3 rfl) ?_
            try simp only [Act.put, nz1, nz2, nz3]
            refine tkH (v := (.bool true)) 2 ⟨some 66, _, _, _, _, _⟩ rfl (yields_binR (by rfl) .lss 3 _ _ _ rfl (.int .i64 mv.i) (.int .i64 0) rfl rfl _ (fun w => by rfl) (fun w => int_lssA _ _ _ HI1.out w)) ?_
            try simp only [Act.put, nz1, nz2, nz3]
            refine tkH (v := ?_) 3 ⟨some 67, _, _, _, _, _⟩ rfl (Or.inl ⟨by rfl, ?_⟩) ?_
            rotate_left
            · intro w hSw; (try dsimp only at hSw); go_simp; try (with_reducible rfl)
            try simp only [Act.put, nz1, nz2, nz3]
            refine tkH (v := undef) 4 ⟨some 68, _, _, _, _, _⟩ rfl (Or.inr ⟨by rfl, rfl⟩) ?_
            try simp only [Act.put, nz1, nz2, nz3]
            refine tkH (v := undef) 5 ⟨some 69, _, _, _, _, _⟩ rfl (Or.inr ⟨by rfl, rfl⟩) ?_
            try simp only [Act.put, nz1, nz2, nz3]
            refine tkH (v := undef) 6 ⟨some 70, _, _, _, _, _⟩ rfl (Or.inr ⟨by rfl, rfl⟩) ?_
            try simp only [Act.put, nz1, nz2, nz3]
            refine tkH (v := undef) 7 ⟨some 71, _, _, _, _, _⟩ rfl (Or.inr ⟨by rfl, rfl⟩) ?_
            try simp only [Act.put, nz1, nz2, nz3]
            refine tkH (v := undef) 8 ⟨some 72, _, _, _, _, _⟩ rfl (Or.inr ⟨by rfl, rfl⟩) ?_
            try simp only [Act.put, nz1, nz2, nz3]
            refine tkH (v := undef) 9 ⟨some 73, _, _, _, _, _⟩ rfl (Or.inr ⟨by rfl, rfl⟩) ?_
            try simp only [Act.put, nz1, nz2, nz3]
            refine tkH (v := undef) 10 ⟨some 74, _, _, _, _, _⟩ rfl (Or.inr ⟨by rfl, rfl⟩) ?_
            try simp only [Act.put, nz1, nz2, nz3]
            refine tkH (v := ?_) 11 ⟨some 75, _, _, _, _, _⟩ rfl (Or.inl ⟨by rfl, ?_⟩) ?_
            rotate_left
            · intro w hSw; (try dsimp only at hSw); go_simp; try (with_reducible rfl)
            try simp only [Act.put, nz1, nz2, nz3]
            refine wpAnyH_done (by kernel_rfl) ?_ _
            go_wp2_with fail
            go_roundw
            case rel => exact ⟨j + 1, h, hlt, by go_num, hA.more⟩
            case measure => simp [intOf]; omega
          · have HI1 : Hid (decide (mv.i < 0) = false) := Lib.hid (decide_eq_false hI)
            by_cases hJ : (5 : Int) ≤ mv.i
            · have HI2 : Hid (decide ((5 : Int) ≤ mv.i) = true) := Lib.hid (decide_eq_true hJ)
              clear hI hJ
              refine wp_region_held_drew (S := fun W' => W'.cell? ⟨wr.heap.size, 1, none⟩ = some (.int .i64 mv.i) ∧ W'.cell? ⟨Hb, 1, none⟩ = some (.int .i64 5)) (by kernel_rfl) ?_ (fun hHeld => ?_)
              · exact ⟨mov_i hS9, hA.cell (c := 1) (by omega)⟩
              refine tkH (v := ?_) 0 ⟨some 64, _, _, _, _, _⟩ rfl (Or.inl ⟨by rfl, ?_⟩) ?_
              rotate_left
              · intro w hSw; (try dsimp only at hSw); go_simp; try (with_reducible rfl)
              try simp only [Act.put, nz1, nz2, nz3]
              refine tkH (v := (.int .i64 mv.i)) 1 ⟨some 65, _, _, _, _, _⟩ rfl (yields_one (by rfl) 3 _ rfl ⟨wr.heap.size, 1, none⟩ rfl _ _ (fun W' hS => hS.1) Try.underlying3 rfl) ?_
              try simp only [Act.put, nz1, nz2, nz3]
              refine tkH (v := (.bool false)) 2 ⟨some 66, _, _, _, _, _⟩ rfl (yields_binR (by rfl) .lss 3 _ _ _ rfl (.int .i64 mv.i) (.int .i64 0) rfl rfl _ (fun w => by rfl) (fun w => int_lssA _ _ _ HI1.out w)) ?_
              try simp only [Act.put, nz1, nz2, nz3]
              refine tkH (v := ?_) 3 ⟨some 67, _, _, _, _, _⟩ rfl (Or.inl ⟨by rfl, ?_⟩) ?_
              rotate_left
              · intro w hSw; (try dsimp only at hSw); go_simp; try (with_reducible rfl)
              try simp only [Act.put, nz1, nz2, nz3]
              refine tkH (v := ?_) 4 ⟨some 68, _, _, _, _, _⟩ rfl (Or.inl ⟨by rfl, ?_⟩) ?_
              rotate_left
              · intro w hSw; (try dsimp only at hSw); go_simp; try (with_reducible rfl)
              try simp only [Act.put, nz1, nz2, nz3]
              refine tkH (v := (.int .i64 mv.i)) 5 ⟨some 69, _, _, _, _, _⟩ rfl (yields_one (by rfl) 3 _ rfl ⟨wr.heap.size, 1, none⟩ rfl _ _ (fun W' hS => hS.1) Try.underlying3 rfl) ?_
              try simp only [Act.put, nz1, nz2, nz3]
              refine tkH (v := ?_) 6 ⟨some 70, _, _, _, _, _⟩ rfl (Or.inl ⟨by rfl, ?_⟩) ?_
              rotate_left
              · intro w hSw; (try dsimp only at hSw); go_simp; try (with_reducible rfl)
              try simp only [Act.put, nz1, nz2, nz3]
              refine tkH (v := ?_) 7 ⟨some 71, _, _, _, _, _⟩ rfl (Or.inl ⟨by rfl, ?_⟩) ?_
              rotate_left
              · intro w hSw; (try dsimp only at hSw); go_simp; try (with_reducible rfl)
              try simp only [Act.put, nz1, nz2, nz3]
              refine tkH (v := ?_) 8 ⟨some 72, _, _, _, _, _⟩ rfl (Or.inl ⟨by rfl, ?_⟩) ?_
              rotate_left
              · intro w hSw; (try dsimp only at hSw); go_simp; try (with_reducible rfl)
              try simp only [Act.put, nz1, nz2, nz3]
              refine tkH (v := (.int .i64 5)) 9 ⟨some 73, _, _, _, _, _⟩ rfl (yields_one (by rfl) 3 _ rfl ⟨Hb, 1, none⟩ rfl _ _ (fun W' hS => hS.2) Try.underlying3 rfl) ?_
              try simp only [Act.put, nz1, nz2, nz3]
              refine tkH (v := (.bool true)) 10 ⟨some 74, _, _, _, _, _⟩ rfl (yields_binR (by rfl) .geq 3 _ _ _ rfl (.int .i64 mv.i) (.int .i64 5) rfl rfl _ (fun w => by rfl) (fun w => int_geq _ _ _ HI2.out w)) ?_
              try simp only [Act.put, nz1, nz2, nz3]
              refine tkH (v := ?_) 11 ⟨some 75, _, _, _, _, _⟩ rfl (Or.inl ⟨by rfl, ?_⟩) ?_
              rotate_left
              · intro w hSw; (try dsimp only at hSw); go_simp; try (with_reducible rfl)
              try simp only [Act.put, nz1, nz2, nz3]
              refine wpAnyH_done (by kernel_rfl) ?_ _
              go_wp2_with fail
              go_roundw
              case rel => exact ⟨j + 1, h, hlt, by go_num, hA.more⟩
              case measure => simp [intOf]; omega
            · have HI2 : Hid (decide ((5 : Int) ≤ mv.i) = false) := Lib.hid (decide_eq_false hJ)
              obtain ⟨d, hdd⟩ : ∃ d : Nat, mv.i = (d : Int) := ⟨mv.i.toNat, by omega⟩
              have hd : d < 5 := by omega
              obtain ⟨x, hx⟩ : ∃ x, h.l[d]? = some x := ⟨_, List.getElem?_eq_getElem (by rw [hA.m.len]; exact hd)⟩
              have HN : Hid (x.n + 202 < maxLen) := Lib.hid (by have := hA.few d x hx; have := HJL.out; unfold maxLen; omega)
              have HX := Lib.hid hx
              have HD := Lib.hid hd
              have HDD := Lib.hid hdd
              have HHB := Lib.hid hA.hb
              clear hI hJ hdd hd hx
              refine wp_region_held_drew (S := fun W' => W'.cell? ⟨wr.heap.size, 1, none⟩ = some (.int .i64 mv.i) ∧ W'.cell? ⟨Hb, 1, none⟩ = some (.int .i64 5)) (by kernel_rfl) ?_ (fun hHeld => ?_)
              · exact ⟨mov_i hS9, hA.cell (c := 1) (by omega)⟩
              refine tkH (v := ?_) 0 ⟨some 64, _, _, _, _, _⟩ rfl (Or.inl ⟨by rfl, ?_⟩) ?_
              rotate_left
              · intro w hSw; (try dsimp only at hSw); go_simp; try (with_reducible rfl)
              try simp only [Act.put, nz1, nz2, nz3]
              refine tkH (v := (.int .i64 mv.i)) 1 ⟨some 65, _, _, _, _, _⟩ rfl (yields_one (by rfl) 3 _ rfl ⟨wr.heap.size, 1, none⟩ rfl _ _ (fun W' hS => hS.1) Try.underlying3 rfl) ?_
              try simp only [Act.put, nz1, nz2, nz3]
              refine tkH (v := (.bool false)) 2 ⟨some 66, _, _, _, _, _⟩ rfl (yields_binR (by rfl) .lss 3 _ _ _ rfl (.int .i64 mv.i) (.int .i64 0) rfl rfl _ (fun w => by rfl) (fun w => int_lssA _ _ _ HI1.out w)) ?_
              try simp only [Act.put, nz1, nz2, nz3]
              refine tkH (v := ?_) 3 ⟨some 67, _, _, _, _, _⟩ rfl (Or.inl ⟨by rfl, ?_⟩) ?_
              rotate_left
              · intro w hSw; (try dsimp only at hSw); go_simp; try (with_reducible rfl)
              try simp only [Act.put, nz1, nz2, nz3]
              refine tkH (v := ?_) 4 ⟨some 68, _, _, _, _, _⟩ rfl (Or.inl ⟨by rfl, ?_⟩) ?_
              rotate_left
              · intro w hSw; (try dsimp only at hSw); go_simp; try (with_reducible rfl)
              try simp only [Act.put, nz1, nz2, nz3]
              refine tkH (v := (.int .i64 mv.i)) 5 ⟨some 69, _, _, _, _, _⟩ rfl (yields_one (by rfl) 3 _ rfl ⟨wr.heap.size, 1, none⟩ rfl _ _ (fun W' hS => hS.1) Try.underlying3 rfl) ?_
              try simp only [Act.put, nz1, nz2, nz3]
              refine tkH (v := ?_) 6 ⟨some 70, _, _, _, _, _⟩ rfl (Or.inl ⟨by rfl, ?_⟩) ?_
              rotate_left
              · intro w hSw; (try dsimp only at hSw); go_simp; try (with_reducible rfl)
              try simp only [Act.put, nz1, nz2, nz3]
              refine tkH (v := ?_) 7 ⟨some 71, _, _, _, _, _⟩ rfl (Or.inl ⟨by rfl, ?_⟩) ?_
              rotate_left
              · intro w hSw; (try dsimp only at hSw); go_simp; try (with_reducible rfl)
              try simp only [Act.put, nz1, nz2, nz3]
              refine tkH (v := ?_) 8 ⟨some 72, _, _, _, _, _⟩ rfl (Or.inl ⟨by rfl, ?_⟩) ?_
              rotate_left
              · intro w hSw; (try dsimp only at hSw); go_simp; try (with_reducible rfl)
              try simp only [Act.put, nz1, nz2, nz3]
              refine tkH (v := (.int .i64 5)) 9 ⟨some 73, _, _, _, _, _⟩ rfl (yields_one (by rfl) 3 _ rfl ⟨Hb, 1, none⟩ rfl _ _ (fun W' hS => hS.2) Try.underlying3 rfl) ?_
              try simp only [Act.put, nz1, nz2, nz3]
              refine tkH (v := (.bool false)) 10 ⟨some 74, _, _, _, _, _⟩ rfl (yields_binR (by rfl) .geq 3 _ _ _ rfl (.int .i64 mv.i) (.int .i64 5) rfl rfl _ (fun w => by rfl) (fun w => int_geq _ _ _ HI2.out w)) ?_
              try simp only [Act.put, nz1, nz2, nz3]
              refine tkH (v := ?_) 11 ⟨some 75, _, _, _, _, _⟩ rfl (Or.inl ⟨by rfl, ?_⟩) ?_
              rotate_left
              · intro w hSw; (try dsimp only at hSw); go_simp; try (with_reducible rfl)
              try simp only [Act.put, nz1, nz2, nz3]
              refine wpAnyH_done (by kernel_rfl) ?_ _
              go_upto_region 15 with fail
              replace hA := hA.below (Below.refl _ _).drew
              replace hS9 := hS9.drew
              refine wp_region_held_drew (S := fun W' => W'.cell? ⟨Hb, 0, none⟩ = some (.slice (some ⟨h.Ab, 0, none⟩) 5 h.cap) ∧ W'.cell? ⟨wr.heap.size, 1, none⟩ = some (.int .i64 (d : Int)) ∧ W'.cell? ⟨h.Ab, d, none⟩ = some (.pointer (some ⟨x.B, 0, none⟩))) (by kernel_rfl) ?_ (fun hHeld => ?_)
              · exact ⟨hA.cell (c := 0) (by omega), (mov_i hS9).trans (congrArg (fun z => some (Value.int .i64 z)) HDD.out), (by obtain ⟨cs, a1, a2⟩ := hA.m.all; rw [a1.cell]; exact a2 d x HX.out)⟩
              refine tkH (v := ?_) 0 ⟨some 76, _, _, _, _, _⟩ rfl (Or.inl ⟨by rfl, ?_⟩) ?_
              rotate_left
              · intro w hSw; (try dsimp only at hSw); go_simp; try (with_reducible rfl)
              try simp only [Act.put, nz1, nz2, nz3]
              refine tkH (v := ?_) 1 ⟨some 77, _, _, _, _, _⟩ rfl (Or.inl ⟨by rfl, ?_⟩) ?_
              rotate_left
              · intro w hSw; (try dsimp only at hSw); go_simp; try (with_reducible rfl)
              try simp only [Act.put, nz1, nz2, nz3]
              refine tkH (v := ?_) 2 ⟨some 78, _, _, _, _, _⟩ rfl (Or.inl ⟨by rfl, ?_⟩) ?_
              rotate_left
              · intro w hSw; (try dsimp only at hSw); go_simp; try (with_reducible rfl)
              try simp only [Act.put, nz1, nz2, nz3]
              refine tkH (v := (.slice (some ⟨h.Ab, 0, none⟩) 5 h.cap)) 3 ⟨some 79, _, _, _, _, _⟩ rfl (yields_one (by rfl) 79 _ rfl ⟨Hb, 0, none⟩ rfl _ _ (fun W' hS => hS.1) Try.underlying79 rfl) ?_
              try simp only [Act.put, nz1, nz2, nz3]
              refine tkH (v := ?_) 4 ⟨some 80, _, _, _, _, _⟩ rfl (Or.inl ⟨by rfl, ?_⟩) ?_
              rotate_left
              · intro w hSw; (try dsimp only at hSw); go_simp; try (with_reducible rfl)
              try simp only [Act.put, nz1, nz2, nz3]
              refine tkH (v := (.int .i64 (d : Int))) 5 ⟨some 81, _, _, _, _, _⟩ rfl (yields_one (by rfl) 3 _ rfl ⟨wr.heap.size, 1, none⟩ rfl _ _ (fun W' hS => hS.2.1) Try.underlying3 rfl) ?_
              try simp only [Act.put, nz1, nz2, nz3]
              refine tkH (v := (.pointer (some ⟨h.Ab, d, none⟩))) 6 ⟨some 82, _, _, _, _, _⟩ rfl (yields_indexH (by rfl) 79 _ _ rfl (.slice (some ⟨h.Ab, 0, none⟩) 5 h.cap) (.int .i64 (d : Int)) _ rfl rfl (fun w => index_ptrs h.Ab 5 h.cap d HD.out w)) ?_
              try simp only [Act.put, nz1, nz2, nz3]
              refine tkH (v := (.pointer (some ⟨x.B, 0, none⟩))) 7 ⟨some 83, _, _, _, _, _⟩ rfl (yields_one (by rfl) 62 _ rfl ⟨h.Ab, d, none⟩ rfl _ _ (fun W' hS => hS.2.2) Try.underlying62 rfl) ?_
              try simp only [Act.put, nz1, nz2, nz3]
              refine tkH (v := ?_) 8 ⟨some 8, _, _, _, _, _⟩ rfl (Or.inl ⟨by rfl, ?_⟩) ?_
              rotate_left
              · intro w hSw; (try dsimp only at hSw); go_simp; try (with_reducible rfl)
              try simp only [Act.put, nz1, nz2, nz3]
              refine wpAnyH_done (by kernel_rfl) ?_ _
              have ck := mov_kind hS9
              by_cases q0 : mv.kind = 0
              · rw [q0] at ck
                clear q0
                have hdl : d = 0 ∨ d = 1 ∨ d = 2 ∨ d = 3 ∨ d = 4 := by have := HD.out; omega
                rcases hdl with rfl | rfl | rfl | rfl | rfl
                · as_aux_lemma =>
                    go_upto_region 18 with fail
                    replace hA := hA.below (Below.refl _ _).drew
                    replace hS9 := hS9.drew
                    refine wp_region_held_drew (S := fun W' => W'.cell? ⟨wr.heap.size, 1, none⟩ = some (.int .i64 0)) (by kernel_rfl) ?_ (fun hHeld => ?_)
                    · exact (mov_i hS9).trans (congrArg (fun z => some (Value.int .i64 z)) HDD.out)
                    refine tkH (v := ?_) 0 ⟨some 88, _, _, _, _, _⟩ rfl (Or.inl ⟨by rfl, ?_⟩) ?_
                    rotate_left
                    · intro w hSw; (try dsimp only at hSw); go_simp; try (with_reducible rfl)
                    try simp only [Act.put, nz1, nz2, nz3]
                    refine tkH (v := ?_) 1 ⟨some 89, _, _, _, _, _⟩ rfl (Or.inl ⟨by rfl, ?_⟩) ?_
                    rotate_left
                    · intro w hSw; (try dsimp only at hSw); go_simp; try (with_reducible rfl)
                    try simp only [Act.put, nz1, nz2, nz3]
                    refine tkH (v := (.int .i64 0)) 2 ⟨some 90, _, _, _, _, _⟩ rfl (yields_one (by rfl) 3 _ rfl ⟨wr.heap.size, 1, none⟩ rfl _ _ (fun W' hS => hS) Try.underlying3 rfl) ?_
                    try simp only [Act.put, nz1, nz2, nz3]
                    refine tkH (v := ?_) 3 ⟨some 91, _, _, _, _, _⟩ rfl (Or.inl ⟨by rfl, ?_⟩) ?_
                    rotate_left
                    · intro w hSw; (try dsimp only at hSw); go_simp; try (with_reducible rfl)
                    try simp only [Act.put, nz1, nz2, nz3]
                    refine tkH (v := ?_) 4 ⟨some 92, _, _, _, _, _⟩ rfl (Or.inl ⟨by rfl, ?_⟩) ?_
                    rotate_left
                    · intro w hSw; (try dsimp only at hSw); go_simp; try (with_reducible rfl)
                    try simp only [Act.put, nz1, nz2, nz3]
                    refine tkH (v := (.int .i64 0)) 5 ⟨some 93, _, _, _, _, _⟩ rfl (yields_one (by rfl) 3 _ rfl ⟨wr.heap.size, 1, none⟩ rfl _ _ (fun W' hS => hS) Try.underlying3 rfl) ?_
                    try simp only [Act.put, nz1, nz2, nz3]
                    refine tkH (v := ?_) 6 ⟨some 94, _, _, _, _, _⟩ rfl (Or.inl ⟨by rfl, ?_⟩) ?_
                    rotate_left
                    · intro w hSw; (try dsimp only at hSw); go_simp; try (with_reducible rfl)
                    try simp only [Act.put, nz1, nz2, nz3]
                    refine tkH (v := ?_) 7 ⟨some 95, _, _, _, _, _⟩ rfl (Or.inl ⟨by rfl, ?_⟩) ?_
                    rotate_left
                    · intro w hSw; (try dsimp only at hSw); go_simp; try (with_reducible rfl)
                    try simp only [Act.put, nz1, nz2, nz3]
                    refine tkH (v := ?_) 8 ⟨some 96, _, _, _, _, _⟩ rfl (Or.inl ⟨by rfl, ?_⟩) ?_
                    rotate_left
                    · intro w hSw; (try dsimp only at hSw); go_simp; try (with_reducible rfl)
                    try simp only [Act.put, nz1, nz2, nz3]
                    refine tkH (v := (idv (kidB 1))) 9 ⟨some 97, _, _, _, _, _⟩ rfl (yields_build (by rfl) 24 _ rfl [(0, .int .u8 1)] rfl _ (kidB_built 1)) ?_
                    try simp only [Act.put, nz1, nz2, nz3]
                    refine wpAnyH_ready (rs := [10]) (by kernel_rfl) (by simp) ?_
                    refine (AllReadyH.cons (o := ⟨some 98, _, _, _, _, _⟩) rfl (fun K hK => ?_) AllReadyH.nil)
                    (try rw [if_pos (by rfl)])
                    go_simp
                    refine (beginM_any (hA.m.hall.at_ 0 x HX.out) (kidB 1) (kidB_ok 1) HN.out).mono ?_
                    rintro e Wv hdn
                    obtain ⟨vv, kv', rfl, hov, hM, hB2, hbk⟩ := hA.m.did hA.base.size HX.out hdn
                    replace hS9 := hbk _ _ _ hS9 (by decide) (by decide)
                    clear hdn hbk
                    try dsimp only
                    refine hK.out _ _ ((mov_i hS9).trans (congrArg (fun z => some (Value.int .i64 z)) HDD.out)) (fun hHeld => ?_)
                    clear hK K
                    try simp only [Act.put, nz1, nz2, nz3]
                    refine wpAnyH_ready (rs := [11]) (by kernel_rfl) (by simp) ?_
                    refine (AllReadyH.cons (o := ⟨some 99, _, _, _, _, _⟩) rfl (fun K hK => ?_) AllReadyH.nil)
                    (try rw [if_pos (by rfl)])
                    go_simp
                    refine (take_at hM HHB.out (Nat.le_trans hA.base.size hB2.size) 0 HD.out (by omega) _ _ _ hov).mono ?_
                    rintro e Wt ⟨⟨vt, rfl⟩, hB3, vm', hM3, hT⟩
                    replace hS9 := hS9.eqAt (hT.block _ hS9.lt (blk_ne hS9 hM.blk (by decide)) (blk_ne hS9 hM.done (by decide)) (fun e => by (obtain ⟨ds, h5, _⟩ := row_at hM.own e.symm; exact blk_ne hS9 h5 (by decide) rfl)))
                    clear hT hov hM
                    try dsimp only
                    refine hK.out _ _ ((mov_i hS9).trans (congrArg (fun z => some (Value.int .i64 z)) HDD.out)) (fun hHeld => ?_)
                    clear hK K
                    try simp only [Act.put, nz1, nz2, nz3]
                    refine wpAnyH_done (by kernel_rfl) ?_ _
                    go_wp2_with fail
                    go_roundw
                    case rel => exact ⟨j + 1, stepH 5 h 0 x kv' vm' (giveS x.s ⟨0, 0, 0, 0, 0, kidB 1⟩) (giveA x.s ⟨0, 0, 0, 0, 0, kidB 1⟩), hlt, by go_num, hA.step HFN.out HX.out ⟨0, 0, 0, 0, 0, kidB 1⟩ (kidB_ok 1) ⟨by show (0 : Int) ≤ 0; decide, by show (0 : Int) < 5; decide⟩ (fun e => absurd e (by show ¬ (0 : Int) = 3; decide)) (by rw [giveS_begin, giveA_begin]; exact hM3) (hA.base.trans (hB2.trans hB3))⟩
                    case measure => simp [intOf]; omega
                · as_aux_lemma =>
                    go_upto_region 18 with fail
                    replace hA := hA.below (Below.refl _ _).drew
                    replace hS9 := hS9.drew
                    refine wp_region_held_drew (S := fun W' => W'.cell? ⟨wr.heap.size, 1, none⟩ = some (.int .i64 1)) (by kernel_rfl) ?_ (fun hHeld => ?_)
                    · exact (mov_i hS9).trans (congrArg (fun z => some (Value.int .i64 z)) HDD.out)
                    refine tkH (v := ?_) 0 ⟨some 88, _, _, _, _, _⟩ rfl (Or.inl ⟨by rfl, ?_⟩) ?_
                    rotate_left
                    · intro w hSw; (try dsimp only at hSw); go_simp; try (with_reducible rfl)
                    try simp only [Act.put, nz1, nz2, nz3]
                    refine tkH (v := ?_) 1 ⟨some 89, _, _, _, _, _⟩ rfl (Or.inl ⟨by rfl, ?_⟩) ?_
                    rotate_left
                    · intro w hSw; (try dsimp only at hSw); go_simp; try (with_reducible rfl)
                    try simp only [Act.put, nz1, nz2, nz3]
                    refine tkH (v := (.int .i64 1)) 2 ⟨some 90, _, _, _, _, _⟩ rfl (yields_one (by rfl) 3 _ rfl ⟨wr.heap.size, 1, none⟩ rfl _ _ (fun W' hS => hS) Try.underlying3 rfl) ?_
                    try simp only [Act.put, nz1, nz2, nz3]
                    refine tkH (v := ?_) 3 ⟨some 91, _, _, _, _, _⟩ rfl (Or.inl ⟨by rfl, ?_⟩) ?_
                    rotate_left
                    · intro w hSw; (try dsimp only at hSw); go_simp; try (with_reducible rfl)
                    try simp only [Act.put, nz1, nz2, nz3]
                    refine tkH (v := ?_) 4 ⟨some 92, _, _, _, _, _⟩ rfl (Or.inl ⟨by rfl, ?_⟩) ?_
                    rotate_left
                    · intro w hSw; (try dsimp only at hSw); go_simp; try (with_reducible rfl)
                    try simp only [Act.put, nz1, nz2, nz3]
                    refine tkH (v := (.int .i64 1)) 5 ⟨some 93, _, _, _, _, _⟩ rfl (yields_one (by rfl) 3 _ rfl ⟨wr.heap.size, 1, none⟩ rfl _ _ (fun W' hS => hS) Try.underlying3 rfl) ?_
                    try simp only [Act.put, nz1, nz2, nz3]
                    refine tkH (v := ?_) 6 ⟨some 94, _, _, _, _, _⟩ rfl (Or.inl ⟨by rfl, ?_⟩) ?_
                    rotate_left
                    · intro w hSw; (try dsimp only at hSw); go_simp; try (with_reducible rfl)
                    try simp only [Act.put, nz1, nz2, nz3]
                    refine tkH (v := ?_) 7 ⟨some 95, _, _, _, _, _⟩ rfl (Or.inl ⟨by rfl, ?_⟩) ?_
                    rotate_left
                    · intro w hSw; (try dsimp only at hSw); go_simp; try (with_reducible rfl)
                    try simp only [Act.put, nz1, nz2, nz3]
                    refine tkH (v := ?_) 8 ⟨some 96, _, _, _, _, _⟩ rfl (Or.inl ⟨by rfl, ?_⟩) ?_
                    rotate_left
                    · intro w hSw; (try dsimp only at hSw); go_simp; try (with_reducible rfl)
                    try simp only [Act.put, nz1, nz2, nz3]
                    refine tkH (v := (idv (kidB 2))) 9 ⟨some 97, _, _, _, _, _⟩ rfl (yields_build (by rfl) 24 _ rfl [(0, .int .u8 2)] rfl _ (kidB_built 2)) ?_
                    try simp only [Act.put, nz1, nz2, nz3]
                    refine wpAnyH_ready (rs := [10]) (by kernel_rfl) (by simp) ?_
                    refine (AllReadyH.cons (o := ⟨some 98, _, _, _, _, _⟩) rfl (fun K hK => ?_) AllReadyH.nil)
                    (try rw [if_pos (by rfl)])
                    go_simp
                    refine (beginM_any (hA.m.hall.at_ 1 x HX.out) (kidB 2) (kidB_ok 2) HN.out).mono ?_
                    rintro e Wv hdn
                    obtain ⟨vv, kv', rfl, hov, hM, hB2, hbk⟩ := hA.m.did hA.base.size HX.out hdn
                    replace hS9 := hbk _ _ _ hS9 (by decide) (by decide)
                    clear hdn hbk
                    try dsimp only
                    refine hK.out _ _ ((mov_i hS9).trans (congrArg (fun z => some (Value.int .i64 z)) HDD.out)) (fun hHeld => ?_)
                    clear hK K
                    try simp only [Act.put, nz1, nz2, nz3]
                    refine wpAnyH_ready (rs := [11]) (by kernel_rfl) (by simp) ?_
                    refine (AllReadyH.cons (o := ⟨some 99, _, _, _, _, _⟩) rfl (fun K hK => ?_) AllReadyH.nil)
                    (try rw [if_pos (by rfl)])
                    go_simp
                    refine (take_at hM HHB.out (Nat.le_trans hA.base.size hB2.size) 1 HD.out (by omega) _ _ _ hov).mono ?_
                    rintro e Wt ⟨⟨vt, rfl⟩, hB3, vm', hM3, hT⟩
                    replace hS9 := hS9.eqAt (hT.block _ hS9.lt (blk_ne hS9 hM.blk (by decide)) (blk_ne hS9 hM.done (by decide)) (fun e => by (obtain ⟨ds, h5, _⟩ := row_at hM.own e.symm; exact blk_ne hS9 h5 (by decide) rfl)))
                    clear hT hov hM
                    try dsimp only
                    refine hK.out _ _ ((mov_i hS9).trans (congrArg (fun z => some (Value.int .i64 z)) HDD.out)) (fun hHeld => ?_)
                    clear hK K
                    try simp only [Act.put, nz1, nz2, nz3]
                    refine wpAnyH_done (by kernel_rfl) ?_ _
                    go_wp2_with fail
                    go_roundw
                    case rel => exact ⟨j + 1, stepH 5 h 1 x kv' vm' (giveS x.s ⟨0, 0, 0, 0, 0, kidB 2⟩) (giveA x.s ⟨0, 0, 0, 0, 0, kidB 2⟩), hlt, by go_num, hA.step HFN.out HX.out ⟨0, 0, 0, 0, 0, kidB 2⟩ (kidB_ok 2) ⟨by show (0 : Int) ≤ 0; decide, by show (0 : Int) < 5; decide⟩ (fun e => absurd e (by show ¬ (0 : Int) = 3; decide)) (by rw [giveS_begin, giveA_begin]; exact hM3) (hA.base.trans (hB2.trans hB3))⟩
                    case measure => simp [intOf]; omega
                · as_aux_lemma =>
                    go_upto_region 18 with fail
                    replace hA := hA.below (Below.refl _ _).drew
                    replace hS9 := hS9.drew
                    refine wp_region_held_drew (S := fun W' => W'.cell? ⟨wr.heap.size, 1, none⟩ = some (.int .i64 2)) (by kernel_rfl) ?_ (fun hHeld => ?_)
                    · exact (mov_i hS9).trans (congrArg (fun z => some (Value.int .i64 z)) HDD.out)
                    refine tkH (v := ?_) 0 ⟨some 88, _, _, _, _, _⟩ rfl (Or.inl ⟨by rfl, ?_⟩) ?_
                    rotate_left
                    · intro w hSw; (try dsimp only at hSw); go_simp; try (with_reducible rfl)
                    try simp only [Act.put, nz1, nz2, nz3]
                    refine tkH (v := ?_) 1 ⟨some 89, _, _, _, _, _⟩ rfl (Or.inl ⟨by rfl, ?_⟩) ?_
                    rotate_left
                    · intro w hSw; (try dsimp only at hSw); go_simp; try (with_reducible rfl)
                    try simp only [Act.put, nz1, nz2, nz3]
                    refine tkH (v := (.int .i64 2)) 2 ⟨some 90, _, _, _, _, _⟩ rfl (yields_one (by rfl) 3 _ rfl ⟨wr.heap.size, 1, none⟩ rfl _ _ (fun W' hS => hS) Try.underlying3 rfl) ?_
                    try simp only [Act.put, nz1, nz2, nz3]
                    refine tkH (v := ?_) 3 ⟨some 91, _, _, _, _, _⟩ rfl (Or.inl ⟨by rfl, ?_⟩) ?_
                    rotate_left
                    · intro w hSw; (try dsimp only at hSw); go_simp; try (with_reducible rfl)
                    try simp only [Act.put, nz1, nz2, nz3]
                    refine tkH (v := ?_) 4 ⟨some 92, _, _, _, _, _⟩ rfl (Or.inl ⟨by rfl, ?_⟩) ?_
                    rotate_left
                    · intro w hSw; (try dsimp only at hSw); go_simp; try (with_reducible rfl)
                    try simp only [Act.put, nz1, nz2, nz3]
                    refine tkH (v := (.int .i64 2)) 5 ⟨some 93, _, _, _, _, _⟩ rfl (yields_one (by rfl) 3 _ rfl ⟨wr.heap.size, 1, none⟩ rfl _ _ (fun W' hS => hS) Try.underlying3 rfl) ?_
                    try simp only [Act.put, nz1, nz2, nz3]
                    refine tkH (v := ?_) 6 ⟨some 94, _, _, _, _, _⟩ rfl (Or.inl ⟨by rfl, ?_⟩) ?_
                    rotate_left
                    · intro w hSw; (try dsimp only at hSw); go_simp; try (with_reducible rfl)
                    try simp only [Act.put, nz1, nz2, nz3]
                    refine tkH (v := ?_) 7 ⟨some 95, _, _, _, _, _⟩ rfl (Or.inl ⟨by rfl, ?_⟩) ?_
                    rotate_left
                    · intro w hSw; (try dsimp only at hSw); go_simp; try (with_reducible rfl)
                    try simp only [Act.put, nz1, nz2, nz3]
                    refine tkH (v := ?_) 8 ⟨some 96, _, _, _, _, _⟩ rfl (Or.inl ⟨by rfl, ?_⟩) ?_
                    rotate_left
                    · intro w hSw; (try dsimp only at hSw); go_simp; try (with_reducible rfl)
                    try simp only [Act.put, nz1, nz2, nz3]
                    refine tkH (v := (idv (kidB 3))) 9 ⟨some 97, _, _, _, _, _⟩ rfl (yields_build (by rfl) 24 _ rfl [(0, .int .u8 3)] rfl _ (kidB_built 3)) ?_
                    try simp only [Act.put, nz1, nz2, nz3]
                    refine wpAnyH_ready (rs := [10]) (by kernel_rfl) (by simp) ?_
                    refine (AllReadyH.cons (o := ⟨some 98, _, _, _, _, _⟩) rfl (fun K hK => ?_) AllReadyH.nil)
                    (try rw [if_pos (by rfl)])
                    go_simp
                    refine (beginM_any (hA.m.hall.at_ 2 x HX.out) (kidB 3) (kidB_ok 3) HN.out).mono ?_
                    rintro e Wv hdn
                    obtain ⟨vv, kv', rfl, hov, hM, hB2, hbk⟩ := hA.m.did hA.base.size HX.out hdn
                    replace hS9 := hbk _ _ _ hS9 (by decide) (by decide)
                    clear hdn hbk
                    try dsimp only
                    refine hK.out _ _ ((mov_i hS9).trans (congrArg (fun z => some (Value.int .i64 z)) HDD.out)) (fun hHeld => ?_)
                    clear hK K
                    try simp only [Act.put, nz1, nz2, nz3]
                    refine wpAnyH_ready (rs := [11]) (by kernel_rfl) (by simp) ?_
                    refine (AllReadyH.cons (o := ⟨some 99, _, _, _, _, _⟩) rfl (fun K hK => ?_) AllReadyH.nil)
                    (try rw [if_pos (by rfl)])
                    go_simp
                    refine (take_at hM HHB.out (Nat.le_trans hA.base.size hB2.size) 2 HD.out (by omega) _ _ _ hov).mono ?_
                    rintro e Wt ⟨⟨vt, rfl⟩, hB3, vm', hM3, hT⟩
                    replace hS9 := hS9.eqAt (hT.block _ hS9.lt (blk_ne hS9 hM.blk (by decide)) (blk_ne hS9 hM.done (by decide)) (fun e => by (obtain ⟨ds, h5, _⟩ := row_at hM.own e.symm; exact blk_ne hS9 h5 (by decide) rfl)))
                    clear hT hov hM
                    try dsimp only
                    refine hK.out _ _ ((mov_i hS9).trans (congrArg (fun z => some (Value.int .i64 z)) HDD.out)) (fun hHeld => ?_)
                    clear hK K
                    try simp only [Act.put, nz1, nz2, nz3]
                    refine wpAnyH_done (by kernel_rfl) ?_ _
                    go_wp2_with fail
                    go_roundw
                    case rel => exact ⟨j + 1, stepH 5 h 2 x kv' vm' (giveS x.s ⟨0, 0, 0, 0, 0, kidB 3⟩) (giveA x.s ⟨0, 0, 0, 0, 0, kidB 3⟩), hlt, by go_num, hA.step HFN.out HX.out ⟨0, 0, 0, 0, 0, kidB 3⟩ (kidB_ok 3) ⟨by show (0 : Int) ≤ 0; decide, by show (0 : Int) < 5; decide⟩ (fun e => absurd e (by show ¬ (0 : Int) = 3; decide)) (by rw [giveS_begin, giveA_begin]; exact hM3) (hA.base.trans (hB2.trans hB3))⟩
                    case measure => simp [intOf]; omega
                · as_aux_lemma =>
                    go_upto_region 18 with fail
                    replace hA := hA.below (Below.refl _ _).drew
                    replace hS9 := hS9.drew
                    refine wp_region_held_drew (S := fun W' => W'.cell? ⟨wr.heap.size, 1, none⟩ = some (.int .i64 3)) (by kernel_rfl) ?_ (fun hHeld => ?_)
                    · exact (mov_i hS9).trans (congrArg (fun z => some (Value.int .i64 z)) HDD.out)
                    refine tkH (v := ?_) 0 ⟨some 88, _, _, _, _, _⟩ rfl (Or.inl ⟨by rfl, ?_⟩) ?_
                    rotate_left
                    · intro w hSw; (try dsimp only at hSw); go_simp; try (with_reducible rfl)
                    try simp only [Act.put, nz1, nz2, nz3]
                    refine tkH (v := ?_) 1 ⟨some 89, _, _, _, _, _⟩ rfl (Or.inl ⟨by rfl, ?_⟩) ?_
                    rotate_left
                    · intro w hSw; (try dsimp only at hSw); go_simp; try (with_reducible rfl)
                    try simp only [Act.put, nz1, nz2, nz3]
                    refine tkH (v := (.int .i64 3)) 2 ⟨some 90, _, _, _, _, _⟩ rfl (yields_one (by rfl) 3 _ rfl ⟨wr.heap.size, 1, none⟩ rfl _ _ (fun W' hS => hS) Try.underlying3 rfl) ?_
                    try simp only [Act.put, nz1, nz2, nz3]
                    refine tkH (v := ?_) 3 ⟨some 91, _, _, _, _, _⟩ rfl (Or.inl ⟨by rfl, ?_⟩) ?_
                    rotate_left
                    · intro w hSw; (try dsimp only at hSw); go_simp; try (with_reducible rfl)
                    try simp only [Act.put, nz1, nz2, nz3]
                    refine tkH (v := ?_) 4 ⟨some 92, _, _, _, _, _⟩ rfl (Or.inl ⟨by rfl, ?_⟩) ?_
                    rotate_left
                    · intro w hSw; (try dsimp only at hSw); go_simp; try (with_reducible rfl)
                    try simp only [Act.put, nz1, nz2, nz3]
                    refine tkH (v := (.int .i64 3)) 5 ⟨some 93, _, _, _, _, _⟩ rfl (yields_one (by rfl) 3 _ rfl ⟨wr.heap.size, 1, none⟩ rfl _ _ (fun W' hS => hS) Try.underlying3 rfl) ?_
                    try simp only [Act.put, nz1, nz2, nz3]
                    refine tkH (v := ?_) 6 ⟨some 94, _, _, _, _, _⟩ rfl (Or.inl ⟨by rfl, ?_⟩) ?_
                    rotate_left
                    · intro w hSw; (try dsimp only at hSw); go_simp; try (with_reducible rfl)
                    try simp only [Act.put, nz1, nz2, nz3]
                    refine tkH (v := ?_) 7 ⟨some 95, _, _, _, _, _⟩ rfl (Or.inl ⟨by rfl, ?_⟩) ?_
                    rotate_left
                    · intro w hSw; (try dsimp only at hSw); go_simp; try (with_reducible rfl)
                    try simp only [Act.put, nz1, nz2, nz3]
                    refine tkH (v := ?_) 8 ⟨some 96, _, _, _, _, _⟩ rfl (Or.inl ⟨by rfl, ?_⟩) ?_
                    rotate_left
                    · intro w hSw; (try dsimp only at hSw); go_simp; try (with_reducible rfl)
                    try simp only [Act.put, nz1, nz2, nz3]
                    refine tkH (v := (idv (kidB 4))) 9 ⟨some 97, _, _, _, _, _⟩ rfl (yields_build (by rfl) 24 _ rfl [(0, .int .u8 4)] rfl _ (kidB_built 4)) ?_
                    try simp only [Act.put, nz1, nz2, nz3]
                    refine wpAnyH_ready (rs := [10]) (by kernel_rfl) (by simp) ?_
                    refine (AllReadyH.cons (o := ⟨some 98, _, _, _, _, _⟩) rfl (fun K hK => ?_) AllReadyH.nil)
                    (try rw [if_pos (by rfl)])
                    go_simp
                    refine (beginM_any (hA.m.hall.at_ 3 x HX.out) (kidB 4) (kidB_ok 4) HN.out).mono ?_
                    rintro e Wv hdn
                    obtain ⟨vv, kv', rfl, hov, hM, hB2, hbk⟩ := hA.m.did hA.base.size HX.out hdn
                    replace hS9 := hbk _ _ _ hS9 (by decide) (by decide)
                    clear hdn hbk
                    try dsimp only
                    refine hK.out _ _ ((mov_i hS9).trans (congrArg (fun z => some (Value.int .i64 z)) HDD.out)) (fun hHeld => ?_)
                    clear hK K
                    try simp only [Act.put, nz1, nz2, nz3]
                    refine wpAnyH_ready (rs := [11]) (by kernel_rfl) (by simp) ?_
                    refine (AllReadyH.cons (o := ⟨some 99, _, _, _, _, _⟩) rfl (fun K hK => ?_) AllReadyH.nil)
                    (try rw [if_pos (by rfl)])
                    go_simp
                    refine (take_at hM HHB.out (Nat.le_trans hA.base.size hB2.size) 3 HD.out (by omega) _ _ _ hov).mono ?_
                    rintro e Wt ⟨⟨vt, rfl⟩, hB3, vm', hM3, hT⟩
                    replace hS9 := hS9.eqAt (hT.block _ hS9.lt (blk_ne hS9 hM.blk (by decide)) (blk_ne hS9 hM.done (by decide)) (fun e => by (obtain ⟨ds, h5, _⟩ := row_at hM.own e.symm; exact blk_ne hS9 h5 (by decide) rfl)))
                    clear hT hov hM
                    try dsimp only
                    refine hK.out _ _ ((mov_i hS9).trans (congrArg (fun z => some (Value.int .i64 z)) HDD.out)) (fun hHeld => ?_)
                    clear hK K
                    try simp only [Act.put, nz1, nz2, nz3]
                    refine wpAnyH_done (by kernel_rfl) ?_ _
                    go_wp2_with fail
                    go_roundw
                    case rel => exact ⟨j + 1, stepH 5 h 3 x kv' vm' (giveS x.s ⟨0, 0, 0, 0, 0, kidB 4⟩) (giveA x.s ⟨0, 0, 0, 0, 0, kidB 4⟩), hlt, by go_num, hA.step HFN.out HX.out ⟨0, 0, 0, 0, 0, kidB 4⟩ (kidB_ok 4) ⟨by show (0 : Int) ≤ 0; decide, by show (0 : Int) < 5; decide⟩ (fun e => absurd e (by show ¬ (0 : Int) = 3; decide)) (by rw [giveS_begin, giveA_begin]; exact hM3) (hA.base.trans (hB2.trans hB3))⟩
                    case measure => simp [intOf]; omega
                · as_aux_lemma =>
                    go_upto_region 18 with fail
                    replace hA := hA.below (Below.refl _ _).drew
                    replace hS9 := hS9.drew
                    refine wp_region_held_drew (S := fun W' => W'.cell? ⟨wr.heap.size, 1, none⟩ = some (.int .i64 4)) (by kernel_rfl) ?_ (fun hHeld => ?_)
                    · exact (mov_i hS9).trans (congrArg (fun z => some (Value.int .i64 z)) HDD.out)
                    refine tkH (v := ?_) 0 ⟨some 88, _, _, _, _, _⟩ rfl (Or.inl ⟨by rfl, ?_⟩) ?_
                    rotate_left
                    · intro w hSw; (try dsimp only at hSw); go_simp; try (with_reducible rfl)
                    try simp only [Act.put, nz1, nz2, nz3]
                    refine tkH (v := ?_) 1 ⟨some 89, _, _, _, _, _⟩ rfl (Or.inl ⟨by rfl, ?_⟩) ?_
                    rotate_left
                    · intro w hSw; (try dsimp only at hSw); go_simp; try (with_reducible rfl)
                    try simp only [Act.put, nz1, nz2, nz3]
                    refine tkH (v := (.int .i64 4)) 2 ⟨some 90, _, _, _, _, _⟩ rfl (yields_one (by rfl) 3 _ rfl ⟨wr.heap.size, 1, none⟩ rfl _ _ (fun W' hS => hS) Try.underlying3 rfl) ?_
                    try simp only [Act.put, nz1, nz2, nz3]
                    refine tkH (v := ?_) 3 ⟨some 91, _, _, _, _, _⟩ rfl (Or.inl ⟨by rfl, ?_⟩) ?_
                    rotate_left
                    · intro w hSw; (try dsimp only at hSw); go_simp; try (with_reducible rfl)
                    try simp only [Act.put, nz1, nz2, nz3]
                    refine tkH (v := ?_) 4 ⟨some 92, _, _, _, _, _⟩ rfl (Or.inl ⟨by rfl, ?_⟩) ?_
                    rotate_left
                    · intro w hSw; (try dsimp only at hSw); go_simp; try (with_reducible rfl)
                    try simp only [Act.put, nz1, nz2, nz3]
                    refine tkH (v := (.int .i64 4)) 5 ⟨some 93, _, _, _, _, _⟩ rfl (yields_one (by rfl) 3 _ rfl ⟨wr.heap.size, 1, none⟩ rfl _ _ (fun W' hS => hS) Try.underlying3 rfl) ?_
                    try simp only [Act.put, nz1, nz2, nz3]
                    refine tkH (v := ?_) 6 ⟨some 94, _, _, _, _, _⟩ rfl (Or.inl ⟨by rfl, ?_⟩) ?_
                    rotate_left
                    · intro w hSw; (try dsimp only at hSw); go_simp; try (with_reducible rfl)
                    try simp only [Act.put, nz1, nz2, nz3]
                    refine tkH (v := ?_) 7 ⟨some 95, _, _, _, _, _⟩ rfl (Or.inl ⟨by rfl, ?_⟩) ?_
                    rotate_left
                    · intro w hSw; (try dsimp only at hSw); go_simp; try (with_reducible rfl)
                    try simp only [Act.put, nz1, nz2, nz3]
                    refine tkH (v := ?_) 8 ⟨some 96, _, _, _, _, _⟩ rfl (Or.inl ⟨by rfl, ?_⟩) ?_
                    rotate_left
                    · intro w hSw; (try dsimp only at hSw); go_simp; try (with_reducible rfl)
                    try simp only [Act.put, nz1, nz2, nz3]
                    refine tkH (v := (idv (kidB 1))) 9 ⟨some 97, _, _, _, _, _⟩ rfl (yields_build (by rfl) 24 _ rfl [(0, .int .u8 1)] rfl _ (kidB_built 1)) ?_
                    try simp only [Act.put, nz1, nz2, nz3]
                    refine wpAnyH_ready (rs := [10]) (by kernel_rfl) (by simp) ?_
                    refine (AllReadyH.cons (o := ⟨some 98, _, _, _, _, _⟩) rfl (fun K hK => ?_) AllReadyH.nil)
                    (try rw [if_pos (by rfl)])
                    go_simp
                    refine (beginM_any (hA.m.hall.at_ 4 x HX.out) (kidB 1) (kidB_ok 1) HN.out).mono ?_
                    rintro e Wv hdn
                    obtain ⟨vv, kv', rfl, hov, hM, hB2, hbk⟩ := hA.m.did hA.base.size HX.out hdn
                    replace hS9 := hbk _ _ _ hS9 (by decide) (by decide)
                    clear hdn hbk
                    try dsimp only
                    refine hK.out _ _ ((mov_i hS9).trans (congrArg (fun z => some (Value.int .i64 z)) HDD.out)) (fun hHeld => ?_)
                    clear hK K
                    try simp only [Act.put, nz1, nz2, nz3]
                    refine wpAnyH_ready (rs := [11]) (by kernel_rfl) (by simp) ?_
                    refine (AllReadyH.cons (o := ⟨some 99, _, _, _, _, _⟩) rfl (fun K hK => ?_) AllReadyH.nil)
                    (try rw [if_pos (by rfl)])
                    go_simp
                    refine (take_at hM HHB.out (Nat.le_trans hA.base.size hB2.size) 4 HD.out (by omega) _ _ _ hov).mono ?_
                    rintro e Wt ⟨⟨vt, rfl⟩, hB3, vm', hM3, hT⟩
                    replace hS9 := hS9.eqAt (hT.block _ hS9.lt (blk_ne hS9 hM.blk (by decide)) (blk_ne hS9 hM.done (by decide)) (fun e => by (obtain ⟨ds, h5, _⟩ := row_at hM.own e.symm; exact blk_ne hS9 h5 (by decide) rfl)))
                    clear hT hov hM
                    try dsimp only
                    refine hK.out _ _ ((mov_i hS9).trans (congrArg (fun z => some (Value.int .i64 z)) HDD.out)) (fun hHeld => ?_)
                    clear hK K
                    try simp only [Act.put, nz1, nz2, nz3]
                    refine wpAnyH_done (by kernel_rfl) ?_ _
                    go_wp2_with fail
                    go_roundw
                    case rel => exact ⟨j + 1, stepH 5 h 4 x kv' vm' (giveS x.s ⟨0, 0, 0, 0, 0, kidB 1⟩) (giveA x.s ⟨0, 0, 0, 0, 0, kidB 1⟩), hlt, by go_num, hA.step HFN.out HX.out ⟨0, 0, 0, 0, 0, kidB 1⟩ (kidB_ok 1) ⟨by show (0 : Int) ≤ 0; decide, by show (0 : Int) < 5; decide⟩ (fun e => absurd e (by show ¬ (0 : Int) = 3; decide)) (by rw [giveS_begin, giveA_begin]; exact hM3) (hA.base.trans (hB2.trans hB3))⟩
                    case measure => simp [intOf]; omega
              by_cases q2 : mv.kind = 2
              · have k0b : (mv.kind == 0) = false := by rw [beq_eq_false_iff_ne]; omega
                rw [q2] at ck
                clear q0 q2 k0b
                as_aux_lemma =>
                  go_upto_region 21 with (go_at_call 40; refine (where_any (hA.m.hall.at_ d x HX.out)).mono ?_; rintro e Ww ⟨rfl, hbw⟩; replace hA := hA.below hbw; replace hS9 := hS9.below hbw hS9.lt; clear hbw)
                  replace hA := hA.below (Below.refl _ _).drew
                  replace hS9 := hS9.drew
                  have HRW2 : Hid (wfi x.s.round) := Lib.hid (wfi_small (by have := (hA.m.hall.good HX.out).ok.round; omega) (by have := (hA.m.hall.good HX.out).ok.round; omega))
                  refine wp_region_held_drew (S := fun W' => W'.cell? ⟨wr.heap.size, 1, none⟩ = some (.int .i64 (d : Int)) ∧ W'.cell? ⟨wr.heap.size, 3, none⟩ = some (.int .i64 mv.num)) (by kernel_rfl) ?_ (fun hHeld => ?_)
                  · exact ⟨(mov_i hS9).trans (congrArg (fun z => some (Value.int .i64 z)) HDD.out), mov_num hS9⟩
                  refine tkH (v := ?_) 0 ⟨some 107, _, _, _, _, _⟩ rfl (Or.inl ⟨by rfl, ?_⟩) ?_
                  rotate_left
                  · intro w hSw; (try dsimp only at hSw); go_simp; try (with_reducible rfl)
                  try simp only [Act.put, nz1, nz2, nz3]
                  refine tkH (v := ?_) 1 ⟨some 108, _, _, _, _, _⟩ rfl (Or.inl ⟨by rfl, ?_⟩) ?_
                  rotate_left
                  · intro w hSw; (try dsimp only at hSw); go_simp; try (with_reducible rfl)
                  try simp only [Act.put, nz1, nz2, nz3]
                  refine tkH (v := (.int .i64 (d : Int))) 2 ⟨some 109, _, _, _, _, _⟩ rfl (yields_one (by rfl) 3 _ rfl ⟨wr.heap.size, 1, none⟩ rfl _ _ (fun W' hS => hS.1) Try.underlying3 rfl) ?_
                  try simp only [Act.put, nz1, nz2, nz3]
                  refine tkH (v := ?_) 3 ⟨some 110, _, _, _, _, _⟩ rfl (Or.inl ⟨by rfl, ?_⟩) ?_
                  rotate_left
                  · intro w hSw; (try dsimp only at hSw); go_simp; try (with_reducible rfl)
                  try simp only [Act.put, nz1, nz2, nz3]
                  refine tkH (v := ?_) 4 ⟨some 111, _, _, _, _, _⟩ rfl (Or.inl ⟨by rfl, ?_⟩) ?_
                  rotate_left
                  · intro w hSw; (try dsimp only at hSw); go_simp; try (with_reducible rfl)
                  try simp only [Act.put, nz1, nz2, nz3]
                  refine tkH (v := ?_) 5 ⟨some 112, _, _, _, _, _⟩ rfl (Or.inl ⟨by rfl, ?_⟩) ?_
                  rotate_left
                  · intro w hSw; (try dsimp only at hSw); go_simp; try (with_reducible rfl)
                  try simp only [Act.put, nz1, nz2, nz3]
                  refine tkH (v := (.int .i64 mv.num)) 6 ⟨some 113, _, _, _, _, _⟩ rfl (yields_one (by rfl) 3 _ rfl ⟨wr.heap.size, 3, none⟩ rfl _ _ (fun W' hS => hS.2) Try.underlying3 rfl) ?_
                  try simp only [Act.put, nz1, nz2, nz3]
                  refine wpAnyH_ready (rs := [7]) (by kernel_rfl) (by simp) ?_
                  refine (AllReadyH.cons (o := ⟨some 114, _, _, _, _, _⟩) rfl (fun K hK => ?_) AllReadyH.nil)
                  (try rw [if_pos (by rfl)])
                  go_simp
                  refine (time_any (hA.m.hall.at_ d x HX.out) x.s.round mv.num HRW2.out HOK.out.num HN.out).mono ?_
                  rintro e Wv hdn
                  obtain ⟨vv, kv', rfl, hov, hM, hB2, hbk⟩ := hA.m.did hA.base.size HX.out hdn
                  replace hS9 := hbk _ _ _ hS9 (by decide) (by decide)
                  clear hdn hbk
                  try dsimp only
                  refine hK.out _ _ (⟨(mov_i hS9).trans (congrArg (fun z => some (Value.int .i64 z)) HDD.out), mov_num hS9⟩) (fun hHeld => ?_)
                  clear hK K
                  try simp only [Act.put, nz1, nz2, nz3]
                  refine wpAnyH_ready (rs := [8]) (by kernel_rfl) (by simp) ?_
                  refine (AllReadyH.cons (o := ⟨some 115, _, _, _, _, _⟩) rfl (fun K hK => ?_) AllReadyH.nil)
                  (try rw [if_pos (by rfl)])
                  go_simp
                  refine (take_at hM HHB.out (Nat.le_trans hA.base.size hB2.size) d HD.out (by omega) _ _ _ hov).mono ?_
                  rintro e Wt ⟨⟨vt, rfl⟩, hB3, vm', hM3, hT⟩
                  replace hS9 := hS9.eqAt (hT.block _ hS9.lt (blk_ne hS9 hM.blk (by decide)) (blk_ne hS9 hM.done (by decide)) (fun e => by (obtain ⟨ds, h5, _⟩ := row_at hM.own e.symm; exact blk_ne hS9 h5 (by decide) rfl)))
                  clear hT hov hM
                  try dsimp only
                  refine hK.out _ _ (⟨(mov_i hS9).trans (congrArg (fun z => some (Value.int .i64 z)) HDD.out), mov_num hS9⟩) (fun hHeld => ?_)
                  clear hK K
                  try simp only [Act.put, nz1, nz2, nz3]
                  refine wpAnyH_done (by kernel_rfl) ?_ _
                  go_wp2_with fail
                  go_roundw
                  case rel => exact ⟨j + 1, stepH 5 h d x kv' vm' (giveS x.s ⟨4, x.s.round, mv.num, 0, 0, zeroId⟩) (giveA x.s ⟨4, x.s.round, mv.num, 0, 0, zeroId⟩), hlt, by go_num, hA.step HFN.out HX.out ⟨4, x.s.round, mv.num, 0, 0, zeroId⟩ (zeroId_ok) ⟨by show (0 : Int) ≤ 4; decide, by show (4 : Int) < 5; decide⟩ (fun e => absurd e (by show ¬ (4 : Int) = 3; decide)) (by rw [giveS_time, giveA_time]; exact hM3) (hA.base.trans (hB2.trans hB3))⟩
                  case measure => simp [intOf]; omega
              by_cases q3 : mv.kind = 3
              · rw [q3] at ck
                clear q0 q2 q3
                as_aux_lemma =>
                  have HWO : Hid (((5 : Int) ≤ (5 + ((mv.atm.tmod 2 + 7 - 5).tmod 2))) ∧ (5 + ((mv.atm.tmod 2 + 7 - 5).tmod 2)) < 7) := Lib.hid (who_ok2 mv.atm)
                  obtain ⟨qw, hqw⟩ : ∃ z, (5 + ((mv.atm.tmod 2 + 7 - 5).tmod 2)) = z := ⟨_, rfl⟩
                  have HQW : Hid (wfi qw ∧ (5 : Int) ≤ qw) := Lib.hid ⟨wfi_small (by have := HWO.out; omega) (by have := HWO.out; omega), by have := HWO.out; omega⟩
                  have HQE := Lib.hid hqw
                  clear hqw
                  go_upto_region 23 with fail
                  replace hA := hA.below (Below.refl _ _).drew
                  replace hS9 := hS9.drew
                  refine wp_region_held_drew (S := fun W' => W'.cell? ⟨Hb, 1, none⟩ = some (.int .i64 5) ∧ W'.cell? ⟨wr.heap.size, 2, none⟩ = some (.int .i64 mv.atm)) (by kernel_rfl) ?_ (fun hHeld => ?_)
                  · exact ⟨hA.cell (c := 1) (by omega), mov_atm hS9⟩
                  refine tkH (v := ?_) 0 ⟨some 118, _, _, _, _, _⟩ rfl (Or.inl ⟨by rfl, ?_⟩) ?_
                  rotate_left
                  · intro w hSw; (try dsimp only at hSw); go_simp; try (with_reducible rfl)
                  try simp only [Act.put, nz1, nz2, nz3]
                  refine tkH (v := ?_) 1 ⟨some 119, _, _, _, _, _⟩ rfl (Or.inl ⟨by rfl, ?_⟩) ?_
                  rotate_left
                  · intro w hSw; (try dsimp only at hSw); go_simp; try (with_reducible rfl)
                  try simp only [Act.put, nz1, nz2, nz3]
                  refine tkH (v := ?_) 2 ⟨some 120, _, _, _, _, _⟩ rfl (Or.inl ⟨by rfl, ?_⟩) ?_
                  rotate_left
                  · intro w hSw; (try dsimp only at hSw); go_simp; try (with_reducible rfl)
                  try simp only [Act.put, nz1, nz2, nz3]
                  refine tkH (v := (.int .i64 5)) 3 ⟨some 121, _, _, _, _, _⟩ rfl (yields_one (by rfl) 3 _ rfl ⟨Hb, 1, none⟩ rfl _ _ (fun W' hS => hS.1) Try.underlying3 rfl) ?_
                  try simp only [Act.put, nz1, nz2, nz3]
                  refine tkH (v := ?_) 4 ⟨some 122, _, _, _, _, _⟩ rfl (Or.inl ⟨by rfl, ?_⟩) ?_
                  rotate_left
                  · intro w hSw; (try dsimp only at hSw); go_simp; try (with_reducible rfl)
                  try simp only [Act.put, nz1, nz2, nz3]
                  refine tkH (v := (.int .i64 mv.atm)) 5 ⟨some 123, _, _, _, _, _⟩ rfl (yields_one (by rfl) 3 _ rfl ⟨wr.heap.size, 2, none⟩ rfl _ _ (fun W' hS => hS.2) Try.underlying3 rfl) ?_
                  try simp only [Act.put, nz1, nz2, nz3]
                  refine tkH (v := ?_) 6 ⟨some 124, _, _, _, _, _⟩ rfl (Or.inl ⟨by rfl, ?_⟩) ?_
                  rotate_left
                  · intro w hSw; (try dsimp only at hSw); go_simp; try (with_reducible rfl)
                  try simp only [Act.put, nz1, nz2, nz3]
                  refine tkH (v := ?_) 7 ⟨some 125, _, _, _, _, _⟩ rfl (Or.inl ⟨by rfl, ?_⟩) ?_
                  rotate_left
                  · intro w hSw; (try dsimp only at hSw); go_simp; try (with_reducible rfl)
                  try simp only [Act.put, nz1, nz2, nz3]
                  refine tkH (v := ?_) 8 ⟨some 126, _, _, _, _, _⟩ rfl (Or.inl ⟨by rfl, ?_⟩) ?_
                  rotate_left
                  · intro w hSw; (try dsimp only at hSw); go_simp; try (with_reducible rfl)
                  try simp only [Act.put, nz1, nz2, nz3]
                  refine tkH (v := ?_) 9 ⟨some 127, _, _, _, _, _⟩ rfl (Or.inl ⟨by rfl, ?_⟩) ?_
                  rotate_left
                  · intro w hSw; (try dsimp only at hSw); go_simp; try (with_reducible rfl)
                  try simp only [Act.put, nz1, nz2, nz3]
                  refine tkH (v := (.int .i64 5)) 10 ⟨some 128, _, _, _, _, _⟩ rfl (yields_one (by rfl) 3 _ rfl ⟨Hb, 1, none⟩ rfl _ _ (fun W' hS => hS.1) Try.underlying3 rfl) ?_
                  try simp only [Act.put, nz1, nz2, nz3]
                  refine tkH (v := ?_) 11 ⟨some 129, _, _, _, _, _⟩ rfl (Or.inl ⟨by rfl, ?_⟩) ?_
                  rotate_left
                  · intro w hSw; (try dsimp only at hSw); go_simp; try (with_reducible rfl)
                  try simp only [Act.put, nz1, nz2, nz3]
                  refine tkH (v := (.int .i64 (mv.atm.tmod 2))) 12 ⟨some 130, _, _, _, _, _⟩ rfl (yields_binR (by rfl) .rem 3 _ _ _ rfl (.int .i64 mv.atm) (.int .i64 2) rfl rfl _ (fun w => by rfl) (fun w => int_remF mv.atm 2 (by decide) w)) ?_
                  try simp only [Act.put, nz1, nz2, nz3]
                  refine tkH (v := ?_) 13 ⟨some 131, _, _, _, _, _⟩ rfl (Or.inl ⟨by rfl, ?_⟩) ?_
                  rotate_left
                  · intro w hSw; (try dsimp only at hSw); go_simp; try (with_reducible rfl)
                  try simp only [Act.put, nz1, nz2, nz3]
                  refine tkH (v := (.int .i64 ((mv.atm.tmod 2) + 7))) 14 ⟨some 132, _, _, _, _, _⟩ rfl (yields_binR (by rfl) .add 3 _ _ _ rfl (.int .i64 (mv.atm.tmod 2)) (.int .i64 7) rfl rfl _ (fun w => by rfl) (fun w => int_addW (mv.atm.tmod 2) 7 (by have := Int.tmod_lt_of_pos mv.atm (b := 2) (by decide); have := Int.lt_tmod_of_pos mv.atm (b := 2) (by decide); omega) w)) ?_
                  try simp only [Act.put, nz1, nz2, nz3]
                  refine tkH (v := ?_) 15 ⟨some 133, _, _, _, _, _⟩ rfl (Or.inl ⟨by rfl, ?_⟩) ?_
                  rotate_left
                  · intro w hSw; (try dsimp only at hSw); go_simp; try (with_reducible rfl)
                  try simp only [Act.put, nz1, nz2, nz3]
                  refine tkH (v := ?_) 16 ⟨some 134, _, _, _, _, _⟩ rfl (Or.inl ⟨by rfl, ?_⟩) ?_
                  rotate_left
                  · intro w hSw; (try dsimp only at hSw); go_simp; try (with_reducible rfl)
                  try simp only [Act.put, nz1, nz2, nz3]
                  refine tkH (v := ?_) 17 ⟨some 135, _, _, _, _, _⟩ rfl (Or.inl ⟨by rfl, ?_⟩) ?_
                  rotate_left
                  · intro w hSw; (try dsimp only at hSw); go_simp; try (with_reducible rfl)
                  try simp only [Act.put, nz1, nz2, nz3]
                  refine tkH (v := (.int .i64 5)) 18 ⟨some 136, _, _, _, _, _⟩ rfl (yields_one (by rfl) 3 _ rfl ⟨Hb, 1, none⟩ rfl _ _ (fun W' hS => hS.1) Try.underlying3 rfl) ?_
                  try simp only [Act.put, nz1, nz2, nz3]
                  refine tkH (v := (.int .i64 ((mv.atm.tmod 2) + 7 - 5))) 19 ⟨some 137, _, _, _, _, _⟩ rfl (yields_binR (by rfl) .sub 3 _ _ _ rfl (.int .i64 ((mv.atm.tmod 2) + 7)) (.int .i64 5) rfl rfl _ (fun w => by rfl) (fun w => int_subW ((mv.atm.tmod 2) + 7) 5 (by have := Int.tmod_lt_of_pos mv.atm (b := 2) (by decide); have := Int.lt_tmod_of_pos mv.atm (b := 2) (by decide); omega) w)) ?_
                  try simp only [Act.put, nz1, nz2, nz3]
                  refine tkH (v := ?_) 20 ⟨some 138, _, _, _, _, _⟩ rfl (Or.inl ⟨by rfl, ?_⟩) ?_
                  rotate_left
                  · intro w hSw; (try dsimp only at hSw); go_simp; try (with_reducible rfl)
                  try simp only [Act.put, nz1, nz2, nz3]
                  refine tkH (v := ?_) 21 ⟨some 139, _, _, _, _, _⟩ rfl (Or.inl ⟨by rfl, ?_⟩) ?_
                  rotate_left
                  · intro w hSw; (try dsimp only at hSw); go_simp; try (with_reducible rfl)
                  try simp only [Act.put, nz1, nz2, nz3]
                  refine tkH (v := ?_) 22 ⟨some 140, _, _, _, _, _⟩ rfl (Or.inl ⟨by rfl, ?_⟩) ?_
                  rotate_left
                  · intro w hSw; (try dsimp only at hSw); go_simp; try (with_reducible rfl)
                  try simp only [Act.put, nz1, nz2, nz3]
                  refine tkH (v := ?_) 23 ⟨some 141, _, _, _, _, _⟩ rfl (Or.inl ⟨by rfl, ?_⟩) ?_
                  rotate_left
                  · intro w hSw; (try dsimp only at hSw); go_simp; try (with_reducible rfl)
                  try simp only [Act.put, nz1, nz2, nz3]
                  refine tkH (v := (.int .i64 5)) 24 ⟨some 142, _, _, _, _, _⟩ rfl (yields_one (by rfl) 3 _ rfl ⟨Hb, 1, none⟩ rfl _ _ (fun W' hS => hS.1) Try.underlying3 rfl) ?_
                  try simp only [Act.put, nz1, nz2, nz3]
                  refine tkH (v := ?_) 25 ⟨some 143, _, _, _, _, _⟩ rfl (Or.inl ⟨by rfl, ?_⟩) ?_
                  rotate_left
                  · intro w hSw; (try dsimp only at hSw); go_simp; try (with_reducible rfl)
                  try simp only [Act.put, nz1, nz2, nz3]
                  refine tkH (v := (.int .i64 (((mv.atm.tmod 2) + 7 - 5).tmod 2))) 26 ⟨some 144, _, _, _, _, _⟩ rfl (yields_binR (by rfl) .rem 3 _ _ _ rfl (.int .i64 ((mv.atm.tmod 2) + 7 - 5)) (.int .i64 2) rfl rfl _ (fun w => by rfl) (fun w => int_remF _ 2 (by decide) w)) ?_
                  try simp only [Act.put, nz1, nz2, nz3]
                  refine tkH (v := (.int .i64 qw)) 27 ⟨some 145, _, _, _, _, _⟩ rfl (yields_binR (by rfl) .add 3 _ _ _ rfl (.int .i64 5) (.int .i64 (((mv.atm.tmod 2) + 7 - 5).tmod 2)) rfl rfl _ (fun w => by rfl) (fun w => HQE.out ▸ int_addW 5 _ (by have := HWO.out; omega) w)) ?_
                  try simp only [Act.put, nz1, nz2, nz3]
                  refine tkH (v := ?_) 28 ⟨some 11, _, _, _, _, _⟩ rfl (Or.inl ⟨by rfl, ?_⟩) ?_
                  rotate_left
                  · intro w hSw; (try dsimp only at hSw); go_simp; try (with_reducible rfl)
                  try simp only [Act.put, nz1, nz2, nz3]
                  refine wpAnyH_done (by kernel_rfl) ?_ _
                  go_upto_region 24 with fail
                  replace hA := hA.below (Below.refl _ _).drew
                  replace hS9 := hS9.drew
                  refine wp_region_held_drew (S := fun W' => W'.cell? ⟨wr.heap.size, 1, none⟩ = some (.int .i64 (d : Int)) ∧ W'.cell? ⟨wr.heap.size, 4, none⟩ = some (.int .i64 mv.round) ∧ W'.cell? ⟨wr.heap.size, 3, none⟩ = some (.int .i64 mv.num) ∧ (Instr.loadAt 24 (.pointer (some ⟨wr.heap.size, 6, none⟩))).run Try.prog W' = .ok (idv mv.id) W') (by kernel_rfl) ?_ (fun hHeld => ?_)
                  · exact ⟨(mov_i hS9).trans (congrArg (fun z => some (Value.int .i64 z)) HDD.out), mov_round hS9, mov_num hS9, mov_id hS9 HOK.out⟩
                  refine tkH (v := ?_) 0 ⟨some 146, _, _, _, _, _⟩ rfl (Or.inl ⟨by rfl, ?_⟩) ?_
                  rotate_left
                  · intro w hSw; (try dsimp only at hSw); go_simp; try (with_reducible rfl)
                  try simp only [Act.put, nz1, nz2, nz3]
                  refine tkH (v := ?_) 1 ⟨some 147, _, _, _, _, _⟩ rfl (Or.inl ⟨by rfl, ?_⟩) ?_
                  rotate_left
                  · intro w hSw; (try dsimp only at hSw); go_simp; try (with_reducible rfl)
                  try simp only [Act.put, nz1, nz2, nz3]
                  refine tkH (v := (.int .i64 (d : Int))) 2 ⟨some 148, _, _, _, _, _⟩ rfl (yields_one (by rfl) 3 _ rfl ⟨wr.heap.size, 1, none⟩ rfl _ _ (fun W' hS => hS.1) Try.underlying3 rfl) ?_
                  try simp only [Act.put, nz1, nz2, nz3]
                  refine tkH (v := ?_) 3 ⟨some 149, _, _, _, _, _⟩ rfl (Or.inl ⟨by rfl, ?_⟩) ?_
                  rotate_left
                  · intro w hSw; (try dsimp only at hSw); go_simp; try (with_reducible rfl)
                  try simp only [Act.put, nz1, nz2, nz3]
                  refine tkH (v := ?_) 4 ⟨some 150, _, _, _, _, _⟩ rfl (Or.inl ⟨by rfl, ?_⟩) ?_
                  rotate_left
                  · intro w hSw; (try dsimp only at hSw); go_simp; try (with_reducible rfl)
                  try simp only [Act.put, nz1, nz2, nz3]
                  refine tkH (v := (.int .i64 mv.round)) 5 ⟨some 151, _, _, _, _, _⟩ rfl (yields_one (by rfl) 3 _ rfl ⟨wr.heap.size, 4, none⟩ rfl _ _ (fun W' hS => hS.2.1) Try.underlying3 rfl) ?_
                  try simp only [Act.put, nz1, nz2, nz3]
                  refine tkH (v := ?_) 6 ⟨some 152, _, _, _, _, _⟩ rfl (Or.inl ⟨by rfl, ?_⟩) ?_
                  rotate_left
                  · intro w hSw; (try dsimp only at hSw); go_simp; try (with_reducible rfl)
                  try simp only [Act.put, nz1, nz2, nz3]
                  refine tkH (v := (.int .i64 mv.num)) 7 ⟨some 153, _, _, _, _, _⟩ rfl (yields_one (by rfl) 3 _ rfl ⟨wr.heap.size, 3, none⟩ rfl _ _ (fun W' hS => hS.2.2.1) Try.underlying3 rfl) ?_
                  try simp only [Act.put, nz1, nz2, nz3]
                  refine tkH (v := ?_) 8 ⟨some 154, _, _, _, _, _⟩ rfl (Or.inl ⟨by rfl, ?_⟩) ?_
                  rotate_left
                  · intro w hSw; (try dsimp only at hSw); go_simp; try (with_reducible rfl)
                  try simp only [Act.put, nz1, nz2, nz3]
                  refine tkH (v := ?_) 9 ⟨some 155, _, _, _, _, _⟩ rfl (Or.inl ⟨by rfl, ?_⟩) ?_
                  rotate_left
                  · intro w hSw; (try dsimp only at hSw); go_simp; try (with_reducible rfl)
                  try simp only [Act.put, nz1, nz2, nz3]
                  refine tkH (v := (idv mv.id)) 10 ⟨some 156, _, _, _, _, _⟩ rfl (yields_run (by rfl) 24 _ rfl (.pointer (some ⟨wr.heap.size, 6, none⟩)) _ rfl (fun W' hS => hS.2.2.2)) ?_
                  try simp only [Act.put, nz1, nz2, nz3]
                  refine wpAnyH_ready (rs := [11]) (by kernel_rfl) (by simp) ?_
                  refine (AllReadyH.cons (o := ⟨some 157, _, _, _, _, _⟩) rfl (fun K hK => ?_) AllReadyH.nil)
                  (try rw [if_pos (by rfl)])
                  go_simp
                  refine (voted_any (hA.m.hall.at_ d x HX.out) mv.round mv.num qw HOK.out.round HOK.out.num HQW.out.1 mv.id HOK.out.id HN.out).mono ?_
                  rintro e Wv hdn
                  obtain ⟨vv, kv', rfl, hov, hM, hB2, hbk⟩ := hA.m.did hA.base.size HX.out hdn
                  replace hS9 := hbk _ _ _ hS9 (by decide) (by decide)
                  clear hdn hbk
                  try dsimp only
                  refine hK.out _ _ (⟨(mov_i hS9).trans (congrArg (fun z => some (Value.int .i64 z)) HDD.out), mov_round hS9, mov_num hS9, mov_id hS9 HOK.out⟩) (fun hHeld => ?_)
                  clear hK K
                  try simp only [Act.put, nz1, nz2, nz3]
                  refine wpAnyH_ready (rs := [12]) (by kernel_rfl) (by simp) ?_
                  refine (AllReadyH.cons (o := ⟨some 158, _, _, _, _, _⟩) rfl (fun K hK => ?_) AllReadyH.nil)
                  (try rw [if_pos (by rfl)])
                  go_simp
                  refine (take_at hM HHB.out (Nat.le_trans hA.base.size hB2.size) d HD.out (by omega) _ _ _ hov).mono ?_
                  rintro e Wt ⟨⟨vt, rfl⟩, hB3, vm', hM3, hT⟩
                  replace hS9 := hS9.eqAt (hT.block _ hS9.lt (blk_ne hS9 hM.blk (by decide)) (blk_ne hS9 hM.done (by decide)) (fun e => by (obtain ⟨ds, h5, _⟩ := row_at hM.own e.symm; exact blk_ne hS9 h5 (by decide) rfl)))
                  clear hT hov hM
                  try dsimp only
                  refine hK.out _ _ (⟨(mov_i hS9).trans (congrArg (fun z => some (Value.int .i64 z)) HDD.out), mov_round hS9, mov_num hS9, mov_id hS9 HOK.out⟩) (fun hHeld => ?_)
                  clear hK K
                  try simp only [Act.put, nz1, nz2, nz3]
                  refine wpAnyH_done (by kernel_rfl) ?_ _
                  go_wp2_with fail
                  go_roundw
                  case rel => exact ⟨j + 1, stepH 5 h d x kv' vm' (giveS x.s ⟨3, mv.round, mv.num, qw, 0, mv.id⟩) (giveA x.s ⟨3, mv.round, mv.num, qw, 0, mv.id⟩), hlt, by go_num, hA.step HFN.out HX.out ⟨3, mv.round, mv.num, qw, 0, mv.id⟩ (HOK.out.id) ⟨by show (0 : Int) ≤ 3; decide, by show (3 : Int) < 5; decide⟩ (fun _ i _ hq y hy => absurd hq (by have h1 := HQW.out.2; have h2 := (List.getElem?_eq_some_iff.1 hy).1; rw [hA.m.len] at h2; show ¬ qw = (i : Int); omega)) (by rw [giveS_voted, giveA_voted]; exact hM3) (hA.base.trans (hB2.trans hB3))⟩
                  case measure => simp [intOf]; omega
              by_cases q4 : mv.kind = 4
              · rw [q4] at ck
                clear q0 q2 q3 q4
                as_aux_lemma =>
                  go_upto_region 26 with fail
                  replace hA := hA.below (Below.refl _ _).drew
                  replace hS9 := hS9.drew
                  refine wp_region_held_drew (S := fun W' => W'.cell? ⟨wr.heap.size, 4, none⟩ = some (.int .i64 mv.round) ∧ W'.cell? ⟨Hb, 1, none⟩ = some (.int .i64 5)) (by kernel_rfl) ?_ (fun hHeld => ?_)
                  · exact ⟨mov_round hS9, hA.cell (c := 1) (by omega)⟩
                  refine tkH (v := ?_) 0 ⟨some 161, _, _, _, _, _⟩ rfl (Or.inl ⟨by rfl, ?_⟩) ?_
                  rotate_left
                  · intro w hSw; (try dsimp only at hSw); go_simp; try (with_reducible rfl)
                  try simp only [Act.put, nz1, nz2, nz3]
                  refine tkH (v := ?_) 1 ⟨some 162, _, _, _, _, _⟩ rfl (Or.inl ⟨by rfl, ?_⟩) ?_
                  rotate_left
                  · intro w hSw; (try dsimp only at hSw); go_simp; try (with_reducible rfl)
                  try simp only [Act.put, nz1, nz2, nz3]
                  refine tkH (v := (.int .i64 mv.round)) 2 ⟨some 163, _, _, _, _, _⟩ rfl (yields_one (by rfl) 3 _ rfl ⟨wr.heap.size, 4, none⟩ rfl _ _ (fun W' hS => hS.1) Try.underlying3 rfl) ?_
                  try simp only [Act.put, nz1, nz2, nz3]
                  refine tkH (v := ?_) 4 ⟨some 165, _, _, _, _, _⟩ rfl (Or.inl ⟨by rfl, ?_⟩) ?_
                  rotate_left
                  · intro w hSw; (try dsimp only at hSw); go_simp; try (with_reducible rfl)
                  try simp only [Act.put, nz1, nz2, nz3]
                  refine tkH (v := ?_) 5 ⟨some 166, _, _, _, _, _⟩ rfl (Or.inl ⟨by rfl, ?_⟩) ?_
                  rotate_left
                  · intro w hSw; (try dsimp only at hSw); go_simp; try (with_reducible rfl)
                  try simp only [Act.put, nz1, nz2, nz3]
                  refine tkH (v := ?_) 6 ⟨some 167, _, _, _, _, _⟩ rfl (Or.inl ⟨by rfl, ?_⟩) ?_
                  rotate_left
                  · intro w hSw; (try dsimp only at hSw); go_simp; try (with_reducible rfl)
                  try simp only [Act.put, nz1, nz2, nz3]
                  refine tkH (v := (.int .i64 5)) 7 ⟨some 168, _, _, _, _, _⟩ rfl (yields_one (by rfl) 3 _ rfl ⟨Hb, 1, none⟩ rfl _ _ (fun W' hS => hS.2) Try.underlying3 rfl) ?_
                  try simp only [Act.put, nz1, nz2, nz3]
                  refine wpAnyH_ready (rs := [3]) (by kernel_rfl) (by simp) ?_
                  refine (AllReadyH.cons (o := ⟨some 164, _, _, _, _, _⟩) rfl (fun K hK => ?_) AllReadyH.nil)
                  (try rw [if_pos (by rfl)])
                  go_simp
                  refine (prop_some 7 mv.round (by decide) HOK.out.round _).mono ?_
                  rintro e Wp ⟨⟨p, rfl⟩, h9⟩
                  obtain rfl := h9.symm
                  clear h9
                  try dsimp only
                  refine hK.out _ _ (⟨mov_round hS9, hA.cell (c := 1) (by omega)⟩) (fun hHeld => ?_)
                  clear hK K
                  try simp only [Act.put, nz1, nz2, nz3]
                  refine tkH (v := (.bool (decide ((5 : Int) ≤ p)))) 8 ⟨some 169, _, _, _, _, _⟩ rfl (yields_binR (by rfl) .geq 3 _ _ _ rfl (.int .i64 p) (.int .i64 5) rfl rfl _ (fun w => by rfl) (fun w => int_geq _ _ _ rfl w)) ?_
                  try simp only [Act.put, nz1, nz2, nz3]
                  refine wpAnyH_done (by kernel_rfl) ?_ _
                  cases hbp : decide ((5 : Int) ≤ p) with
                  | true =>
                    try rw [hbp]
                    clear hbp
                    go_upto_region 27 with fail
                    replace hA := hA.below (Below.refl _ _).drew
                    replace hS9 := hS9.drew
                    refine wp_region_held_drew (S := fun W' => W'.cell? ⟨wr.heap.size, 1, none⟩ = some (.int .i64 (d : Int)) ∧ W'.cell? ⟨wr.heap.size, 4, none⟩ = some (.int .i64 mv.round) ∧ W'.cell? ⟨wr.heap.size, 5, none⟩ = some (.int .i64 mv.valid) ∧ (Instr.loadAt 24 (.pointer (some ⟨wr.heap.size, 6, none⟩))).run Try.prog W' = .ok (idv mv.id) W') (by kernel_rfl) ?_ (fun hHeld => ?_)
                    · exact ⟨(mov_i hS9).trans (congrArg (fun z => some (Value.int .i64 z)) HDD.out), mov_round hS9, mov_valid hS9, mov_id hS9 HOK.out⟩
                    refine tkH (v := ?_) 0 ⟨some 170, _, _, _, _, _⟩ rfl (Or.inl ⟨by rfl, ?_⟩) ?_
                    rotate_left
                    · intro w hSw; (try dsimp only at hSw); go_simp; try (with_reducible rfl)
                    try simp only [Act.put, nz1, nz2, nz3]
                    refine tkH (v := ?_) 1 ⟨some 171, _, _, _, _, _⟩ rfl (Or.inl ⟨by rfl, ?_⟩) ?_
                    rotate_left
                    · intro w hSw; (try dsimp only at hSw); go_simp; try (with_reducible rfl)
                    try simp only [Act.put, nz1, nz2, nz3]
                    refine tkH (v := (.int .i64 (d : Int))) 2 ⟨some 172, _, _, _, _, _⟩ rfl (yields_one (by rfl) 3 _ rfl ⟨wr.heap.size, 1, none⟩ rfl _ _ (fun W' hS => hS.1) Try.underlying3 rfl) ?_
                    try simp only [Act.put, nz1, nz2, nz3]
                    refine tkH (v := ?_) 3 ⟨some 173, _, _, _, _, _⟩ rfl (Or.inl ⟨by rfl, ?_⟩) ?_
                    rotate_left
                    · intro w hSw; (try dsimp only at hSw); go_simp; try (with_reducible rfl)
                    try simp only [Act.put, nz1, nz2, nz3]
                    refine tkH (v := ?_) 4 ⟨some 174, _, _, _, _, _⟩ rfl (Or.inl ⟨by rfl, ?_⟩) ?_
                    rotate_left
                    · intro w hSw; (try dsimp only at hSw); go_simp; try (with_reducible rfl)
                    try simp only [Act.put, nz1, nz2, nz3]
                    refine tkH (v := (.int .i64 mv.round)) 5 ⟨some 175, _, _, _, _, _⟩ rfl (yields_one (by rfl) 3 _ rfl ⟨wr.heap.size, 4, none⟩ rfl _ _ (fun W' hS => hS.2.1) Try.underlying3 rfl) ?_
                    try simp only [Act.put, nz1, nz2, nz3]
                    refine tkH (v := ?_) 6 ⟨some 176, _, _, _, _, _⟩ rfl (Or.inl ⟨by rfl, ?_⟩) ?_
                    rotate_left
                    · intro w hSw; (try dsimp only at hSw); go_simp; try (with_reducible rfl)
                    try simp only [Act.put, nz1, nz2, nz3]
                    refine tkH (v := (.int .i64 mv.valid)) 7 ⟨some 177, _, _, _, _, _⟩ rfl (yields_one (by rfl) 3 _ rfl ⟨wr.heap.size, 5, none⟩ rfl _ _ (fun W' hS => hS.2.2.1) Try.underlying3 rfl) ?_
                    try simp only [Act.put, nz1, nz2, nz3]
                    refine tkH (v := ?_) 8 ⟨some 178, _, _, _, _, _⟩ rfl (Or.inl ⟨by rfl, ?_⟩) ?_
                    rotate_left
                    · intro w hSw; (try dsimp only at hSw); go_simp; try (with_reducible rfl)
                    try simp only [Act.put, nz1, nz2, nz3]
                    refine tkH (v := (idv mv.id)) 9 ⟨some 179, _, _, _, _, _⟩ rfl (yields_run (by rfl) 24 _ rfl (.pointer (some ⟨wr.heap.size, 6, none⟩)) _ rfl (fun W' hS => hS.2.2.2)) ?_
                    try simp only [Act.put, nz1, nz2, nz3]
                    refine wpAnyH_ready (rs := [10]) (by kernel_rfl) (by simp) ?_
                    refine (AllReadyH.cons (o := ⟨some 180, _, _, _, _, _⟩) rfl (fun K hK => ?_) AllReadyH.nil)
                    (try rw [if_pos (by rfl)])
                    go_simp
                    refine (offered_any (hA.m.hall.at_ d x HX.out) mv.round mv.valid mv.id HOK.out.id HN.out).mono ?_
                    rintro e Wv hdn
                    obtain ⟨vv, kv', rfl, hov, hM, hB2, hbk⟩ := hA.m.did hA.base.size HX.out hdn
                    replace hS9 := hbk _ _ _ hS9 (by decide) (by decide)
                    clear hdn hbk
                    try dsimp only
                    refine hK.out _ _ (⟨(mov_i hS9).trans (congrArg (fun z => some (Value.int .i64 z)) HDD.out), mov_round hS9, mov_valid hS9, mov_id hS9 HOK.out⟩) (fun hHeld => ?_)
                    clear hK K
                    try simp only [Act.put, nz1, nz2, nz3]
                    refine wpAnyH_ready (rs := [11]) (by kernel_rfl) (by simp) ?_
                    refine (AllReadyH.cons (o := ⟨some 181, _, _, _, _, _⟩) rfl (fun K hK => ?_) AllReadyH.nil)
                    (try rw [if_pos (by rfl)])
                    go_simp
                    refine (take_at hM HHB.out (Nat.le_trans hA.base.size hB2.size) d HD.out (by omega) _ _ _ hov).mono ?_
                    rintro e Wt ⟨⟨vt, rfl⟩, hB3, vm', hM3, hT⟩
                    replace hS9 := hS9.eqAt (hT.block _ hS9.lt (blk_ne hS9 hM.blk (by decide)) (blk_ne hS9 hM.done (by decide)) (fun e => by (obtain ⟨ds, h5, _⟩ := row_at hM.own e.symm; exact blk_ne hS9 h5 (by decide) rfl)))
                    clear hT hov hM
                    try dsimp only
                    refine hK.out _ _ (⟨(mov_i hS9).trans (congrArg (fun z => some (Value.int .i64 z)) HDD.out), mov_round hS9, mov_valid hS9, mov_id hS9 HOK.out⟩) (fun hHeld => ?_)
                    clear hK K
                    try simp only [Act.put, nz1, nz2, nz3]
                    refine wpAnyH_done (by kernel_rfl) ?_ _
                    go_wp2_with fail
                    go_roundw
                    case rel => exact ⟨j + 1, stepH 5 h d x kv' vm' (giveS x.s ⟨2, mv.round, 0, 0, mv.valid, mv.id⟩) (giveA x.s ⟨2, mv.round, 0, 0, mv.valid, mv.id⟩), hlt, by go_num, hA.step HFN.out HX.out ⟨2, mv.round, 0, 0, mv.valid, mv.id⟩ (HOK.out.id) ⟨by show (0 : Int) ≤ 2; decide, by show (2 : Int) < 5; decide⟩ (fun e => absurd e (by show ¬ (2 : Int) = 3; decide)) (by rw [giveS_offered, giveA_offered]; exact hM3) (hA.base.trans (hB2.trans hB3))⟩
                    case measure => simp [intOf]; omega
                  | false =>
                    try rw [hbp]
                    clear hbp
                    go_wp2_with fail
                    go_roundw
                    case rel => exact ⟨j + 1, h, hlt, by go_num, hA.more⟩
                    case measure => simp [intOf]; omega
              · have k0b : (mv.kind == 0) = false := by rw [beq_eq_false_iff_ne]; omega
                have k2b : (mv.kind == 2) = false := by rw [beq_eq_false_iff_ne]; omega
                have k3b : (mv.kind == 3) = false := by rw [beq_eq_false_iff_ne]; omega
                have k4b : (mv.kind == 4) = false := by rw [beq_eq_false_iff_ne]; omega
                go_wp2_with fail
                go_roundw
                case rel => exact ⟨j + 1, h, hlt, by go_num, hA.more⟩
                case measure => simp [intOf]; omega
    · obtain rfl : j = mm := by omega
      as_aux_lemma =>
        have hki9 : ¬ (j : Int) < (j : Int) := by omega
        have HAF := Lib.hid hA
        clear hA
        go_upto_region 30 with (first
        | (guard_target = wpList _ _ _ (Oper.mk _ (.build 24 _) _ _ _ _ :: _) _ _; refine wpList_yields (S := fun _ => True) trivial (v := idv zeroId) (yields_build (by rfl) 24 _ rfl [] rfl _ zero_built') (by rfl) ?_)
        | (guard_target = wpList _ _ _ (Oper.mk _ (.store 24 _ _) _ _ _ _ :: _) _ _; refine wpList_store_idv rfl _ _ rfl wr.heap.size zeroId rfl rfl zeroId_ok 24 _ (Blk.newAt _ _ rfl rfl) rfl ?_; intro W4 hS4 hz4 hb4 hk4; have HB4 := Lib.hid (((Below.refl _ wr).alloc (Nat.le_refl _) _).trans hb4); clear hz4 hb4 hk4))
        have hAq := HAF.out.below HB4.out
        have cd : W4.cell? ⟨Hb, 3, none⟩ = some (.slice (some ⟨h.Db, 0, none⟩) 5 5) := hAq.cell (c := 3) (by omega)
        have HDN : Hid (Blk W4 h.Db 24 (arr (32 * 5) (dsF h.ds))) := Lib.hid hAq.m.done
        have HFD : Hid (wr.heap.size ≠ h.Db) := Lib.hid (by have := HAF.out.m.done.lt; omega)
        have HBF : Hid (Below w.heap.size w W4) := Lib.hid hAq.base
        have HDL : Hid (h.ds.length = 5 ∧ (∀ x ∈ h.ds, IdOk x) ∧ w.heap.size ≤ wr.heap.size) := Lib.hid ⟨hAq.m.dlen, hAq.m.dok, HAF.out.base.size⟩
        have HSM : Hid (∀ (p q : Nat) (x y : List UInt8), h.ds[p]? = some x → h.ds[q]? = some y → x ≠ zeroId → y ≠ zeroId → x = y) := Lib.hid fun p q x y hp hq hx hy => HAF.out.ag.same HFN.out (by decide) hp hq hx hy
        have HS4 := Lib.hid hS4
        clear hAq hS4
        go_upto_region 31 with fail
        clear cd
        obtain ⟨Fb, hFb⟩ : ∃ z, z = wr.heap.size := ⟨_, rfl⟩
        rw [← hFb] at HFD HS4 HDL
        rw [← hFb]
        clear hFb
        obtain ⟨wp, hwp⟩ : ∃ z, z = wr := ⟨_, rfl⟩
        subst hwp
        go_loopw [189] (fun s189 wr => ∃ (k : Nat) (fst : List UInt8), k ≤ 5 ∧ s189 = .int .i64 (k : Int) ∧ Blk wr Fb 24 (idC fst) ∧ Blk wr h.Db 24 (arr (32 * 5) (dsF h.ds)) ∧ Below w.heap.size w wr ∧ IdOk fst ∧ (fst = zeroId ∨ ∃ q : Nat, h.ds[q]? = some fst)) (fun s189 _ => 5 - (intOf s189).toNat)
        case atStart => exact ⟨0, zeroId, by omega, rfl, HS4.out, HDN.out, HBF.out, zeroId_ok, .inl rfl⟩
        case round =>
          obtain ⟨k, fst, hk, rfl, hF, hDn, hB, hfo, hfq⟩ := hrel
          have HFO := Lib.hid hfo
          have HFQ := Lib.hid hfq
          clear hfo hfq
          by_cases hkH : k < 5
          · have hki : (k : Int) < 5 := by omega
            have hk0 : (0 : Int) ≤ (k : Int) := by omega
            obtain ⟨y, hy⟩ : ∃ y, h.ds[k]? = some y := ⟨_, List.getElem?_eq_getElem (by rw [HDL.out.1]; exact hkH)⟩
            have HY := Lib.hid hy
            have HYO := Lib.hid (HDL.out.2.1 y (List.mem_of_getElem? hy))
            have HLY : Hid (∀ W', Blk W' h.Db 24 (arr (32 * 5) (dsF h.ds)) → (Instr.loadAt 24 (.pointer (some ⟨h.Db, k * 32, none⟩))).run Try.prog W' = .ok (idv y) W') := Lib.hid fun W' hd => by
              exact run_load_id W' _ _ (HDL.out.2.1 y (List.mem_of_getElem? hy)) fun c hc => by
                rw [show (⟨h.Db, k * 32, none⟩ : Addr).add c = ⟨h.Db, k * 32 + c, none⟩ by unfold Addr.add; split <;> simp_all, hd.cell, arr_get, if_pos (by omega)]
                have h9 := idsC_get HDL.out.2.1 hy hc
                unfold dsF
                rw [List.getD_eq_getElem?_getD, show k * 32 + c = 32 * k + c by omega, h9]
                have hyo : IdOk y := HDL.out.2.1 y (List.mem_of_getElem? hy)
                unfold IdOk at hyo
                unfold idL
                rw [List.getElem?_map, List.getElem?_eq_getElem (by omega), List.getD_eq_getElem?_getD, List.getElem?_eq_getElem (by omega)]
                rfl
            clear hy
            go_upto_region 33 with (first
        | (guard_target = wpList _ _ _ (Oper.mk _ (.load 24 _) _ _ _ _ :: _) _ _; refine wpList_load_runS (by rfl) 24 _ rfl _ _ rfl (by first | exact HLY.out _ hDn | (rw [show (⟨h.Db, 0, none⟩ : Addr).add (k * 32) = ⟨h.Db, k * 32, none⟩ by unfold Addr.add; split <;> simp_all]; exact HLY.out _ hDn)) ?_)
        | (guard_target = wpList _ _ _ (Oper.mk _ (.store 24 _ _) _ _ _ _ :: _) _ _; refine wpList_store_idv rfl _ _ rfl wr.heap.size y rfl rfl HYO.out 24 _ (Blk.newAt _ _ rfl rfl) rfl ?_; intro W5 hS5 hz5 hb5 hk5; have hbn := (((Below.refl _ wr).alloc (Nat.le_refl _) _).trans hb5); clear hz5 hb5 hk5))
            replace hF := hF.below hbn hF.lt
            replace hDn := hDn.below hbn hDn.lt
            have hB5 := hB.trans (hbn.mono hB.size)
            clear hB hbn
            have HF5 := Lib.hid hF
            have HD5 := Lib.hid hDn
            have HB5 := Lib.hid hB5
            clear hDn hB5
            have heq := fun W => eql_idv HYO.out zeroId_ok W
            have hgu := fun W a b => guard_idv a b y zeroId W
            cases hyz : y == zeroId with
            | true =>
              go_upto_region 34 with (first
        | (guard_target = wpList _ _ _ (Oper.mk _ (.load 24 (.tmp 14)) _ _ _ _ :: _) _ _; refine wpList_load_runS (by rfl) 24 _ rfl _ _ rfl (run_loadVar_idv HYO.out hS5) ?_)
        | (guard_target = wpList _ _ _ (Oper.mk _ (.build 24 _) _ _ _ _ :: _) _ _; refine wpList_yields (S := fun _ => True) trivial (v := idv zeroId) (yields_build (by rfl) 24 _ rfl [] rfl _ zero_built') (by rfl) ?_))
              clear heq hgu hyz
              go_wp2_with fail
              go_roundw
              case rel => exact ⟨k + 1, fst, by omega, by go_num, HF5.out, HD5.out, HB5.out, HFO.out, HFQ.out⟩
              case measure => simp [intOf]; omega
            | false =>
              have HYZ : Hid (y ≠ zeroId) := Lib.hid (by simpa using hyz)
              go_upto_region 34 with (first
        | (guard_target = wpList _ _ _ (Oper.mk _ (.load 24 (.tmp 14)) _ _ _ _ :: _) _ _; refine wpList_load_runS (by rfl) 24 _ rfl _ _ rfl (run_loadVar_idv HYO.out hS5) ?_)
        | (guard_target = wpList _ _ _ (Oper.mk _ (.build 24 _) _ _ _ _ :: _) _ _; refine wpList_yields (S := fun _ => True) trivial (v := idv zeroId) (yields_build (by rfl) 24 _ rfl [] rfl _ zero_built') (by rfl) ?_))
              clear heq hgu hyz
              have heq := fun W => neq_idv HFO.out zeroId_ok W
              have hgu := fun W a b => guardn_idv a b fst zeroId W
              cases hfz : fst == zeroId with
              | true =>
                go_upto_region 36 with (first
        | (guard_target = wpList _ _ _ (Oper.mk _ (.load 24 (.tmp 12)) _ _ _ _ :: _) _ _; refine wpList_load_runS (by rfl) 24 _ rfl _ _ rfl (run_loadVar_idv HFO.out hF) ?_)
        | (guard_target = wpList _ _ _ (Oper.mk _ (.build 24 _) _ _ _ _ :: _) _ _; refine wpList_yields (S := fun _ => True) trivial (v := idv zeroId) (yields_build (by rfl) 24 _ rfl [] rfl _ zero_built') (by rfl) ?_))
                clear heq hgu hfz
                go_wp2_with (first
        | (guard_target = wpList _ _ _ (Oper.mk _ (.load 24 (.tmp 14)) _ _ _ _ :: _) _ _; refine wpList_load_runS (by rfl) 24 _ rfl _ _ rfl (run_loadVar_idv HYO.out hS5) ?_)
        | (guard_target = wpList _ _ _ (Oper.mk _ (.store 24 _ _) _ _ _ _ :: _) _ _; refine wpList_store_idv rfl _ _ rfl Fb y rfl rfl HYO.out 24 _ hF (idC_size HFO.out) ?_; intro W6 hS6 hz6 hb6 hk6))
                have hbz : Below w.heap.size w W6 := HB5.out.trans (hb6.mono (by have := HDL.out.2.2; omega))
                have hdz := HD5.out.eqAt (hk6 h.Db (fun e => HFD.out e.symm))
                go_roundw
                case rel => exact ⟨k + 1, y, by omega, by go_num, hS6, hdz, hbz, HYO.out, .inr ⟨k, HY.out⟩⟩
                case measure => simp [intOf]; omega
              | false =>
                have HFZ : Hid (fst ≠ zeroId) := Lib.hid (by simpa using hfz)
                have hsame : y = fst := by
                  rcases HFQ.out with e | ⟨q, hq⟩
                  · exact absurd e HFZ.out
                  · exact HSM.out k q y fst HY.out hq HYZ.out HFZ.out
                have heq2 := fun W => neq_idv HYO.out HFO.out W
                have hgu2 := fun W a b => guardn_idv a b y fst W
                have hyf : (y == fst) = true := by rw [hsame]; exact beq_self_eq_true _
                have HSA := Lib.hid hsame
                clear hsame
                go_upto_region 36 with (first
        | (guard_target = wpList _ _ _ (Oper.mk _ (.load 24 (.tmp 12)) _ _ _ _ :: _) _ _; refine wpList_load_runS (by rfl) 24 _ rfl _ _ rfl (run_loadVar_idv HFO.out hF) ?_)
        | (guard_target = wpList _ _ _ (Oper.mk _ (.load 24 (.tmp 14)) _ _ _ _ :: _) _ _; refine wpList_load_runS (by rfl) 24 _ rfl _ _ rfl (run_loadVar_idv HYO.out hS5) ?_)
        | (guard_target = wpList _ _ _ (Oper.mk _ (.build 24 _) _ _ _ _ :: _) _ _; refine wpList_yields (S := fun _ => True) trivial (v := idv zeroId) (yields_build (by rfl) 24 _ rfl [] rfl _ zero_built') (by rfl) ?_))
                clear heq hgu hfz heq2 hgu2 hyf
                go_wp2_with (first
        | (guard_target = wpList _ _ _ (Oper.mk _ (.load 24 (.tmp 14)) _ _ _ _ :: _) _ _; refine wpList_load_runS (by rfl) 24 _ rfl _ _ rfl (run_loadVar_idv HYO.out hS5) ?_)
        | (guard_target = wpList _ _ _ (Oper.mk _ (.store 24 _ _) _ _ _ _ :: _) _ _; refine wpList_store_idv rfl _ _ rfl Fb y rfl rfl HYO.out 24 _ hF (idC_size HFO.out) ?_; intro W6 hS6 hz6 hb6 hk6))
                have hbz : Below w.heap.size w W6 := HB5.out.trans (hb6.mono (by have := HDL.out.2.2; omega))
                have hdz := HD5.out.eqAt (hk6 h.Db (fun e => HFD.out e.symm))
                go_roundw
                case rel => exact ⟨k + 1, y, by omega, by go_num, hS6, hdz, hbz, HYO.out, .inr ⟨k, HY.out⟩⟩
                case measure => simp [intOf]; omega
          · obtain rfl : k = 5 := by omega
            have hki : ¬ ((5 : Nat) : Int) < 5 := by omega
            go_wp2_with fail
            go_ret
            exact ⟨rfl, hB⟩
end Go.Proofs.Ytclhfokflagopaa
