/-
  CountOrder: walked. No condition.
-/
import Derived.Test.YtpjeildiahklpaaCntOrderM
import Derived.Deep.RegionHeld3
namespace Go.Proofs.Ytpjeildiahklpaa
open Go Go.RowKit Go.Maps

set_option maxRecDepth 100000 in
set_option maxHeartbeats 8000000 in
theorem countorder_long (n tu : Int) (A : Option Addr) (m c : Nat) (hm : 60 < m) (hm2 : m ≤ 2513169434916) (w : World) : Calls Try.prog 5 #[.int .i64 n, .slice A m c, .int .i64 tu] w fun e w' => e = .returned (.bool true) ∧ Below w.heap.size w w' := by
  have hmi : (60 : Int) < (m : Int) := by omega
  have HR := Lib.hid fun W => reffaults_any n W
  by_cases hn : faults n < 0
  all_goals
    generalize faults n = f at HR hn
    go_enter Try.func5, Try.ntmps5
    go_wp2_with (first
      | (go_at_call 15; refine (counts_any _).mono ?_; rintro e W1 ⟨rfl, hb1⟩; have HB1 := Lib.hid hb1; clear hb1)
      | (go_at_call 17; refine (HR.out _).mono ?_; rintro e W0 ⟨rfl, h3⟩; obtain rfl := h3.symm))
    go_ret
    exact ⟨rfl, HB1.out⟩
set_option maxRecDepth 100000 in
set_option maxHeartbeats 8000000 in
theorem countorder_low (n tu : Int) (hn : faults n < 0) (A : Option Addr) (m c : Nat) (w : World) : Calls Try.prog 5 #[.int .i64 n, .slice A m c, .int .i64 tu] w fun e w' => e = .returned (.bool true) ∧ Below w.heap.size w w' := by
  have HR := Lib.hid fun W => reffaults_any n W
  generalize faults n = f at HR hn
  go_enter Try.func5, Try.ntmps5
  go_wp2_with (first
    | (go_at_call 15; refine (counts_any _).mono ?_; rintro e W1 ⟨rfl, hb1⟩; have HB1 := Lib.hid hb1; clear hb1)
    | (go_at_call 17; refine (HR.out _).mono ?_; rintro e W0 ⟨rfl, h3⟩; obtain rfl := h3.symm))
  go_ret
  exact ⟨rfl, HB1.out⟩
set_option maxRecDepth 100000 in
set_option maxHeartbeats 8000000 in
theorem countorder_high (N : Nat) (hN : 0 ≤ faults (N : Int)) (h7 : N ≤ 7) (tu : Int) (A : Option Addr) (m c : Nat) (l : List VoteT) (hm : m ≤ 60) (w : World) (hr : RdW w w.heap.size (.slice A m c) l) (hl : l.length = m) : Calls Try.prog 5 #[.int .i64 N, .slice A m c, .int .i64 tu] w fun e w' => e = .returned (.bool true) ∧ Below w.heap.size w w' := by
  have hmi : ¬ (60 : Int) < (m : Int) := by omega
  have HN := Lib.hid fun W => new_some (N : Int) W hN
  have HR := Lib.hid fun W => reffaults_any (N : Int) W
  have HN0 := Lib.hid hN
  have H7 := Lib.hid h7
  obtain ⟨f, hf⟩ : ∃ f, faults (N : Int) = f := ⟨_, rfl⟩
  rw [hf] at HR hN
  have HRW := Lib.hid hr
  have HL := Lib.hid hl
  have hfn : ¬ f < 0 := by omega
  have hmm := @run_makeMap Try.prog
  clear hf hr hl
  go_enter Try.func5, Try.ntmps5
  go_upto_region 6 with (first
    | (go_at_call 15; refine (counts_any _).mono ?_; rintro e W1 ⟨rfl, hb1⟩; have HB1 := Lib.hid hb1; clear hb1)
    | (go_at_call 17; refine (HR.out _).mono ?_; rintro e W0 ⟨rfl, h3⟩; obtain rfl := h3.symm)
    | (go_at_call 16; refine (HN.out _).mono ?_; rintro e W2 ⟨rfl, hc2, hb2⟩; have HC2 := Lib.hid hc2; have HB2 := Lib.hid hb2; clear hc2 hb2))
  go_upto_region 9 with (first
    | (go_at_call 16; refine (HN.out _).mono ?_; rintro e W3 ⟨rfl, hc3, hb3⟩; have HC3 := Lib.hid hc3; have HB3 := Lib.hid hb3; clear hc3 hb3))
  have HCA := Lib.hid (HC2.out.below HB3.out)
  have HORD : Hid (W1.heap.size + 1 < W2.heap.size ∧ W2.heap.size + 1 < W3.heap.size) := Lib.hid ⟨HC2.out.ltB, HC3.out.ltB⟩
  have HB13 := Lib.hid (HB2.out.trans (HB3.out.mono HB2.out.size))
  go_upto_region 12 with fail
  obtain ⟨S, hS⟩ : ∃ S, W3.heap.size = S := ⟨_, rfl⟩
  rw [hS] at HORD ⊢
  have hP : SeenR W3 S (fun _ => none) [] 0 (.slice none 0 0) (W3.alloc (.map #[] 0)) := by
    have := mapV_made Try.prog 53 W3
    rw [hS] at this
    exact ⟨this, fun _ _ h => (by cases h), fun _ h => (by simp at h), ⟨rfl, .inl ⟨rfl, rfl⟩⟩, List.Pairwise.nil, fun _ h => (by simp at h), Nat.le_refl _, (Below.refl _ _).alloc (Nat.le_refl _) _, hS, by simp [hS]⟩
  have HP := Lib.hid hP
  clear hP
  go_loopw [12, 55] (fun s12 s55 wr => ∃ (j : Nat) (T : Value → Option Value) (L : List VoteT), j ≤ m ∧ s55 = .int .i64 (j : Int) ∧ SeenR W3 S T L j s12 wr) (fun _ s55 _ => m - (intOf s55).toNat)
  case atStart => exact ⟨0, _, [], Nat.zero_le _, rfl, HP.out⟩
  case round =>
    obtain ⟨j, T, L, hj, rfl, hp⟩ := hrel
    have HPJ := Lib.hid hp
    clear hp
    by_cases hlt : j < m
    · have hkn : (j : Int) < (m : Int) := by omega
      have hk0 : (0 : Int) ≤ (j : Int) := by omega
      obtain ⟨y, hy⟩ : ∃ y, l[j]? = some y := ⟨_, List.getElem?_eq_getElem (by rw [HL.out]; exact hlt)⟩
      obtain ⟨ad, c', he, hok, _, hld⟩ := HRW.out.here hy
      rw [HL.out] at he
      obtain ⟨rfl, -, rfl⟩ := Value.slice.inj he
      have HOK := Lib.hid hok
      have HLD := Lib.hid hld
      have HBW := Lib.hid ((HB1.out.trans (HB13.out.mono HB1.out.size)).trans (HPJ.out.below.mono (HB1.out.trans (HB13.out.mono HB1.out.size)).size))
      clear hy he hok hld
      go_upto_region 14 with (first
        | (guard_target = wpList _ _ _ (Oper.mk _ (.load 26 _) _ _ _ _ :: _) _ _; refine wpList_load_vote (by rfl) _ rfl (ad.add (j * 35)) y rfl (HLD.out _ HBW.out) ?_)
        | (guard_target = wpList _ _ _ (Oper.mk _ (.store 26 _ _) _ _ _ _ :: _) _ _; refine wpList_store_vote rfl _ _ rfl wr.heap.size y rfl rfl HOK.out 26 _ (Blk.newAt _ _ rfl rfl) rfl ?_; intro W9 hS9 hz9 hb9 hk9; have HS9 := Lib.hid hS9; have HB9 := Lib.hid (((Below.refl _ wr).alloc (Nat.le_refl _) _).trans hb9); clear hS9 hz9 hb9 hk9))
      have HP9 := Lib.hid (HPJ.out.kept HB9.out)
      obtain ⟨c0, c1, c2, c3⟩ := vote_cells HS9.out HOK.out
      have HKEY := Lib.hid (key3_some HOK.out.r HOK.out.k HOK.out.s)
      clear c3
      go_upto_region 15 with fail
      obtain ⟨g15, hg15⟩ : ∃ g, W9.heap.size = g := ⟨_, rfl⟩
      obtain ⟨W10, hW10⟩ : ∃ z, W9.alloc (.cells #[.int .i64 y.r, .int .i64 y.k, .int .i64 y.s] 53) = z := ⟨_, rfl⟩
      have hbn : Below W9.heap.size W9 W10 := by rw [← hW10]; exact (Below.refl _ _).alloc (Nat.le_refl _) _
      have HK15 : Hid (Blk W10 g15 53 #[.int .i64 y.r, .int .i64 y.k, .int .i64 y.s]) := Lib.hid (by rw [← hW10, ← hg15]; exact Blk.new _ _ _)
      have HP10 := Lib.hid (HP9.out.kept hbn)
      have HS10 := Lib.hid (HS9.out.below hbn HS9.out.lt)
      have HG15 : Hid (S < wr.heap.size ∧ wr.heap.size < g15) := Lib.hid ⟨HPJ.out.size.2, by rw [← hg15]; exact HS9.out.lt⟩
      simp only [hg15, hW10]
      have HG9 := Lib.hid hg15
      clear hW10 hg15 hbn c0 c1 c2
      have hzb : ∀ W, (zeroValue 4).run Try.prog W = .ok (.bool false) W := fun W => by kernel_rfl
      cases hTk : T (keyV y.r y.k y.s) with
      | some x =>
        have hx := HPJ.out.val _ _ hTk
        subst hx
        have HTG : Hid ((T (keyV y.r y.k y.s)).getD (.bool false) = .bool true) := Lib.hid (by rw [hTk]; rfl)
        go_upto_region 18 with (first
          | (guard_target = wpList _ _ _ (Oper.mk _ (.load 53 _) _ _ _ _ :: _) _ _; refine wpList_load_runS (by rfl) 53 _ rfl (.pointer (some ⟨g15, 0, none⟩)) (keyV y.r y.k y.s) rfl (load_key3 HK15.out) ?_)
          | (guard_target = wpList _ _ _ (Oper.mk _ (.lookup _ _ _ false) _ _ _ _ :: _) _ _; refine wpList_lookup_V rfl _ _ _ rfl 53 4 three_law Try.underlying52 (hzb _) S j T rfl HP10.out.map (keyV y.r y.k y.s) rfl HKEY.out ?_; rw [HTG.out])
          | (guard_target = wpList _ _ _ (Oper.mk _ (.mapUpdate _ _ _ _) _ _ _ _ :: _) _ _; refine wpList_store_V rfl _ _ _ _ rfl 53 4 three_law Try.underlying52 S j T rfl HP10.out.map (by unfold maxLen; omega) (keyV y.r y.k y.s) (.bool true) rfl rfl HKEY.out ?_; intro W6 hm6 ht6; have HP6 := Lib.hid (HP10.out.again hm6 ht6); clear hm6 ht6))
        go_wp2_with fail
        go_roundw
        case rel => exact ⟨j + 1, _, L, by omega, by go_num, HP6.out⟩
        case measure => simp [intOf]; omega
      | none =>
        have HTG : Hid ((T (keyV y.r y.k y.s)).getD (.bool false) = .bool false) := Lib.hid (by rw [hTk]; rfl)
        have HTN := Lib.hid hTk
        clear hTk
        have HLD9 := Lib.hid (run_loadVar_row W10 wr.heap.size 26 26 (voteA y) (0, 0) _ HS10.out Try.underlying26 rfl (by rw [voteA_size HOK.out]; exact vote_info))
        have hb6 : Below W10.heap.size W10 (W10.alloc (.cells (voteA y) 26)) := (Below.refl _ _).alloc (Nat.le_refl _) _
        have hs6 : (W10.alloc (.cells (voteA y) 26)).heap.size = W10.heap.size + 1 := by simp
        have HP11 := Lib.hid (HP10.out.kept hb6)
        obtain ⟨v2, W12, hrun2, hown2, hgr2, _⟩ := app_votes (B := S + 1) (by have := HP11.out.size; omega) HP11.out.own (rdW_new W10 y HOK.out) (by have := HP11.out.len; omega)
        obtain ⟨hm12, hfin⟩ := HP11.out.more HOK.out HTN.out hown2 hgr2
        have HR2 := Lib.hid hrun2
        have HM12 := Lib.hid hm12
        have HFIN := Lib.hid hfin
        have HK12 : Hid (Blk W12 g15 53 #[.int .i64 y.r, .int .i64 y.k, .int .i64 y.s]) := Lib.hid ((hgr2.block _ (by have := HK15.out.lt; omega) (fun e => by have := (HP9.out.own.lt g15 e.symm); have := HG9.out; omega)).trans (HK15.out.below hb6 HK15.out.lt))
        clear hb6 hs6 hrun2 hown2 hgr2 hm12 hfin
        go_upto_region 18 with (first
          | (guard_target = wpList _ _ _ (Oper.mk _ (.load 53 _) _ _ _ _ :: _) _ _; refine wpList_load_runS (by rfl) 53 _ rfl (.pointer (some ⟨g15, 0, none⟩)) (keyV y.r y.k y.s) rfl (load_key3 (by first | exact HK15.out | exact HK12.out)) ?_)
          | (guard_target = wpList _ _ _ (Oper.mk _ (.lookup _ _ _ false) _ _ _ _ :: _) _ _; refine wpList_lookup_V rfl _ _ _ rfl 53 4 three_law Try.underlying52 (hzb _) S j T rfl HP10.out.map (keyV y.r y.k y.s) rfl HKEY.out ?_; rw [HTG.out])
          | (guard_target = wpList _ _ _ (Oper.mk _ (.load 26 _) _ _ _ _ :: _) _ _; refine wpList_load_vote (by rfl) _ rfl ⟨wr.heap.size, 0, none⟩ y rfl HLD9.out ?_)
          | (guard_target = wpList _ _ _ (Oper.mk _ (.buildSlice _ 1 _) _ _ _ _ :: _) _ _; refine wpList_build_voteL rfl _ rfl y HOK.out rfl ?_)
          | (at_builtin; refine wpList_append_run rfl (.tmp 70) (.tmp 72) _ _ rfl _ _ rfl rfl _ _ HR2.out ?_)
          | (guard_target = wpList _ _ _ (Oper.mk _ (.mapUpdate _ _ _ _) _ _ _ _ :: _) _ _; refine wpList_store_V rfl _ _ _ _ rfl 53 4 three_law Try.underlying52 S j T rfl HM12.out (by unfold maxLen; omega) (keyV y.r y.k y.s) (.bool true) rfl rfl HKEY.out ?_; intro W6 hm6 ht6; have HP6 := Lib.hid (HFIN.out _ hm6 ht6); clear hm6 ht6))
        go_wp2_with fail
        go_roundw
        case rel => exact ⟨j + 1, _, L ++ [y], by omega, by go_num, HP6.out⟩
        case measure => simp [intOf]; omega
    · obtain rfl : j = m := by omega
      have hkn : ¬ (j : Int) < (j : Int) := by omega
      obtain ⟨k, hk⟩ : ∃ k, L.length = k := ⟨_, rfl⟩
      have HLK := Lib.hid hk
      have hkj : k ≤ j := by rw [← hk]; exact HPJ.out.len
      have hro := rdW_own HPJ.out.own HPJ.out.ok rfl (by rw [hk]; omega)
      have HAP := Lib.hid HPJ.out.apart
      obtain ⟨Ao, co, hv⟩ : ∃ Ao co, u12 = .slice Ao k co := by
        obtain ⟨_, Ao, co, h, _⟩ := hro
        exact ⟨Ao, co, by rw [← hk]; exact h⟩
      subst hv
      have HK60 : Hid (k ≤ 60) := Lib.hid (by omega)
      have HO0 : Hid (OrdP W1 (W1.heap.size + 1) W1.heap.size (W2.heap.size + 1) W2.heap.size N noVotes noVotes 0 0 (.slice Ao k co) L wr) := Lib.hid ⟨HCA.out.below (hS ▸ HPJ.out.below), HC3.out.below (hS ▸ HPJ.out.below), hro, HB13.out.trans (HPJ.out.below.mono HB13.out.size), by have := HORD.out; omega⟩
      clear hk hro hkj HPJ HP HRW HL
      go_upto_region 20 with fail
      go_loopw [79] (fun s wr => ∃ j : Nat, j ≤ k ∧ s = .int .i64 (j : Int) ∧ OrdP W1 (W1.heap.size + 1) W1.heap.size (W2.heap.size + 1) W2.heap.size N (foldV (N : Int) (L.take j) noVotes) noVotes j 0 (.slice Ao k co) L wr) (fun s _ => k - (intOf s).toNat)
      case atStart => exact ⟨0, Nat.zero_le _, rfl, HO0.out⟩
      case round =>
        obtain ⟨j, hj, rfl, hp⟩ := hrel
        have HPJ := Lib.hid hp
        clear hp
        by_cases hlt : j < k
        · have HLT := Lib.hid hlt
          have hk6 : k ≤ 60 := HK60.out
          have hkn : (j : Int) < (k : Int) := by omega
          have hk0 : (0 : Int) ≤ (j : Int) := by omega
          obtain ⟨y, hy⟩ : ∃ y, L[j]? = some y := ⟨_, List.getElem?_eq_getElem (by rw [HLK.out]; exact hlt)⟩
          obtain ⟨ad, c', he, hok, _, hld⟩ := HPJ.out.row.here hy
          rw [HLK.out] at he
          obtain ⟨rfl, -, rfl⟩ := Value.slice.inj he
          have HOK := Lib.hid hok
          have HLD := Lib.hid hld
          have HFT := Lib.hid (foldV_take (n := (N : Int)) hy noVotes)
          clear hy he hok hld
          go_upto_region 22 with (first
            | (guard_target = wpList _ _ _ (Oper.mk _ (.load 26 _) _ _ _ _ :: _) _ _; refine wpList_load_vote (by rfl) _ rfl (ad.add (j * 35)) y rfl (HLD.out _ (Below.refl _ _)) ?_)
            | (guard_target = wpList _ _ _ (Oper.mk _ (.store 26 _ _) _ _ _ _ :: _) _ _; refine wpList_store_vote rfl _ _ rfl wr.heap.size y rfl rfl HOK.out 26 _ (Blk.newAt _ _ rfl rfl) rfl ?_; intro W9 hS9 hz9 hb9 hk9; have HS9 := Lib.hid hS9; have HB9 := Lib.hid (((Below.refl _ wr).alloc (Nat.le_refl _) _).trans hb9); clear hS9 hz9 hb9 hk9))
          have HP9 := Lib.hid (HPJ.out.kept HB9.out)
          obtain ⟨c0, c1, c2, c3⟩ := vote_cells HS9.out HOK.out
          have HC3 := Lib.hid c3
          have HPU := Lib.hid (put_any HP9.out.ca y.r y.k y.s y.id HOK.out.id HOK.out.r HOK.out.k HOK.out.s (by unfold maxLen; have := HK60.out; omega))
          rw [← HFT.out] at HPU
          generalize putCode (N : Int) (foldV (N : Int) (L.take j) noVotes) y.r y.k y.s y.id = pc at HPU
          clear c3
          go_wp2_with (first
            | (guard_target = wpList _ _ _ (Oper.mk _ (.load 24 _) _ _ _ _ :: _) _ _; refine wpList_load_runS (by rfl) 24 _ rfl _ _ rfl HC3.out ?_)
            | (go_at_call 21; refine HPU.out.mono ?_; rintro e W11 ⟨rfl, hc11, hg11⟩; have HC11 := Lib.hid hc11; have HG11 := Lib.hid hg11; clear hc11 hg11))
          go_roundw
          case rel => exact ⟨j + 1, HLT.out, by go_num, HP9.out.put HC11.out HG11.out⟩
          case measure =>
            simp [intOf]
            omega
        · obtain rfl : j = k := by omega
          have hkn : ¬ (j : Int) < (j : Int) := by omega
          obtain ⟨wz, hwz⟩ : ∃ z, z = wr := ⟨_, rfl⟩
          subst hwz
          have HPV : Hid (OrdP W1 (W1.heap.size + 1) W1.heap.size (W2.heap.size + 1) W2.heap.size N (foldV (N : Int) L noVotes) noVotes j 0 (.slice Ao j co) L wz) := Lib.hid (by
            have := HPJ.out
            rw [List.take_of_length_le (Nat.le_of_eq HLK.out)] at this
            exact this)
          have hj60 : j ≤ 60 := HK60.out
          have HCO : Hid (j ≤ co) := Lib.hid (by
            obtain ⟨_, A', c', h, hc, _⟩ := HPV.out.row
            obtain ⟨-, h2, rfl⟩ := Value.slice.inj h
            omega)
          clear HPJ HO0
          go_upto_region 24 with fail
          go_cut [2, 101] from 94 to 100 (fun s2 s101 wx => s2 = .int .i64 tu ∧ s101 = .bool (decide (tu < 0 ∨ (j : Int) < tu)) ∧ wx = wz)
          case first =>
            rcases Int.lt_or_le tu 0 with htu | htu
            · go_wp2_with fail
              go_meet
              exact ⟨rfl, congrArg Value.bool (decide_eq_true (show tu < 0 ∨ (j : Int) < tu from .inl htu)).symm, rfl⟩
            · have htu' : ¬ tu < 0 := by omega
              rcases Int.lt_or_le (j : Int) tu with htj | htj
              · go_wp2_with fail
                go_meet
                exact ⟨rfl, congrArg Value.bool (decide_eq_true (show tu < 0 ∨ (j : Int) < tu from .inr htj)).symm, rfl⟩
              · have htj' : ¬ (j : Int) < tu := by omega
                go_wp2_with fail
                go_meet
                exact ⟨rfl, congrArg Value.bool (decide_eq_false (show ¬ (tu < 0 ∨ (j : Int) < tu) by omega)).symm, rfl⟩
          case rest =>
            obtain ⟨rfl, rfl, hw⟩ := hcut
            subst hw
            obtain ⟨wz, hwz⟩ : ∃ z, z = wc := ⟨_, rfl⟩
            subst hwz
            go_upto_if 101 with fail
            go_cut [2] from 101 to 101 (fun s2 wx => ∃ t : Nat, t ≤ j ∧ s2 = .int .i64 (t : Int) ∧ wx = wz)
            case first =>
              by_cases hc : tu < 0 ∨ (j : Int) < tu
              · rw [decide_eq_true hc]
                go_wp2_with fail
                go_meet
                exact ⟨0, Nat.zero_le _, rfl, rfl⟩
              · rw [decide_eq_false hc]
                obtain ⟨t, rfl⟩ := Int.eq_ofNat_of_zero_le (show 0 ≤ tu by omega)
                go_wp2_with fail
                go_meet
                exact ⟨t, by omega, rfl, rfl⟩
            case rest =>
              obtain ⟨t, ht, rfl, hw⟩ := hcut
              subst hw
              obtain ⟨wz, hwz⟩ : ∃ z, z = wc := ⟨_, rfl⟩
              subst hwz
              go_upto_region 26 with fail
              have hs4 : (wz.drew.alloc (.cells #[] 26)).heap.size = wz.heap.size + 1 := show _ = wz.drew.heap.size + 1 by simp
              have hb4 : Below wz.heap.size wz (wz.drew.alloc (.cells #[] 26)) := (Below.refl _ _).drew.alloc (Nat.le_refl _) _
              have hr0 := HPV.out.row
              have hlj := HLK.out
              obtain ⟨v1, W5, hrun1, hown1, hgr1, _⟩ := app_votes (B := wz.heap.size) (by rw [hs4]; omega) (own_none wz.drew wz.heap.size (Nat.le_refl _)) ((hr0.old hb4).dropped (t := t) ht) (by omega)
              have hb5 : Below wz.heap.size wz W5 := hb4.grown hgr1 (by rw [hs4]; omega) (fun i hi => by
                have h : wz.drew.heap.size = i := by simpa [Value.ownBlock] using hi
                exact Nat.le_of_eq h)
              have hz5 := hb5.size
              obtain ⟨v2, W7, hrun2, hown2, hgr2, _⟩ := app_votes (B := wz.heap.size) hz5 hown1 ((hr0.old hb5).taken (t := t) ht) (by omega)
              have hb7 : Below wz.heap.size wz W7 := hb5.grown hgr2 hz5 (fun i hi => (hown1.lt i hi).1)
              obtain ⟨LX, hLX⟩ : ∃ LX, L.drop t ++ L.take t = LX := ⟨_, rfl⟩
              have hlx : LX.length = j := by rw [← hLX, List.length_append, List.length_drop, List.length_take]; omega
              have hro : RdW W7 W7.heap.size v2 LX := rdW_own (n := 0 + (j - t) + t) (by rw [← hLX, votesC_append]; simpa using hown2) (fun y hy => by
                rw [← hLX] at hy
                rcases List.mem_append.1 hy with h | h
                · exact hr0.1 y (List.mem_of_mem_drop h)
                · exact hr0.1 y (List.mem_of_mem_take h)) (by omega) (by omega)
              obtain ⟨Ab, cb, hv⟩ : ∃ Ab cb, v2 = .slice Ab j cb := by
                obtain ⟨_, Ab, cb, h, _⟩ := hro
                exact ⟨Ab, cb, by rw [← hlx]; exact h⟩
              subst hv
              have HO0 : Hid (OrdP W1 (W2.heap.size + 1) W2.heap.size (W1.heap.size + 1) W1.heap.size N noVotes (foldV (N : Int) L noVotes) 0 j (.slice Ab j cb) LX W7) := Lib.hid ⟨HPV.out.cb.below hb7, HPV.out.ca.below hb7, hro, HPV.out.below.trans (hb7.mono HPV.out.below.size), by have := HORD.out; omega⟩
              have HFV : Hid (foldV (N : Int) LX noVotes = foldV (N : Int) L noVotes) := Lib.hid (by rw [← hLX]; exact foldV_turn _ _ HAP.out _)
              have HLK2 := Lib.hid hlx
              have HR1 := Lib.hid hrun1
              have HR2 := Lib.hid hrun2
              clear hs4 hb4 hr0 hlj hrun1 hown1 hgr1 hb5 hz5 hrun2 hown2 hgr2 hb7 hLX hlx hro
              refine wp_region_held_drew (S := fun _ => True) (by kernel_rfl) ?_ (fun hHeld => ?_)
              · exact trivial
              refine wpAnyH_take (i := 1) (oi := ⟨some 103, _, _, _, _, _⟩) (v := ?_) rfl (by kernel_rfl) (by kernel_rfl) (by kernel_rfl) (fun _ _ _ h => h) (Or.inl ⟨by rfl, ?_⟩) (by assumption) ?_
              rotate_left
              · intro w hSw; (try dsimp only at hSw); go_simp; try (with_reducible rfl)
              rotate_left 0
              try simp only [Act.put, List.setIfInBounds_toArray, List.set_cons_zero, List.set_cons_succ]
              refine wpAnyH_take (i := 2) (oi := ⟨some 104, _, _, _, _, _⟩) (v := ?_) rfl (by kernel_rfl) (by kernel_rfl) (by kernel_rfl) (fun _ _ _ h => h) (Or.inl ⟨by rfl, ?_⟩) (by assumption) ?_
              rotate_left
              · intro w hSw; (try dsimp only at hSw); go_simp; try (with_reducible rfl)
              rotate_left 0
              try simp only [Act.put, List.setIfInBounds_toArray, List.set_cons_zero, List.set_cons_succ]
              refine wpAnyH_take (i := 3) (oi := ⟨some 105, _, _, _, _, _⟩) (v := (.slice (cutW Ao co t) (j - t) (co - t))) rfl (by kernel_rfl) (by kernel_rfl) (by kernel_rfl) (fun _ _ _ h => h) (yields_slice (by rfl) 22 _ _ _ rfl (.slice Ao j co) rfl (some (.int .i64 (t : Int))) none rfl rfl _ (fun W => run_sliceW_from Ao j co t ht W)) (by assumption) ?_
              try simp only [Act.put, List.setIfInBounds_toArray, List.set_cons_zero, List.set_cons_succ]
              refine wpAnyH_take (i := 5) (oi := ⟨some 107, _, _, _, _, _⟩) (v := ?_) rfl (by kernel_rfl) (by kernel_rfl) (by kernel_rfl) (fun _ _ _ h => h) (Or.inl ⟨by rfl, ?_⟩) (by assumption) ?_
              rotate_left
              · intro w hSw; (try dsimp only at hSw); go_simp; try (with_reducible rfl)
              rotate_left 0
              try simp only [Act.put, List.setIfInBounds_toArray, List.set_cons_zero, List.set_cons_succ]
              refine wpAnyH_take (i := 6) (oi := ⟨some 108, _, _, _, _, _⟩) (v := ?_) rfl (by kernel_rfl) (by kernel_rfl) (by kernel_rfl) (fun _ _ _ h => h) (Or.inl ⟨by rfl, ?_⟩) (by assumption) ?_
              rotate_left
              · intro w hSw; (try dsimp only at hSw); go_simp; try (with_reducible rfl)
              rotate_left 0
              try simp only [Act.put, List.setIfInBounds_toArray, List.set_cons_zero, List.set_cons_succ]
              refine wpAnyH_take (i := 7) (oi := ⟨some 109, _, _, _, _, _⟩) (v := (.slice Ao t co)) rfl (by kernel_rfl) (by kernel_rfl) (by kernel_rfl) (fun _ _ _ h => h) (yields_slice (by rfl) 22 _ _ _ rfl (.slice Ao j co) rfl none (some (.int .i64 (t : Int))) rfl rfl _ (fun W => run_sliceW_to Ao j co t (Nat.le_trans ht HCO.out) W)) (by assumption) ?_
              try simp only [Act.put, List.setIfInBounds_toArray, List.set_cons_zero, List.set_cons_succ]
              refine wpAnyH_take (i := 10) (oi := ⟨some 112, _, _, _, _, _⟩) (v := ?_) rfl (by kernel_rfl) (by kernel_rfl) (by kernel_rfl) (fun _ _ _ h => h) (Or.inl ⟨by rfl, ?_⟩) (by assumption) ?_
              rotate_left
              · intro w hSw; (try dsimp only at hSw); go_simp; try (with_reducible rfl)
              rotate_left 0
              try simp only [Act.put, List.setIfInBounds_toArray, List.set_cons_zero, List.set_cons_succ]
              refine wpAnyH_ready (rs := [0]) (by kernel_rfl) (by simp) ?_
              refine (AllReadyH.cons (o := ⟨some 102, _, _, _, _, _⟩) rfl (fun K hK => ?_) AllReadyH.nil)
              (try rw [if_pos (by rfl)])
              go_simp
              try dsimp only
              refine hK.out _ _ (trivial) (fun hHeld => ?_)
              clear hK K
              try simp only [Act.put, List.setIfInBounds_toArray, List.set_cons_zero, List.set_cons_succ]
              refine wpAnyH_ready (rs := [4]) (by kernel_rfl) (by simp) ?_
              refine (AllReadyH.cons (o := ⟨some 106, _, _, _, _, _⟩) rfl (fun K hK => ?_) AllReadyH.nil)
              (try rw [if_pos (by rfl)])
              refine oper_append (.tmp 102) (.tmp 105) _ _ rfl _ _ rfl rfl _ _ HR1.out ?_
              try dsimp only
              refine hK.out _ _ (trivial) (fun hHeld => ?_)
              clear hK K
              try simp only [Act.put, List.setIfInBounds_toArray, List.set_cons_zero, List.set_cons_succ]
              refine wpAnyH_ready (rs := [8]) (by kernel_rfl) (by simp) ?_
              refine (AllReadyH.cons (o := ⟨some 110, _, _, _, _, _⟩) rfl (fun K hK => ?_) AllReadyH.nil)
              (try rw [if_pos (by rfl)])
              refine oper_append (.tmp 106) (.tmp 109) _ _ rfl _ _ rfl rfl _ _ HR2.out ?_
              try dsimp only
              refine hK.out _ _ (trivial) (fun hHeld => ?_)
              clear hK K
              try simp only [Act.put, List.setIfInBounds_toArray, List.set_cons_zero, List.set_cons_succ]
              refine wpAnyH_take (i := 9) (oi := ⟨some 111, _, _, _, _, _⟩) (v := ?_) rfl (by kernel_rfl) (by kernel_rfl) (by kernel_rfl) (fun _ _ _ h => h) (Or.inl ⟨by rfl, ?_⟩) (by assumption) ?_
              rotate_left
              · intro w hSw; (try dsimp only at hSw); go_simp; try (with_reducible rfl)
              rotate_left 0
              try simp only [Act.put, List.setIfInBounds_toArray, List.set_cons_zero, List.set_cons_succ]
              refine wpAnyH_done (by kernel_rfl) ?_ _
              clear HR1 HR2
              generalize foldV (N : Int) L noVotes = VL at HO0 HFV
              clear HLK HPV
              obtain ⟨k, rfl⟩ : ∃ k, k = j := ⟨_, rfl⟩
              have HLK := HLK2
              go_upto_region 27 with fail
              go_loopw [112] (fun s wr => ∃ j : Nat, j ≤ k ∧ s = .int .i64 (j : Int) ∧ OrdP W1 (W2.heap.size + 1) W2.heap.size (W1.heap.size + 1) W1.heap.size N (foldV (N : Int) (LX.take j) noVotes) VL j k (.slice Ab k cb) LX wr) (fun s _ => k - (intOf s).toNat)
              case atStart => exact ⟨0, Nat.zero_le _, rfl, HO0.out⟩
              case round =>
                obtain ⟨j, hj, rfl, hp⟩ := hrel
                have HPJ := Lib.hid hp
                clear hp
                by_cases hlt : j < k
                · have HLT := Lib.hid hlt
                  have hk6 : k ≤ 60 := HK60.out
                  have hkn : (j : Int) < (k : Int) := by omega
                  have hk0 : (0 : Int) ≤ (j : Int) := by omega
                  obtain ⟨y, hy⟩ : ∃ y, LX[j]? = some y := ⟨_, List.getElem?_eq_getElem (by rw [HLK.out]; exact hlt)⟩
                  obtain ⟨ad, c', he, hok, _, hld⟩ := HPJ.out.row.here hy
                  rw [HLK.out] at he
                  obtain ⟨rfl, -, rfl⟩ := Value.slice.inj he
                  have HOK := Lib.hid hok
                  have HLD := Lib.hid hld
                  have HFT := Lib.hid (foldV_take (n := (N : Int)) hy noVotes)
                  clear hy he hok hld
                  go_upto_region 29 with (first
                    | (guard_target = wpList _ _ _ (Oper.mk _ (.load 26 _) _ _ _ _ :: _) _ _; refine wpList_load_vote (by rfl) _ rfl (ad.add (j * 35)) y rfl (HLD.out _ (Below.refl _ _)) ?_)
                    | (guard_target = wpList _ _ _ (Oper.mk _ (.store 26 _ _) _ _ _ _ :: _) _ _; refine wpList_store_vote rfl _ _ rfl wr.heap.size y rfl rfl HOK.out 26 _ (Blk.newAt _ _ rfl rfl) rfl ?_; intro W9 hS9 hz9 hb9 hk9; have HS9 := Lib.hid hS9; have HB9 := Lib.hid (((Below.refl _ wr).alloc (Nat.le_refl _) _).trans hb9); clear hS9 hz9 hb9 hk9))
                  have HP9 := Lib.hid (HPJ.out.kept HB9.out)
                  obtain ⟨c0, c1, c2, c3⟩ := vote_cells HS9.out HOK.out
                  have HC3 := Lib.hid c3
                  have HPU := Lib.hid (put_any HP9.out.ca y.r y.k y.s y.id HOK.out.id HOK.out.r HOK.out.k HOK.out.s (by unfold maxLen; have := HK60.out; omega))
                  rw [← HFT.out] at HPU
                  generalize putCode (N : Int) (foldV (N : Int) (LX.take j) noVotes) y.r y.k y.s y.id = pc at HPU
                  clear c3
                  go_wp2_with (first
                    | (guard_target = wpList _ _ _ (Oper.mk _ (.load 24 _) _ _ _ _ :: _) _ _; refine wpList_load_runS (by rfl) 24 _ rfl _ _ rfl HC3.out ?_)
                    | (go_at_call 21; refine HPU.out.mono ?_; rintro e W11 ⟨rfl, hc11, hg11⟩; have HC11 := Lib.hid hc11; have HG11 := Lib.hid hg11; clear hc11 hg11))
                  go_roundw
                  case rel => exact ⟨j + 1, HLT.out, by go_num, HP9.out.put HC11.out HG11.out⟩
                  case measure =>
                    simp [intOf]
                    omega
                · obtain rfl : j = k := by omega
                  have hkn : ¬ (j : Int) < (j : Int) := by omega
                  obtain ⟨wz, hwz⟩ : ∃ z, z = wr := ⟨_, rfl⟩
                  subst hwz
                  have HPV : Hid (OrdP W1 (W2.heap.size + 1) W2.heap.size (W1.heap.size + 1) W1.heap.size N VL VL j j (.slice Ab j cb) LX wz) := Lib.hid (by
                    have := HPJ.out
                    rw [List.take_of_length_le (Nat.le_of_eq HLK.out), HFV.out] at this
                    exact this)
                  have HBZ := Lib.hid (HB1.out.trans (HPV.out.below.mono HB1.out.size))
                  have HCA := Lib.hid fun W (hb : Below wz.heap.size wz W) => HPV.out.cb.below hb
                  have HCB := Lib.hid fun W (hb : Below wz.heap.size wz W) => HPV.out.ca.below hb
                  clear HPJ HPV
                  go_upto_region 32 with fail
                  go_loopw [20] (fun s wx => ∃ t : Nat, t ≤ 12 ∧ s = .int .i64 (t : Int) ∧ Below wz.heap.size wz wx) (fun s _ => 12 - (intOf s).toNat)
                  case atStart => exact ⟨0, by omega, by go_num, Below.refl _ _⟩
                  case round =>
                    obtain ⟨r, hr12, rfl, hbt⟩ := hrel
                    obtain ⟨wx, hwx⟩ : ∃ z, z = wr := ⟨_, rfl⟩
                    subst hwx
                    have HBT := Lib.hid hbt
                    clear hbt
                    by_cases hrl : r < 12
                    · have hri : (r : Int) < 12 := by omega
                      have HRL := Lib.hid hrl
                      clear hrl hr12
                      go_upto_region 35 with fail
                      go_loopw [21] (fun s wy => ∃ q : Nat, q ≤ 2 ∧ s = .int .i64 (q : Int) ∧ Below wz.heap.size wz wy) (fun s _ => 2 - (intOf s).toNat)
                      case atStart => exact ⟨0, by omega, by go_num, HBT.out⟩
                      case round =>
                        obtain ⟨q, hq, rfl, hbq⟩ := hrel
                        obtain ⟨wy, hwy⟩ : ∃ z, z = wr := ⟨_, rfl⟩
                        subst hwy
                        have HB9 := Lib.hid hbq
                        clear hbq
                        by_cases hql : q < 2
                        · have hqi : (q : Int) < 2 := by omega
                          have HQL := Lib.hid hql
                          have HRI : Hid (wfi (r : Int) ∧ wfi (q : Int)) := Lib.hid ⟨wfi_small (by omega) (by have := HRL.out; omega), wfi_small (by omega) (by omega)⟩
                          clear hql hq
                          have HSA := Lib.hid fun W (hb : Below wz.heap.size wz W) => sure_any (HCA.out W hb) (r : Int) (q : Int) HRI.out.1 HRI.out.2 (by have := H7.out; omega)
                          have HSB := Lib.hid fun W (hb : Below wz.heap.size wz W) => sure_any (HCB.out W hb) (r : Int) (q : Int) HRI.out.1 HRI.out.2 (by have := H7.out; omega)
                          have HAA := Lib.hid fun W (hb : Below wz.heap.size wz W) => all_any (HCA.out W hb) (r : Int) (q : Int) HRI.out.1 HRI.out.2 (by have := H7.out; omega)
                          have HAB := Lib.hid fun W (hb : Below wz.heap.size wz W) => all_any (HCB.out W hb) (r : Int) (q : Int) HRI.out.1 HRI.out.2 (by have := H7.out; omega)
                          have hoo : ∀ o, sureO N VL (r : Int) (q : Int) = o → IdOk (o.getD zeroId) := fun o ho => by
                            cases o with
                            | none => exact zeroId_ok
                            | some y =>
                              unfold sureO at ho
                              rw [Option.map_eq_some_iff] at ho
                              obtain ⟨p, hp, rfl⟩ := ho
                              exact ((HCA.out wz (Below.refl _ _)).ids _ _ _ _ (mem_castL.1 (List.mem_of_find?_eq_some hp)).2).1
                          have HOO := Lib.hid (hoo _ rfl)
                          generalize sureO N VL (r : Int) (q : Int) = o at HSA HSB HOO
                          generalize allN N VL (r : Int) (q : Int) = a1 at HAA HAB
                          obtain ⟨o1, ho1⟩ : ∃ o1, o.getD zeroId = o1 := ⟨_, rfl⟩
                          obtain ⟨b1, hb1⟩ : ∃ b1, o.isSome = b1 := ⟨_, rfl⟩
                          rw [ho1] at HOO
                          rw [ho1, hb1] at HSA HSB
                          clear hoo ho1 hb1
                          have hne := fun W => neq_idv HOO.out HOO.out W
                          have hge := fun y' z' W => guardn_idv y' z' o1 o1 W
                          simp only [beq_self_eq_true, Bool.not_true] at hne
                          go_upto_region 38 with (first
                            | (go_at_call 22; refine (HSA.out _ HB9.out).mono ?_; rintro e Y2 ⟨rfl, hb2⟩; have HY2 := Lib.hid (HB9.out.trans (hb2.mono HB9.out.size)); clear hb2)
                            | (guard_target = wpList _ _ _ (Oper.mk _ (.store 24 _ _) _ _ _ _ :: _) _ _; refine wpList_store_idv rfl _ _ rfl Y2.heap.size o1 rfl rfl HOO.out 24 _ (Blk.newAt _ _ rfl rfl) rfl ?_; intro Y3 hS hz hb hk; have HK22 := Lib.hid hS; have HY3 := Lib.hid (HY2.out.trans ((((Below.refl _ Y2).alloc (Nat.le_refl _) _).trans hb).mono HY2.out.size)); clear hS hz hb hk))
                          obtain ⟨g22, hg22⟩ : ∃ g, Y2.heap.size = g := ⟨_, rfl⟩
                          rw [hg22] at HK22 ⊢
                          go_upto_region 39 with (first
                            | (go_at_call 22; refine (HSB.out _ HY3.out).mono ?_; rintro e Y4 ⟨rfl, hb4⟩; have HY4 := Lib.hid (HY3.out.trans (hb4.mono HY3.out.size)); have HK4 := Lib.hid (HK22.out.below hb4 HK22.out.lt); clear hb4)
                            | (guard_target = wpList _ _ _ (Oper.mk _ (.store 24 _ _) _ _ _ _ :: _) _ _; refine wpList_store_idv rfl _ _ rfl Y4.heap.size o1 rfl rfl HOO.out 24 _ (Blk.newAt _ _ rfl rfl) rfl ?_; intro Wq hS hz hb hk; have HK24 := Lib.hid hS; have HKZ : Hid (Blk Wq g22 24 (idC o1)) := Lib.hid ((hk _ (by have := HK4.out.lt; omega)).trans (HK4.out.alloc _)); have HBQ := Lib.hid (HY4.out.trans ((((Below.refl _ Y4).alloc (Nat.le_refl _) _).trans hb).mono HY4.out.size)); clear hS hz hb hk))
                          obtain ⟨g24, hg24⟩ : ∃ g, Y4.heap.size = g := ⟨_, rfl⟩
                          rw [hg24] at HK24 ⊢
                          have hna : ¬ ((a1 : Int) ≠ (a1 : Int)) := by simp
                          have hnb := neq_boolM b1
                          go_wp2_with (first
                            | (guard_target = wpList _ _ _ (Oper.mk _ (.load 24 _) _ _ _ _ :: _) _ _; first | refine wpList_load_idv rfl _ rfl g22 o1 rfl HOO.out 24 HKZ.out ?_ | refine wpList_load_idv rfl _ rfl g24 o1 rfl HOO.out 24 HK24.out ?_)
                            | (go_at_call 24; first | (refine (HAA.out _ HBQ.out).mono ?_; rintro e Z1 ⟨rfl, hz1⟩; have HZ1 := Lib.hid (HBQ.out.trans (hz1.mono HBQ.out.size)); clear hz1) | (refine (HAB.out _ HZ1.out).mono ?_; rintro e Z2 ⟨rfl, hz2⟩; have HZ2 := Lib.hid (HZ1.out.trans (hz2.mono HZ1.out.size)); clear hz2)))
                          go_roundw
                          case rel => exact ⟨q + 1, by have := HQL.out; omega, by go_num, HZ2.out⟩
                          case measure => simp [intOf]; omega
                        · obtain rfl : q = 2 := by omega
                          clear hql hq
                          go_wp2_with fail
                          go_roundw
                          case rel => exact ⟨r + 1, by have := HRL.out; omega, by go_num, HB9.out⟩
                          case measure => simp [intOf]; omega
                    · obtain rfl : r = 12 := by omega
                      clear hrl hr12
                      go_wp2_with fail
                      go_ret
                      exact ⟨rfl, HBZ.out.trans (HBT.out.mono HBZ.out.size)⟩
theorem countorder_law (n : Int) (v : Value) (l : List VoteT) (tu : Int) (w : World) (hr : RdW w w.heap.size v l) : Calls Try.prog 5 #[.int .i64 n, v, .int .i64 tu] w fun e w' => e = .returned (.bool true) ∧ Below w.heap.size w w' := by
  obtain ⟨_, A, c, rfl, _, hlen, _⟩ := id hr
  by_cases hm : l.length ≤ 60
  · by_cases hn : faults n < 0
    · exact countorder_low n tu hn A l.length c w
    · obtain ⟨N, rfl⟩ := Int.eq_ofNat_of_zero_le (show 0 ≤ n by rcases faults_cases (n := n) (by omega) with ⟨h, _⟩ | ⟨h, _⟩ | ⟨h, _⟩ <;> omega)
      exact countorder_high N (by omega) (by rcases faults_cases (n := (N : Int)) (by omega) with ⟨h, _⟩ | ⟨h, _⟩ | ⟨h, _⟩ <;> omega) tu A l.length c l hm w hr rfl
  · exact countorder_long n tu A l.length c (by omega) (by omega) w
end Go.Proofs.Ytpjeildiahklpaa
