/-
  CountStays: walked. No condition.
-/
import Derived.Test.YtpjeildiahklpaaCntStaysM
namespace Go.Proofs.Ytpjeildiahklpaa
open Go Go.RowKit Go.Maps

set_option maxRecDepth 100000 in
set_option maxHeartbeats 8000000 in
theorem countstays_long (n : Int) (A : Option Addr) (m c : Nat) (hm : 60 < m) (hm2 : m ≤ 2513169434916) (w : World) : Calls Try.prog 6 #[.int .i64 n, .slice A m c] w fun e w' => e = .returned (.bool true) ∧ Below w.heap.size w w' := by
  have hmi : (60 : Int) < (m : Int) := by omega
  have HR := Lib.hid fun W => reffaults_any n W
  by_cases hn : faults n < 0
  all_goals
    generalize faults n = f at HR hn
    go_enter Try.func6, Try.ntmps6
    go_wp2_with (first
      | (go_at_call 15; refine (counts_any _).mono ?_; rintro e W1 ⟨rfl, hb1⟩; have HB := Lib.hid hb1; clear hb1)
      | (go_at_call 17; refine (HR.out _).mono ?_; rintro e W3 ⟨rfl, h3⟩; obtain rfl := h3.symm))
    go_ret
    exact ⟨rfl, HB.out⟩
set_option maxRecDepth 100000 in
set_option maxHeartbeats 8000000 in
theorem countstays_low (n : Int) (hn : faults n < 0) (A : Option Addr) (m c : Nat) (w : World) : Calls Try.prog 6 #[.int .i64 n, .slice A m c] w fun e w' => e = .returned (.bool true) ∧ Below w.heap.size w w' := by
  have HR := Lib.hid fun W => reffaults_any n W
  generalize faults n = f at HR hn
  go_enter Try.func6, Try.ntmps6
  go_wp2_with (first
    | (go_at_call 15; refine (counts_any _).mono ?_; rintro e W1 ⟨rfl, hb1⟩; have HB := Lib.hid hb1; clear hb1)
    | (go_at_call 17; refine (HR.out _).mono ?_; rintro e W3 ⟨rfl, h3⟩; obtain rfl := h3.symm))
  go_ret
  exact ⟨rfl, HB.out⟩
set_option maxRecDepth 100000 in
set_option maxHeartbeats 8000000 in
theorem countstays_high (N : Nat) (hN : 0 ≤ faults (N : Int)) (h7 : N ≤ 7) (A : Option Addr) (m c : Nat) (l : List VoteT) (hm : m ≤ 60) (w : World) (hr : RdW w w.heap.size (.slice A m c) l) (hl : l.length = m) : Calls Try.prog 6 #[.int .i64 N, .slice A m c] w fun e w' => e = .returned (.bool true) ∧ Below w.heap.size w w' := by
  have hmi : ¬ (60 : Int) < (m : Int) := by omega
  have HN := Lib.hid fun W => new_some (N : Int) W hN
  have HR := Lib.hid fun W => reffaults_any (N : Int) W
  have HN0 := Lib.hid hN
  have H7 := Lib.hid h7
  obtain ⟨f, hf⟩ : ∃ f, faults (N : Int) = f := ⟨_, rfl⟩
  rw [hf] at HR hN
  have HRW := Lib.hid hr
  have HL := Lib.hid hl
  have hfn : ¬ f < 0 := by omega
  have hmm := @run_makeMap Try.prog
  clear hf hr hl
  go_enter Try.func6, Try.ntmps6
  go_upto_region 8 with (first
    | (go_at_call 15; refine (counts_any _).mono ?_; rintro e W1 ⟨rfl, hb1⟩; have HB1 := Lib.hid hb1; clear hb1)
    | (go_at_call 16; refine (HN.out _).mono ?_; rintro e W2 ⟨rfl, hc2, hb2⟩; have HC2 := Lib.hid hc2; have HB2 := Lib.hid hb2; clear hc2 hb2)
    | (go_at_call 17; refine (HR.out _).mono ?_; rintro e W3 ⟨rfl, h3⟩; obtain rfl := h3.symm))
  go_upto_region 11 with fail
  have hP : StayR W1 (W1.heap.size + 1) W1.heap.size W2.heap.size N noVotes 0 0 ((W2.alloc (.map #[] 0)).alloc (.map #[] 0)) := by
    have hlt := HC2.out.ltB
    have hz : (W2.alloc (.map #[] 0)).heap.size = W2.heap.size + 1 := by simp
    have hz2 : ((W2.alloc (.map #[] 0)).alloc (.map #[] 0)).heap.size = W2.heap.size + 2 := by simp
    have hb : Below W2.heap.size W2 ((W2.alloc (.map #[] 0)).alloc (.map #[] 0)) := ((Below.refl _ _).alloc (Nat.le_refl _) _).alloc (by simp) _
    refine ⟨HC2.out.below hb, ⟨fun _ => none, (mapV_made Try.prog 58 W2).same (Below.heap_alloc _ _ _ (by simp)), fun _ _ _ h => by cases h⟩, ⟨fun _ => none, ?_, fun _ _ _ h => by cases h⟩, HB2.out.trans (hb.mono HB2.out.size), by omega⟩
    have := mapV_made Try.prog 58 (W2.alloc (.map #[] 0))
    rw [hz] at this
    exact this
  have HP := Lib.hid hP
  clear hP
  obtain ⟨S, hS⟩ : ∃ S, W2.heap.size = S := ⟨_, rfl⟩
  have hS1 : (W2.alloc (.map #[] 0)).heap.size = S + 1 := by rw [← hS]; simp
  rw [hS] at HP
  simp only [hS]
  go_loopw [39] (fun s39 wr => ∃ (j : Nat) (V : Vt), j ≤ m ∧ s39 = .int .i64 (j : Int) ∧ StayR W1 (W1.heap.size + 1) W1.heap.size S N V j (48 * j) wr) (fun s39 _ => m - (intOf s39).toNat)
  case atStart => exact ⟨0, noVotes, Nat.zero_le _, rfl, HP.out⟩
  case round =>
    obtain ⟨j, V, hj, rfl, hp⟩ := hrel
    have HPJ := Lib.hid hp
    clear hp
    by_cases hlt : j < m
    · have hkn : (j : Int) < (m : Int) := by omega
      have hk0 : (0 : Int) ≤ (j : Int) := by omega
      obtain ⟨y, hy⟩ : ∃ y, l[j]? = some y := ⟨_, List.getElem?_eq_getElem (by rw [HL.out]; exact hlt)⟩
      obtain ⟨ad, c', he, hok, _, hld⟩ := HRW.out.here hy
      rw [HL.out] at he
      obtain ⟨rfl, -, rfl⟩ := Value.slice.inj he
      have HOK := Lib.hid hok
      have HLD := Lib.hid hld
      have HBW := Lib.hid (HB1.out.trans (HPJ.out.below.mono HB1.out.size))
      clear hy he hok hld
      go_upto_region 13 with (first
        | (guard_target = wpList _ _ _ (Oper.mk _ (.load 26 _) _ _ _ _ :: _) _ _; refine wpList_load_vote (by rfl) _ rfl (ad.add (j * 35)) y rfl (HLD.out _ HBW.out) ?_)
        | (guard_target = wpList _ _ _ (Oper.mk _ (.store 26 _ _) _ _ _ _ :: _) _ _; refine wpList_store_vote rfl _ _ rfl wr.heap.size y rfl rfl HOK.out 26 _ (Blk.newAt _ _ rfl rfl) rfl ?_; intro W9 hS9 hz9 hb9 hk9; have HS9 := Lib.hid hS9; have HB9 := Lib.hid (((Below.refl _ wr).alloc (Nat.le_refl _) _).trans hb9); clear hS9 hz9 hb9 hk9))
      have HP9 := Lib.hid (HPJ.out.kept HB9.out)
      obtain ⟨c0, c1, c2, c3⟩ := vote_cells HS9.out HOK.out
      have HC3 := Lib.hid c3
      have HPU := Lib.hid (put_any HP9.out.count y.r y.k y.s y.id HOK.out.id HOK.out.r HOK.out.k HOK.out.s (by unfold maxLen; omega))
      obtain ⟨pc, hpc⟩ : ∃ pc, putCode (N : Int) V y.r y.k y.s y.id = pc := ⟨_, rfl⟩
      rw [hpc] at HPU
      clear c3 hpc
      go_upto_region 14 with (first
        | (guard_target = wpList _ _ _ (Oper.mk _ (.load 24 _) _ _ _ _ :: _) _ _; refine wpList_load_runS (by rfl) 24 _ rfl _ _ rfl HC3.out ?_)
        | (go_at_call 21; refine HPU.out.mono ?_; rintro e W11 ⟨rfl, hc11, hg11⟩; have HC11 := Lib.hid hc11; have HG11 := Lib.hid hg11; clear hc11 hg11))
      have HP2 := Lib.hid (HP9.out.put HN0.out HC11.out HG11.out (fun r k s x => putT_keeps))
      generalize putT (N : Int) V y.r y.k y.s y.id = V' at HP2 HC11
      clear c0 c1 c2
      go_upto_region 15 with fail
      go_loopw [11] (fun s11 wx => ∃ t : Nat, t ≤ 12 ∧ s11 = .int .i64 (t : Int) ∧ StayR W1 (W1.heap.size + 1) W1.heap.size S N V' (j + 1) (48 * j + 4 * t) wx) (fun s11 _ => 12 - (intOf s11).toNat)
      case atStart => exact ⟨0, by omega, by go_num, HP2.out⟩
      case round =>
        obtain ⟨t, ht, rfl, hpt⟩ := hrel
        obtain ⟨wx, hwx⟩ : ∃ z, z = wr := ⟨_, rfl⟩
        subst hwx
        have HPT := Lib.hid hpt
        clear hpt
        by_cases htl : t < 12
        · have hti : (t : Int) < 12 := by omega
          have HTL := Lib.hid htl
          clear htl ht
          go_upto_region 18 with fail
          go_loopw [12] (fun s12 wy => ∃ q : Nat, q ≤ 2 ∧ s12 = .int .i64 (q : Int) ∧ StayR W1 (W1.heap.size + 1) W1.heap.size S N V' (j + 1) (48 * j + 4 * t + 2 * q) wy) (fun s12 _ => 2 - (intOf s12).toNat)
          case atStart => exact ⟨0, by omega, by go_num, HPT.out⟩
          case round =>
            obtain ⟨q, hq, rfl, hpq⟩ := hrel
            obtain ⟨wy, hwy⟩ : ∃ z, z = wr := ⟨_, rfl⟩
            subst hwy
            have HPQ := Lib.hid hpq
            clear hpq
            by_cases hql : q < 2
            · have hqi : (q : Int) < 2 := by omega
              have HQL := Lib.hid hql
              have HRI : Hid (wfi (t : Int) ∧ wfi (q : Int)) := Lib.hid ⟨wfi_small (by omega) (by have := HTL.out; omega), wfi_small (by omega) (by omega)⟩
              clear hql hq
              obtain ⟨T, hT1, hT2⟩ := HPQ.out.sure
              obtain ⟨U, hU1, hU2⟩ := HPQ.out.all
              obtain ⟨g13, hg13⟩ : ∃ g, wy.heap.size = g := ⟨_, rfl⟩
              have HT1 := Lib.hid fun W (hb : Below g13 wy W) => hT1.same (hb.block _ (hg13 ▸ hT1.lt))
              have HU1 := Lib.hid fun W (hb : Below g13 wy W) => hU1.same (hb.block _ (hg13 ▸ hU1.lt))
              have HT2 := Lib.hid hT2
              have HKEY := Lib.hid (key2_some HRI.out.1 HRI.out.2)
              have HSU := Lib.hid fun W (hb : Below g13 wy W) => sure_any ((HPQ.out.kept (hg13 ▸ hb)).count) (t : Int) (q : Int) HRI.out.1 HRI.out.2 (by have := H7.out; omega)
              have HAL := Lib.hid fun W (hb : Below g13 wy W) => all_any ((HPQ.out.kept (hg13 ▸ hb)).count) (t : Int) (q : Int) HRI.out.1 HRI.out.2 (by have := H7.out; omega)
              obtain ⟨o, ho⟩ : ∃ o, sureO N V' (t : Int) (q : Int) = o := ⟨_, rfl⟩
              obtain ⟨a1, ha1⟩ : ∃ a1, allN N V' (t : Int) (q : Int) = a1 := ⟨_, rfl⟩
              obtain ⟨o1, ho1⟩ : ∃ o1, o.getD zeroId = o1 := ⟨_, rfl⟩
              obtain ⟨b1, hb1⟩ : ∃ b1, o.isSome = b1 := ⟨_, rfl⟩
              have HSO : Hid (b1 = true → sureO N V' (t : Int) (q : Int) = some o1) := Lib.hid fun hb => by
                rw [ho, ← ho1]
                cases o with
                | none => rw [← hb1] at hb; cases hb
                | some z => rfl
              have HOO : Hid (IdOk o1) := Lib.hid (by
                rw [← ho1]
                cases o with
                | none => exact zeroId_ok
                | some y =>
                  have ho' := ho
                  unfold sureO at ho'
                  rw [Option.map_eq_some_iff] at ho'
                  obtain ⟨p, hp, rfl⟩ := ho'
                  exact (HPQ.out.count.ids _ _ _ _ (mem_castL.1 (List.mem_of_find?_eq_some hp)).2).1)
              obtain ⟨w1, d1, hw1, hd1, hwo, hcase⟩ : ∃ w1 d1, (T (key2 (t : Int) (q : Int))).getD (idv zeroId) = idv w1 ∧ (T (key2 (t : Int) (q : Int))).isSome = d1 ∧ IdOk w1 ∧ (d1 = true → w1 = o1 ∧ b1 = true) := by
                cases hTk : T (key2 (t : Int) (q : Int)) with
                | none => exact ⟨zeroId, false, rfl, rfl, zeroId_ok, fun h => by cases h⟩
                | some x =>
                  obtain ⟨id, rfl, hs⟩ := hT2 _ _ _ hTk
                  rw [ho] at hs
                  have e1 : id = o1 := by rw [← ho1, hs]; rfl
                  subst e1
                  exact ⟨id, true, rfl, rfl, HOO.out, fun _ => ⟨rfl, by rw [← hb1, hs]; rfl⟩⟩
              obtain ⟨p1, hp1, hpa⟩ : ∃ p1 : Nat, (U (key2 (t : Int) (q : Int))).getD (.int .i64 0) = .int .i64 (p1 : Int) ∧ p1 ≤ a1 := by
                cases hUk : U (key2 (t : Int) (q : Int)) with
                | none => exact ⟨0, rfl, Nat.zero_le _⟩
                | some x =>
                  obtain ⟨c, rfl, hs⟩ := hU2 _ _ _ hUk
                  exact ⟨c, rfl, by rw [← ha1]; exact hs⟩
              have haN : a1 ≤ N := by rw [← ha1]; exact allN_le _ _ _ _
              have hlp : ¬ (a1 : Int) < (p1 : Int) := by omega
              have hgn : ¬ (N : Int) < (a1 : Int) := by omega
              have HW1 := Lib.hid hw1
              have HD1 := Lib.hid hd1
              have HP1 := Lib.hid hp1
              have HWO := Lib.hid hwo
              have HCS := Lib.hid hcase
              rw [ho, ho1, hb1] at HSU
              rw [ha1] at HAL
              have HA1 := Lib.hid ha1
              clear hT1 hU1 hT2 hU2 ho ha1 ho1 hb1 hw1 hd1 hp1 hwo hcase hpa haN
              go_upto_region 21 with fail
              obtain ⟨W13, hW13⟩ : ∃ z, wy.alloc (.cells #[.int .i64 (t : Int), .int .i64 (q : Int)] 58) = z := ⟨_, rfl⟩
              have HK13 : Hid (Blk W13 wy.heap.size 58 #[.int .i64 (t : Int), .int .i64 (q : Int)]) := Lib.hid (by rw [← hW13]; exact Blk.new _ _ _)
              have HB13 : Hid (Below wy.heap.size wy W13) := Lib.hid (by rw [← hW13]; exact (Below.refl _ _).alloc (Nat.le_refl _) _)
              simp only [hW13]
              rw [hg13] at HK13 HB13
              clear hW13
              go_upto_region 22 with (first
                | (go_at_call 22; refine (HSU.out _ HB13.out).mono ?_; rintro e Y2 ⟨rfl, hb2⟩; have HY2 := Lib.hid (HB13.out.trans (hb2.mono (hg13 ▸ HB13.out.size))); have HK2 := Lib.hid (HK13.out.below hb2 HK13.out.lt); clear hb2)
                | (guard_target = wpList _ _ _ (Oper.mk _ (.store 24 _ _) _ _ _ _ :: _) _ _; refine wpList_store_idv rfl _ _ rfl Y2.heap.size o1 rfl rfl HOO.out 24 _ (Blk.newAt _ _ rfl rfl) rfl ?_; intro Y3 hS hz hb hk; have HK14 := Lib.hid hS; have hbb := ((Below.refl _ Y2).alloc (Nat.le_refl _) (.cells (idC zeroId) 24)).trans hb; have HK3 := Lib.hid (HK2.out.below hbb HK2.out.lt); have HY3 := Lib.hid (HY2.out.trans (hbb.mono (hg13 ▸ HY2.out.size))); clear hS hz hb hk hbb))
              obtain ⟨g14, hg14⟩ : ∃ g, Y2.heap.size = g := ⟨_, rfl⟩
              rw [hg14] at HK14 ⊢
              have hzi : ∀ W, (zeroValue 24).run Try.prog W = .ok (idv zeroId) W := zero_idv
              go_upto_region 23 with (first
                | (guard_target = wpList _ _ _ (Oper.mk _ (.load 58 _) _ _ _ _ :: _) _ _; refine wpList_load_runS (by rfl) 58 _ rfl (.pointer (some ⟨g13, 0, none⟩)) (key2 (t : Int) (q : Int)) rfl (load_key2 HK3.out) ?_)
                | (guard_target = wpList _ _ _ (Oper.mk _ (.lookup _ _ _ true) _ _ _ _ :: _) _ _; refine wpList_lookupOk_V rfl _ _ _ rfl 58 24 two_law Try.underlying55 (hzi _) S (48 * j + 4 * t + 2 * q) T rfl (HT1.out _ HY3.out) (key2 (t : Int) (q : Int)) rfl HKEY.out ?_; rw [HW1.out, HD1.out])
                | (guard_target = wpList _ _ _ (Oper.mk _ (.store 24 _ _) _ _ _ _ :: _) _ _; refine wpList_store_idv rfl _ _ rfl Y3.heap.size w1 rfl rfl HWO.out 24 _ (Blk.newAt _ _ rfl rfl) rfl ?_; intro Wq hS hz hb hk; have HK16 := Lib.hid hS; have hbb := ((Below.refl _ Y3).alloc (Nat.le_refl _) (.cells (idC zeroId) 24)).trans hb; have HKP := Lib.hid (HK3.out.below hbb HK3.out.lt); have HKI := Lib.hid (HK14.out.below hbb HK14.out.lt); have HBQ := Lib.hid (HY3.out.trans (hbb.mono (hg13 ▸ HY3.out.size))); clear hS hz hb hk hbb))
              obtain ⟨g16, hg16⟩ : ∃ g, Y3.heap.size = g := ⟨_, rfl⟩
              rw [hg16] at HK16 ⊢
              have HSQ := Lib.hid (HPQ.out.kept (hg13 ▸ HBQ.out))
              have HUQ := Lib.hid fun W (hb : Below Wq.heap.size Wq W) => HU1.out W (HBQ.out.trans (hb.mono (hg13 ▸ HBQ.out.size)))
              have HAQ := Lib.hid fun W (hb : Below Wq.heap.size Wq W) => HAL.out W (HBQ.out.trans (hb.mono (hg13 ▸ HBQ.out.size)))
              have hbX : Below Wq.heap.size Wq Wq.drew := (Below.refl _ _).drew
              have hzn : ∀ W, (zeroValue 3).run Try.prog W = .ok (.int .i64 0) W := fun W => by kernel_rfl
              have HGS : Hid (S + 1 < g13) := Lib.hid (by have := HPQ.out.own; omega)
              cases d1 with
              | false =>
                refine wp_region_held_drew (S := fun W' => Below Wq.heap.size Wq W') (by kernel_rfl) ?_ (fun hHeld => ?_)
                · exact hbX
                refine wpAnyH_take (i := 0) (oi := ⟨some 77, _, _, _, _, _⟩) (v := ?_) rfl (by kernel_rfl) (by kernel_rfl) (by kernel_rfl) (fun _ _ _ h => h) (Or.inl ⟨by rfl, ?_⟩) (by assumption) ?_
                rotate_left
                · intro w hSw; (try dsimp only at hSw); go_simp; try (with_reducible rfl)
                rotate_left 0
                try simp only [Act.put, List.setIfInBounds_toArray, List.set_cons_zero, List.set_cons_succ]
                refine wpAnyH_take (i := 1) (oi := ⟨some 78, _, _, _, _, _⟩) (v := ?_) rfl (by kernel_rfl) (by kernel_rfl) (by kernel_rfl) (fun _ _ _ h => h) (Or.inl ⟨by rfl, ?_⟩) (by assumption) ?_
                rotate_left
                · intro w hSw; (try dsimp only at hSw); go_simp; try (with_reducible rfl)
                rotate_left 0
                try simp only [Act.put, List.setIfInBounds_toArray, List.set_cons_zero, List.set_cons_succ]
                refine wpAnyH_take (i := 2) (oi := ⟨some 79, _, _, _, _, _⟩) (v := undef) rfl (by kernel_rfl) (by kernel_rfl) (by kernel_rfl) (fun _ _ _ h => h) (Or.inr ⟨by rfl, rfl⟩) (by assumption) ?_
                try simp only [Act.put, List.setIfInBounds_toArray, List.set_cons_zero, List.set_cons_succ]
                refine wpAnyH_take (i := 3) (oi := ⟨some 80, _, _, _, _, _⟩) (v := undef) rfl (by kernel_rfl) (by kernel_rfl) (by kernel_rfl) (fun _ _ _ h => h) (Or.inr ⟨by rfl, rfl⟩) (by assumption) ?_
                try simp only [Act.put, List.setIfInBounds_toArray, List.set_cons_zero, List.set_cons_succ]
                refine wpAnyH_take (i := 4) (oi := ⟨some 81, _, _, _, _, _⟩) (v := undef) rfl (by kernel_rfl) (by kernel_rfl) (by kernel_rfl) (fun _ _ _ h => h) (Or.inr ⟨by rfl, rfl⟩) (by assumption) ?_
                try simp only [Act.put, List.setIfInBounds_toArray, List.set_cons_zero, List.set_cons_succ]
                refine wpAnyH_take (i := 5) (oi := ⟨some 82, _, _, _, _, _⟩) (v := undef) rfl (by kernel_rfl) (by kernel_rfl) (by kernel_rfl) (fun _ _ _ h => h) (Or.inr ⟨by rfl, rfl⟩) (by assumption) ?_
                try simp only [Act.put, List.setIfInBounds_toArray, List.set_cons_zero, List.set_cons_succ]
                refine wpAnyH_take (i := 6) (oi := ⟨some 83, _, _, _, _, _⟩) (v := undef) rfl (by kernel_rfl) (by kernel_rfl) (by kernel_rfl) (fun _ _ _ h => h) (Or.inr ⟨by rfl, rfl⟩) (by assumption) ?_
                try simp only [Act.put, List.setIfInBounds_toArray, List.set_cons_zero, List.set_cons_succ]
                refine wpAnyH_take (i := 7) (oi := ⟨some 84, _, _, _, _, _⟩) (v := undef) rfl (by kernel_rfl) (by kernel_rfl) (by kernel_rfl) (fun _ _ _ h => h) (Or.inr ⟨by rfl, rfl⟩) (by assumption) ?_
                try simp only [Act.put, List.setIfInBounds_toArray, List.set_cons_zero, List.set_cons_succ]
                refine wpAnyH_take (i := 8) (oi := ⟨some 85, _, _, _, _, _⟩) (v := undef) rfl (by kernel_rfl) (by kernel_rfl) (by kernel_rfl) (fun _ _ _ h => h) (Or.inr ⟨by rfl, rfl⟩) (by assumption) ?_
                try simp only [Act.put, List.setIfInBounds_toArray, List.set_cons_zero, List.set_cons_succ]
                refine wpAnyH_take (i := 9) (oi := ⟨some 86, _, _, _, _, _⟩) (v := ?_) rfl (by kernel_rfl) (by kernel_rfl) (by kernel_rfl) (fun _ _ _ h => h) (Or.inl ⟨by rfl, ?_⟩) (by assumption) ?_
                rotate_left
                · intro w hSw; (try dsimp only at hSw); go_simp; try (with_reducible rfl)
                rotate_left 0
                try simp only [Act.put, List.setIfInBounds_toArray, List.set_cons_zero, List.set_cons_succ]
                refine wpAnyH_take (i := 10) (oi := ⟨some 87, _, _, _, _, _⟩) (v := ?_) rfl (by kernel_rfl) (by kernel_rfl) (by kernel_rfl) (fun _ _ _ h => h) (Or.inl ⟨by rfl, ?_⟩) (by assumption) ?_
                rotate_left
                · intro w hSw; (try dsimp only at hSw); go_simp; try (with_reducible rfl)
                rotate_left 0
                try simp only [Act.put, List.setIfInBounds_toArray, List.set_cons_zero, List.set_cons_succ]
                refine wpAnyH_take (i := 11) (oi := ⟨some 88, _, _, _, _, _⟩) (v := ?_) rfl (by kernel_rfl) (by kernel_rfl) (by kernel_rfl) (fun _ _ _ h => h) (Or.inl ⟨by rfl, ?_⟩) (by assumption) ?_
                rotate_left
                · intro w hSw; (try dsimp only at hSw); go_simp; try (with_reducible rfl)
                rotate_left 0
                try simp only [Act.put, List.setIfInBounds_toArray, List.set_cons_zero, List.set_cons_succ]
                refine wpAnyH_take (i := 12) (oi := ⟨some 89, _, _, _, _, _⟩) (v := ?_) rfl (by kernel_rfl) (by kernel_rfl) (by kernel_rfl) (fun _ _ _ h => h) (Or.inl ⟨by rfl, ?_⟩) (by assumption) ?_
                rotate_left
                · intro w hSw; (try dsimp only at hSw); go_simp; try (with_reducible rfl)
                rotate_left 0
                try simp only [Act.put, List.setIfInBounds_toArray, List.set_cons_zero, List.set_cons_succ]
                refine wpAnyH_take (i := 13) (oi := ⟨some 90, _, _, _, _, _⟩) (v := ?_) rfl (by kernel_rfl) (by kernel_rfl) (by kernel_rfl) (fun _ _ _ h => h) (Or.inl ⟨by rfl, ?_⟩) (by assumption) ?_
                rotate_left
                · intro w hSw; (try dsimp only at hSw); go_simp; try (with_reducible rfl)
                rotate_left 0
                try simp only [Act.put, List.setIfInBounds_toArray, List.set_cons_zero, List.set_cons_succ]
                refine wpAnyH_take (i := 15) (oi := ⟨some 92, _, _, _, _, _⟩) (v := ?_) rfl (by kernel_rfl) (by kernel_rfl) (by kernel_rfl) (fun _ _ _ h => h) (Or.inl ⟨by rfl, ?_⟩) (by assumption) ?_
                rotate_left
                · intro w hSw; (try dsimp only at hSw); go_simp; try (with_reducible rfl)
                rotate_left 0
                try simp only [Act.put, List.setIfInBounds_toArray, List.set_cons_zero, List.set_cons_succ]
                refine wpAnyH_take (i := 16) (oi := ⟨some 93, _, _, _, _, _⟩) (v := (key2 (t : Int) (q : Int))) rfl (by kernel_rfl) (by kernel_rfl) (by kernel_rfl) (fun _ _ _ h => h) (yields_runM (by rfl) 58 _ rfl (.pointer (some ⟨g13, 0, none⟩)) _ rfl (fun W' hS => load_key2 (HKP.out.below hS HKP.out.lt))) (by assumption) ?_
                try simp only [Act.put, List.setIfInBounds_toArray, List.set_cons_zero, List.set_cons_succ]
                refine wpAnyH_take (i := 17) (oi := ⟨some 94, _, _, _, _, _⟩) (v := (.int .i64 (p1 : Int))) rfl (by kernel_rfl) (by kernel_rfl) (by kernel_rfl) (fun _ _ _ h => h) (yields_look (by rfl) _ _ _ rfl 58 3 two_law Try.underlying56 hzn (S + 1) (48 * j + 4 * t + 2 * q) U rfl (fun W' hS => HUQ.out W' hS) (key2 (t : Int) (q : Int)) rfl HKEY.out _ HP1.out) (by assumption) ?_
                try simp only [Act.put, List.setIfInBounds_toArray, List.set_cons_zero, List.set_cons_succ]
                refine wpAnyH_ready (rs := [14]) (by kernel_rfl) (by simp) ?_
                refine (AllReadyH.cons (o := ⟨some 91, _, _, _, _, _⟩) rfl (fun K hK => ?_) AllReadyH.nil)
                (try rw [if_pos (by rfl)])
                go_simp
                refine (HAQ.out _ hbX).mono ?_
                rintro e Wn ⟨rfl, hbn⟩
                replace hbX := hbX.trans (hbn.mono hbX.size)
                clear hbn
                try dsimp only
                refine hK.out _ _ (hbX) (fun hHeld => ?_)
                clear hK K
                try simp only [Act.put, List.setIfInBounds_toArray, List.set_cons_zero, List.set_cons_succ]
                refine wpAnyH_take (i := 18) (oi := ⟨some 95, _, _, _, _, _⟩) (v := (.bool false)) rfl (by kernel_rfl) (by kernel_rfl) (by kernel_rfl) (fun _ _ _ h => h) (yields_cmp (by rfl) .lss 3 _ _ _ rfl (.int .i64 (a1 : Int)) (.int .i64 (p1 : Int)) rfl rfl _ (fun _ => rfl) (int_lssF _ _ (by omega))) (by assumption) ?_
                try simp only [Act.put, List.setIfInBounds_toArray, List.set_cons_zero, List.set_cons_succ]
                refine wpAnyH_take (i := 19) (oi := ⟨some 96, _, _, _, _, _⟩) (v := ?_) rfl (by kernel_rfl) (by kernel_rfl) (by kernel_rfl) (fun _ _ _ h => h) (Or.inl ⟨by rfl, ?_⟩) (by assumption) ?_
                rotate_left
                · intro w hSw; (try dsimp only at hSw); go_simp; try (with_reducible rfl)
                rotate_left 0
                try simp only [Act.put, List.setIfInBounds_toArray, List.set_cons_zero, List.set_cons_succ]
                refine wpAnyH_take (i := 20) (oi := ⟨some 97, _, _, _, _, _⟩) (v := ?_) rfl (by kernel_rfl) (by kernel_rfl) (by kernel_rfl) (fun _ _ _ h => h) (Or.inl ⟨by rfl, ?_⟩) (by assumption) ?_
                rotate_left
                · intro w hSw; (try dsimp only at hSw); go_simp; try (with_reducible rfl)
                rotate_left 0
                try simp only [Act.put, List.setIfInBounds_toArray, List.set_cons_zero, List.set_cons_succ]
                refine wpAnyH_take (i := 21) (oi := ⟨some 98, _, _, _, _, _⟩) (v := ?_) rfl (by kernel_rfl) (by kernel_rfl) (by kernel_rfl) (fun _ _ _ h => h) (Or.inl ⟨by rfl, ?_⟩) (by assumption) ?_
                rotate_left
                · intro w hSw; (try dsimp only at hSw); go_simp; try (with_reducible rfl)
                rotate_left 0
                try simp only [Act.put, List.setIfInBounds_toArray, List.set_cons_zero, List.set_cons_succ]
                refine wpAnyH_take (i := 22) (oi := ⟨some 99, _, _, _, _, _⟩) (v := ?_) rfl (by kernel_rfl) (by kernel_rfl) (by kernel_rfl) (fun _ _ _ h => h) (Or.inl ⟨by rfl, ?_⟩) (by assumption) ?_
                rotate_left
                · intro w hSw; (try dsimp only at hSw); go_simp; try (with_reducible rfl)
                rotate_left 0
                try simp only [Act.put, List.setIfInBounds_toArray, List.set_cons_zero, List.set_cons_succ]
                refine wpAnyH_take (i := 23) (oi := ⟨some 100, _, _, _, _, _⟩) (v := ?_) rfl (by kernel_rfl) (by kernel_rfl) (by kernel_rfl) (fun _ _ _ h => h) (Or.inl ⟨by rfl, ?_⟩) (by assumption) ?_
                rotate_left
                · intro w hSw; (try dsimp only at hSw); go_simp; try (with_reducible rfl)
                rotate_left 0
                try simp only [Act.put, List.setIfInBounds_toArray, List.set_cons_zero, List.set_cons_succ]
                refine wpAnyH_take (i := 25) (oi := ⟨some 102, _, _, _, _, _⟩) (v := ?_) rfl (by kernel_rfl) (by kernel_rfl) (by kernel_rfl) (fun _ _ _ h => h) (Or.inl ⟨by rfl, ?_⟩) (by assumption) ?_
                rotate_left
                · intro w hSw; (try dsimp only at hSw); go_simp; try (with_reducible rfl)
                rotate_left 0
                try simp only [Act.put, List.setIfInBounds_toArray, List.set_cons_zero, List.set_cons_succ]
                refine wpAnyH_ready (rs := [24]) (by kernel_rfl) (by simp) ?_
                refine (AllReadyH.cons (o := ⟨some 101, _, _, _, _, _⟩) rfl (fun K hK => ?_) AllReadyH.nil)
                (try rw [if_pos (by rfl)])
                go_simp
                refine (HAQ.out _ hbX).mono ?_
                rintro e Wn ⟨rfl, hbn⟩
                replace hbX := hbX.trans (hbn.mono hbX.size)
                clear hbn
                try dsimp only
                refine hK.out _ _ (hbX) (fun hHeld => ?_)
                clear hK K
                try simp only [Act.put, List.setIfInBounds_toArray, List.set_cons_zero, List.set_cons_succ]
                refine wpAnyH_take (i := 26) (oi := ⟨some 103, _, _, _, _, _⟩) (v := (.bool false)) rfl (by kernel_rfl) (by kernel_rfl) (by kernel_rfl) (fun _ _ _ h => h) (yields_cmp (by rfl) .gtr 3 _ _ _ rfl (.int .i64 (a1 : Int)) (.int .i64 (N : Int)) rfl rfl _ (fun _ => rfl) (int_gtrF _ _ (by omega))) (by assumption) ?_
                try simp only [Act.put, List.setIfInBounds_toArray, List.set_cons_zero, List.set_cons_succ]
                refine wpAnyH_take (i := 27) (oi := ⟨some 104, _, _, _, _, _⟩) (v := ?_) rfl (by kernel_rfl) (by kernel_rfl) (by kernel_rfl) (fun _ _ _ h => h) (Or.inl ⟨by rfl, ?_⟩) (by assumption) ?_
                rotate_left
                · intro w hSw; (try dsimp only at hSw); go_simp; try (with_reducible rfl)
                rotate_left 0
                try simp only [Act.put, List.setIfInBounds_toArray, List.set_cons_zero, List.set_cons_succ]
                refine wpAnyH_done (by kernel_rfl) ?_ _
                go_upto_region 25 with fail
                cases b1 with
                | false =>
                  have HS3 := Lib.hid ((HSQ.out.kept hbX).mono (show (48 * j + 4 * t + 2 * q) ≤ (48 * j + 4 * t + 2 * q) + 1 by omega))
                  have HKZ := Lib.hid (HKP.out.below hbX HKP.out.lt)
                  go_upto_region 27 with fail
                  obtain ⟨Wz, hWz⟩ : ∃ z, z = Wn := ⟨_, rfl⟩
                  subst hWz
                  have HAZ := Lib.hid fun W (hb : Below Wz.heap.size Wz W) => all_any ((HS3.out.kept hb).count) (t : Int) (q : Int) HRI.out.1 HRI.out.2 (by have := H7.out; omega)
                  rw [HA1.out] at HAZ
                  refine wp_region_held_drew (S := fun W' => Blk W' g13 58 #[.int .i64 (t : Int), .int .i64 (q : Int)]) (by kernel_rfl) ?_ (fun hHeld => ?_)
                  · exact HKZ.out.below (Below.refl _ _).drew HKZ.out.lt
                  refine wpAnyH_take (i := 0) (oi := ⟨some 109, _, _, _, _, _⟩) (v := ?_) rfl (by kernel_rfl) (by kernel_rfl) (by kernel_rfl) (fun _ _ _ h => h) (Or.inl ⟨by rfl, ?_⟩) (by assumption) ?_
                  rotate_left
                  · intro w hSw; (try dsimp only at hSw); go_simp; try (with_reducible rfl)
                  rotate_left 0
                  try simp only [Act.put, List.setIfInBounds_toArray, List.set_cons_zero, List.set_cons_succ]
                  refine wpAnyH_take (i := 1) (oi := ⟨some 110, _, _, _, _, _⟩) (v := (key2 (t : Int) (q : Int))) rfl (by kernel_rfl) (by kernel_rfl) (by kernel_rfl) (fun _ _ _ h => h) (yields_runM (by rfl) 58 _ rfl (.pointer (some ⟨g13, 0, none⟩)) _ rfl (fun W' hS => load_key2 hS)) (by assumption) ?_
                  try simp only [Act.put, List.setIfInBounds_toArray, List.set_cons_zero, List.set_cons_succ]
                  refine wpAnyH_take (i := 2) (oi := ⟨some 111, _, _, _, _, _⟩) (v := ?_) rfl (by kernel_rfl) (by kernel_rfl) (by kernel_rfl) (fun _ _ _ h => h) (Or.inl ⟨by rfl, ?_⟩) (by assumption) ?_
                  rotate_left
                  · intro w hSw; (try dsimp only at hSw); go_simp; try (with_reducible rfl)
                  rotate_left 0
                  try simp only [Act.put, List.setIfInBounds_toArray, List.set_cons_zero, List.set_cons_succ]
                  refine wpAnyH_take (i := 3) (oi := ⟨some 112, _, _, _, _, _⟩) (v := ?_) rfl (by kernel_rfl) (by kernel_rfl) (by kernel_rfl) (fun _ _ _ h => h) (Or.inl ⟨by rfl, ?_⟩) (by assumption) ?_
                  rotate_left
                  · intro w hSw; (try dsimp only at hSw); go_simp; try (with_reducible rfl)
                  rotate_left 0
                  try simp only [Act.put, List.setIfInBounds_toArray, List.set_cons_zero, List.set_cons_succ]
                  refine wpAnyH_take (i := 4) (oi := ⟨some 113, _, _, _, _, _⟩) (v := ?_) rfl (by kernel_rfl) (by kernel_rfl) (by kernel_rfl) (fun _ _ _ h => h) (Or.inl ⟨by rfl, ?_⟩) (by assumption) ?_
                  rotate_left
                  · intro w hSw; (try dsimp only at hSw); go_simp; try (with_reducible rfl)
                  rotate_left 0
                  try simp only [Act.put, List.setIfInBounds_toArray, List.set_cons_zero, List.set_cons_succ]
                  refine wpAnyH_ready (rs := [5]) (by kernel_rfl) (by simp) ?_
                  refine (AllReadyH.cons (o := ⟨some 114, _, _, _, _, _⟩) rfl (fun K hK => ?_) AllReadyH.nil)
                  (try rw [if_pos (by rfl)])
                  go_simp
                  refine (HAZ.out _ (Below.refl _ _).drew).mono ?_
                  rintro e Wm ⟨rfl, hbm⟩
                  have hb4 := (Below.refl _ Wz).drew.trans (hbm.mono (Nat.le_refl _))
                  have HS4 := Lib.hid (HS3.out.kept hb4)
                  have hkS4 : Blk Wm g13 58 #[.int .i64 (t : Int), .int .i64 (q : Int)] := HKZ.out.below hb4 HKZ.out.lt
                  clear hbm hb4
                  try dsimp only
                  refine hK.out _ _ (by first | exact hkS5 | exact hkS4) (fun hHeld => ?_)
                  clear hK K
                  try simp only [Act.put, List.setIfInBounds_toArray, List.set_cons_zero, List.set_cons_succ]
                  refine wpAnyH_ready (rs := [6]) (by kernel_rfl) (by simp) ?_
                  refine (AllReadyH.cons (o := ⟨none, _, _, _, _, _⟩) rfl (fun K hK => ?_) AllReadyH.nil)
                  (try rw [if_pos (by rfl)])
                  obtain ⟨U', hU1', hU2'⟩ := HS4.out.all
                  refine oper_store_V _ _ _ _ rfl 58 3 two_law Try.underlying56 (S + 1) ((48 * j + 4 * t + 2 * q) + 1) U' rfl hU1' (by unfold maxLen; have := HTL.out; have := HQL.out; omega) (key2 (t : Int) (q : Int)) (.int .i64 (a1 : Int)) rfl rfl HKEY.out ?_
                  intro W5 hm5 ht5
                  have HS5 := Lib.hid (HS4.out.alled hm5 (by rw [← HA1.out]; exact hU2'.put _ _) ht5)
                  have hkS5 : Blk W5 g13 58 #[.int .i64 (t : Int), .int .i64 (q : Int)] := blk_turned ht5 (by have := HGS.out; omega) hkS4
                  try dsimp only
                  refine hK.out _ _ (by first | exact hkS5 | exact hkS4) (fun hHeld => ?_)
                  clear hK K
                  try simp only [Act.put]
                  refine wpAnyH_done (by kernel_rfl) ?_ _
                  go_wp2_with fail
                  go_roundw
                  case rel => exact ⟨q + 1, by have := HQL.out; omega, by go_num, HS5.out.mono (by omega)⟩
                  case measure => simp [intOf]; omega
                | true =>
                  have HS2 := Lib.hid (HSQ.out.kept hbX)
                  have HK5 := Lib.hid (HKP.out.below hbX HKP.out.lt)
                  have HI5 := Lib.hid (HKI.out.below hbX HKI.out.lt)
                  go_upto_region 27 with (first
                    | (guard_target = wpList _ _ _ (Oper.mk _ (.load 58 _) _ _ _ _ :: _) _ _; refine wpList_load_runS (by rfl) 58 _ rfl (.pointer (some ⟨g13, 0, none⟩)) (key2 (t : Int) (q : Int)) rfl (load_key2 HK5.out) ?_)
                    | (guard_target = wpList _ _ _ (Oper.mk _ (.load 24 _) _ _ _ _ :: _) _ _; refine wpList_load_idv rfl _ rfl g14 o1 rfl HOO.out 24 HI5.out ?_)
                    | (guard_target = wpList _ _ _ (Oper.mk _ (.mapUpdate _ _ _ _) _ _ _ _ :: _) _ _; refine wpList_store_V rfl _ _ _ _ rfl 58 24 two_law Try.underlying55 S (48 * j + 4 * t + 2 * q) T rfl (HT1.out _ (HBQ.out.trans (hbX.mono (hg13 ▸ HBQ.out.size)))) (by unfold maxLen; have := HTL.out; have := HQL.out; omega) (key2 (t : Int) (q : Int)) (idv o1) rfl rfl HKEY.out ?_; intro W6 hm6 ht6; have HS3 := Lib.hid (HS2.out.sured hm6 (HT2.out.put (HSO.out rfl)) ht6); have HKZ := Lib.hid (blk_turned ht6 (show g13 ≠ S by have := HGS.out; omega) HK5.out); clear hm6 ht6))
                  obtain ⟨Wz, hWz⟩ : ∃ z, z = W6 := ⟨_, rfl⟩
                  subst hWz
                  have HAZ := Lib.hid fun W (hb : Below Wz.heap.size Wz W) => all_any ((HS3.out.kept hb).count) (t : Int) (q : Int) HRI.out.1 HRI.out.2 (by have := H7.out; omega)
                  rw [HA1.out] at HAZ
                  refine wp_region_held_drew (S := fun W' => Blk W' g13 58 #[.int .i64 (t : Int), .int .i64 (q : Int)]) (by kernel_rfl) ?_ (fun hHeld => ?_)
                  · exact HKZ.out.below (Below.refl _ _).drew HKZ.out.lt
                  refine wpAnyH_take (i := 0) (oi := ⟨some 109, _, _, _, _, _⟩) (v := ?_) rfl (by kernel_rfl) (by kernel_rfl) (by kernel_rfl) (fun _ _ _ h => h) (Or.inl ⟨by rfl, ?_⟩) (by assumption) ?_
                  rotate_left
                  · intro w hSw; (try dsimp only at hSw); go_simp; try (with_reducible rfl)
                  rotate_left 0
                  try simp only [Act.put, List.setIfInBounds_toArray, List.set_cons_zero, List.set_cons_succ]
                  refine wpAnyH_take (i := 1) (oi := ⟨some 110, _, _, _, _, _⟩) (v := (key2 (t : Int) (q : Int))) rfl (by kernel_rfl) (by kernel_rfl) (by kernel_rfl) (fun _ _ _ h => h) (yields_runM (by rfl) 58 _ rfl (.pointer (some ⟨g13, 0, none⟩)) _ rfl (fun W' hS => load_key2 hS)) (by assumption) ?_
                  try simp only [Act.put, List.setIfInBounds_toArray, List.set_cons_zero, List.set_cons_succ]
                  refine wpAnyH_take (i := 2) (oi := ⟨some 111, _, _, _, _, _⟩) (v := ?_) rfl (by kernel_rfl) (by kernel_rfl) (by kernel_rfl) (fun _ _ _ h => h) (Or.inl ⟨by rfl, ?_⟩) (by assumption) ?_
                  rotate_left
                  · intro w hSw; (try dsimp only at hSw); go_simp; try (with_reducible rfl)
                  rotate_left 0
                  try simp only [Act.put, List.setIfInBounds_toArray, List.set_cons_zero, List.set_cons_succ]
                  refine wpAnyH_take (i := 3) (oi := ⟨some 112, _, _, _, _, _⟩) (v := ?_) rfl (by kernel_rfl) (by kernel_rfl) (by kernel_rfl) (fun _ _ _ h => h) (Or.inl ⟨by rfl, ?_⟩) (by assumption) ?_
                  rotate_left
                  · intro w hSw; (try dsimp only at hSw); go_simp; try (with_reducible rfl)
                  rotate_left 0
                  try simp only [Act.put, List.setIfInBounds_toArray, List.set_cons_zero, List.set_cons_succ]
                  refine wpAnyH_take (i := 4) (oi := ⟨some 113, _, _, _, _, _⟩) (v := ?_) rfl (by kernel_rfl) (by kernel_rfl) (by kernel_rfl) (fun _ _ _ h => h) (Or.inl ⟨by rfl, ?_⟩) (by assumption) ?_
                  rotate_left
                  · intro w hSw; (try dsimp only at hSw); go_simp; try (with_reducible rfl)
                  rotate_left 0
                  try simp only [Act.put, List.setIfInBounds_toArray, List.set_cons_zero, List.set_cons_succ]
                  refine wpAnyH_ready (rs := [5]) (by kernel_rfl) (by simp) ?_
                  refine (AllReadyH.cons (o := ⟨some 114, _, _, _, _, _⟩) rfl (fun K hK => ?_) AllReadyH.nil)
                  (try rw [if_pos (by rfl)])
                  go_simp
                  refine (HAZ.out _ (Below.refl _ _).drew).mono ?_
                  rintro e Wm ⟨rfl, hbm⟩
                  have hb4 := (Below.refl _ Wz).drew.trans (hbm.mono (Nat.le_refl _))
                  have HS4 := Lib.hid (HS3.out.kept hb4)
                  have hkS4 : Blk Wm g13 58 #[.int .i64 (t : Int), .int .i64 (q : Int)] := HKZ.out.below hb4 HKZ.out.lt
                  clear hbm hb4
                  try dsimp only
                  refine hK.out _ _ (by first | exact hkS5 | exact hkS4) (fun hHeld => ?_)
                  clear hK K
                  try simp only [Act.put, List.setIfInBounds_toArray, List.set_cons_zero, List.set_cons_succ]
                  refine wpAnyH_ready (rs := [6]) (by kernel_rfl) (by simp) ?_
                  refine (AllReadyH.cons (o := ⟨none, _, _, _, _, _⟩) rfl (fun K hK => ?_) AllReadyH.nil)
                  (try rw [if_pos (by rfl)])
                  obtain ⟨U', hU1', hU2'⟩ := HS4.out.all
                  refine oper_store_V _ _ _ _ rfl 58 3 two_law Try.underlying56 (S + 1) ((48 * j + 4 * t + 2 * q) + 1) U' rfl hU1' (by unfold maxLen; have := HTL.out; have := HQL.out; omega) (key2 (t : Int) (q : Int)) (.int .i64 (a1 : Int)) rfl rfl HKEY.out ?_
                  intro W5 hm5 ht5
                  have HS5 := Lib.hid (HS4.out.alled hm5 (by rw [← HA1.out]; exact hU2'.put _ _) ht5)
                  have hkS5 : Blk W5 g13 58 #[.int .i64 (t : Int), .int .i64 (q : Int)] := blk_turned ht5 (by have := HGS.out; omega) hkS4
                  try dsimp only
                  refine hK.out _ _ (by first | exact hkS5 | exact hkS4) (fun hHeld => ?_)
                  clear hK K
                  try simp only [Act.put]
                  refine wpAnyH_done (by kernel_rfl) ?_ _
                  go_wp2_with fail
                  go_roundw
                  case rel => exact ⟨q + 1, by have := HQL.out; omega, by go_num, HS5.out.mono (by omega)⟩
                  case measure => simp [intOf]; omega
              | true =>
                obtain ⟨rfl, rfl⟩ := HCS.out rfl
                have hne := fun W => neq_idv HOO.out HOO.out W
                have hge := fun y' z' W => guardn_idv y' z' w1 w1 W
                simp only [beq_self_eq_true, Bool.not_true] at hne
                refine wp_region_held_drew (S := fun W' => Below Wq.heap.size Wq W') (by kernel_rfl) ?_ (fun hHeld => ?_)
                · exact hbX
                refine wpAnyH_take (i := 0) (oi := ⟨some 77, _, _, _, _, _⟩) (v := ?_) rfl (by kernel_rfl) (by kernel_rfl) (by kernel_rfl) (fun _ _ _ h => h) (Or.inl ⟨by rfl, ?_⟩) (by assumption) ?_
                rotate_left
                · intro w hSw; (try dsimp only at hSw); go_simp; try (with_reducible rfl)
                rotate_left 0
                try simp only [Act.put, List.setIfInBounds_toArray, List.set_cons_zero, List.set_cons_succ]
                refine wpAnyH_take (i := 1) (oi := ⟨some 78, _, _, _, _, _⟩) (v := ?_) rfl (by kernel_rfl) (by kernel_rfl) (by kernel_rfl) (fun _ _ _ h => h) (Or.inl ⟨by rfl, ?_⟩) (by assumption) ?_
                rotate_left
                · intro w hSw; (try dsimp only at hSw); go_simp; try (with_reducible rfl)
                rotate_left 0
                try simp only [Act.put, List.setIfInBounds_toArray, List.set_cons_zero, List.set_cons_succ]
                refine wpAnyH_take (i := 2) (oi := ⟨some 79, _, _, _, _, _⟩) (v := ?_) rfl (by kernel_rfl) (by kernel_rfl) (by kernel_rfl) (fun _ _ _ h => h) (Or.inl ⟨by rfl, ?_⟩) (by assumption) ?_
                rotate_left
                · intro w hSw; (try dsimp only at hSw); go_simp; try (with_reducible rfl)
                rotate_left 0
                try simp only [Act.put, List.setIfInBounds_toArray, List.set_cons_zero, List.set_cons_succ]
                refine wpAnyH_take (i := 3) (oi := ⟨some 80, _, _, _, _, _⟩) (v := ?_) rfl (by kernel_rfl) (by kernel_rfl) (by kernel_rfl) (fun _ _ _ h => h) (Or.inl ⟨by rfl, ?_⟩) (by assumption) ?_
                rotate_left
                · intro w hSw; (try dsimp only at hSw); go_simp; try (with_reducible rfl)
                rotate_left 0
                try simp only [Act.put, List.setIfInBounds_toArray, List.set_cons_zero, List.set_cons_succ]
                refine wpAnyH_take (i := 4) (oi := ⟨some 81, _, _, _, _, _⟩) (v := ?_) rfl (by kernel_rfl) (by kernel_rfl) (by kernel_rfl) (fun _ _ _ h => h) (Or.inl ⟨by rfl, ?_⟩) (by assumption) ?_
                rotate_left
                · intro w hSw; (try dsimp only at hSw); go_simp; try (with_reducible rfl)
                rotate_left 0
                try simp only [Act.put, List.setIfInBounds_toArray, List.set_cons_zero, List.set_cons_succ]
                refine wpAnyH_take (i := 5) (oi := ⟨some 82, _, _, _, _, _⟩) (v := (idv w1)) rfl (by kernel_rfl) (by kernel_rfl) (by kernel_rfl) (fun _ _ _ h => h) (yields_idv (by rfl) _ rfl g14 rfl 24 w1 HOO.out (fun W' hS => HKI.out.below hS HKI.out.lt)) (by assumption) ?_
                try simp only [Act.put, List.setIfInBounds_toArray, List.set_cons_zero, List.set_cons_succ]
                refine wpAnyH_take (i := 6) (oi := ⟨some 83, _, _, _, _, _⟩) (v := (idv w1)) rfl (by kernel_rfl) (by kernel_rfl) (by kernel_rfl) (fun _ _ _ h => h) (yields_idv (by rfl) _ rfl g16 rfl 24 w1 HOO.out (fun W' hS => HK16.out.below hS HK16.out.lt)) (by assumption) ?_
                try simp only [Act.put, List.setIfInBounds_toArray, List.set_cons_zero, List.set_cons_succ]
                refine wpAnyH_take (i := 7) (oi := ⟨some 84, _, _, _, _, _⟩) (v := ?_) rfl (by kernel_rfl) (by kernel_rfl) (by kernel_rfl) (fun _ _ _ h => h) (Or.inl ⟨by rfl, ?_⟩) (by assumption) ?_
                rotate_left
                · intro w hSw; (try dsimp only at hSw); go_simp; try (with_reducible rfl)
                rotate_left 0
                try simp only [Act.put, List.setIfInBounds_toArray, List.set_cons_zero, List.set_cons_succ]
                refine wpAnyH_take (i := 8) (oi := ⟨some 85, _, _, _, _, _⟩) (v := ?_) rfl (by kernel_rfl) (by kernel_rfl) (by kernel_rfl) (fun _ _ _ h => h) (Or.inl ⟨by rfl, ?_⟩) (by assumption) ?_
                rotate_left
                · intro w hSw; (try dsimp only at hSw); go_simp; try (with_reducible rfl)
                rotate_left 0
                try simp only [Act.put, List.setIfInBounds_toArray, List.set_cons_zero, List.set_cons_succ]
                refine wpAnyH_take (i := 9) (oi := ⟨some 86, _, _, _, _, _⟩) (v := ?_) rfl (by kernel_rfl) (by kernel_rfl) (by kernel_rfl) (fun _ _ _ h => h) (Or.inl ⟨by rfl, ?_⟩) (by assumption) ?_
                rotate_left
                · intro w hSw; (try dsimp only at hSw); go_simp; try (with_reducible rfl)
                rotate_left 0
                try simp only [Act.put, List.setIfInBounds_toArray, List.set_cons_zero, List.set_cons_succ]
                refine wpAnyH_take (i := 10) (oi := ⟨some 87, _, _, _, _, _⟩) (v := ?_) rfl (by kernel_rfl) (by kernel_rfl) (by kernel_rfl) (fun _ _ _ h => h) (Or.inl ⟨by rfl, ?_⟩) (by assumption) ?_
                rotate_left
                · intro w hSw; (try dsimp only at hSw); go_simp; try (with_reducible rfl)
                rotate_left 0
                try simp only [Act.put, List.setIfInBounds_toArray, List.set_cons_zero, List.set_cons_succ]
                refine wpAnyH_take (i := 11) (oi := ⟨some 88, _, _, _, _, _⟩) (v := ?_) rfl (by kernel_rfl) (by kernel_rfl) (by kernel_rfl) (fun _ _ _ h => h) (Or.inl ⟨by rfl, ?_⟩) (by assumption) ?_
                rotate_left
                · intro w hSw; (try dsimp only at hSw); go_simp; try (with_reducible rfl)
                rotate_left 0
                try simp only [Act.put, List.setIfInBounds_toArray, List.set_cons_zero, List.set_cons_succ]
                refine wpAnyH_take (i := 12) (oi := ⟨some 89, _, _, _, _, _⟩) (v := ?_) rfl (by kernel_rfl) (by kernel_rfl) (by kernel_rfl) (fun _ _ _ h => h) (Or.inl ⟨by rfl, ?_⟩) (by assumption) ?_
                rotate_left
                · intro w hSw; (try dsimp only at hSw); go_simp; try (with_reducible rfl)
                rotate_left 0
                try simp only [Act.put, List.setIfInBounds_toArray, List.set_cons_zero, List.set_cons_succ]
                refine wpAnyH_take (i := 13) (oi := ⟨some 90, _, _, _, _, _⟩) (v := ?_) rfl (by kernel_rfl) (by kernel_rfl) (by kernel_rfl) (fun _ _ _ h => h) (Or.inl ⟨by rfl, ?_⟩) (by assumption) ?_
                rotate_left
                · intro w hSw; (try dsimp only at hSw); go_simp; try (with_reducible rfl)
                rotate_left 0
                try simp only [Act.put, List.setIfInBounds_toArray, List.set_cons_zero, List.set_cons_succ]
                refine wpAnyH_take (i := 15) (oi := ⟨some 92, _, _, _, _, _⟩) (v := ?_) rfl (by kernel_rfl) (by kernel_rfl) (by kernel_rfl) (fun _ _ _ h => h) (Or.inl ⟨by rfl, ?_⟩) (by assumption) ?_
                rotate_left
                · intro w hSw; (try dsimp only at hSw); go_simp; try (with_reducible rfl)
                rotate_left 0
                try simp only [Act.put, List.setIfInBounds_toArray, List.set_cons_zero, List.set_cons_succ]
                refine wpAnyH_take (i := 16) (oi := ⟨some 93, _, _, _, _, _⟩) (v := (key2 (t : Int) (q : Int))) rfl (by kernel_rfl) (by kernel_rfl) (by kernel_rfl) (fun _ _ _ h => h) (yields_runM (by rfl) 58 _ rfl (.pointer (some ⟨g13, 0, none⟩)) _ rfl (fun W' hS => load_key2 (HKP.out.below hS HKP.out.lt))) (by assumption) ?_
                try simp only [Act.put, List.setIfInBounds_toArray, List.set_cons_zero, List.set_cons_succ]
                refine wpAnyH_take (i := 17) (oi := ⟨some 94, _, _, _, _, _⟩) (v := (.int .i64 (p1 : Int))) rfl (by kernel_rfl) (by kernel_rfl) (by kernel_rfl) (fun _ _ _ h => h) (yields_look (by rfl) _ _ _ rfl 58 3 two_law Try.underlying56 hzn (S + 1) (48 * j + 4 * t + 2 * q) U rfl (fun W' hS => HUQ.out W' hS) (key2 (t : Int) (q : Int)) rfl HKEY.out _ HP1.out) (by assumption) ?_
                try simp only [Act.put, List.setIfInBounds_toArray, List.set_cons_zero, List.set_cons_succ]
                refine wpAnyH_ready (rs := [14]) (by kernel_rfl) (by simp) ?_
                refine (AllReadyH.cons (o := ⟨some 91, _, _, _, _, _⟩) rfl (fun K hK => ?_) AllReadyH.nil)
                (try rw [if_pos (by rfl)])
                go_simp
                refine (HAQ.out _ hbX).mono ?_
                rintro e Wn ⟨rfl, hbn⟩
                replace hbX := hbX.trans (hbn.mono hbX.size)
                clear hbn
                try dsimp only
                refine hK.out _ _ (hbX) (fun hHeld => ?_)
                clear hK K
                try simp only [Act.put, List.setIfInBounds_toArray, List.set_cons_zero, List.set_cons_succ]
                refine wpAnyH_take (i := 18) (oi := ⟨some 95, _, _, _, _, _⟩) (v := (.bool false)) rfl (by kernel_rfl) (by kernel_rfl) (by kernel_rfl) (fun _ _ _ h => h) (yields_cmp (by rfl) .lss 3 _ _ _ rfl (.int .i64 (a1 : Int)) (.int .i64 (p1 : Int)) rfl rfl _ (fun _ => rfl) (int_lssF _ _ (by omega))) (by assumption) ?_
                try simp only [Act.put, List.setIfInBounds_toArray, List.set_cons_zero, List.set_cons_succ]
                refine wpAnyH_take (i := 19) (oi := ⟨some 96, _, _, _, _, _⟩) (v := ?_) rfl (by kernel_rfl) (by kernel_rfl) (by kernel_rfl) (fun _ _ _ h => h) (Or.inl ⟨by rfl, ?_⟩) (by assumption) ?_
                rotate_left
                · intro w hSw; (try dsimp only at hSw); go_simp; try (with_reducible rfl)
                rotate_left 0
                try simp only [Act.put, List.setIfInBounds_toArray, List.set_cons_zero, List.set_cons_succ]
                refine wpAnyH_take (i := 20) (oi := ⟨some 97, _, _, _, _, _⟩) (v := ?_) rfl (by kernel_rfl) (by kernel_rfl) (by kernel_rfl) (fun _ _ _ h => h) (Or.inl ⟨by rfl, ?_⟩) (by assumption) ?_
                rotate_left
                · intro w hSw; (try dsimp only at hSw); go_simp; try (with_reducible rfl)
                rotate_left 0
                try simp only [Act.put, List.setIfInBounds_toArray, List.set_cons_zero, List.set_cons_succ]
                refine wpAnyH_take (i := 21) (oi := ⟨some 98, _, _, _, _, _⟩) (v := ?_) rfl (by kernel_rfl) (by kernel_rfl) (by kernel_rfl) (fun _ _ _ h => h) (Or.inl ⟨by rfl, ?_⟩) (by assumption) ?_
                rotate_left
                · intro w hSw; (try dsimp only at hSw); go_simp; try (with_reducible rfl)
                rotate_left 0
                try simp only [Act.put, List.setIfInBounds_toArray, List.set_cons_zero, List.set_cons_succ]
                refine wpAnyH_take (i := 22) (oi := ⟨some 99, _, _, _, _, _⟩) (v := ?_) rfl (by kernel_rfl) (by kernel_rfl) (by kernel_rfl) (fun _ _ _ h => h) (Or.inl ⟨by rfl, ?_⟩) (by assumption) ?_
                rotate_left
                · intro w hSw; (try dsimp only at hSw); go_simp; try (with_reducible rfl)
                rotate_left 0
                try simp only [Act.put, List.setIfInBounds_toArray, List.set_cons_zero, List.set_cons_succ]
                refine wpAnyH_take (i := 23) (oi := ⟨some 100, _, _, _, _, _⟩) (v := ?_) rfl (by kernel_rfl) (by kernel_rfl) (by kernel_rfl) (fun _ _ _ h => h) (Or.inl ⟨by rfl, ?_⟩) (by assumption) ?_
                rotate_left
                · intro w hSw; (try dsimp only at hSw); go_simp; try (with_reducible rfl)
                rotate_left 0
                try simp only [Act.put, List.setIfInBounds_toArray, List.set_cons_zero, List.set_cons_succ]
                refine wpAnyH_take (i := 25) (oi := ⟨some 102, _, _, _, _, _⟩) (v := ?_) rfl (by kernel_rfl) (by kernel_rfl) (by kernel_rfl) (fun _ _ _ h => h) (Or.inl ⟨by rfl, ?_⟩) (by assumption) ?_
                rotate_left
                · intro w hSw; (try dsimp only at hSw); go_simp; try (with_reducible rfl)
                rotate_left 0
                try simp only [Act.put, List.setIfInBounds_toArray, List.set_cons_zero, List.set_cons_succ]
                refine wpAnyH_ready (rs := [24]) (by kernel_rfl) (by simp) ?_
                refine (AllReadyH.cons (o := ⟨some 101, _, _, _, _, _⟩) rfl (fun K hK => ?_) AllReadyH.nil)
                (try rw [if_pos (by rfl)])
                go_simp
                refine (HAQ.out _ hbX).mono ?_
                rintro e Wn ⟨rfl, hbn⟩
                replace hbX := hbX.trans (hbn.mono hbX.size)
                clear hbn
                try dsimp only
                refine hK.out _ _ (hbX) (fun hHeld => ?_)
                clear hK K
                try simp only [Act.put, List.setIfInBounds_toArray, List.set_cons_zero, List.set_cons_succ]
                refine wpAnyH_take (i := 26) (oi := ⟨some 103, _, _, _, _, _⟩) (v := (.bool false)) rfl (by kernel_rfl) (by kernel_rfl) (by kernel_rfl) (fun _ _ _ h => h) (yields_cmp (by rfl) .gtr 3 _ _ _ rfl (.int .i64 (a1 : Int)) (.int .i64 (N : Int)) rfl rfl _ (fun _ => rfl) (int_gtrF _ _ (by omega))) (by assumption) ?_
                try simp only [Act.put, List.setIfInBounds_toArray, List.set_cons_zero, List.set_cons_succ]
                refine wpAnyH_take (i := 27) (oi := ⟨some 104, _, _, _, _, _⟩) (v := ?_) rfl (by kernel_rfl) (by kernel_rfl) (by kernel_rfl) (fun _ _ _ h => h) (Or.inl ⟨by rfl, ?_⟩) (by assumption) ?_
                rotate_left
                · intro w hSw; (try dsimp only at hSw); go_simp; try (with_reducible rfl)
                rotate_left 0
                try simp only [Act.put, List.setIfInBounds_toArray, List.set_cons_zero, List.set_cons_succ]
                refine wpAnyH_done (by kernel_rfl) ?_ _
                go_upto_region 25 with fail
                have HS2 := Lib.hid (HSQ.out.kept hbX)
                have HK5 := Lib.hid (HKP.out.below hbX HKP.out.lt)
                have HI5 := Lib.hid (HKI.out.below hbX HKI.out.lt)
                go_upto_region 27 with (first
                  | (guard_target = wpList _ _ _ (Oper.mk _ (.load 58 _) _ _ _ _ :: _) _ _; refine wpList_load_runS (by rfl) 58 _ rfl (.pointer (some ⟨g13, 0, none⟩)) (key2 (t : Int) (q : Int)) rfl (load_key2 HK5.out) ?_)
                  | (guard_target = wpList _ _ _ (Oper.mk _ (.load 24 _) _ _ _ _ :: _) _ _; refine wpList_load_idv rfl _ rfl g14 w1 rfl HOO.out 24 HI5.out ?_)
                  | (guard_target = wpList _ _ _ (Oper.mk _ (.mapUpdate _ _ _ _) _ _ _ _ :: _) _ _; refine wpList_store_V rfl _ _ _ _ rfl 58 24 two_law Try.underlying55 S (48 * j + 4 * t + 2 * q) T rfl (HT1.out _ (HBQ.out.trans (hbX.mono (hg13 ▸ HBQ.out.size)))) (by unfold maxLen; have := HTL.out; have := HQL.out; omega) (key2 (t : Int) (q : Int)) (idv w1) rfl rfl HKEY.out ?_; intro W6 hm6 ht6; have HS3 := Lib.hid (HS2.out.sured hm6 (HT2.out.put (HSO.out rfl)) ht6); have HKZ := Lib.hid (blk_turned ht6 (show g13 ≠ S by have := HGS.out; omega) HK5.out); clear hm6 ht6))
                obtain ⟨Wz, hWz⟩ : ∃ z, z = W6 := ⟨_, rfl⟩
                subst hWz
                have HAZ := Lib.hid fun W (hb : Below Wz.heap.size Wz W) => all_any ((HS3.out.kept hb).count) (t : Int) (q : Int) HRI.out.1 HRI.out.2 (by have := H7.out; omega)
                rw [HA1.out] at HAZ
                refine wp_region_held_drew (S := fun W' => Blk W' g13 58 #[.int .i64 (t : Int), .int .i64 (q : Int)]) (by kernel_rfl) ?_ (fun hHeld => ?_)
                · exact HKZ.out.below (Below.refl _ _).drew HKZ.out.lt
                refine wpAnyH_take (i := 0) (oi := ⟨some 109, _, _, _, _, _⟩) (v := ?_) rfl (by kernel_rfl) (by kernel_rfl) (by kernel_rfl) (fun _ _ _ h => h) (Or.inl ⟨by rfl, ?_⟩) (by assumption) ?_
                rotate_left
                · intro w hSw; (try dsimp only at hSw); go_simp; try (with_reducible rfl)
                rotate_left 0
                try simp only [Act.put, List.setIfInBounds_toArray, List.set_cons_zero, List.set_cons_succ]
                refine wpAnyH_take (i := 1) (oi := ⟨some 110, _, _, _, _, _⟩) (v := (key2 (t : Int) (q : Int))) rfl (by kernel_rfl) (by kernel_rfl) (by kernel_rfl) (fun _ _ _ h => h) (yields_runM (by rfl) 58 _ rfl (.pointer (some ⟨g13, 0, none⟩)) _ rfl (fun W' hS => load_key2 hS)) (by assumption) ?_
                try simp only [Act.put, List.setIfInBounds_toArray, List.set_cons_zero, List.set_cons_succ]
                refine wpAnyH_take (i := 2) (oi := ⟨some 111, _, _, _, _, _⟩) (v := ?_) rfl (by kernel_rfl) (by kernel_rfl) (by kernel_rfl) (fun _ _ _ h => h) (Or.inl ⟨by rfl, ?_⟩) (by assumption) ?_
                rotate_left
                · intro w hSw; (try dsimp only at hSw); go_simp; try (with_reducible rfl)
                rotate_left 0
                try simp only [Act.put, List.setIfInBounds_toArray, List.set_cons_zero, List.set_cons_succ]
                refine wpAnyH_take (i := 3) (oi := ⟨some 112, _, _, _, _, _⟩) (v := ?_) rfl (by kernel_rfl) (by kernel_rfl) (by kernel_rfl) (fun _ _ _ h => h) (Or.inl ⟨by rfl, ?_⟩) (by assumption) ?_
                rotate_left
                · intro w hSw; (try dsimp only at hSw); go_simp; try (with_reducible rfl)
                rotate_left 0
                try simp only [Act.put, List.setIfInBounds_toArray, List.set_cons_zero, List.set_cons_succ]
                refine wpAnyH_take (i := 4) (oi := ⟨some 113, _, _, _, _, _⟩) (v := ?_) rfl (by kernel_rfl) (by kernel_rfl) (by kernel_rfl) (fun _ _ _ h => h) (Or.inl ⟨by rfl, ?_⟩) (by assumption) ?_
                rotate_left
                · intro w hSw; (try dsimp only at hSw); go_simp; try (with_reducible rfl)
                rotate_left 0
                try simp only [Act.put, List.setIfInBounds_toArray, List.set_cons_zero, List.set_cons_succ]
                refine wpAnyH_ready (rs := [5]) (by kernel_rfl) (by simp) ?_
                refine (AllReadyH.cons (o := ⟨some 114, _, _, _, _, _⟩) rfl (fun K hK => ?_) AllReadyH.nil)
                (try rw [if_pos (by rfl)])
                go_simp
                refine (HAZ.out _ (Below.refl _ _).drew).mono ?_
                rintro e Wm ⟨rfl, hbm⟩
                have hb4 := (Below.refl _ Wz).drew.trans (hbm.mono (Nat.le_refl _))
                have HS4 := Lib.hid (HS3.out.kept hb4)
                have hkS4 : Blk Wm g13 58 #[.int .i64 (t : Int), .int .i64 (q : Int)] := HKZ.out.below hb4 HKZ.out.lt
                clear hbm hb4
                try dsimp only
                refine hK.out _ _ (by first | exact hkS5 | exact hkS4) (fun hHeld => ?_)
                clear hK K
                try simp only [Act.put, List.setIfInBounds_toArray, List.set_cons_zero, List.set_cons_succ]
                refine wpAnyH_ready (rs := [6]) (by kernel_rfl) (by simp) ?_
                refine (AllReadyH.cons (o := ⟨none, _, _, _, _, _⟩) rfl (fun K hK => ?_) AllReadyH.nil)
                (try rw [if_pos (by rfl)])
                obtain ⟨U', hU1', hU2'⟩ := HS4.out.all
                refine oper_store_V _ _ _ _ rfl 58 3 two_law Try.underlying56 (S + 1) ((48 * j + 4 * t + 2 * q) + 1) U' rfl hU1' (by unfold maxLen; have := HTL.out; have := HQL.out; omega) (key2 (t : Int) (q : Int)) (.int .i64 (a1 : Int)) rfl rfl HKEY.out ?_
                intro W5 hm5 ht5
                have HS5 := Lib.hid (HS4.out.alled hm5 (by rw [← HA1.out]; exact hU2'.put _ _) ht5)
                have hkS5 : Blk W5 g13 58 #[.int .i64 (t : Int), .int .i64 (q : Int)] := blk_turned ht5 (by have := HGS.out; omega) hkS4
                try dsimp only
                refine hK.out _ _ (by first | exact hkS5 | exact hkS4) (fun hHeld => ?_)
                clear hK K
                try simp only [Act.put]
                refine wpAnyH_done (by kernel_rfl) ?_ _
                go_wp2_with fail
                go_roundw
                case rel => exact ⟨q + 1, by have := HQL.out; omega, by go_num, HS5.out.mono (by omega)⟩
                case measure => simp [intOf]; omega
            · obtain rfl : q = 2 := by omega
              clear hql hq
              go_wp2_with fail
              go_roundw
              case rel => exact ⟨t + 1, by have := HTL.out; omega, by go_num, HPQ.out.mono (by omega)⟩
              case measure => simp [intOf]; omega
        · obtain rfl : t = 12 := by omega
          clear htl ht
          go_wp2_with fail
          go_roundw
          case rel => exact ⟨j + 1, V', by omega, by go_num, HPT.out.mono (by omega)⟩
          case measure => simp [intOf]; omega
    · obtain rfl : j = m := by omega
      have hkn : ¬ (j : Int) < (j : Int) := by omega
      go_wp2_with fail
      go_ret
      exact ⟨rfl, HB1.out.trans (HPJ.out.below.mono HB1.out.size)⟩
theorem countstays_law (n : Int) (v : Value) (l : List VoteT) (w : World) (hr : RdW w w.heap.size v l) : Calls Try.prog 6 #[.int .i64 n, v] w fun e w' => e = .returned (.bool true) ∧ Below w.heap.size w w' := by
  obtain ⟨_, A, c, rfl, _, hlen, _⟩ := id hr
  by_cases hm : l.length ≤ 60
  · by_cases hn : faults n < 0
    · exact countstays_low n hn A l.length c w
    · obtain ⟨N, rfl⟩ := Int.eq_ofNat_of_zero_le (show 0 ≤ n by rcases faults_cases (n := n) (by omega) with ⟨h, _⟩ | ⟨h, _⟩ | ⟨h, _⟩ <;> omega)
      exact countstays_high N (by omega) (by rcases faults_cases (n := (N : Int)) (by omega) with ⟨h, _⟩ | ⟨h, _⟩ | ⟨h, _⟩ <;> omega) A l.length c l hm w hr rfl
  · exact countstays_long n A l.length c (by omega) (by omega) w
end Go.Proofs.Ytpjeildiahklpaa
