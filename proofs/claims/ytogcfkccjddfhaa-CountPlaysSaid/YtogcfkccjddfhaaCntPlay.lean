/-
  CountPlays: walked. No condition.
-/
import Derived.Test.YtogcfkccjddfhaaCntRefQ
namespace Go.Proofs.Ytogcfkccjddfhaa
open Go Go.RowKit Go.Maps

set_option maxRecDepth 100000 in
set_option maxHeartbeats 4000000 in
theorem countplays_long (n : Int) (A : Option Addr) (m c : Nat) (x : VoteT) (hm : 200 < m) (hm2 : m ≤ 2513169434916) (w : World) : Calls Try.prog 3 #[.int .i64 n, .slice A m c, .agg (voteA x)] w fun e w' => e = .returned (.bool true) ∧ Below w.heap.size w w' := by
  obtain ⟨W0, hW⟩ : ∃ W0, w.alloc (.cells (voteA x) 26) = W0 := ⟨_, rfl⟩
  have HB0 : Hid (Below w.heap.size w W0) := Lib.hid (by rw [← hW]; exact (Below.refl _ _).alloc (Nat.le_refl _) _)
  have hmi : (200 : Int) < (m : Int) := by omega
  go_enter Try.func3, Try.ntmps3
  go_wp2_with (first
    | (go_at_call 15; refine (counts_any _).mono ?_; rintro e W1 ⟨rfl, hb1⟩; have HB := Lib.hid (HB0.out.trans (hb1.mono HB0.out.size)); clear hb1))
  go_ret
  exact ⟨rfl, HB.out⟩
set_option maxRecDepth 100000 in
set_option maxHeartbeats 4000000 in
theorem countplays_low (n : Int) (hn : faults n < 0) (A : Option Addr) (m c : Nat) (x : VoteT) (hm : m ≤ 200) (w : World) : Calls Try.prog 3 #[.int .i64 n, .slice A m c, .agg (voteA x)] w fun e w' => e = .returned (.bool true) ∧ Below w.heap.size w w' := by
  obtain ⟨W0, hW⟩ : ∃ W0, w.alloc (.cells (voteA x) 26) = W0 := ⟨_, rfl⟩
  have HB0 : Hid (Below w.heap.size w W0) := Lib.hid (by rw [← hW]; exact (Below.refl _ _).alloc (Nat.le_refl _) _)
  have hmi : ¬ (200 : Int) < (m : Int) := by omega
  have HN := Lib.hid fun W => new_none n W hn
  have HR := Lib.hid fun W => reffaults_any n W
  have HF := Lib.hid fun W => faults_any n W
  generalize faults n = f at HN HR HF hn
  go_enter Try.func3, Try.ntmps3
  go_wp2_with (first
    | (go_at_call 15; refine (counts_any _).mono ?_; rintro e W1 ⟨rfl, hb1⟩; have HB := Lib.hid (HB0.out.trans (hb1.mono HB0.out.size)); clear hb1)
    | (go_at_call 16; refine (HN.out _).mono ?_; rintro e W2 ⟨rfl, h2⟩; obtain rfl := h2.symm)
    | (go_at_call 17; refine (HR.out _).mono ?_; rintro e W3 ⟨rfl, h3⟩; obtain rfl := h3.symm)
    | (go_at_call 18; refine (HF.out _).mono ?_; rintro e W4 ⟨rfl, h4⟩; obtain rfl := h4.symm))
  go_ret
  exact ⟨by simp, HB.out⟩
/-- A row of votes stays where the count's map turns. -/
theorem RdW.turned {W W' : World} {Bc M n : Nat} {N : Int} {V : Vt} {v : Value} {l : List VoteT} (h : RdW W W.heap.size v l) (hc : CountAt W Bc M n N V) (hg : W.grownBy W' (some M)) : RdW W' W'.heap.size v l := by
  obtain ⟨h0, A, c, h1, h2, h3, h4⟩ := h
  refine ⟨h0, A, c, h1, h2, h3, fun hl => ?_⟩
  obtain ⟨ad, q1, q2, q3⟩ := h4 hl
  have hne : ad.block ≠ M := by
    intro e
    obtain ⟨x, hx⟩ : ∃ x, l[0]? = some x := ⟨_, List.getElem?_eq_getElem hl⟩
    have h5 := q3 0 x hx 0 (by omega)
    have hlen := voteC_length (h0 x (List.mem_of_getElem? hx))
    rw [List.getElem?_eq_getElem (by omega)] at h5
    obtain ⟨_, ⟨T, ⟨D, ⟨es, c', h6, _⟩, _⟩, _⟩, _⟩ := hc
    unfold World.cell? at h5
    rw [block_add, e, h6] at h5
    cases h5
  refine ⟨ad, q1, Nat.lt_of_lt_of_le q2 hg.size, fun k x hk i hi => ?_⟩
  rw [← q3 k x hk i hi]
  unfold World.cell?
  rw [block_add, hg.block _ q2 (fun e => hne (Option.some.inj e))]
/-- What holds between two votes. -/
structure PlayR (W1 : World) (g0 B M : Nat) (N : Int) (x : VoteT) (j : Nat) (v9 : Value) (L : List VoteT) (W : World) : Prop where
  count : CountAt W B M j N (vtOf L)
  row : RdW W W.heap.size v9 L
  good : GoodL N L
  len : L.length ≤ j
  below : Below W1.heap.size W1 W
  own : W1.heap.size ≤ M
theorem PlayR.kept {W1 : World} {g0 B M : Nat} {N : Int} {x : VoteT} {j : Nat} {v9 : Value} {L : List VoteT} {W W' : World} (h : PlayR W1 g0 B M N x j v9 L W) (hb : Below W.heap.size W W') : PlayR W1 g0 B M N x j v9 L W' :=
  ⟨h.count.below hb, (h.row.old hb).mono hb.size, h.good, h.len, h.below.trans (hb.mono h.below.size), h.own⟩
set_option maxRecDepth 100000 in
set_option maxHeartbeats 8000000 in
theorem countplays_high (N : Nat) (hN : 0 ≤ faults (N : Int)) (h7 : N ≤ 7) (A : Option Addr) (m c : Nat) (l : List VoteT) (x : VoteT) (hx : VoteOk x) (hm : m ≤ 200) (w : World) (hr : RdW w w.heap.size (.slice A m c) l) (hl : l.length = m) : Calls Try.prog 3 #[.int .i64 N, .slice A m c, .agg (voteA x)] w fun e w' => e = .returned (.bool true) ∧ Below w.heap.size w w' := by
  obtain ⟨W0, hW⟩ : ∃ W0, w.alloc (.cells (voteA x) 26) = W0 := ⟨_, rfl⟩
  have hb0 : Below w.heap.size w W0 := by rw [← hW]; exact (Below.refl _ _).alloc (Nat.le_refl _) _
  have k0 : Blk W0 w.heap.size 26 (voteA x) := by rw [← hW]; exact Blk.new _ _ _
  have HB0 := Lib.hid hb0
  have HK0 := Lib.hid k0
  have hmi : ¬ (200 : Int) < (m : Int) := by omega
  have HN := Lib.hid fun W => new_some (N : Int) W hN
  have HR := Lib.hid fun W => reffaults_any (N : Int) W
  have HF := Lib.hid fun W => faults_any (N : Int) W
  have HD := Lib.hid fun W => need_any (N : Int) W
  have hnd : need (N : Int) = 2 * faults (N : Int) + 1 := by unfold need; omega
  have hf2 := faults_le (N : Int)
  have HN0 := Lib.hid hN
  obtain ⟨f, hf⟩ : ∃ f, faults (N : Int) = f := ⟨_, rfl⟩
  rw [hnd, hf] at HD
  rw [hf] at HR HF hN hf2
  have HRW := Lib.hid hr
  have HL := Lib.hid hl
  have HXO := Lib.hid hx
  have hfn : ¬ f < 0 := by omega
  clear hb0 k0 hnd hf hr hl hx
  go_enter Try.func3, Try.ntmps3
  go_upto_region 12 with (first
    | (go_at_call 15; refine (counts_any _).mono ?_; rintro e W1 ⟨rfl, hb1⟩; have HK1 := Lib.hid (HK0.out.below hb1 HK0.out.lt); have HB1 := Lib.hid (HB0.out.trans (hb1.mono HB0.out.size)); clear hb1)
    | (go_at_call 16; refine (HN.out _).mono ?_; rintro e W2 ⟨rfl, hc2, hb2⟩; have HC2 := Lib.hid hc2; have HB2 := Lib.hid hb2; clear hc2 hb2)
    | (go_at_call 17; refine (HR.out _).mono ?_; rintro e W3 ⟨rfl, h3⟩; obtain rfl := h3.symm)
    | (go_at_call 18; refine (HF.out _).mono ?_; rintro e W4 ⟨rfl, h4⟩; obtain rfl := h4.symm)
    | (go_at_call 19; refine (HD.out _).mono ?_; rintro e W5 ⟨rfl, h5⟩; obtain rfl := h5.symm))
  have hP : PlayR W1 w.heap.size (W1.heap.size + 1) W1.heap.size N x 0 (.slice none 0 0) [] W2 := ⟨HC2.out, ⟨by simp, none, 0, rfl, Nat.le_refl _, by simp, fun h => by simp at h⟩, good_nil _, Nat.le_refl _, HB2.out, Nat.le_refl _⟩
  have HP := Lib.hid hP
  clear hP
  go_loopw [9, 72] (fun s9 s72 wr => ∃ (j : Nat) (L : List VoteT), j ≤ m ∧ s72 = .int .i64 (j : Int) ∧ PlayR W1 w.heap.size (W1.heap.size + 1) W1.heap.size N x j s9 L wr) (fun _ s72 _ => m - (intOf s72).toNat)
  case atStart => exact ⟨0, [], Nat.zero_le _, rfl, HP.out⟩
  case round =>
    obtain ⟨j, L, hj, rfl, hp⟩ := hrel
    have HPJ := Lib.hid hp
    clear hp
    by_cases hlt : j < m
    · have hkn : (j : Int) < (m : Int) := by omega
      have hk0 : (0 : Int) ≤ (j : Int) := by omega
      obtain ⟨y, hy⟩ : ∃ y, l[j]? = some y := ⟨_, List.getElem?_eq_getElem (by rw [HL.out]; exact hlt)⟩
      obtain ⟨ad, c', he, hok, _, hld⟩ := HRW.out.here hy
      rw [HL.out] at he
      obtain ⟨rfl, -, rfl⟩ := Value.slice.inj he
      have HOK := Lib.hid hok
      have HLD := Lib.hid hld
      have HBW := Lib.hid (HB1.out.trans (HPJ.out.below.mono HB1.out.size))
      clear hy he hok hld
      go_upto_region 14 with (first
        | (guard_target = wpList _ _ _ (Oper.mk _ (.load 26 _) _ _ _ _ :: _) _ _; refine wpList_load_vote (by rfl) _ rfl (ad.add (j * 35)) y rfl (HLD.out _ HBW.out) ?_)
        | (guard_target = wpList _ _ _ (Oper.mk _ (.store 26 _ _) _ _ _ _ :: _) _ _; refine wpList_store_vote rfl _ _ rfl wr.heap.size y rfl rfl HOK.out 26 _ (Blk.newAt _ _ rfl rfl) rfl ?_; intro W9 hS9 hz9 hb9 hk9; have HS9 := Lib.hid hS9; have HB9 := Lib.hid (((Below.refl _ wr).alloc (Nat.le_refl _) _).trans hb9); clear hS9 hz9 hb9 hk9))
      have HP9 := Lib.hid (HPJ.out.kept HB9.out)
      have hld9 : (Instr.loadAt 26 (.pointer (some ⟨wr.heap.size, 0, none⟩))).run Try.prog W9 = .ok (.agg (voteA y)) W9 := run_loadVar_row W9 wr.heap.size 26 26 (voteA y) (0, 0) _ HS9.out Try.underlying26 rfl (by rw [voteA_size HOK.out]; exact vote_info)
      have HL9 := Lib.hid hld9
      clear hld9
      go_upto_region 15 with (first
        | (guard_target = wpList _ _ _ (Oper.mk _ (.load 26 _) _ _ _ _ :: _) _ _; refine wpList_load_vote (by rfl) _ rfl ⟨wr.heap.size, 0, none⟩ y rfl HL9.out ?_)
        | (go_at_call 20; refine (refput_any _ L y HOK.out W9 HP9.out.row HP9.out.good (by have := HP9.out.len; omega)).mono ?_; rintro e W10 ⟨v', L', rfl, hr', hv', hg', hl', hb10⟩; have HQ := Lib.hid (And.intro hr' (And.intro hv' (And.intro hg' hl'))); have HB10 := Lib.hid hb10; clear hr' hv' hg' hl' hb10))
      obtain ⟨c0, c1, c2, c3⟩ := vote_cells (HS9.out.below HB10.out HS9.out.lt) HOK.out
      have HC3 := Lib.hid c3
      have HPU := Lib.hid (put_any (HP9.out.count.below HB10.out) y.r y.k y.s y.id HOK.out.id HOK.out.r HOK.out.k HOK.out.s (by unfold maxLen; omega))
      obtain ⟨pc, hpc⟩ : ∃ pc, putCode (N : Int) (vtOf L) y.r y.k y.s y.id = pc := ⟨_, rfl⟩
      rw [hpc] at HPU ⊢
      clear c3 hpc
      go_wp2_with (first
        | (guard_target = wpList _ _ _ (Oper.mk _ (.load 24 _) _ _ _ _ :: _) _ _; refine wpList_load_runS (by rfl) 24 _ rfl _ _ rfl HC3.out ?_)
        | (go_at_call 21; refine HPU.out.mono ?_; rintro e W11 ⟨rfl, hc11, hg11⟩; have HC11 := Lib.hid hc11; have HG11 := Lib.hid hg11; clear hc11 hg11))
      go_roundw
      case rel =>
        have hb3 : Below W1.heap.size W1 W10 := HP9.out.below.trans (HB10.out.mono HP9.out.below.size)
        refine ⟨j + 1, L', by omega, by go_num, ?_, ?_, HQ.out.2.2.1, by have := HQ.out.2.2.2; have := HP9.out.len; omega, hb3.trans (below_of_grown HG11.out (Nat.le_refl _) hb3.size), Nat.le_refl _⟩
        · rw [HQ.out.2.1]
          exact HC11.out
        · exact HQ.out.1.turned (HP9.out.count.below HB10.out) HG11.out
      case measure => simp [intOf]; omega
    · obtain rfl : j = m := by omega
      have hkn : ¬ (j : Int) < (j : Int) := by omega
      obtain ⟨wz, hwz⟩ : ∃ z, z = wr := ⟨_, rfl⟩
      subst hwz
      obtain ⟨V, hV⟩ : ∃ V, vtOf L = V := ⟨_, rfl⟩
      have HCT : Hid (∀ W, Below wz.heap.size wz W → CountAt W (W1.heap.size + 1) W1.heap.size j N V) := Lib.hid fun W hb => by
        rw [← hV]
        exact HPJ.out.count.below hb
      have HRT := Lib.hid fun (W : World) (hb : Below wz.heap.size wz W) => (HPJ.out.kept hb).row
      have HGT := Lib.hid HPJ.out.good
      have HVT := Lib.hid hV
      have HBZ := Lib.hid (HB1.out.trans (HPJ.out.below.mono HB1.out.size))
      have HKZ : Hid (Blk wz w.heap.size 26 (voteA x)) := Lib.hid (HK1.out.below HPJ.out.below HK1.out.lt)
      clear hV
      go_upto_region 20 with fail
      go_loopw [14] (fun s14 wx => ∃ t : Nat, t ≤ 14 ∧ s14 = .int .i64 ((t : Int) - 1) ∧ Below wz.heap.size wz wx) (fun s14 _ => 14 - (intOf s14 + 1).toNat)
      case atStart => exact ⟨0, by omega, by go_num, Below.refl _ _⟩
      case round =>
        obtain ⟨t, ht, rfl, hbt⟩ := hrel
        have HBT := Lib.hid hbt
        clear hbt
        by_cases htl : t < 14
        · obtain ⟨ri, hri⟩ : ∃ ri : Int, (t : Int) - 1 = ri := ⟨_, rfl⟩
          rw [hri]
          have hr1 : -1 ≤ ri := by omega
          have hr2 : ri ≤ 12 := by omega
          have hrn : ri + 1 = ((t + 1 : Nat) : Int) - 1 := by omega
          have HRN := Lib.hid hrn
          have hrw : wfi ri := wfi_small (by omega) (by omega)
          have HRW1 := Lib.hid hrw
          have HTL := Lib.hid htl
          clear hri hrn hrw htl ht
          go_upto_region 23 with fail
          go_loopw [15] (fun s15 wy => ∃ q : Nat, q ≤ 4 ∧ s15 = .int .i64 ((q : Int) - 1) ∧ Below wz.heap.size wz wy) (fun s15 _ => 4 - (intOf s15 + 1).toNat)
          case atStart => exact ⟨0, by omega, by go_num, HBT.out⟩
          case round =>
            obtain ⟨q, hq, rfl, hbq⟩ := hrel
            have HB9 := Lib.hid hbq
            clear hbq
            by_cases hql : q < 4
            · obtain ⟨ki, hki⟩ : ∃ ki : Int, (q : Int) - 1 = ki := ⟨_, rfl⟩
              rw [hki]
              have hk1 : -1 ≤ ki := by omega
              have hk2 : ki ≤ 2 := by omega
              have HKN : Hid (ki + 1 = ((q + 1 : Nat) : Int) - 1) := Lib.hid (by omega)
              have HKW : Hid (wfi ki) := Lib.hid (wfi_small (by omega) (by omega))
              have HQL := Lib.hid hql
              clear hki hql hq
              have HSU := Lib.hid fun W (hb : Below wz.heap.size wz W) => sure_any (HCT.out W hb) ri ki HRW1.out HKW.out (by have := h7; omega)
              have hsr := fun W (hb : Below wz.heap.size wz W) => refsure_v _ L HGT.out HN0.out ri ki W (HRT.out W hb)
              rw [HVT.out] at hsr
              have HSR := Lib.hid hsr
              have hoo : ∀ o, sureO N V ri ki = o → IdOk (o.getD zeroId) := fun o ho => by
                cases o with
                | none => exact zeroId_ok
                | some y =>
                  unfold sureO at ho
                  rw [Option.map_eq_some_iff] at ho
                  obtain ⟨p, hp, rfl⟩ := ho
                  exact ((HCT.out wz (Below.refl _ _)).ids _ _ _ _ (mem_castL.1 (List.mem_of_find?_eq_some hp)).2).1
              have HOO := Lib.hid (hoo _ rfl)
              generalize sureO N V ri ki = o at HSU HSR HOO
              obtain ⟨o1, ho1⟩ : ∃ o1, o.getD zeroId = o1 := ⟨_, rfl⟩
              obtain ⟨b1, hb1⟩ : ∃ b1, o.isSome = b1 := ⟨_, rfl⟩
              rw [ho1] at HOO
              rw [ho1, hb1] at HSU HSR
              clear hsr hoo ho1 hb1
              go_upto_region 26 with (first
                | (go_at_call 22; refine (HSU.out _ HB9.out).mono ?_; rintro e Y2 ⟨rfl, hb2⟩; have HY2 := Lib.hid (HB9.out.trans (hb2.mono HB9.out.size)); clear hb2)
                | (guard_target = wpList _ _ _ (Oper.mk _ (.store 24 _ _) _ _ _ _ :: _) _ _; refine wpList_store_idv rfl _ _ rfl Y2.heap.size o1 rfl rfl HOO.out 24 _ (Blk.newAt _ _ rfl rfl) rfl ?_; intro Y3 hS hz hb hk; have HK3 := Lib.hid hS; have HY3 := Lib.hid (HY2.out.trans ((((Below.refl _ Y2).alloc (Nat.le_refl _) _).trans hb).mono HY2.out.size)); clear hS hz hb hk))
              go_upto_region 27 with (first
                | (go_at_call 23; refine (HSR.out _ HY3.out).mono ?_; rintro e Y4 ⟨rfl, hb4⟩; have HY4 := Lib.hid (HY3.out.trans (hb4.mono HY3.out.size)); have HK4 := Lib.hid (HK3.out.below hb4 HK3.out.lt); clear hb4)
                | (guard_target = wpList _ _ _ (Oper.mk _ (.store 24 _ _) _ _ _ _ :: _) _ _; refine wpList_store_idv rfl _ _ rfl Y4.heap.size o1 rfl rfl HOO.out 24 _ (Blk.newAt _ _ rfl rfl) rfl ?_; intro Wq hS hz hb hk; have HK18 := Lib.hid hS; have HK16 : Hid (Blk Wq Y2.heap.size 24 (idC o1)) := Lib.hid ((hk _ (by have := HK4.out.lt; omega)).trans (HK4.out.alloc _)); have HBQ := Lib.hid (HY4.out.trans ((((Below.refl _ Y4).alloc (Nat.le_refl _) _).trans hb).mono HY4.out.size)); clear hS hz hb hk))
              have HKQ := Lib.hid (HKZ.out.below HBQ.out HKZ.out.lt)
              have HA1 := Lib.hid fun W (hb : Below Wq.heap.size Wq W) => all_any (HCT.out W (HBQ.out.trans (hb.mono HBQ.out.size))) ri ki HRW1.out HKW.out (by have := h7; omega)
              have ha2 := fun W (hb : Below Wq.heap.size Wq W) => refall_v _ L HGT.out ri ki W (HRT.out W (HBQ.out.trans (hb.mono HBQ.out.size)))
              have HA3 := Lib.hid fun W (hb : Below Wq.heap.size Wq W) => forV_any (HCT.out W (HBQ.out.trans (hb.mono HBQ.out.size))) ri ki x.id HRW1.out HKW.out HXO.out.id (by have := h7; omega)
              have ha4 := fun W (hb : Below Wq.heap.size Wq W) => reffor_v _ L HGT.out ri ki x.id HXO.out.id W (HRT.out W (HBQ.out.trans (hb.mono HBQ.out.size)))
              rw [HVT.out] at ha2 ha4
              have HA2 := Lib.hid ha2
              have HA4 := Lib.hid ha4
              generalize allN N V ri ki = a1 at HA1 HA2
              generalize forN N V ri ki x.id = a3 at HA3 HA4
              have hne := fun W => neq_idv HOO.out HOO.out W
              have hge := fun y' z' W => guardn_idv y' z' o1 o1 W
              simp only [beq_self_eq_true, Bool.not_true] at hne
              obtain ⟨b16, hb16⟩ : ∃ b, Y2.heap.size = b := ⟨_, rfl⟩
              obtain ⟨b18, hb18⟩ : ∃ b, Y4.heap.size = b := ⟨_, rfl⟩
              rw [hb16] at HK16 ⊢
              rw [hb18] at HK18 ⊢
              have hbX : Below Wq.heap.size Wq Wq.drew := (Below.refl _ _).drew
              clear ha2 ha4 hb16 hb18
              refine wp_region_held_drew (S := fun W' => Below Wq.heap.size Wq W') (by kernel_rfl) ?_ (fun hHeld => ?_)
              · exact hbX
              refine wpAnyH_take (i := 0) (oi := ⟨some 120, _, _, _, _, _⟩) (v := (idv o1)) rfl (by kernel_rfl) (by kernel_rfl) (by kernel_rfl) (fun _ _ _ h => h) (yields_idv (by rfl) _ rfl b16 rfl 24 o1 HOO.out (fun W' hS => HK16.out.below hS HK16.out.lt)) (by assumption) ?_
              try simp only [Act.put, List.setIfInBounds_toArray, List.set_cons_zero, List.set_cons_succ]
              refine wpAnyH_take (i := 1) (oi := ⟨some 121, _, _, _, _, _⟩) (v := (idv o1)) rfl (by kernel_rfl) (by kernel_rfl) (by kernel_rfl) (fun _ _ _ h => h) (yields_idv (by rfl) _ rfl b18 rfl 24 o1 HOO.out (fun W' hS => HK18.out.below hS HK18.out.lt)) (by assumption) ?_
              try simp only [Act.put, List.setIfInBounds_toArray, List.set_cons_zero, List.set_cons_succ]
              refine wpAnyH_take (i := 2) (oi := ⟨some 122, _, _, _, _, _⟩) (v := ?_) rfl (by kernel_rfl) (by kernel_rfl) (by kernel_rfl) (fun _ _ _ h => h) (Or.inl ⟨by rfl, ?_⟩) (by assumption) ?_
              rotate_left
              · intro w hSw; (try dsimp only at hSw); go_simp; try (with_reducible rfl)
              rotate_left 0
              try simp only [Act.put, List.setIfInBounds_toArray, List.set_cons_zero, List.set_cons_succ]
              refine wpAnyH_take (i := 3) (oi := ⟨some 123, _, _, _, _, _⟩) (v := ?_) rfl (by kernel_rfl) (by kernel_rfl) (by kernel_rfl) (fun _ _ _ h => h) (Or.inl ⟨by rfl, ?_⟩) (by assumption) ?_
              rotate_left
              · intro w hSw; (try dsimp only at hSw); go_simp; try (with_reducible rfl)
              rotate_left 0
              try simp only [Act.put, List.setIfInBounds_toArray, List.set_cons_zero, List.set_cons_succ]
              refine wpAnyH_take (i := 4) (oi := ⟨some 124, _, _, _, _, _⟩) (v := ?_) rfl (by kernel_rfl) (by kernel_rfl) (by kernel_rfl) (fun _ _ _ h => h) (Or.inl ⟨by rfl, ?_⟩) (by assumption) ?_
              rotate_left
              · intro w hSw; (try dsimp only at hSw); go_simp; try (with_reducible rfl)
              rotate_left 0
              try simp only [Act.put, List.setIfInBounds_toArray, List.set_cons_zero, List.set_cons_succ]
              refine wpAnyH_take (i := 5) (oi := ⟨some 125, _, _, _, _, _⟩) (v := ?_) rfl (by kernel_rfl) (by kernel_rfl) (by kernel_rfl) (fun _ _ _ h => h) (Or.inl ⟨by rfl, ?_⟩) (by assumption) ?_
              rotate_left
              · intro w hSw; (try dsimp only at hSw); go_simp; try (with_reducible rfl)
              rotate_left 0
              try simp only [Act.put, List.setIfInBounds_toArray, List.set_cons_zero, List.set_cons_succ]
              refine wpAnyH_take (i := 6) (oi := ⟨some 126, _, _, _, _, _⟩) (v := ?_) rfl (by kernel_rfl) (by kernel_rfl) (by kernel_rfl) (fun _ _ _ h => h) (Or.inl ⟨by rfl, ?_⟩) (by assumption) ?_
              rotate_left
              · intro w hSw; (try dsimp only at hSw); go_simp; try (with_reducible rfl)
              rotate_left 0
              try simp only [Act.put, List.setIfInBounds_toArray, List.set_cons_zero, List.set_cons_succ]
              refine wpAnyH_take (i := 7) (oi := ⟨some 127, _, _, _, _, _⟩) (v := ?_) rfl (by kernel_rfl) (by kernel_rfl) (by kernel_rfl) (fun _ _ _ h => h) (Or.inl ⟨by rfl, ?_⟩) (by assumption) ?_
              rotate_left
              · intro w hSw; (try dsimp only at hSw); go_simp; try (with_reducible rfl)
              rotate_left 0
              try simp only [Act.put, List.setIfInBounds_toArray, List.set_cons_zero, List.set_cons_succ]
              refine wpAnyH_take (i := 8) (oi := ⟨some 128, _, _, _, _, _⟩) (v := ?_) rfl (by kernel_rfl) (by kernel_rfl) (by kernel_rfl) (fun _ _ _ h => h) (Or.inl ⟨by rfl, ?_⟩) (by assumption) ?_
              rotate_left
              · intro w hSw; (try dsimp only at hSw); go_simp; try (with_reducible rfl)
              rotate_left 0
              try simp only [Act.put, List.setIfInBounds_toArray, List.set_cons_zero, List.set_cons_succ]
              refine wpAnyH_take (i := 9) (oi := ⟨some 129, _, _, _, _, _⟩) (v := ?_) rfl (by kernel_rfl) (by kernel_rfl) (by kernel_rfl) (fun _ _ _ h => h) (Or.inl ⟨by rfl, ?_⟩) (by assumption) ?_
              rotate_left
              · intro w hSw; (try dsimp only at hSw); go_simp; try (with_reducible rfl)
              rotate_left 0
              try simp only [Act.put, List.setIfInBounds_toArray, List.set_cons_zero, List.set_cons_succ]
              refine wpAnyH_take (i := 10) (oi := ⟨some 130, _, _, _, _, _⟩) (v := ?_) rfl (by kernel_rfl) (by kernel_rfl) (by kernel_rfl) (fun _ _ _ h => h) (Or.inl ⟨by rfl, ?_⟩) (by assumption) ?_
              rotate_left
              · intro w hSw; (try dsimp only at hSw); go_simp; try (with_reducible rfl)
              rotate_left 0
              try simp only [Act.put, List.setIfInBounds_toArray, List.set_cons_zero, List.set_cons_succ]
              refine wpAnyH_take (i := 11) (oi := ⟨some 131, _, _, _, _, _⟩) (v := ?_) rfl (by kernel_rfl) (by kernel_rfl) (by kernel_rfl) (fun _ _ _ h => h) (Or.inl ⟨by rfl, ?_⟩) (by assumption) ?_
              rotate_left
              · intro w hSw; (try dsimp only at hSw); go_simp; try (with_reducible rfl)
              rotate_left 0
              try simp only [Act.put, List.setIfInBounds_toArray, List.set_cons_zero, List.set_cons_succ]
              refine wpAnyH_take (i := 13) (oi := ⟨some 133, _, _, _, _, _⟩) (v := ?_) rfl (by kernel_rfl) (by kernel_rfl) (by kernel_rfl) (fun _ _ _ h => h) (Or.inl ⟨by rfl, ?_⟩) (by assumption) ?_
              rotate_left
              · intro w hSw; (try dsimp only at hSw); go_simp; try (with_reducible rfl)
              rotate_left 0
              try simp only [Act.put, List.setIfInBounds_toArray, List.set_cons_zero, List.set_cons_succ]
              refine wpAnyH_take (i := 14) (oi := ⟨some 134, _, _, _, _, _⟩) (v := ?_) rfl (by kernel_rfl) (by kernel_rfl) (by kernel_rfl) (fun _ _ _ h => h) (Or.inl ⟨by rfl, ?_⟩) (by assumption) ?_
              rotate_left
              · intro w hSw; (try dsimp only at hSw); go_simp; try (with_reducible rfl)
              rotate_left 0
              try simp only [Act.put, List.setIfInBounds_toArray, List.set_cons_zero, List.set_cons_succ]
              refine wpAnyH_take (i := 15) (oi := ⟨some 135, _, _, _, _, _⟩) (v := ?_) rfl (by kernel_rfl) (by kernel_rfl) (by kernel_rfl) (fun _ _ _ h => h) (Or.inl ⟨by rfl, ?_⟩) (by assumption) ?_
              rotate_left
              · intro w hSw; (try dsimp only at hSw); go_simp; try (with_reducible rfl)
              rotate_left 0
              try simp only [Act.put, List.setIfInBounds_toArray, List.set_cons_zero, List.set_cons_succ]
              refine wpAnyH_ready (rs := [12]) (by kernel_rfl) (by simp) ?_
              refine (AllReadyH.cons (o := ⟨some 132, _, _, _, _, _⟩) rfl (fun K hK => ?_) AllReadyH.nil)
              (try rw [if_pos (by rfl)])
              go_simp
              refine (HA1.out _ hbX).mono ?_
              rintro e Wn ⟨rfl, hbn⟩
              replace hbX := hbX.trans (hbn.mono hbX.size)
              clear hbn
              try dsimp only
              refine hK.out _ _ (hbX) (fun hHeld => ?_)
              clear hK K
              try simp only [Act.put, List.setIfInBounds_toArray, List.set_cons_zero, List.set_cons_succ]
              refine wpAnyH_ready (rs := [16]) (by kernel_rfl) (by simp) ?_
              refine (AllReadyH.cons (o := ⟨some 136, _, _, _, _, _⟩) rfl (fun K hK => ?_) AllReadyH.nil)
              (try rw [if_pos (by rfl)])
              go_simp
              refine (HA2.out _ hbX).mono ?_
              rintro e Wn ⟨rfl, hbn⟩
              obtain rfl := hbn.symm
              try dsimp only
              refine hK.out _ _ (hbX) (fun hHeld => ?_)
              clear hK K
              try simp only [Act.put, List.setIfInBounds_toArray, List.set_cons_zero, List.set_cons_succ]
              refine wpAnyH_take (i := 17) (oi := ⟨some 137, _, _, _, _, _⟩) (v := ?_) rfl (by kernel_rfl) (by kernel_rfl) (by kernel_rfl) (fun _ _ _ h => h) (Or.inl ⟨by rfl, ?_⟩) (by assumption) ?_
              rotate_left
              · intro w hSw; (try dsimp only at hSw); go_simp; try (with_reducible rfl)
              rotate_left 0
              try simp only [Act.put, List.setIfInBounds_toArray, List.set_cons_zero, List.set_cons_succ]
              refine wpAnyH_take (i := 18) (oi := ⟨some 138, _, _, _, _, _⟩) (v := ?_) rfl (by kernel_rfl) (by kernel_rfl) (by kernel_rfl) (fun _ _ _ h => h) (Or.inl ⟨by rfl, ?_⟩) (by assumption) ?_
              rotate_left
              · intro w hSw; (try dsimp only at hSw); go_simp; try (with_reducible rfl)
              rotate_left 0
              try simp only [Act.put, List.setIfInBounds_toArray, List.set_cons_zero, List.set_cons_succ]
              refine wpAnyH_take (i := 19) (oi := ⟨some 139, _, _, _, _, _⟩) (v := ?_) rfl (by kernel_rfl) (by kernel_rfl) (by kernel_rfl) (fun _ _ _ h => h) (Or.inl ⟨by rfl, ?_⟩) (by assumption) ?_
              rotate_left
              · intro w hSw; (try dsimp only at hSw); go_simp; try (with_reducible rfl)
              rotate_left 0
              try simp only [Act.put, List.setIfInBounds_toArray, List.set_cons_zero, List.set_cons_succ]
              refine wpAnyH_take (i := 20) (oi := ⟨some 140, _, _, _, _, _⟩) (v := ?_) rfl (by kernel_rfl) (by kernel_rfl) (by kernel_rfl) (fun _ _ _ h => h) (Or.inl ⟨by rfl, ?_⟩) (by assumption) ?_
              rotate_left
              · intro w hSw; (try dsimp only at hSw); go_simp; try (with_reducible rfl)
              rotate_left 0
              try simp only [Act.put, List.setIfInBounds_toArray, List.set_cons_zero, List.set_cons_succ]
              refine wpAnyH_take (i := 21) (oi := ⟨some 141, _, _, _, _, _⟩) (v := ?_) rfl (by kernel_rfl) (by kernel_rfl) (by kernel_rfl) (fun _ _ _ h => h) (Or.inl ⟨by rfl, ?_⟩) (by assumption) ?_
              rotate_left
              · intro w hSw; (try dsimp only at hSw); go_simp; try (with_reducible rfl)
              rotate_left 0
              try simp only [Act.put, List.setIfInBounds_toArray, List.set_cons_zero, List.set_cons_succ]
              refine wpAnyH_take (i := 22) (oi := ⟨some 142, _, _, _, _, _⟩) (v := ?_) rfl (by kernel_rfl) (by kernel_rfl) (by kernel_rfl) (fun _ _ _ h => h) (Or.inl ⟨by rfl, ?_⟩) (by assumption) ?_
              rotate_left
              · intro w hSw; (try dsimp only at hSw); go_simp; try (with_reducible rfl)
              rotate_left 0
              try simp only [Act.put, List.setIfInBounds_toArray, List.set_cons_zero, List.set_cons_succ]
              refine wpAnyH_take (i := 23) (oi := ⟨some 143, _, _, _, _, _⟩) (v := ?_) rfl (by kernel_rfl) (by kernel_rfl) (by kernel_rfl) (fun _ _ _ h => h) (Or.inl ⟨by rfl, ?_⟩) (by assumption) ?_
              rotate_left
              · intro w hSw; (try dsimp only at hSw); go_simp; try (with_reducible rfl)
              rotate_left 0
              try simp only [Act.put, List.setIfInBounds_toArray, List.set_cons_zero, List.set_cons_succ]
              refine wpAnyH_take (i := 24) (oi := ⟨some 144, _, _, _, _, _⟩) (v := (idv x.id)) rfl (by kernel_rfl) (by kernel_rfl) (by kernel_rfl) (fun _ _ _ h => h) (yields_run (by rfl) 24 _ rfl (.pointer (some ⟨w.heap.size, 3, none⟩)) _ rfl (fun W' hS => (vote_cells (HKQ.out.below hS HKQ.out.lt) HXO.out).2.2.2)) (by assumption) ?_
              try simp only [Act.put, List.setIfInBounds_toArray, List.set_cons_zero, List.set_cons_succ]
              refine wpAnyH_take (i := 26) (oi := ⟨some 146, _, _, _, _, _⟩) (v := ?_) rfl (by kernel_rfl) (by kernel_rfl) (by kernel_rfl) (fun _ _ _ h => h) (Or.inl ⟨by rfl, ?_⟩) (by assumption) ?_
              rotate_left
              · intro w hSw; (try dsimp only at hSw); go_simp; try (with_reducible rfl)
              rotate_left 0
              try simp only [Act.put, List.setIfInBounds_toArray, List.set_cons_zero, List.set_cons_succ]
              refine wpAnyH_take (i := 27) (oi := ⟨some 147, _, _, _, _, _⟩) (v := ?_) rfl (by kernel_rfl) (by kernel_rfl) (by kernel_rfl) (fun _ _ _ h => h) (Or.inl ⟨by rfl, ?_⟩) (by assumption) ?_
              rotate_left
              · intro w hSw; (try dsimp only at hSw); go_simp; try (with_reducible rfl)
              rotate_left 0
              try simp only [Act.put, List.setIfInBounds_toArray, List.set_cons_zero, List.set_cons_succ]
              refine wpAnyH_take (i := 28) (oi := ⟨some 148, _, _, _, _, _⟩) (v := ?_) rfl (by kernel_rfl) (by kernel_rfl) (by kernel_rfl) (fun _ _ _ h => h) (Or.inl ⟨by rfl, ?_⟩) (by assumption) ?_
              rotate_left
              · intro w hSw; (try dsimp only at hSw); go_simp; try (with_reducible rfl)
              rotate_left 0
              try simp only [Act.put, List.setIfInBounds_toArray, List.set_cons_zero, List.set_cons_succ]
              refine wpAnyH_take (i := 29) (oi := ⟨some 149, _, _, _, _, _⟩) (v := ?_) rfl (by kernel_rfl) (by kernel_rfl) (by kernel_rfl) (fun _ _ _ h => h) (Or.inl ⟨by rfl, ?_⟩) (by assumption) ?_
              rotate_left
              · intro w hSw; (try dsimp only at hSw); go_simp; try (with_reducible rfl)
              rotate_left 0
              try simp only [Act.put, List.setIfInBounds_toArray, List.set_cons_zero, List.set_cons_succ]
              refine wpAnyH_take (i := 30) (oi := ⟨some 150, _, _, _, _, _⟩) (v := (idv x.id)) rfl (by kernel_rfl) (by kernel_rfl) (by kernel_rfl) (fun _ _ _ h => h) (yields_run (by rfl) 24 _ rfl (.pointer (some ⟨w.heap.size, 3, none⟩)) _ rfl (fun W' hS => (vote_cells (HKQ.out.below hS HKQ.out.lt) HXO.out).2.2.2)) (by assumption) ?_
              try simp only [Act.put, List.setIfInBounds_toArray, List.set_cons_zero, List.set_cons_succ]
              refine wpAnyH_ready (rs := [25]) (by kernel_rfl) (by simp) ?_
              refine (AllReadyH.cons (o := ⟨some 145, _, _, _, _, _⟩) rfl (fun K hK => ?_) AllReadyH.nil)
              (try rw [if_pos (by rfl)])
              go_simp
              refine (HA3.out _ hbX).mono ?_
              rintro e Wn ⟨rfl, hbn⟩
              replace hbX := hbX.trans (hbn.mono hbX.size)
              clear hbn
              try dsimp only
              refine hK.out _ _ (hbX) (fun hHeld => ?_)
              clear hK K
              try simp only [Act.put, List.setIfInBounds_toArray, List.set_cons_zero, List.set_cons_succ]
              refine wpAnyH_ready (rs := [31]) (by kernel_rfl) (by simp) ?_
              refine (AllReadyH.cons (o := ⟨some 151, _, _, _, _, _⟩) rfl (fun K hK => ?_) AllReadyH.nil)
              (try rw [if_pos (by rfl)])
              go_simp
              refine (HA4.out _ hbX).mono ?_
              rintro e Wn ⟨rfl, hbn⟩
              replace hbX := hbX.trans (hbn.mono hbX.size)
              clear hbn
              try dsimp only
              refine hK.out _ _ (hbX) (fun hHeld => ?_)
              clear hK K
              try simp only [Act.put, List.setIfInBounds_toArray, List.set_cons_zero, List.set_cons_succ]
              refine wpAnyH_take (i := 32) (oi := ⟨some 152, _, _, _, _, _⟩) (v := ?_) rfl (by kernel_rfl) (by kernel_rfl) (by kernel_rfl) (fun _ _ _ h => h) (Or.inl ⟨by rfl, ?_⟩) (by assumption) ?_
              rotate_left
              · intro w hSw; (try dsimp only at hSw); go_simp; try (with_reducible rfl)
              rotate_left 0
              try simp only [Act.put, List.setIfInBounds_toArray, List.set_cons_zero, List.set_cons_succ]
              refine wpAnyH_take (i := 33) (oi := ⟨some 153, _, _, _, _, _⟩) (v := ?_) rfl (by kernel_rfl) (by kernel_rfl) (by kernel_rfl) (fun _ _ _ h => h) (Or.inl ⟨by rfl, ?_⟩) (by assumption) ?_
              rotate_left
              · intro w hSw; (try dsimp only at hSw); go_simp; try (with_reducible rfl)
              rotate_left 0
              try simp only [Act.put, List.setIfInBounds_toArray, List.set_cons_zero, List.set_cons_succ]
              refine wpAnyH_done (by kernel_rfl) ?_ _
              go_wp2_with fail
              go_roundw
              case rel => exact ⟨q + 1, by have := HQL.out; omega, by rw [HKN.out], HBQ.out.trans (hbX.mono HBQ.out.size)⟩
              case measure => simp [intOf]; omega
            · obtain rfl : q = 4 := by omega
              clear hql hq
              have HAH := Lib.hid fun W (hb : Below wz.heap.size wz W) => ahead_any (HCT.out W hb) ri HRW1.out (by have := h7; omega) HN0.out
              have har := fun W (hb : Below wz.heap.size wz W) => refahead_v (N := N) (by have := h7; omega) _ L HGT.out ri W (HRT.out W hb)
              rw [HVT.out] at har
              have HAR := Lib.hid har
              generalize aheadO N V ri = o at HAH HAR
              obtain ⟨a1, ha1⟩ : ∃ a1 : Int, ((o.getD 0 : Nat) : Int) = a1 := ⟨_, rfl⟩
              obtain ⟨b1, hb1⟩ : ∃ b1, o.isSome = b1 := ⟨_, rfl⟩
              rw [ha1, hb1] at HAH HAR
              clear har ha1 hb1
              go_wp2_with (first
                | (go_at_call 28; refine (HAH.out _ HB9.out).mono ?_; rintro e Y2 ⟨rfl, hb2⟩; have HY2 := Lib.hid (HB9.out.trans (hb2.mono HB9.out.size)); clear hb2)
                | (go_at_call 29; refine (HAR.out _ HY2.out).mono ?_; rintro e Y3 ⟨rfl, hb3⟩; have HY3 := Lib.hid (HY2.out.trans (hb3.mono HY2.out.size)); clear hb3))
              go_roundw
              case rel => exact ⟨t + 1, by have := HTL.out; omega, by rw [HRN.out], HY3.out⟩
              case measure => simp [intOf]; omega
        · obtain rfl : t = 14 := by omega
          clear htl ht
          obtain ⟨Wq, hwq⟩ : ∃ z, z = wr := ⟨_, rfl⟩
          subst hwq
          go_upto_region 33 with fail
          have HBY := Lib.hid (HBZ.out.trans (HBT.out.mono HBZ.out.size))
          have HKQ := Lib.hid (HKZ.out.below HBT.out HKZ.out.lt)
          have HG1 := Lib.hid fun W (hb : Below Wq.heap.size Wq W) => get_any (HCT.out W (HBT.out.trans (hb.mono HBT.out.size))) x.r x.k x.s HXO.out.r HXO.out.k HXO.out.s
          have hg2 := fun W (hb : Below Wq.heap.size Wq W) => refget_v _ L x.r x.k x.s W (HRT.out W (HBT.out.trans (hb.mono HBT.out.size)))
          rw [HVT.out] at hg2
          have HG2 := Lib.hid hg2
          have HOI := Lib.hid ((HCT.out wz (Below.refl _ _)).idOk x.r x.k x.s)
          generalize (V x.r x.k x.s).getD zeroId = o1 at HG1 HG2 HOI
          have hee := fun W => eql_idv HOI.out HOI.out W
          have hge := fun y' z' W => guard_idv y' z' o1 o1 W
          simp only [beq_self_eq_true] at hee
          have hbX : Below Wq.heap.size Wq Wq.drew := (Below.refl _ _).drew
          clear hg2
          refine wp_region_held_drew (S := fun W' => Below Wq.heap.size Wq W') (by kernel_rfl) ?_ (fun hHeld => ?_)
          · exact hbX
          refine wpAnyH_take (i := 0) (oi := ⟨some 175, _, _, _, _, _⟩) (v := ?_) rfl (by kernel_rfl) (by kernel_rfl) (by kernel_rfl) (fun _ _ _ h => h) (Or.inl ⟨by rfl, ?_⟩) (by assumption) ?_
          rotate_left
          · intro w hSw; (try dsimp only at hSw); go_simp; try (with_reducible rfl)
          rotate_left 0
          try simp only [Act.put, List.setIfInBounds_toArray, List.set_cons_zero, List.set_cons_succ]
          refine wpAnyH_take (i := 1) (oi := ⟨some 176, _, _, _, _, _⟩) (v := ?_) rfl (by kernel_rfl) (by kernel_rfl) (by kernel_rfl) (fun _ _ _ h => h) (Or.inl ⟨by rfl, ?_⟩) (by assumption) ?_
          rotate_left
          · intro w hSw; (try dsimp only at hSw); go_simp; try (with_reducible rfl)
          rotate_left 0
          try simp only [Act.put, List.setIfInBounds_toArray, List.set_cons_zero, List.set_cons_succ]
          refine wpAnyH_take (i := 2) (oi := ⟨some 177, _, _, _, _, _⟩) (v := (.int .i64 x.r)) rfl (by kernel_rfl) (by kernel_rfl) (by kernel_rfl) (fun _ _ _ h => h) (yields_one (by rfl) 3 _ rfl ⟨w.heap.size, 0, none⟩ rfl _ _ (fun W' hS => (vote_cells (HKQ.out.below hS HKQ.out.lt) HXO.out).1) Try.underlying3 rfl) (by assumption) ?_
          try simp only [Act.put, List.setIfInBounds_toArray, List.set_cons_zero, List.set_cons_succ]
          refine wpAnyH_take (i := 3) (oi := ⟨some 178, _, _, _, _, _⟩) (v := ?_) rfl (by kernel_rfl) (by kernel_rfl) (by kernel_rfl) (fun _ _ _ h => h) (Or.inl ⟨by rfl, ?_⟩) (by assumption) ?_
          rotate_left
          · intro w hSw; (try dsimp only at hSw); go_simp; try (with_reducible rfl)
          rotate_left 0
          try simp only [Act.put, List.setIfInBounds_toArray, List.set_cons_zero, List.set_cons_succ]
          refine wpAnyH_take (i := 4) (oi := ⟨some 179, _, _, _, _, _⟩) (v := (.int .i64 x.k)) rfl (by kernel_rfl) (by kernel_rfl) (by kernel_rfl) (fun _ _ _ h => h) (yields_one (by rfl) 3 _ rfl ⟨w.heap.size, 1, none⟩ rfl _ _ (fun W' hS => (vote_cells (HKQ.out.below hS HKQ.out.lt) HXO.out).2.1) Try.underlying3 rfl) (by assumption) ?_
          try simp only [Act.put, List.setIfInBounds_toArray, List.set_cons_zero, List.set_cons_succ]
          refine wpAnyH_take (i := 5) (oi := ⟨some 180, _, _, _, _, _⟩) (v := ?_) rfl (by kernel_rfl) (by kernel_rfl) (by kernel_rfl) (fun _ _ _ h => h) (Or.inl ⟨by rfl, ?_⟩) (by assumption) ?_
          rotate_left
          · intro w hSw; (try dsimp only at hSw); go_simp; try (with_reducible rfl)
          rotate_left 0
          try simp only [Act.put, List.setIfInBounds_toArray, List.set_cons_zero, List.set_cons_succ]
          refine wpAnyH_take (i := 6) (oi := ⟨some 181, _, _, _, _, _⟩) (v := (.int .i64 x.s)) rfl (by kernel_rfl) (by kernel_rfl) (by kernel_rfl) (fun _ _ _ h => h) (yields_one (by rfl) 3 _ rfl ⟨w.heap.size, 2, none⟩ rfl _ _ (fun W' hS => (vote_cells (HKQ.out.below hS HKQ.out.lt) HXO.out).2.2.1) Try.underlying3 rfl) (by assumption) ?_
          try simp only [Act.put, List.setIfInBounds_toArray, List.set_cons_zero, List.set_cons_succ]
          refine wpAnyH_take (i := 8) (oi := ⟨some 183, _, _, _, _, _⟩) (v := ?_) rfl (by kernel_rfl) (by kernel_rfl) (by kernel_rfl) (fun _ _ _ h => h) (Or.inl ⟨by rfl, ?_⟩) (by assumption) ?_
          rotate_left
          · intro w hSw; (try dsimp only at hSw); go_simp; try (with_reducible rfl)
          rotate_left 0
          try simp only [Act.put, List.setIfInBounds_toArray, List.set_cons_zero, List.set_cons_succ]
          refine wpAnyH_take (i := 9) (oi := ⟨some 184, _, _, _, _, _⟩) (v := ?_) rfl (by kernel_rfl) (by kernel_rfl) (by kernel_rfl) (fun _ _ _ h => h) (Or.inl ⟨by rfl, ?_⟩) (by assumption) ?_
          rotate_left
          · intro w hSw; (try dsimp only at hSw); go_simp; try (with_reducible rfl)
          rotate_left 0
          try simp only [Act.put, List.setIfInBounds_toArray, List.set_cons_zero, List.set_cons_succ]
          refine wpAnyH_take (i := 10) (oi := ⟨some 185, _, _, _, _, _⟩) (v := (.int .i64 x.r)) rfl (by kernel_rfl) (by kernel_rfl) (by kernel_rfl) (fun _ _ _ h => h) (yields_one (by rfl) 3 _ rfl ⟨w.heap.size, 0, none⟩ rfl _ _ (fun W' hS => (vote_cells (HKQ.out.below hS HKQ.out.lt) HXO.out).1) Try.underlying3 rfl) (by assumption) ?_
          try simp only [Act.put, List.setIfInBounds_toArray, List.set_cons_zero, List.set_cons_succ]
          refine wpAnyH_take (i := 11) (oi := ⟨some 186, _, _, _, _, _⟩) (v := ?_) rfl (by kernel_rfl) (by kernel_rfl) (by kernel_rfl) (fun _ _ _ h => h) (Or.inl ⟨by rfl, ?_⟩) (by assumption) ?_
          rotate_left
          · intro w hSw; (try dsimp only at hSw); go_simp; try (with_reducible rfl)
          rotate_left 0
          try simp only [Act.put, List.setIfInBounds_toArray, List.set_cons_zero, List.set_cons_succ]
          refine wpAnyH_take (i := 12) (oi := ⟨some 187, _, _, _, _, _⟩) (v := (.int .i64 x.k)) rfl (by kernel_rfl) (by kernel_rfl) (by kernel_rfl) (fun _ _ _ h => h) (yields_one (by rfl) 3 _ rfl ⟨w.heap.size, 1, none⟩ rfl _ _ (fun W' hS => (vote_cells (HKQ.out.below hS HKQ.out.lt) HXO.out).2.1) Try.underlying3 rfl) (by assumption) ?_
          try simp only [Act.put, List.setIfInBounds_toArray, List.set_cons_zero, List.set_cons_succ]
          refine wpAnyH_take (i := 13) (oi := ⟨some 188, _, _, _, _, _⟩) (v := ?_) rfl (by kernel_rfl) (by kernel_rfl) (by kernel_rfl) (fun _ _ _ h => h) (Or.inl ⟨by rfl, ?_⟩) (by assumption) ?_
          rotate_left
          · intro w hSw; (try dsimp only at hSw); go_simp; try (with_reducible rfl)
          rotate_left 0
          try simp only [Act.put, List.setIfInBounds_toArray, List.set_cons_zero, List.set_cons_succ]
          refine wpAnyH_take (i := 14) (oi := ⟨some 189, _, _, _, _, _⟩) (v := (.int .i64 x.s)) rfl (by kernel_rfl) (by kernel_rfl) (by kernel_rfl) (fun _ _ _ h => h) (yields_one (by rfl) 3 _ rfl ⟨w.heap.size, 2, none⟩ rfl _ _ (fun W' hS => (vote_cells (HKQ.out.below hS HKQ.out.lt) HXO.out).2.2.1) Try.underlying3 rfl) (by assumption) ?_
          try simp only [Act.put, List.setIfInBounds_toArray, List.set_cons_zero, List.set_cons_succ]
          refine wpAnyH_ready (rs := [7]) (by kernel_rfl) (by simp) ?_
          refine (AllReadyH.cons (o := ⟨some 182, _, _, _, _, _⟩) rfl (fun K hK => ?_) AllReadyH.nil)
          (try rw [if_pos (by rfl)])
          go_simp
          refine (HG1.out _ hbX).mono ?_
          rintro e Wn ⟨rfl, hbn⟩
          replace hbX := hbX.trans (hbn.mono hbX.size)
          clear hbn
          try dsimp only
          refine hK.out _ _ (hbX) (fun hHeld => ?_)
          clear hK K
          try simp only [Act.put, List.setIfInBounds_toArray, List.set_cons_zero, List.set_cons_succ]
          refine wpAnyH_ready (rs := [15]) (by kernel_rfl) (by simp) ?_
          refine (AllReadyH.cons (o := ⟨some 190, _, _, _, _, _⟩) rfl (fun K hK => ?_) AllReadyH.nil)
          (try rw [if_pos (by rfl)])
          go_simp
          refine (HG2.out _ hbX).mono ?_
          rintro e Wn ⟨rfl, hbn⟩
          replace hbX := hbX.trans (hbn.mono hbX.size)
          clear hbn
          try dsimp only
          refine hK.out _ _ (hbX) (fun hHeld => ?_)
          clear hK K
          try simp only [Act.put, List.setIfInBounds_toArray, List.set_cons_zero, List.set_cons_succ]
          refine wpAnyH_take (i := 16) (oi := ⟨some 191, _, _, _, _, _⟩) (v := ?_) rfl (by kernel_rfl) (by kernel_rfl) (by kernel_rfl) (fun _ _ _ h => h) (Or.inl ⟨by rfl, ?_⟩) (by assumption) ?_
          rotate_left
          · intro w hSw; (try dsimp only at hSw); go_simp; try (with_reducible rfl)
          rotate_left 0
          try simp only [Act.put, List.setIfInBounds_toArray, List.set_cons_zero, List.set_cons_succ]
          refine wpAnyH_take (i := 17) (oi := ⟨some 6, _, _, _, _, _⟩) (v := ?_) rfl (by kernel_rfl) (by kernel_rfl) (by kernel_rfl) (fun _ _ _ h => h) (Or.inl ⟨by rfl, ?_⟩) (by assumption) ?_
          rotate_left
          · intro w hSw; (try dsimp only at hSw); go_simp; try (with_reducible rfl)
          rotate_left 0
          try simp only [Act.put, List.setIfInBounds_toArray, List.set_cons_zero, List.set_cons_succ]
          refine wpAnyH_done (by kernel_rfl) ?_ _
          go_wp2_with fail
          go_ret
          exact ⟨rfl, HBY.out.trans (hbX.mono HBY.out.size)⟩
theorem countplays_law (n : Int) (v : Value) (l : List VoteT) (x : VoteT) (w : World) (hr : RdW w w.heap.size v l) (hx : VoteOk x) : Calls Try.prog 3 #[.int .i64 n, v, .agg (voteA x)] w fun e w' => e = .returned (.bool true) ∧ Below w.heap.size w w' := by
  obtain ⟨_, A, c, rfl, _, hlen, _⟩ := id hr
  by_cases hm : l.length ≤ 200
  · by_cases hn : faults n < 0
    · exact countplays_low n hn A l.length c x hm w
    · obtain ⟨N, rfl⟩ := Int.eq_ofNat_of_zero_le (show 0 ≤ n by rcases faults_cases (n := n) (by omega) with ⟨h, _⟩ | ⟨h, _⟩ | ⟨h, _⟩ <;> omega)
      exact countplays_high N (by omega) (by rcases faults_cases (n := (N : Int)) (by omega) with ⟨h, _⟩ | ⟨h, _⟩ | ⟨h, _⟩ <;> omega) A l.length c l x hx hm w hr rfl
  · exact countplays_long n A l.length c x (by omega) (by omega) w
end Go.Proofs.Ytogcfkccjddfhaa
