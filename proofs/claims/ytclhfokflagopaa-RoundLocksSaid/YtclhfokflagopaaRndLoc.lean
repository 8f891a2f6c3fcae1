/-
  RoundLocks, walked. No condition.
-/
import Derived.Test.YtclhfokflagopaaRndLawX
import Derived.Test.YtclhfokflagopaaRndMLocks
namespace Go.Proofs.Ytclhfokflagopaa
open Go Go.RowKit Go.Maps

theorem LawX.adds {w : World} {B C M j : Nat} {s : RdS} {X : List Nat} {wr w' : World} (h : LawX w B C M j s X wr) (hb : Below wr.heap.size wr w') (Y : List Nat) (hY : ∀ g ∈ Y, wr.heap.size ≤ g ∧ g < w'.heap.size) : LawX w B C M j s (Y ++ X) w' := by
  obtain ⟨n, kv, k1, k2, k3, k4, k5⟩ := h
  refine ⟨n, kv, k1.below hb, k2, k3.trans (hb.mono k3.size), k4, fun x hx => ?_⟩
  rcases List.mem_append.1 hx with hx | hx
  · have q1 := k1.lt
    have q2 := k1.cnt.ltB
    have q3 := k1.cnt.ltM
    obtain ⟨h1, h2⟩ := hY x hx
    exact ⟨h2, Nat.le_trans k3.size h1, by omega, by omega, by omega, fun e => by have := (k1.own.lt x e).2; omega⟩
  · exact ⟨Nat.lt_of_lt_of_le (k5 x hx).1 hb.size, (k5 x hx).2⟩
/-- On RoundLocks' way: one's state, the law's own count, and for what one is locked. -/
structure LkR (W1 : World) (B C M N C2 M2 Lb j : Nat) (s : RdS) (g : LkG) (n2 : Nat) (wr : World) : Prop where
  law : LawX W1 B C M j s [Lb, C2, M2] wr
  cnt : CountAt wr C2 M2 n2 N g.c
  blk : Blk wr Lb 24 (idC g.lock)
  lid : IdOk g.lock
theorem LkR.below {W1 : World} {B C M N C2 M2 Lb j : Nat} {s : RdS} {g : LkG} {n2 : Nat} {wr w' : World} (h : LkR W1 B C M N C2 M2 Lb j s g n2 wr) (hb : Below wr.heap.size wr w') : LkR W1 B C M N C2 M2 Lb j s g n2 w' := ⟨h.law.below hb, h.cnt.below hb, h.blk.below hb h.blk.lt, h.lid⟩
theorem LkR.put {W1 : World} {B C M N C2 M2 Lb j : Nat} {s : RdS} {g : LkG} {n2 n3 : Nat} {V : Vt} {wr w' : World} (h : LkR W1 B C M N C2 M2 Lb j s g n2 wr) (hne : Lb ≠ M2) (hc : CountAt w' C2 M2 n3 N V) (hg : wr.grownBy w' (some M2)) : LkR W1 B C M N C2 M2 Lb j s { g with c := V } n3 w' := ⟨h.law.grown (by simp) hg, hc, h.blk.grown hg (fun e => hne (Option.some.inj e)), h.lid⟩
theorem LkR.store {W1 : World} {B C M N C2 M2 Lb j : Nat} {s : RdS} {g : LkG} {n2 : Nat} {id : List UInt8} {r : Int} {wr w' : World} (h : LkR W1 B C M N C2 M2 Lb j s g n2 wr) (hC : C2 ≠ Lb) (hM : M2 ≠ Lb) (hid : IdOk id) (hk : Blk w' Lb 24 (idC id)) (hg : wr.grownBy w' (some Lb)) : LkR W1 B C M N C2 M2 Lb j s ⟨g.c, r, id⟩ n2 w' := ⟨h.law.grown (by simp) hg, h.cnt.same (hg.block C2 h.cnt.ltB fun e => hC (Option.some.inj e)) (hg.block M2 h.cnt.ltM fun e => hM (Option.some.inj e)), hk, hid⟩
theorem LkR.base {W1 : World} {B C M N C2 M2 Lb j : Nat} {s : RdS} {g : LkG} {n2 : Nat} {wr : World} (h : LkR W1 B C M N C2 M2 Lb j s g n2 wr) : Below W1.heap.size W1 wr := h.law.law.base
theorem act_num {W : World} {g t : Nat} {v : ActS} (h : Blk W g t (actA v)) : W.cell? ⟨g, 2, none⟩ = some (.int .i64 v.num) := by rw [h.cell]; rfl
theorem act_round {W : World} {g t : Nat} {v : ActS} (h : Blk W g t (actA v)) : W.cell? ⟨g, 1, none⟩ = some (.int .i64 v.round) := by rw [h.cell]; rfl
theorem act_id {W : World} {g t : Nat} {v : ActS} (h : Blk W g t (actA v)) (hv : ActOk v) : (Instr.loadAt 24 (.pointer (some ⟨g, 4, none⟩))).run Try.prog W = .ok (idv v.id) W :=
  run_load_id W _ _ hv.id fun j hj => by
    rw [show (⟨g, 4, none⟩ : Addr).add j = ⟨g, 4 + j, none⟩ by simp [Addr.add], h.cell]
    have hid := hv.id
    unfold IdOk at hid
    unfold actA actC
    rw [List.getElem?_toArray, show 4 + j = j + 1 + 1 + 1 + 1 by omega, List.getElem?_cons_succ, List.getElem?_cons_succ, List.getElem?_cons_succ, List.getElem?_cons_succ, List.getElem?_map, List.getElem?_eq_getElem (by omega), List.getD_eq_getElem?_getD, List.getElem?_eq_getElem (by omega)]
    rfl
theorem OwnA.sliceN {b nl : Nat} {w : World} {v : Value} {l : List ActS} (h : OwnA b w v l) (hn : l.length = nl) : ∃ A c, v = .slice A nl c := by
  obtain ⟨_, Aq, c, h1, _⟩ := h.rd
  exact ⟨Aq, c, by rw [h1, hn]⟩
theorem LkR.more {W1 : World} {B C M N C2 M2 Lb j : Nat} {s : RdS} {g : LkG} {n2 n3 : Nat} {wr : World} (h : LkR W1 B C M N C2 M2 Lb j s g n2 wr) (hn : n2 ≤ n3) : LkR W1 B C M N C2 M2 Lb j s g n3 wr := ⟨h.law, h.cnt.mono hn, h.blk, h.lid⟩
set_option maxRecDepth 100000 in
set_option maxHeartbeats 8000000 in
theorem locks_bad (a b c : Int) (_ha : wfi c) (A : Option Addr) (mm cc : Nat) (L : List InS) (w : World) (hr : RdG w w.heap.size (.slice A mm cc) L) (hl : L.length = mm) (hc : ¬ CanR a b c) : Calls Try.prog 9 #[(.agg #[.int .i64 a, .int .i64 b, .int .i64 c]), .slice A mm cc] w fun e w' => e = .returned (.bool true) ∧ Below w.heap.size w w' := by
  obtain ⟨W0, hW⟩ : ∃ W0, w.alloc (.cells #[.int .i64 a, .int .i64 b, .int .i64 c] 53) = W0 := ⟨_, rfl⟩
  have hb0 : Below w.heap.size w W0 := by rw [← hW]; exact (Below.refl _ _).alloc (Nat.le_refl _) _
  have k0 : Blk W0 w.heap.size 53 #[.int .i64 a, .int .i64 b, .int .i64 c] := by rw [← hW]; exact Blk.new _ _ _
  have HB0 := Lib.hid hb0
  have HK0 := Lib.hid k0
  have HRW := Lib.hid hr
  have HL := Lib.hid hl
  have HNW := Lib.hid fun W => newR_bad a b c W hc
  clear hr hl hb0 k0 hc
  go_enter Try.func9, Try.ntmps9
  go_upto_region 3 with (go_at_call 32; refine (agrees_any _).mono ?_; rintro e W1 ⟨rfl, hb1⟩; have HB1 := Lib.hid (HB0.out.trans (hb1.mono HB0.out.size)); have HK1 := Lib.hid (HK0.out.below hb1 HK0.out.lt); clear hb1)
  have c0 : W1.cell? ⟨w.heap.size, 0, none⟩ = some (.int .i64 a) := by rw [HK1.out.cell]; rfl
  have c1 : W1.cell? ⟨w.heap.size, 1, none⟩ = some (.int .i64 b) := by rw [HK1.out.cell]; rfl
  have c2 : W1.cell? ⟨w.heap.size, 2, none⟩ = some (.int .i64 c) := by rw [HK1.out.cell]; rfl
  go_wp2_with (go_at_call 33; refine (HNW.out _).mono ?_; rintro e W2 ⟨rfl, hb2⟩; have HB2 := Lib.hid hb2; clear hb2)
  go_ret
  exact ⟨rfl, HB1.out.trans (HB2.out.mono HB1.out.size)⟩
set_option maxRecDepth 100000 in
set_option maxHeartbeats 8000000 in
theorem locks_long (a b c : Int) (ha : wfi c) (A : Option Addr) (mm cc : Nat) (L : List InS) (w : World) (hr : RdG w w.heap.size (.slice A mm cc) L) (hl : L.length = mm) (hc : CanR a b c) (hm : 100 < mm) : Calls Try.prog 9 #[(.agg #[.int .i64 a, .int .i64 b, .int .i64 c]), .slice A mm cc] w fun e w' => e = .returned (.bool true) ∧ Below w.heap.size w w' := by
  obtain ⟨W0, hW⟩ : ∃ W0, w.alloc (.cells #[.int .i64 a, .int .i64 b, .int .i64 c] 53) = W0 := ⟨_, rfl⟩
  have hb0 : Below w.heap.size w W0 := by rw [← hW]; exact (Below.refl _ _).alloc (Nat.le_refl _) _
  have k0 : Blk W0 w.heap.size 53 #[.int .i64 a, .int .i64 b, .int .i64 c] := by rw [← hW]; exact Blk.new _ _ _
  have HB0 := Lib.hid hb0
  have HK0 := Lib.hid k0
  have HRW := Lib.hid hr
  have HL := Lib.hid hl
  have HCN := Lib.hid (And.intro hc ha)
  have hmi : (100 : Int) < (mm : Int) := by omega
  clear hr hl hb0 k0 hc hm
  go_enter Try.func9, Try.ntmps9
  go_upto_region 3 with (go_at_call 32; refine (agrees_any _).mono ?_; rintro e W1 ⟨rfl, hb1⟩; have HB1 := Lib.hid (HB0.out.trans (hb1.mono HB0.out.size)); have HK1 := Lib.hid (HK0.out.below hb1 HK0.out.lt); clear hb1)
  have c0 : W1.cell? ⟨w.heap.size, 0, none⟩ = some (.int .i64 a) := by rw [HK1.out.cell]; rfl
  have c1 : W1.cell? ⟨w.heap.size, 1, none⟩ = some (.int .i64 b) := by rw [HK1.out.cell]; rfl
  have c2 : W1.cell? ⟨w.heap.size, 2, none⟩ = some (.int .i64 c) := by rw [HK1.out.cell]; rfl
  go_wp2_with (go_at_call 33; refine (newR_law a b c _ HCN.out.1 HCN.out.2 w HB1.out).mono ?_; rintro e W2 ⟨B, C, M, rfl, hlw, hbm, h1, h2, h3, hbw⟩; have HLW := Lib.hid hlw; have HBM := Lib.hid hbm; clear hlw hbm h1 h2 h3 hbw)
  go_ret
  exact ⟨rfl, HLW.out.base⟩
set_option maxRecDepth 100000 in
set_option maxHeartbeats 8000000 in
theorem locks_loop (N : Nat) (b c : Int) (ha : wfi c) (hbw : wfi b) (A : Option Addr) (mm cc : Nat) (L : List InS) (w : World) (hr : RdG w w.heap.size (.slice A mm cc) L) (hl : L.length = mm) (hc : CanR (N : Int) b c) (hm : mm ≤ 100) : Calls Try.prog 9 #[(.agg #[.int .i64 (N : Int), .int .i64 b, .int .i64 c]), .slice A mm cc] w fun e w' => e = .returned (.bool true) ∧ Below w.heap.size w w' := by
  obtain ⟨W0, hW⟩ : ∃ W0, w.alloc (.cells #[.int .i64 (N : Int), .int .i64 b, .int .i64 c] 53) = W0 := ⟨_, rfl⟩
  have hb0 : Below w.heap.size w W0 := by rw [← hW]; exact (Below.refl _ _).alloc (Nat.le_refl _) _
  have k0 : Blk W0 w.heap.size 53 #[.int .i64 (N : Int), .int .i64 b, .int .i64 c] := by rw [← hW]; exact Blk.new _ _ _
  have HB0 := Lib.hid hb0
  have HK0 := Lib.hid k0
  have HRW := Lib.hid hr
  have HL := Lib.hid hl
  have HCN := Lib.hid (And.intro hc ha)
  have hmi : ¬ (100 : Int) < (mm : Int) := by omega
  have HM := Lib.hid hm
  have HWB := Lib.hid hbw
  have HNW := Lib.hid fun W => new_some (N : Int) W hc.1
  have HN1000 : Hid (N ≤ 1000) := Lib.hid (by have := faults_some hc.1; omega)
  clear hr hl hb0 k0 hc hm hbw
  go_enter Try.func9, Try.ntmps9
  go_upto_region 3 with (go_at_call 32; refine (agrees_any _).mono ?_; rintro e W1 ⟨rfl, hb1⟩; have HB1 := Lib.hid (HB0.out.trans (hb1.mono HB0.out.size)); have HK1 := Lib.hid (HK0.out.below hb1 HK0.out.lt); clear hb1)
  have c0 : W1.cell? ⟨w.heap.size, 0, none⟩ = some (.int .i64 (N : Int)) := by rw [HK1.out.cell]; rfl
  have c1 : W1.cell? ⟨w.heap.size, 1, none⟩ = some (.int .i64 b) := by rw [HK1.out.cell]; rfl
  have c2 : W1.cell? ⟨w.heap.size, 2, none⟩ = some (.int .i64 c) := by rw [HK1.out.cell]; rfl
  go_upto_region 6 with (go_at_call 33; refine (newR_law (N : Int) b c _ HCN.out.1 HCN.out.2 W1 (Below.refl _ _)).mono ?_; rintro e W2 ⟨B, C, M, rfl, hlw, hbm, h1, h2, h3, hbw⟩; have HLW := Lib.hid hlw; have HBM := Lib.hid hbm; have HB2 := Lib.hid hbw; clear hlw hbm h1 h2 h3 hbw)
  clear c0 c1 c2 hmi
  have c0 : W2.cell? ⟨w.heap.size, 0, none⟩ = some (.int .i64 (N : Int)) := by rw [(HK1.out.below HB2.out HK1.out.lt).cell]; rfl
  go_upto_region 10 with (first
    | (go_at_call 16; refine (HNW.out _).mono ?_; rintro e W3 ⟨rfl, hc3, hb3⟩; have HC3 := Lib.hid hc3; have HB3 := Lib.hid hb3; clear hc3 hb3)
    | (guard_target = wpList _ _ _ (Oper.mk _ (.build 24 _) _ _ _ _ :: _) _ _; refine wpList_build_zero rfl rfl ?_)
    | (guard_target = wpList _ _ _ (Oper.mk _ (.store 24 _ _) _ _ _ _ :: _) _ _; refine wpList_store_idv rfl _ _ rfl W3.heap.size zeroId rfl rfl zeroId_ok 24 _ (Blk.newAt _ _ rfl rfl) rfl ?_; intro W4 hS4 hz4 hb4 hk4))
  have hb34 : Below W3.heap.size W3 W4 := ((Below.refl _ W3).alloc (Nat.le_refl _) _).trans hb4
  have hB24 : Below W2.heap.size W2 W4 := HB3.out.trans (hb34.mono HB3.out.size)
  have HNE : Hid (W3.heap.size ≠ W2.heap.size + 1 ∧ W3.heap.size ≠ W2.heap.size ∧ W2.heap.size + 1 ≠ W3.heap.size ∧ W2.heap.size ≠ W3.heap.size) := Lib.hid (by have := HC3.out.ltB; omega)
  have HLK0 : Hid (LkR W1 B C M N (W2.heap.size + 1) W2.heap.size W3.heap.size 0 (newS N b c) ⟨noVotes, -1, zeroId⟩ 0 W4) := Lib.hid ⟨by
    have h := HLW.out.x.adds hB24 [W3.heap.size, W2.heap.size + 1, W2.heap.size] (fun g hg => by
      have h1 := HC3.out.ltB
      have h2 := hS4.lt
      simp only [List.mem_cons, List.not_mem_nil, or_false] at hg
      rcases hg with rfl | rfl | rfl <;> omega)
    exact h, HC3.out.below hb34, hS4, zeroId_ok⟩
  clear c0 hS4 hz4 hb4 hk4 hb34 hB24
  obtain ⟨C2, hC2⟩ : ∃ x, W2.heap.size + 1 = x := ⟨_, rfl⟩
  obtain ⟨M2, hM2⟩ : ∃ x, W2.heap.size = x := ⟨_, rfl⟩
  obtain ⟨Lb, hLb⟩ : ∃ x, W3.heap.size = x := ⟨_, rfl⟩
  rw [hC2, hM2, hLb] at HNE HLK0
  rw [hC2, hLb]
  clear hC2 hM2 hLb
  go_upto_region 11 with fail
  go_loopw [9, 55] (fun s9 s55 wr => ∃ (j : Nat) (s : RdS) (g : LkG) (n2 : Nat), j ≤ mm ∧ s55 = .int .i64 (j : Int) ∧ s9 = .int .i64 g.locked ∧ LkR W1 B C M N C2 M2 Lb j s g n2 wr ∧ LkI N b s g ∧ n2 ≤ 1000100 * j) (fun _ s55 _ => mm - (intOf s55).toNat)
  case atStart => exact ⟨0, _, ⟨noVotes, -1, zeroId⟩, 0, Nat.zero_le _, rfl, rfl, HLK0.out, new_lk _ _ _, by omega⟩
  case round =>
    obtain ⟨j, s, g, n2, hj, rfl, rfl, hlk, hI, hn2⟩ := hrel
    have HI := Lib.hid hI
    have HN2 := Lib.hid hn2
    have HLJ := Lib.hid hlk
    clear hlk hI hn2
    by_cases hlt : j < mm
    · have hji : (j : Int) < (mm : Int) := by omega
      have hj0 : (0 : Int) ≤ (j : Int) := by omega
      have HJL : Hid (j < 100) := Lib.hid (by have := HM.out; omega)
      obtain ⟨i, hi⟩ : ∃ i, L[j]? = some i := ⟨_, List.getElem?_eq_getElem (by rw [HL.out]; exact hlt)⟩
      obtain ⟨ad, c', he, hok, _, hld⟩ := HRW.out.here hi
      rw [HL.out] at he
      obtain ⟨rfl, -, rfl⟩ := Value.slice.inj he
      have HOK := Lib.hid hok
      have HLD := Lib.hid hld
      have HBW := Lib.hid (HB1.out.trans (HLJ.out.base.mono HB1.out.size))
      clear hi he hok hld
      go_upto_region 13 with (first
    | (guard_target = wpList _ _ _ (Oper.mk _ (.load 67 _) _ _ _ _ :: _) _ _; refine wpList_load_inn (by rfl) _ rfl (ad.add (j * 37)) i rfl (HLD.out _ HBW.out) ?_)
    | (guard_target = wpList _ _ _ (Oper.mk _ (.store 67 _ _) _ _ _ _ :: _) _ _; refine wpList_store_inn rfl _ _ rfl wr.heap.size i rfl rfl HOK.out 67 _ (Blk.newAt _ _ rfl rfl) rfl ?_; intro W9 hS9 hz9 hb9 hk9; have HS9 := Lib.hid hS9; have HB9 := Lib.hid (((Below.refl _ wr).alloc (Nat.le_refl _) _).trans hb9); clear hS9 hz9 hb9 hk9))
      have hL := HLJ.out.below HB9.out
      have HP9 : Hid (some wr.heap.size ≠ some M2) := Lib.hid fun e => by have := HLJ.out.cnt.ltM; injection e with e; omega
      have ci : W9.cell? ⟨wr.heap.size, 0, none⟩ = some (.int .i64 i.kind) := by rw [HS9.out.cell]; rfl
      by_cases h67 : i.kind = 6 ∨ i.kind = 7
      · rcases h67 with h6 | h6
        · rw [h6] at ci
          clear h6
          go_wp2_with fail
          go_roundw
          case rel => exact ⟨j + 1, s, g, n2, hlt, by go_num, rfl, ⟨hL.law.le (by omega), hL.cnt, hL.blk, hL.lid⟩, HI.out, by have := HN2.out; omega⟩
          case measure => simp [intOf]; omega
        · rw [h6] at ci
          clear h6
          go_wp2_with fail
          go_roundw
          case rel => exact ⟨j + 1, s, g, n2, hlt, by go_num, rfl, ⟨hL.law.le (by omega), hL.cnt, hL.blk, hL.lid⟩, HI.out, by have := HN2.out; omega⟩
          case measure => simp [intOf]; omega
      · have h6b : (i.kind == 6) = false := by rw [beq_eq_false_iff_ne]; omega
        have h7b : (i.kind == 7) = false := by rw [beq_eq_false_iff_ne]; omega
        have HK6 : Hid (i.kind ≠ 6) := Lib.hid (by omega)
        have HQ := Lib.hid (give_lk hL.law.law.good HOK.out.id HI.out (by omega) (by omega))
        obtain ⟨lg, hlq⟩ : ∃ lg, giveA s i = lg := ⟨_, rfl⟩
        obtain ⟨nl, hnl⟩ : ∃ nl, lg.length = nl := ⟨_, rfl⟩
        have HLQ := Lib.hid hlq
        have HNL := Lib.hid hnl
        rw [hlq] at HQ
        clear h67 hlq hnl
        have cw : W9.cell? ⟨wr.heap.size, 3, none⟩ = some (.int .i64 i.who) := by rw [HS9.out.cell]; rfl
        have cr : W9.cell? ⟨wr.heap.size, 1, none⟩ = some (.int .i64 i.round) := by rw [HS9.out.cell]; rfl
        have cn : W9.cell? ⟨wr.heap.size, 2, none⟩ = some (.int .i64 i.num) := by rw [HS9.out.cell]; rfl
        have ca : W9.cell? ⟨w.heap.size, 1, none⟩ = some (.int .i64 b) := by rw [(HK1.out.below (hL.base) HK1.out.lt).cell]; rfl
        have HLI := Lib.hid (inn_id HS9.out HOK.out)
        by_cases h3 : i.kind = 3
        · by_cases hwm : i.who = b
          · have hin : inL N b g i = g := if_neg fun q => q.2 hwm
            rw [hin] at HQ
            rw [h3] at ci
            rw [hwm] at cw
            have hS9v := HS9.out
            clear hin h3 hwm HLI
            go_upto_region 17 with (first
    | (guard_target = wpList _ _ _ (Oper.mk _ (.load 67 _) _ _ _ _ :: _) _ _; refine wpList_load_inn (by rfl) _ rfl ⟨wr.heap.size, 0, none⟩ i rfl (load_inn hS9v HOK.out) ?_)
    | (go_at_call 34; refine (hL.law.give HBM.out (by have := HJL.out; omega) i HOK.out HK6.out).mono ?_; rintro e Wg ⟨vg, rfl, hog, hlg, hkp⟩; rw [HLQ.out] at hog; have hnb : nl ≤ 1000000 := HNL.out ▸ hog.2.1; obtain ⟨Aq, cq, rfl⟩ := hog.sliceN HNL.out))
            have HLG : Hid (LkR W1 B C M N C2 M2 Lb (j + 1) (giveS s i) g n2 Wg) := Lib.hid ⟨hlg, hL.cnt.same (hkp C2 (by simp)) (hkp M2 (by simp)), hL.blk.alike (hkp Lb (by simp)), hL.lid⟩
            obtain ⟨bq, hob, hbq⟩ : ∃ bq, OwnA bq Wg (.slice Aq nl cq) lg ∧ (Lb < bq ∧ M2 < bq) := ⟨_, hog, hL.blk.lt, hL.cnt.ltM⟩
            have HOB := Lib.hid hob
            have HBQ := Lib.hid hbq
            obtain ⟨wp, hwp⟩ : ∃ z, z = wr := ⟨_, rfl⟩
            subst hwp
            have ca' : Below W1.heap.size W1 Wg := HLG.out.base
            clear hob hbq hog hlg hkp
            go_loopw [9, 91] (fun s9 s91 wr => ∃ k : Nat, k ≤ nl ∧ s91 = .int .i64 (k : Int) ∧ s9 = .int .i64 ((lg.take k).foldl (upL N b) g).locked ∧ LkR W1 B C M N C2 M2 Lb (j + 1) (giveS s i) ((lg.take k).foldl (upL N b) g) (n2 + k) wr ∧ OwnA bq wr (.slice Aq nl cq) lg) (fun _ s91 _ => nl - (intOf s91).toNat)
            case atStart => exact ⟨0, Nat.zero_le _, rfl, rfl, HLG.out, HOB.out⟩
            case round =>
              obtain ⟨k, hkn, rfl, rfl, hlk, hO⟩ := hrel
              by_cases hkl : k < nl
              · have hki : (k : Int) < (nl : Int) := by omega
                have hk0 : (0 : Int) ≤ (k : Int) := by omega
                obtain ⟨x, hxk⟩ : ∃ x, lg[k]? = some x := ⟨_, List.getElem?_eq_getElem (by rw [HNL.out]; exact hkl)⟩
                obtain ⟨gk, hgk⟩ : ∃ gk, (lg.take k).foldl (upL N b) g = gk := ⟨_, rfl⟩
                have hok := acts_at HQ.out.1 hxk
                rw [hgk] at hlk hok ⊢
                have HGK := Lib.hid hgk
                have HOKX := Lib.hid hok
                have HXK := Lib.hid hxk
                obtain ⟨adx, cx, hex, hxo, _, hla⟩ := hO.rd.here hxk
                rw [HNL.out] at hex
                obtain ⟨rfl, -, rfl⟩ := Value.slice.inj hex
                have HLA := Lib.hid hla
                have HXO := Lib.hid hxo
                have HNB : Hid (n2 + k < 1000000000) := Lib.hid (by have := HN2.out; have := HJL.out; omega)
                have HP8 : Hid (some wr.heap.size ≠ some M2) := Lib.hid fun e => by have := hlk.cnt.ltM; injection e with e; omega
                have HP7 : Hid (some wr.heap.size ≠ some Lb) := Lib.hid fun e => by have := hlk.blk.lt; injection e with e; omega
                clear hxk hex hxo hla hgk hok
                go_upto_region 19 with (first
              | (guard_target = wpList _ _ _ (Oper.mk _ (.load 71 _) _ _ _ _ :: _) _ _; refine wpList_load_runS (by rfl) 71 _ rfl _ _ rfl (HLA.out _ (Below.refl _ _)) ?_)
              | (guard_target = wpList _ _ _ (Oper.mk _ (.store 71 _ _) _ _ _ _ :: _) _ _; refine wpList_store_actL rfl _ _ rfl wr.heap.size x rfl rfl HXO.out 71 _ (Blk.newAt _ _ rfl rfl) rfl ?_; intro W8 hS8 hz8 hb8 hk8; have hbn := (((Below.refl _ wr).alloc (Nat.le_refl _) _).trans hb8); replace hlk := hlk.below hbn; replace hO := hO.below hbn; clear hz8 hb8 hk8 hbn))
                have ck : W8.cell? ⟨wr.heap.size, 0, none⟩ = some (.int .i64 x.kind) := by rw [hS8.cell]; rfl
                by_cases h2 : x.kind = 2
                · have hokx := HOKX.out h2
                  have HO2 := Lib.hid hokx
                  have cr : W8.cell? ⟨wr.heap.size, 1, none⟩ = some (.int .i64 x.round) := by rw [hS8.cell]; rfl
                  have cn : W8.cell? ⟨wr.heap.size, 2, none⟩ = some (.int .i64 x.num) := by rw [hS8.cell]; rfl
                  have ca : W8.cell? ⟨w.heap.size, 1, none⟩ = some (.int .i64 b) := by rw [(HK1.out.below (hlk.base) HK1.out.lt).cell]; rfl
                  have HK2 := Lib.hid h2
                  rw [h2] at ck
                  clear h2 hokx
                  go_upto_region 21 with (first
              | (guard_target = wpList _ _ _ (Oper.mk _ (.load 24 (.tmp 105)) _ _ _ _ :: _) _ _; refine wpList_load_runS (by rfl) 24 _ rfl _ _ rfl (act_id hS8 HXO.out) ?_)
              | (go_at_call 21; refine (put_any hlk.cnt x.round x.num b x.id HXO.out.id HXO.out.round HXO.out.num HWB.out (by have := HNB.out; unfold maxLen; omega)).mono ?_; rintro e Wu ⟨rfl, hcu, hgu⟩; replace hlk := hlk.put HNE.out.2.1 hcu hgu; replace hO := hO.grown hgu HBQ.out.2; replace hS8 := hS8.grown hgu (HP8.out); clear hcu hgu))
                  clear ck cr cn ca
                  replace hlk := hlk.below (Below.refl _ _).drew
                  replace hO := hO.drew
                  replace hS8 := hS8.drew
                  cases hnl2 : x.id == nilId with
                  | true =>
                    have HUP : Hid (upL N b gk x = { gk with c := putT N gk.c x.round x.num b x.id }) := Lib.hid (by unfold upL; rw [if_neg (fun e => e HK2.out), if_pos (by simpa using hnl2)])
                    refine wp_region_held_drew (S := fun W' => (Instr.loadAt 24 (.pointer (some ⟨wr.heap.size, 4, none⟩))).run Try.prog W' = .ok (idv x.id) W') (by kernel_rfl) ?_ (fun hHeld => ?_)
                    · exact act_id hS8 HXO.out
                    refine wpAnyH_take (i := 0) (oi := ⟨some 108, _, _, _, _, _⟩) (v := ?_) rfl (by kernel_rfl) (by kernel_rfl) (by kernel_rfl) (fun _ _ _ h => h) (Or.inl ⟨by rfl, ?_⟩) (by assumption) ?_
                    rotate_left
                    · intro w hSw; (try dsimp only at hSw); go_simp; try (with_reducible rfl)
                    rotate_left 0
                    try simp only [Act.put, List.setIfInBounds_toArray, List.set_cons_zero, List.set_cons_succ]
                    refine wpAnyH_take (i := 1) (oi := ⟨some 109, _, _, _, _, _⟩) (v := (idv x.id)) rfl (by kernel_rfl) (by kernel_rfl) (by kernel_rfl) (fun _ _ _ h => h) (yields_run (by rfl) 24 _ rfl (.pointer (some ⟨wr.heap.size, 4, none⟩)) _ rfl (fun W' hS => hS)) (by assumption) ?_
                    try simp only [Act.put, List.setIfInBounds_toArray, List.set_cons_zero, List.set_cons_succ]
                    refine wpAnyH_ready (rs := [2]) (by kernel_rfl) (by simp) ?_
                    refine (AllReadyH.cons (o := ⟨some 110, _, _, _, _, _⟩) rfl (fun K hK => ?_) AllReadyH.nil)
                    (try rw [if_pos (by rfl)])
                    go_simp
                    refine (nil_any _).mono ?_
                    rintro e Wn ⟨rfl, hbn⟩
                    replace hlk := hlk.below hbn
                    replace hO := hO.below hbn
                    replace hS8 := hS8.below hbn hS8.lt
                    clear hbn
                    try dsimp only
                    refine hK.out _ _ (act_id hS8 HXO.out) (fun hHeld => ?_)
                    clear hK K
                    try simp only [Act.put, List.setIfInBounds_toArray, List.set_cons_zero, List.set_cons_succ]
                    refine wpAnyH_take (i := 3) (oi := ⟨some 111, _, _, _, _, _⟩) (v := (.bool (x.id == nilId))) rfl (by kernel_rfl) (by kernel_rfl) (by kernel_rfl) (fun _ _ _ h => h) (yields_eqI (by rfl) _ _ rfl x.id nilId rfl rfl HXO.out.id nilId_ok) (by assumption) ?_
                    try simp only [Act.put, List.setIfInBounds_toArray, List.set_cons_zero, List.set_cons_succ]
                    refine wpAnyH_done (by kernel_rfl) ?_ _
                    rw [hnl2]
                    go_wp2_with fail
                    go_roundw
                    case rel =>
                      refine ⟨k + 1, hkl, by go_num, ?_, ?_, hO⟩
                      · rw [take_fold (upL N b) HXK.out, HGK.out, HUP.out]
                      · rw [take_fold (upL N b) HXK.out, HGK.out, HUP.out]
                        exact hlk
                    case measure => simp [intOf]; omega
                  | false =>
                    have hne : x.id ≠ nilId := by simpa using hnl2
                    have HNE2 := Lib.hid hne
                    clear hne
                    refine wp_region_held_drew (S := fun W' => (Instr.loadAt 24 (.pointer (some ⟨wr.heap.size, 4, none⟩))).run Try.prog W' = .ok (idv x.id) W') (by kernel_rfl) ?_ (fun hHeld => ?_)
                    · exact act_id hS8 HXO.out
                    refine wpAnyH_take (i := 0) (oi := ⟨some 108, _, _, _, _, _⟩) (v := ?_) rfl (by kernel_rfl) (by kernel_rfl) (by kernel_rfl) (fun _ _ _ h => h) (Or.inl ⟨by rfl, ?_⟩) (by assumption) ?_
                    rotate_left
                    · intro w hSw; (try dsimp only at hSw); go_simp; try (with_reducible rfl)
                    rotate_left 0
                    try simp only [Act.put, List.setIfInBounds_toArray, List.set_cons_zero, List.set_cons_succ]
                    refine wpAnyH_take (i := 1) (oi := ⟨some 109, _, _, _, _, _⟩) (v := (idv x.id)) rfl (by kernel_rfl) (by kernel_rfl) (by kernel_rfl) (fun _ _ _ h => h) (yields_run (by rfl) 24 _ rfl (.pointer (some ⟨wr.heap.size, 4, none⟩)) _ rfl (fun W' hS => hS)) (by assumption) ?_
                    try simp only [Act.put, List.setIfInBounds_toArray, List.set_cons_zero, List.set_cons_succ]
                    refine wpAnyH_ready (rs := [2]) (by kernel_rfl) (by simp) ?_
                    refine (AllReadyH.cons (o := ⟨some 110, _, _, _, _, _⟩) rfl (fun K hK => ?_) AllReadyH.nil)
                    (try rw [if_pos (by rfl)])
                    go_simp
                    refine (nil_any _).mono ?_
                    rintro e Wn ⟨rfl, hbn⟩
                    replace hlk := hlk.below hbn
                    replace hO := hO.below hbn
                    replace hS8 := hS8.below hbn hS8.lt
                    clear hbn
                    try dsimp only
                    refine hK.out _ _ (act_id hS8 HXO.out) (fun hHeld => ?_)
                    clear hK K
                    try simp only [Act.put, List.setIfInBounds_toArray, List.set_cons_zero, List.set_cons_succ]
                    refine wpAnyH_take (i := 3) (oi := ⟨some 111, _, _, _, _, _⟩) (v := (.bool (x.id == nilId))) rfl (by kernel_rfl) (by kernel_rfl) (by kernel_rfl) (fun _ _ _ h => h) (yields_eqI (by rfl) _ _ rfl x.id nilId rfl rfl HXO.out.id nilId_ok) (by assumption) ?_
                    try simp only [Act.put, List.setIfInBounds_toArray, List.set_cons_zero, List.set_cons_succ]
                    refine wpAnyH_done (by kernel_rfl) ?_ _
                    rw [hnl2]
                    have cn := act_num hS8
                    by_cases hnum : x.num = 1
                    · as_aux_lemma =>
                        have HUP : Hid (upL N b gk x = ⟨putT N gk.c x.round x.num b x.id, x.round, x.id⟩) := Lib.hid (by unfold upL; rw [if_neg (fun e => e HK2.out), if_neg HNE2.out, if_pos hnum])
                        have hsu := (HO2.out.2.2.2 HNE2.out).1 hnum
                        have HSU : Hid (∀ W', CountAt W' C2 M2 (n2 + k + 1) N (putT N gk.c x.round x.num b x.id) → Calls Try.prog 22 #[.pointer (some ⟨C2, 0, none⟩), .int .i64 x.round, .int .i64 0] W' fun e w' => e = .returned (.tuple #[idv x.id, .bool true]) ∧ Below W'.heap.size W' w') := Lib.hid fun W' hc => by
                          have := sure_any hc x.round 0 HXO.out.round (wfi_small (by omega) (by omega)) HN1000.out
                          rwa [hsu] at this
                        rw [hnum] at cn
                        clear hsu hnum
                        have cr := act_round hS8
                        go_upto_region 24 with (first
                          | (go_at_call 22; refine (HSU.out _ hlk.cnt).mono ?_; rintro e Wu ⟨rfl, hbn⟩; replace hlk := hlk.below hbn; replace hO := hO.below hbn; replace hS8 := hS8.below hbn hS8.lt; clear hbn)
                          | (guard_target = wpList _ _ _ (Oper.mk _ (.store 24 _ _) _ _ _ _ :: _) _ _; refine wpList_store_idv rfl _ _ rfl Wu.heap.size x.id rfl rfl HXO.out.id 24 _ (Blk.newAt _ _ rfl rfl) rfl ?_; intro W7 hS7 hz7 hb7 hk7; have hbn := (((Below.refl _ Wu).alloc (Nat.le_refl _) _).trans hb7); replace hlk := hlk.below hbn; replace hO := hO.below hbn; replace hS8 := hS8.below hbn hS8.lt; clear hbn; clear hz7 hb7 hk7))
                        clear cn cr
                        have heq := fun W => neq_idv HXO.out.id HXO.out.id W
                        have hgu := fun W a b => guardn_idv a b x.id x.id W
                        go_upto_region 26 with (first
                          | (guard_target = wpList _ _ _ (Oper.mk _ (.load 24 (.tmp 15)) _ _ _ _ :: _) _ _; refine wpList_load_runS (by rfl) 24 _ rfl _ _ rfl (run_loadVar_idv HXO.out.id hS7) ?_)
                          | (guard_target = wpList _ _ _ (Oper.mk _ (.load 24 (.tmp 126)) _ _ _ _ :: _) _ _; refine wpList_load_runS (by rfl) 24 _ rfl _ _ rfl (act_id hS8 HXO.out) ?_))
                        clear heq hgu hS7
                        replace hlk := hlk.below (Below.refl _ _).drew
                        replace hO := hO.drew
                        replace hS8 := hS8.drew
                        refine wp_region_held_drew (S := fun W' => W'.cell? ⟨wr.heap.size, 1, none⟩ = some (.int .i64 x.round) ∧ (Instr.loadAt 24 (.pointer (some ⟨wr.heap.size, 4, none⟩))).run Try.prog W' = .ok (idv x.id) W') (by kernel_rfl) ?_ (fun hHeld => ?_)
                        · exact ⟨act_round hS8, act_id hS8 HXO.out⟩
                        refine wpAnyH_take (i := 0) (oi := ⟨some 130, _, _, _, _, _⟩) (v := ?_) rfl (by kernel_rfl) (by kernel_rfl) (by kernel_rfl) (fun _ _ _ h => h) (Or.inl ⟨by rfl, ?_⟩) (by assumption) ?_
                        rotate_left
                        · intro w hSw; (try dsimp only at hSw); go_simp; try (with_reducible rfl)
                        rotate_left 0
                        try simp only [Act.put, List.setIfInBounds_toArray, List.set_cons_zero, List.set_cons_succ]
                        refine wpAnyH_take (i := 1) (oi := ⟨some 131, _, _, _, _, _⟩) (v := (.int .i64 x.round)) rfl (by kernel_rfl) (by kernel_rfl) (by kernel_rfl) (fun _ _ _ h => h) (yields_one (by rfl) 3 _ rfl ⟨wr.heap.size, 1, none⟩ rfl _ _ (fun W' hS => hS.1) Try.underlying3 rfl) (by assumption) ?_
                        try simp only [Act.put, List.setIfInBounds_toArray, List.set_cons_zero, List.set_cons_succ]
                        refine wpAnyH_take (i := 2) (oi := ⟨some 132, _, _, _, _, _⟩) (v := ?_) rfl (by kernel_rfl) (by kernel_rfl) (by kernel_rfl) (fun _ _ _ h => h) (Or.inl ⟨by rfl, ?_⟩) (by assumption) ?_
                        rotate_left
                        · intro w hSw; (try dsimp only at hSw); go_simp; try (with_reducible rfl)
                        rotate_left 0
                        try simp only [Act.put, List.setIfInBounds_toArray, List.set_cons_zero, List.set_cons_succ]
                        refine wpAnyH_take (i := 3) (oi := ⟨some 133, _, _, _, _, _⟩) (v := (idv x.id)) rfl (by kernel_rfl) (by kernel_rfl) (by kernel_rfl) (fun _ _ _ h => h) (yields_run (by rfl) 24 _ rfl (.pointer (some ⟨wr.heap.size, 4, none⟩)) _ rfl (fun W' hS => hS.2)) (by assumption) ?_
                        try simp only [Act.put, List.setIfInBounds_toArray, List.set_cons_zero, List.set_cons_succ]
                        refine wpAnyH_take (i := 4) (oi := ⟨some 9, _, _, _, _, _⟩) (v := ?_) rfl (by kernel_rfl) (by kernel_rfl) (by kernel_rfl) (fun _ _ _ h => h) (Or.inl ⟨by rfl, ?_⟩) (by assumption) ?_
                        rotate_left
                        · intro w hSw; (try dsimp only at hSw); go_simp; try (with_reducible rfl)
                        rotate_left 0
                        try simp only [Act.put, List.setIfInBounds_toArray, List.set_cons_zero, List.set_cons_succ]
                        refine wpAnyH_ready (rs := [5]) (by kernel_rfl) (by simp) ?_
                        refine (AllReadyH.cons (o := ⟨none, _, _, _, _, _⟩) rfl (fun K hK => ?_) AllReadyH.nil)
                        (try rw [if_pos (by rfl)])
                        refine oper_store_idR _ _ rfl Lb x.id rfl rfl HXO.out.id 24 _ hlk.blk (idC_size hlk.lid) ?_
                        intro Wl hkl2 hgl hzl
                        replace hlk := hlk.store (r := x.round) HNE.out.2.2.1 HNE.out.2.2.2 HXO.out.id hkl2 hgl
                        replace hO := hO.grown hgl HBQ.out.1
                        replace hS8 := hS8.grown hgl HP7.out
                        clear hkl2 hgl hzl
                        try dsimp only
                        refine hK.out _ _ (⟨act_round hS8, act_id hS8 HXO.out⟩) (fun hHeld => ?_)
                        clear hK K
                        skip
                        refine wpAnyH_done (by kernel_rfl) ?_ _
                        go_wp2_with fail
                        go_roundw
                        case rel =>
                          refine ⟨k + 1, hkl, by go_num, ?_, ?_, hO⟩
                          · rw [take_fold (upL N b) HXK.out, HGK.out, HUP.out]
                          · rw [take_fold (upL N b) HXK.out, HGK.out, HUP.out]
                            exact hlk
                        case measure => simp [intOf]; omega
                    · have hnum0 : x.num = 0 := by have := HO2.out.2.1; omega
                      have HUP : Hid (upL N b gk x = { gk with c := putT N gk.c x.round x.num b x.id }) := Lib.hid (by unfold upL; rw [if_neg (fun e => e HK2.out), if_neg HNE2.out, if_neg (by omega)])
                      rw [hnum0] at cn
                      have hlr := HO2.out.2.2.1
                      obtain ⟨hlr0, hlr1⟩ := hlr
                      by_cases hneg : gk.locked < 0
                      · as_aux_lemma =>
                          have hmx : max gk.locked 0 = 0 := by omega
                          go_upto_region 29 with fail
                          clear cn
                          go_loopw [17, 18] (fun s17 s18 wx => ∃ (q : Int) (fr : Bool), s18 = .int .i64 q ∧ s17 = .bool fr ∧ 0 ≤ q ∧ gk.locked ≤ q ∧ q ≤ 12 ∧ (fr = false → ¬ gk.locked < 0 ∧ gk.lock ≠ x.id ∧ ∀ i : Int, gk.locked ≤ i → 0 ≤ i → i < q → sureO N (putT N gk.c x.round x.num b x.id) i 0 ≠ some x.id) ∧ Below Wn.heap.size Wn wx) (fun _ s18 _ => (12 - intOf s18).toNat)
                          case atStart => exact ⟨_, true, rfl, rfl, by omega, by omega, by omega, fun e => (by cases e), Below.refl _ _⟩
                          case round =>
                            obtain ⟨q, fr, rfl, rfl, hq0, hq1, hq2, hfr, hbx⟩ := hrel
                            have HBX := Lib.hid hbx
                            have HFR := Lib.hid hfr
                            have hS8x := hS8.below hbx hS8.lt
                            have crx := act_round hS8x
                            clear hbx hfr
                            cases fr with
                            | true =>
                              by_cases hqr : q < x.round
                              · go_wp2_with fail
                                replace hlk := hlk.below HBX.out
                                replace hO := hO.below HBX.out
                                go_roundw
                                case rel =>
                                  refine ⟨k + 1, hkl, by go_num, ?_, ?_, hO⟩
                                  · rw [take_fold (upL N b) HXK.out, HGK.out, HUP.out]
                                  · rw [take_fold (upL N b) HXK.out, HGK.out, HUP.out]
                                    exact hlk
                                case measure => simp [intOf]; omega
                              · go_wp2_with fail
                                replace hlk := hlk.below HBX.out
                                replace hO := hO.below HBX.out
                                go_roundw
                                case rel =>
                                  refine ⟨k + 1, hkl, by go_num, ?_, ?_, hO⟩
                                  · rw [take_fold (upL N b) HXK.out, HGK.out, HUP.out]
                                  · rw [take_fold (upL N b) HXK.out, HGK.out, HUP.out]
                                    exact hlk
                                case measure => simp [intOf]; omega
                            | false =>
                              obtain ⟨f1, f2, f3⟩ := HFR.out rfl
                              exact absurd hneg f1
                      · have hmx : max gk.locked 0 = gk.locked := by omega
                        have hneg2 : 0 ≤ gk.locked := by omega
                        have heq := fun W => eql_idv hlk.lid HXO.out.id W
                        have hgu := fun W a b => guard_idv a b gk.lock x.id W
                        cases hle : gk.lock == x.id with
                        | true =>
                          as_aux_lemma =>
                            have HLE := Lib.hid hle
                            go_upto_region 29 with (first
                        | (guard_target = wpList _ _ _ (Oper.mk _ (.load 24 (.tmp 10)) _ _ _ _ :: _) _ _; refine wpList_load_runS (by rfl) 24 _ rfl _ _ rfl (run_loadVar_idv hlk.lid hlk.blk) ?_)
                        | (guard_target = wpList _ _ _ (Oper.mk _ (.load 24 (.tmp 138)) _ _ _ _ :: _) _ _; refine wpList_load_runS (by rfl) 24 _ rfl _ _ rfl (act_id hS8 HXO.out) ?_))
                            try rw [hle]
                            clear cn heq hgu hle
                            go_loopw [17, 18] (fun s17 s18 wx => ∃ (q : Int) (fr : Bool), s18 = .int .i64 q ∧ s17 = .bool fr ∧ 0 ≤ q ∧ gk.locked ≤ q ∧ q ≤ 12 ∧ (fr = false → ¬ gk.locked < 0 ∧ gk.lock ≠ x.id ∧ ∀ i : Int, gk.locked ≤ i → 0 ≤ i → i < q → sureO N (putT N gk.c x.round x.num b x.id) i 0 ≠ some x.id) ∧ Below Wn.heap.size Wn wx) (fun _ s18 _ => (12 - intOf s18).toNat)
                            case atStart => exact ⟨_, true, rfl, rfl, by omega, by omega, by omega, fun e => (by cases e), Below.refl _ _⟩
                            case round =>
                              obtain ⟨q, fr, rfl, rfl, hq0, hq1, hq2, hfr, hbx⟩ := hrel
                              have HBX := Lib.hid hbx
                              have HFR := Lib.hid hfr
                              have hS8x := hS8.below hbx hS8.lt
                              have crx := act_round hS8x
                              clear hbx hfr
                              cases fr with
                              | true =>
                                by_cases hqr : q < x.round
                                · go_wp2_with fail
                                  replace hlk := hlk.below HBX.out
                                  replace hO := hO.below HBX.out
                                  go_roundw
                                  case rel =>
                                    refine ⟨k + 1, hkl, by go_num, ?_, ?_, hO⟩
                                    · rw [take_fold (upL N b) HXK.out, HGK.out, HUP.out]
                                    · rw [take_fold (upL N b) HXK.out, HGK.out, HUP.out]
                                      exact hlk
                                  case measure => simp [intOf]; omega
                                · go_wp2_with fail
                                  replace hlk := hlk.below HBX.out
                                  replace hO := hO.below HBX.out
                                  go_roundw
                                  case rel =>
                                    refine ⟨k + 1, hkl, by go_num, ?_, ?_, hO⟩
                                    · rw [take_fold (upL N b) HXK.out, HGK.out, HUP.out]
                                    · rw [take_fold (upL N b) HXK.out, HGK.out, HUP.out]
                                      exact hlk
                                  case measure => simp [intOf]; omega
                              | false =>
                                obtain ⟨f1, f2, f3⟩ := HFR.out rfl
                                exact absurd (by simpa using HLE.out) f2
                        | false =>
                          as_aux_lemma =>
                            have HLE := Lib.hid hle
                            go_upto_region 29 with (first
                        | (guard_target = wpList _ _ _ (Oper.mk _ (.load 24 (.tmp 10)) _ _ _ _ :: _) _ _; refine wpList_load_runS (by rfl) 24 _ rfl _ _ rfl (run_loadVar_idv hlk.lid hlk.blk) ?_)
                        | (guard_target = wpList _ _ _ (Oper.mk _ (.load 24 (.tmp 138)) _ _ _ _ :: _) _ _; refine wpList_load_runS (by rfl) 24 _ rfl _ _ rfl (act_id hS8 HXO.out) ?_))
                            try rw [hle]
                            clear cn heq hgu hle
                            go_loopw [17, 18] (fun s17 s18 wx => ∃ (q : Int) (fr : Bool), s18 = .int .i64 q ∧ s17 = .bool fr ∧ 0 ≤ q ∧ gk.locked ≤ q ∧ q ≤ 12 ∧ (fr = false → ¬ gk.locked < 0 ∧ gk.lock ≠ x.id ∧ ∀ i : Int, gk.locked ≤ i → 0 ≤ i → i < q → sureO N (putT N gk.c x.round x.num b x.id) i 0 ≠ some x.id) ∧ Below Wn.heap.size Wn wx) (fun _ s18 _ => (12 - intOf s18).toNat)
                            case atStart => exact ⟨_, false, rfl, rfl, by omega, by omega, by omega, fun _ => ⟨by omega, by simpa using HLE.out, fun i h1 h2 h3 => by omega⟩, Below.refl _ _⟩
                            case round =>
                              obtain ⟨q, fr, rfl, rfl, hq0, hq1, hq2, hfr, hbx⟩ := hrel
                              have HBX := Lib.hid hbx
                              have HFR := Lib.hid hfr
                              have hS8x := hS8.below hbx hS8.lt
                              have crx := act_round hS8x
                              clear hbx hfr
                              cases fr with
                              | true =>
                                by_cases hqr : q < x.round
                                · go_wp2_with fail
                                  replace hlk := hlk.below HBX.out
                                  replace hO := hO.below HBX.out
                                  go_roundw
                                  case rel =>
                                    refine ⟨k + 1, hkl, by go_num, ?_, ?_, hO⟩
                                    · rw [take_fold (upL N b) HXK.out, HGK.out, HUP.out]
                                    · rw [take_fold (upL N b) HXK.out, HGK.out, HUP.out]
                                      exact hlk
                                  case measure => simp [intOf]; omega
                                · go_wp2_with fail
                                  replace hlk := hlk.below HBX.out
                                  replace hO := hO.below HBX.out
                                  go_roundw
                                  case rel =>
                                    refine ⟨k + 1, hkl, by go_num, ?_, ?_, hO⟩
                                    · rw [take_fold (upL N b) HXK.out, HGK.out, HUP.out]
                                    · rw [take_fold (upL N b) HXK.out, HGK.out, HUP.out]
                                      exact hlk
                                  case measure => simp [intOf]; omega
                              | false =>
                                obtain ⟨f1, f2, f3⟩ := HFR.out rfl
                                have HF3 := Lib.hid f3
                                have HF2 := Lib.hid f2
                                have hxr := HO2.out.1
                                obtain ⟨hxr0, hxr1⟩ := hxr
                                by_cases hqr : q < x.round
                                · clear f3 f2
                                  have HCX := Lib.hid (hlk.cnt.below HBX.out)
                                  have HSU : Hid (∀ W', Below wr.heap.size wr W' → Calls Try.prog 22 #[.pointer (some ⟨C2, 0, none⟩), .int .i64 q, .int .i64 0] W' fun e w' => e = .returned (.tuple #[idv ((sureO N (putT N gk.c x.round x.num b x.id) q 0).getD zeroId), .bool (sureO N (putT N gk.c x.round x.num b x.id) q 0).isSome]) ∧ Below W'.heap.size W' w') := Lib.hid fun W' hb => sure_any (HCX.out.below hb) q 0 (wfi_small (by omega) (by omega)) (wfi_small (by omega) (by omega)) HN1000.out
                                  cases hso : sureO N (putT N gk.c x.round x.num b x.id) q 0 with
                                  | none =>
                                    rw [hso] at HSU
                                    have HSO := Lib.hid hso
                                    clear hso
                                    go_wp2_with (first
                                      | (go_at_call 22; refine (HSU.out _ (Below.refl _ _)).mono ?_; rintro e Wu ⟨rfl, hbu⟩)
                                      | (guard_target = wpList _ _ _ (Oper.mk _ (.store 24 _ _) _ _ _ _ :: _) _ _; refine wpList_store_idv rfl _ _ rfl Wu.heap.size zeroId rfl rfl zeroId_ok 24 _ (Blk.newAt _ _ rfl rfl) rfl ?_; intro W7 hS7 hz7 hb7 hk7))
                                    have hbf := HBX.out.trans ((hbu.trans ((((Below.refl _ Wu).alloc (Nat.le_refl _) _).trans hb7).mono hbu.size)).mono HBX.out.size)
                                    go_roundw
                                    case rel => exact ⟨q + 1, false, by go_num, rfl, by omega, by omega, by omega, fun _ => ⟨by omega, HF2.out, fun i h1 h2 h3 => by
                                      rcases Int.lt_or_le i q with h | h
                                      · exact HF3.out i h1 h2 h
                                      · obtain rfl : i = q := by omega
                                        rw [HSO.out]
                                        intro e
                                        cases e⟩, hbf⟩
                                    case measure => simp [intOf]; omega
                                  | some y =>
                                    rw [hso] at HSU
                                    have HY : Hid (IdOk y) := Lib.hid (sureO_okR HCX.out hso).1
                                    have HSO := Lib.hid hso
                                    clear hso
                                    go_upto_region 32 with (first
                                      | (go_at_call 22; refine (HSU.out _ (Below.refl _ _)).mono ?_; rintro e Wu ⟨rfl, hbu⟩)
                                      | (guard_target = wpList _ _ _ (Oper.mk _ (.store 24 _ _) _ _ _ _ :: _) _ _; refine wpList_store_idv rfl _ _ rfl Wu.heap.size y rfl rfl HY.out 24 _ (Blk.newAt _ _ rfl rfl) rfl ?_; intro W7 hS7 hz7 hb7 hk7))
                                    have hbf := HBX.out.trans ((hbu.trans ((((Below.refl _ Wu).alloc (Nat.le_refl _) _).trans hb7).mono hbu.size)).mono HBX.out.size)
                                    have heq := fun W => eql_idv HY.out HXO.out.id W
                                    have hgu := fun W a b => guard_idv a b y x.id W
                                    clear hz7 hb7 hk7
                                    go_wp2_with (first
                                      | (guard_target = wpList _ _ _ (Oper.mk _ (.load 24 (.tmp 19)) _ _ _ _ :: _) _ _; refine wpList_load_runS (by rfl) 24 _ rfl _ _ rfl (run_loadVar_idv HY.out hS7) ?_)
                                      | (guard_target = wpList _ _ _ (Oper.mk _ (.load 24 (.tmp 163)) _ _ _ _ :: _) _ _; refine wpList_load_runS (by rfl) 24 _ rfl _ _ rfl (act_id (hS8.below hbf hS8.lt) HXO.out) ?_))
                                    go_roundw
                                    case rel => exact ⟨q + 1, (y == x.id), by go_num, rfl, by omega, by omega, by omega, fun he => ⟨by omega, HF2.out, fun i h1 h2 h3 => by
                                      rcases Int.lt_or_le i q with h | h
                                      · exact HF3.out i h1 h2 h
                                      · obtain rfl : i = q := by omega
                                        rw [HSO.out]
                                        intro e
                                        injection e with e
                                        rw [e] at he
                                        simp at he⟩, hbf⟩
                                    case measure => simp [intOf]; omega
                                · exfalso
                                  rcases (HO2.out.2.2.2 HNE2.out).2 hnum0 with h1 | h1 | ⟨i, h1, h2, h3, h4⟩
                                  · exact f1 h1
                                  · exact f2 h1
                                  · exact f3 i h1 h2 (by omega) h4
                · have h2b : (x.kind == 2) = false := by rw [beq_eq_false_iff_ne]; exact h2
                  have HUP : Hid (upL N b gk x = gk) := Lib.hid (up_other h2)
                  clear h2
                  go_wp2_with fail
                  go_roundw
                  case rel =>
                    refine ⟨k + 1, hkl, by go_num, ?_, ?_, hO⟩
                    · rw [take_fold (upL N b) HXK.out, HGK.out, HUP.out]
                    · rw [take_fold (upL N b) HXK.out, HGK.out, HUP.out]
                      exact hlk.more (by omega)
                  case measure => simp [intOf]; omega
              · obtain rfl : k = nl := by omega
                have hki : ¬ (k : Int) < (k : Int) := by omega
                have hfull : lg.take k = lg := List.take_of_length_le (by rw [HNL.out]; exact Nat.le_refl _)
                rw [hfull] at hlk ⊢
                have HLK := Lib.hid hlk
                clear hfull hlk hO
                go_wp2_with fail
                go_roundw
                case rel => exact ⟨j + 1, giveS s i, _, n2 + k, hlt, by go_num, rfl, HLK.out, HQ.out.2, by have := HN2.out; omega⟩
                case measure => simp [intOf]; omega
          · have hin : inL N b g i = { g with c := putT N g.c i.round i.num i.who i.id } := if_pos ⟨h3, hwm⟩
            have hwb : (i.who == b) = false := by rw [beq_eq_false_iff_ne]; exact hwm
            rw [hin] at HQ
            rw [h3] at ci
            clear hin h3 hwm
            go_upto_region 16 with (first
    | (guard_target = wpList _ _ _ (Oper.mk _ (.load 24 _) _ _ _ _ :: _) _ _; refine wpList_load_runS (by rfl) 24 _ rfl _ _ rfl HLI.out ?_)
    | (go_at_call 21; refine (put_any hL.cnt i.round i.num i.who i.id HOK.out.id HOK.out.round HOK.out.num HOK.out.who (by have := HN2.out; have := HJL.out; unfold maxLen; omega)).mono ?_; rintro e Wv ⟨rfl, hcv, hgv⟩; replace hL := hL.put HNE.out.2.1 hcv hgv; have hS9v := HS9.out.grown hgv HP9.out; clear hcv hgv))
            clear ci cw cr cn ca
            go_upto_region 17 with (first
    | (guard_target = wpList _ _ _ (Oper.mk _ (.load 67 _) _ _ _ _ :: _) _ _; refine wpList_load_inn (by rfl) _ rfl ⟨wr.heap.size, 0, none⟩ i rfl (load_inn hS9v HOK.out) ?_)
    | (go_at_call 34; refine (hL.law.give HBM.out (by have := HJL.out; omega) i HOK.out HK6.out).mono ?_; rintro e Wg ⟨vg, rfl, hog, hlg, hkp⟩; rw [HLQ.out] at hog; have hnb : nl ≤ 1000000 := HNL.out ▸ hog.2.1; obtain ⟨Aq, cq, rfl⟩ := hog.sliceN HNL.out))
            have HLG : Hid (LkR W1 B C M N C2 M2 Lb (j + 1) (giveS s i) { g with c := putT N g.c i.round i.num i.who i.id } (n2 + 1) Wg) := Lib.hid ⟨hlg, hL.cnt.same (hkp C2 (by simp)) (hkp M2 (by simp)), hL.blk.alike (hkp Lb (by simp)), hL.lid⟩
            obtain ⟨bq, hob, hbq⟩ : ∃ bq, OwnA bq Wg (.slice Aq nl cq) lg ∧ (Lb < bq ∧ M2 < bq) := ⟨_, hog, hL.blk.lt, hL.cnt.ltM⟩
            have HOB := Lib.hid hob
            have HBQ := Lib.hid hbq
            obtain ⟨wp, hwp⟩ : ∃ z, z = wr := ⟨_, rfl⟩
            subst hwp
            have ca' : Below W1.heap.size W1 Wg := HLG.out.base
            clear hob hbq hog hlg hkp
            go_loopw [9, 91] (fun s9 s91 wr => ∃ k : Nat, k ≤ nl ∧ s91 = .int .i64 (k : Int) ∧ s9 = .int .i64 ((lg.take k).foldl (upL N b) { g with c := putT N g.c i.round i.num i.who i.id }).locked ∧ LkR W1 B C M N C2 M2 Lb (j + 1) (giveS s i) ((lg.take k).foldl (upL N b) { g with c := putT N g.c i.round i.num i.who i.id }) ((n2 + 1) + k) wr ∧ OwnA bq wr (.slice Aq nl cq) lg) (fun _ s91 _ => nl - (intOf s91).toNat)
            case atStart => exact ⟨0, Nat.zero_le _, rfl, rfl, HLG.out, HOB.out⟩
            case round =>
              obtain ⟨k, hkn, rfl, rfl, hlk, hO⟩ := hrel
              by_cases hkl : k < nl
              · have hki : (k : Int) < (nl : Int) := by omega
                have hk0 : (0 : Int) ≤ (k : Int) := by omega
                obtain ⟨x, hxk⟩ : ∃ x, lg[k]? = some x := ⟨_, List.getElem?_eq_getElem (by rw [HNL.out]; exact hkl)⟩
                obtain ⟨gk, hgk⟩ : ∃ gk, (lg.take k).foldl (upL N b) { g with c := putT N g.c i.round i.num i.who i.id } = gk := ⟨_, rfl⟩
                have hok := acts_at HQ.out.1 hxk
                rw [hgk] at hlk hok ⊢
                have HGK := Lib.hid hgk
                have HOKX := Lib.hid hok
                have HXK := Lib.hid hxk
                obtain ⟨adx, cx, hex, hxo, _, hla⟩ := hO.rd.here hxk
                rw [HNL.out] at hex
                obtain ⟨rfl, -, rfl⟩ := Value.slice.inj hex
                have HLA := Lib.hid hla
                have HXO := Lib.hid hxo
                have HNB : Hid ((n2 + 1) + k < 1000000000) := Lib.hid (by have := HN2.out; have := HJL.out; omega)
                have HP8 : Hid (some wr.heap.size ≠ some M2) := Lib.hid fun e => by have := hlk.cnt.ltM; injection e with e; omega
                have HP7 : Hid (some wr.heap.size ≠ some Lb) := Lib.hid fun e => by have := hlk.blk.lt; injection e with e; omega
                clear hxk hex hxo hla hgk hok
                go_upto_region 19 with (first
              | (guard_target = wpList _ _ _ (Oper.mk _ (.load 71 _) _ _ _ _ :: _) _ _; refine wpList_load_runS (by rfl) 71 _ rfl _ _ rfl (HLA.out _ (Below.refl _ _)) ?_)
              | (guard_target = wpList _ _ _ (Oper.mk _ (.store 71 _ _) _ _ _ _ :: _) _ _; refine wpList_store_actL rfl _ _ rfl wr.heap.size x rfl rfl HXO.out 71 _ (Blk.newAt _ _ rfl rfl) rfl ?_; intro W8 hS8 hz8 hb8 hk8; have hbn := (((Below.refl _ wr).alloc (Nat.le_refl _) _).trans hb8); replace hlk := hlk.below hbn; replace hO := hO.below hbn; clear hz8 hb8 hk8 hbn))
                have ck : W8.cell? ⟨wr.heap.size, 0, none⟩ = some (.int .i64 x.kind) := by rw [hS8.cell]; rfl
                by_cases h2 : x.kind = 2
                · have hokx := HOKX.out h2
                  have HO2 := Lib.hid hokx
                  have cr : W8.cell? ⟨wr.heap.size, 1, none⟩ = some (.int .i64 x.round) := by rw [hS8.cell]; rfl
                  have cn : W8.cell? ⟨wr.heap.size, 2, none⟩ = some (.int .i64 x.num) := by rw [hS8.cell]; rfl
                  have ca : W8.cell? ⟨w.heap.size, 1, none⟩ = some (.int .i64 b) := by rw [(HK1.out.below (hlk.base) HK1.out.lt).cell]; rfl
                  have HK2 := Lib.hid h2
                  rw [h2] at ck
                  clear h2 hokx
                  go_upto_region 21 with (first
              | (guard_target = wpList _ _ _ (Oper.mk _ (.load 24 (.tmp 105)) _ _ _ _ :: _) _ _; refine wpList_load_runS (by rfl) 24 _ rfl _ _ rfl (act_id hS8 HXO.out) ?_)
              | (go_at_call 21; refine (put_any hlk.cnt x.round x.num b x.id HXO.out.id HXO.out.round HXO.out.num HWB.out (by have := HNB.out; unfold maxLen; omega)).mono ?_; rintro e Wu ⟨rfl, hcu, hgu⟩; replace hlk := hlk.put HNE.out.2.1 hcu hgu; replace hO := hO.grown hgu HBQ.out.2; replace hS8 := hS8.grown hgu (HP8.out); clear hcu hgu))
                  clear ck cr cn ca
                  replace hlk := hlk.below (Below.refl _ _).drew
                  replace hO := hO.drew
                  replace hS8 := hS8.drew
                  cases hnl2 : x.id == nilId with
                  | true =>
                    have HUP : Hid (upL N b gk x = { gk with c := putT N gk.c x.round x.num b x.id }) := Lib.hid (by unfold upL; rw [if_neg (fun e => e HK2.out), if_pos (by simpa using hnl2)])
                    refine wp_region_held_drew (S := fun W' => (Instr.loadAt 24 (.pointer (some ⟨wr.heap.size, 4, none⟩))).run Try.prog W' = .ok (idv x.id) W') (by kernel_rfl) ?_ (fun hHeld => ?_)
                    · exact act_id hS8 HXO.out
                    refine wpAnyH_take (i := 0) (oi := ⟨some 108, _, _, _, _, _⟩) (v := ?_) rfl (by kernel_rfl) (by kernel_rfl) (by kernel_rfl) (fun _ _ _ h => h) (Or.inl ⟨by rfl, ?_⟩) (by assumption) ?_
                    rotate_left
                    · intro w hSw; (try dsimp only at hSw); go_simp; try (with_reducible rfl)
                    rotate_left 0
                    try simp only [Act.put, List.setIfInBounds_toArray, List.set_cons_zero, List.set_cons_succ]
                    refine wpAnyH_take (i := 1) (oi := ⟨some 109, _, _, _, _, _⟩) (v := (idv x.id)) rfl (by kernel_rfl) (by kernel_rfl) (by kernel_rfl) (fun _ _ _ h => h) (yields_run (by rfl) 24 _ rfl (.pointer (some ⟨wr.heap.size, 4, none⟩)) _ rfl (fun W' hS => hS)) (by assumption) ?_
                    try simp only [Act.put, List.setIfInBounds_toArray, List.set_cons_zero, List.set_cons_succ]
                    refine wpAnyH_ready (rs := [2]) (by kernel_rfl) (by simp) ?_
                    refine (AllReadyH.cons (o := ⟨some 110, _, _, _, _, _⟩) rfl (fun K hK => ?_) AllReadyH.nil)
                    (try rw [if_pos (by rfl)])
                    go_simp
                    refine (nil_any _).mono ?_
                    rintro e Wn ⟨rfl, hbn⟩
                    replace hlk := hlk.below hbn
                    replace hO := hO.below hbn
                    replace hS8 := hS8.below hbn hS8.lt
                    clear hbn
                    try dsimp only
                    refine hK.out _ _ (act_id hS8 HXO.out) (fun hHeld => ?_)
                    clear hK K
                    try simp only [Act.put, List.setIfInBounds_toArray, List.set_cons_zero, List.set_cons_succ]
                    refine wpAnyH_take (i := 3) (oi := ⟨some 111, _, _, _, _, _⟩) (v := (.bool (x.id == nilId))) rfl (by kernel_rfl) (by kernel_rfl) (by kernel_rfl) (fun _ _ _ h => h) (yields_eqI (by rfl) _ _ rfl x.id nilId rfl rfl HXO.out.id nilId_ok) (by assumption) ?_
                    try simp only [Act.put, List.setIfInBounds_toArray, List.set_cons_zero, List.set_cons_succ]
                    refine wpAnyH_done (by kernel_rfl) ?_ _
                    rw [hnl2]
                    go_wp2_with fail
                    go_roundw
                    case rel =>
                      refine ⟨k + 1, hkl, by go_num, ?_, ?_, hO⟩
                      · rw [take_fold (upL N b) HXK.out, HGK.out, HUP.out]
                      · rw [take_fold (upL N b) HXK.out, HGK.out, HUP.out]
                        exact hlk
                    case measure => simp [intOf]; omega
                  | false =>
                    have hne : x.id ≠ nilId := by simpa using hnl2
                    have HNE2 := Lib.hid hne
                    clear hne
                    refine wp_region_held_drew (S := fun W' => (Instr.loadAt 24 (.pointer (some ⟨wr.heap.size, 4, none⟩))).run Try.prog W' = .ok (idv x.id) W') (by kernel_rfl) ?_ (fun hHeld => ?_)
                    · exact act_id hS8 HXO.out
                    refine wpAnyH_take (i := 0) (oi := ⟨some 108, _, _, _, _, _⟩) (v := ?_) rfl (by kernel_rfl) (by kernel_rfl) (by kernel_rfl) (fun _ _ _ h => h) (Or.inl ⟨by rfl, ?_⟩) (by assumption) ?_
                    rotate_left
                    · intro w hSw; (try dsimp only at hSw); go_simp; try (with_reducible rfl)
                    rotate_left 0
                    try simp only [Act.put, List.setIfInBounds_toArray, List.set_cons_zero, List.set_cons_succ]
                    refine wpAnyH_take (i := 1) (oi := ⟨some 109, _, _, _, _, _⟩) (v := (idv x.id)) rfl (by kernel_rfl) (by kernel_rfl) (by kernel_rfl) (fun _ _ _ h => h) (yields_run (by rfl) 24 _ rfl (.pointer (some ⟨wr.heap.size, 4, none⟩)) _ rfl (fun W' hS => hS)) (by assumption) ?_
                    try simp only [Act.put, List.setIfInBounds_toArray, List.set_cons_zero, List.set_cons_succ]
                    refine wpAnyH_ready (rs := [2]) (by kernel_rfl) (by simp) ?_
                    refine (AllReadyH.cons (o := ⟨some 110, _, _, _, _, _⟩) rfl (fun K hK => ?_) AllReadyH.nil)
                    (try rw [if_pos (by rfl)])
                    go_simp
                    refine (nil_any _).mono ?_
                    rintro e Wn ⟨rfl, hbn⟩
                    replace hlk := hlk.below hbn
                    replace hO := hO.below hbn
                    replace hS8 := hS8.below hbn hS8.lt
                    clear hbn
                    try dsimp only
                    refine hK.out _ _ (act_id hS8 HXO.out) (fun hHeld => ?_)
                    clear hK K
                    try simp only [Act.put, List.setIfInBounds_toArray, List.set_cons_zero, List.set_cons_succ]
                    refine wpAnyH_take (i := 3) (oi := ⟨some 111, _, _, _, _, _⟩) (v := (.bool (x.id == nilId))) rfl (by kernel_rfl) (by kernel_rfl) (by kernel_rfl) (fun _ _ _ h => h) (yields_eqI (by rfl) _ _ rfl x.id nilId rfl rfl HXO.out.id nilId_ok) (by assumption) ?_
                    try simp only [Act.put, List.setIfInBounds_toArray, List.set_cons_zero, List.set_cons_succ]
                    refine wpAnyH_done (by kernel_rfl) ?_ _
                    rw [hnl2]
                    have cn := act_num hS8
                    by_cases hnum : x.num = 1
                    · as_aux_lemma =>
                        have HUP : Hid (upL N b gk x = ⟨putT N gk.c x.round x.num b x.id, x.round, x.id⟩) := Lib.hid (by unfold upL; rw [if_neg (fun e => e HK2.out), if_neg HNE2.out, if_pos hnum])
                        have hsu := (HO2.out.2.2.2 HNE2.out).1 hnum
                        have HSU : Hid (∀ W', CountAt W' C2 M2 ((n2 + 1) + k + 1) N (putT N gk.c x.round x.num b x.id) → Calls Try.prog 22 #[.pointer (some ⟨C2, 0, none⟩), .int .i64 x.round, .int .i64 0] W' fun e w' => e = .returned (.tuple #[idv x.id, .bool true]) ∧ Below W'.heap.size W' w') := Lib.hid fun W' hc => by
                          have := sure_any hc x.round 0 HXO.out.round (wfi_small (by omega) (by omega)) HN1000.out
                          rwa [hsu] at this
                        rw [hnum] at cn
                        clear hsu hnum
                        have cr := act_round hS8
                        go_upto_region 24 with (first
                          | (go_at_call 22; refine (HSU.out _ hlk.cnt).mono ?_; rintro e Wu ⟨rfl, hbn⟩; replace hlk := hlk.below hbn; replace hO := hO.below hbn; replace hS8 := hS8.below hbn hS8.lt; clear hbn)
                          | (guard_target = wpList _ _ _ (Oper.mk _ (.store 24 _ _) _ _ _ _ :: _) _ _; refine wpList_store_idv rfl _ _ rfl Wu.heap.size x.id rfl rfl HXO.out.id 24 _ (Blk.newAt _ _ rfl rfl) rfl ?_; intro W7 hS7 hz7 hb7 hk7; have hbn := (((Below.refl _ Wu).alloc (Nat.le_refl _) _).trans hb7); replace hlk := hlk.below hbn; replace hO := hO.below hbn; replace hS8 := hS8.below hbn hS8.lt; clear hbn; clear hz7 hb7 hk7))
                        clear cn cr
                        have heq := fun W => neq_idv HXO.out.id HXO.out.id W
                        have hgu := fun W a b => guardn_idv a b x.id x.id W
                        go_upto_region 26 with (first
                          | (guard_target = wpList _ _ _ (Oper.mk _ (.load 24 (.tmp 15)) _ _ _ _ :: _) _ _; refine wpList_load_runS (by rfl) 24 _ rfl _ _ rfl (run_loadVar_idv HXO.out.id hS7) ?_)
                          | (guard_target = wpList _ _ _ (Oper.mk _ (.load 24 (.tmp 126)) _ _ _ _ :: _) _ _; refine wpList_load_runS (by rfl) 24 _ rfl _ _ rfl (act_id hS8 HXO.out) ?_))
                        clear heq hgu hS7
                        replace hlk := hlk.below (Below.refl _ _).drew
                        replace hO := hO.drew
                        replace hS8 := hS8.drew
                        refine wp_region_held_drew (S := fun W' => W'.cell? ⟨wr.heap.size, 1, none⟩ = some (.int .i64 x.round) ∧ (Instr.loadAt 24 (.pointer (some ⟨wr.heap.size, 4, none⟩))).run Try.prog W' = .ok (idv x.id) W') (by kernel_rfl) ?_ (fun hHeld => ?_)
                        · exact ⟨act_round hS8, act_id hS8 HXO.out⟩
                        refine wpAnyH_take (i := 0) (oi := ⟨some 130, _, _, _, _, _⟩) (v := ?_) rfl (by kernel_rfl) (by kernel_rfl) (by kernel_rfl) (fun _ _ _ h => h) (Or.inl ⟨by rfl, ?_⟩) (by assumption) ?_
                        rotate_left
                        · intro w hSw; (try dsimp only at hSw); go_simp; try (with_reducible rfl)
                        rotate_left 0
                        try simp only [Act.put, List.setIfInBounds_toArray, List.set_cons_zero, List.set_cons_succ]
                        refine wpAnyH_take (i := 1) (oi := ⟨some 131, _, _, _, _, _⟩) (v := (.int .i64 x.round)) rfl (by kernel_rfl) (by kernel_rfl) (by kernel_rfl) (fun _ _ _ h => h) (yields_one (by rfl) 3 _ rfl ⟨wr.heap.size, 1, none⟩ rfl _ _ (fun W' hS => hS.1) Try.underlying3 rfl) (by assumption) ?_
                        try simp only [Act.put, List.setIfInBounds_toArray, List.set_cons_zero, List.set_cons_succ]
                        refine wpAnyH_take (i := 2) (oi := ⟨some 132, _, _, _, _, _⟩) (v := ?_) rfl (by kernel_rfl) (by kernel_rfl) (by kernel_rfl) (fun _ _ _ h => h) (Or.inl ⟨by rfl, ?_⟩) (by assumption) ?_
                        rotate_left
                        · intro w hSw; (try dsimp only at hSw); go_simp; try (with_reducible rfl)
                        rotate_left 0
                        try simp only [Act.put, List.setIfInBounds_toArray, List.set_cons_zero, List.set_cons_succ]
                        refine wpAnyH_take (i := 3) (oi := ⟨some 133, _, _, _, _, _⟩) (v := (idv x.id)) rfl (by kernel_rfl) (by kernel_rfl) (by kernel_rfl) (fun _ _ _ h => h) (yields_run (by rfl) 24 _ rfl (.pointer (some ⟨wr.heap.size, 4, none⟩)) _ rfl (fun W' hS => hS.2)) (by assumption) ?_
                        try simp only [Act.put, List.setIfInBounds_toArray, List.set_cons_zero, List.set_cons_succ]
                        refine wpAnyH_take (i := 4) (oi := ⟨some 9, _, _, _, _, _⟩) (v := ?_) rfl (by kernel_rfl) (by kernel_rfl) (by kernel_rfl) (fun _ _ _ h => h) (Or.inl ⟨by rfl, ?_⟩) (by assumption) ?_
                        rotate_left
                        · intro w hSw; (try dsimp only at hSw); go_simp; try (with_reducible rfl)
                        rotate_left 0
                        try simp only [Act.put, List.setIfInBounds_toArray, List.set_cons_zero, List.set_cons_succ]
                        refine wpAnyH_ready (rs := [5]) (by kernel_rfl) (by simp) ?_
                        refine (AllReadyH.cons (o := ⟨none, _, _, _, _, _⟩) rfl (fun K hK => ?_) AllReadyH.nil)
                        (try rw [if_pos (by rfl)])
                        refine oper_store_idR _ _ rfl Lb x.id rfl rfl HXO.out.id 24 _ hlk.blk (idC_size hlk.lid) ?_
                        intro Wl hkl2 hgl hzl
                        replace hlk := hlk.store (r := x.round) HNE.out.2.2.1 HNE.out.2.2.2 HXO.out.id hkl2 hgl
                        replace hO := hO.grown hgl HBQ.out.1
                        replace hS8 := hS8.grown hgl HP7.out
                        clear hkl2 hgl hzl
                        try dsimp only
                        refine hK.out _ _ (⟨act_round hS8, act_id hS8 HXO.out⟩) (fun hHeld => ?_)
                        clear hK K
                        try simp only [Act.put]
                        refine wpAnyH_done (by kernel_rfl) ?_ _
                        go_wp2_with fail
                        go_roundw
                        case rel =>
                          refine ⟨k + 1, hkl, by go_num, ?_, ?_, hO⟩
                          · rw [take_fold (upL N b) HXK.out, HGK.out, HUP.out]
                          · rw [take_fold (upL N b) HXK.out, HGK.out, HUP.out]
                            exact hlk
                        case measure => simp [intOf]; omega
                    · have hnum0 : x.num = 0 := by have := HO2.out.2.1; omega
                      have HUP : Hid (upL N b gk x = { gk with c := putT N gk.c x.round x.num b x.id }) := Lib.hid (by unfold upL; rw [if_neg (fun e => e HK2.out), if_neg HNE2.out, if_neg (by omega)])
                      rw [hnum0] at cn
                      have hlr := HO2.out.2.2.1
                      obtain ⟨hlr0, hlr1⟩ := hlr
                      by_cases hneg : gk.locked < 0
                      · as_aux_lemma =>
                          have hmx : max gk.locked 0 = 0 := by omega
                          go_upto_region 29 with fail
                          clear cn
                          go_loopw [17, 18] (fun s17 s18 wx => ∃ (q : Int) (fr : Bool), s18 = .int .i64 q ∧ s17 = .bool fr ∧ 0 ≤ q ∧ gk.locked ≤ q ∧ q ≤ 12 ∧ (fr = false → ¬ gk.locked < 0 ∧ gk.lock ≠ x.id ∧ ∀ i : Int, gk.locked ≤ i → 0 ≤ i → i < q → sureO N (putT N gk.c x.round x.num b x.id) i 0 ≠ some x.id) ∧ Below Wn.heap.size Wn wx) (fun _ s18 _ => (12 - intOf s18).toNat)
                          case atStart => exact ⟨_, true, rfl, rfl, by omega, by omega, by omega, fun e => (by cases e), Below.refl _ _⟩
                          case round =>
                            obtain ⟨q, fr, rfl, rfl, hq0, hq1, hq2, hfr, hbx⟩ := hrel
                            have HBX := Lib.hid hbx
                            have HFR := Lib.hid hfr
                            have hS8x := hS8.below hbx hS8.lt
                            have crx := act_round hS8x
                            clear hbx hfr
                            cases fr with
                            | true =>
                              by_cases hqr : q < x.round
                              · go_wp2_with fail
                                replace hlk := hlk.below HBX.out
                                replace hO := hO.below HBX.out
                                go_roundw
                                case rel =>
                                  refine ⟨k + 1, hkl, by go_num, ?_, ?_, hO⟩
                                  · rw [take_fold (upL N b) HXK.out, HGK.out, HUP.out]
                                  · rw [take_fold (upL N b) HXK.out, HGK.out, HUP.out]
                                    exact hlk
                                case measure => simp [intOf]; omega
                              · go_wp2_with fail
                                replace hlk := hlk.below HBX.out
                                replace hO := hO.below HBX.out
                                go_roundw
                                case rel =>
                                  refine ⟨k + 1, hkl, by go_num, ?_, ?_, hO⟩
                                  · rw [take_fold (upL N b) HXK.out, HGK.out, HUP.out]
                                  · rw [take_fold (upL N b) HXK.out, HGK.out, HUP.out]
                                    exact hlk
                                case measure => simp [intOf]; omega
                            | false =>
                              obtain ⟨f1, f2, f3⟩ := HFR.out rfl
                              exact absurd hneg f1
                      · have hmx : max gk.locked 0 = gk.locked := by omega
                        have hneg2 : 0 ≤ gk.locked := by omega
                        have heq := fun W => eql_idv hlk.lid HXO.out.id W
                        have hgu := fun W a b => guard_idv a b gk.lock x.id W
                        cases hle : gk.lock == x.id with
                        | true =>
                          as_aux_lemma =>
                            have HLE := Lib.hid hle
                            go_upto_region 29 with (first
                        | (guard_target = wpList _ _ _ (Oper.mk _ (.load 24 (.tmp 10)) _ _ _ _ :: _) _ _; refine wpList_load_runS (by rfl) 24 _ rfl _ _ rfl (run_loadVar_idv hlk.lid hlk.blk) ?_)
                        | (guard_target = wpList _ _ _ (Oper.mk _ (.load 24 (.tmp 138)) _ _ _ _ :: _) _ _; refine wpList_load_runS (by rfl) 24 _ rfl _ _ rfl (act_id hS8 HXO.out) ?_))
                            try rw [hle]
                            clear cn heq hgu hle
                            go_loopw [17, 18] (fun s17 s18 wx => ∃ (q : Int) (fr : Bool), s18 = .int .i64 q ∧ s17 = .bool fr ∧ 0 ≤ q ∧ gk.locked ≤ q ∧ q ≤ 12 ∧ (fr = false → ¬ gk.locked < 0 ∧ gk.lock ≠ x.id ∧ ∀ i : Int, gk.locked ≤ i → 0 ≤ i → i < q → sureO N (putT N gk.c x.round x.num b x.id) i 0 ≠ some x.id) ∧ Below Wn.heap.size Wn wx) (fun _ s18 _ => (12 - intOf s18).toNat)
                            case atStart => exact ⟨_, true, rfl, rfl, by omega, by omega, by omega, fun e => (by cases e), Below.refl _ _⟩
                            case round =>
                              obtain ⟨q, fr, rfl, rfl, hq0, hq1, hq2, hfr, hbx⟩ := hrel
                              have HBX := Lib.hid hbx
                              have HFR := Lib.hid hfr
                              have hS8x := hS8.below hbx hS8.lt
                              have crx := act_round hS8x
                              clear hbx hfr
                              cases fr with
                              | true =>
                                by_cases hqr : q < x.round
                                · go_wp2_with fail
                                  replace hlk := hlk.below HBX.out
                                  replace hO := hO.below HBX.out
                                  go_roundw
                                  case rel =>
                                    refine ⟨k + 1, hkl, by go_num, ?_, ?_, hO⟩
                                    · rw [take_fold (upL N b) HXK.out, HGK.out, HUP.out]
                                    · rw [take_fold (upL N b) HXK.out, HGK.out, HUP.out]
                                      exact hlk
                                  case measure => simp [intOf]; omega
                                · go_wp2_with fail
                                  replace hlk := hlk.below HBX.out
                                  replace hO := hO.below HBX.out
                                  go_roundw
                                  case rel =>
                                    refine ⟨k + 1, hkl, by go_num, ?_, ?_, hO⟩
                                    · rw [take_fold (upL N b) HXK.out, HGK.out, HUP.out]
                                    · rw [take_fold (upL N b) HXK.out, HGK.out, HUP.out]
                                      exact hlk
                                  case measure => simp [intOf]; omega
                              | false =>
                                obtain ⟨f1, f2, f3⟩ := HFR.out rfl
                                exact absurd (by simpa using HLE.out) f2
                        | false =>
                          as_aux_lemma =>
                            have HLE := Lib.hid hle
                            go_upto_region 29 with (first
                        | (guard_target = wpList _ _ _ (Oper.mk _ (.load 24 (.tmp 10)) _ _ _ _ :: _) _ _; refine wpList_load_runS (by rfl) 24 _ rfl _ _ rfl (run_loadVar_idv hlk.lid hlk.blk) ?_)
                        | (guard_target = wpList _ _ _ (Oper.mk _ (.load 24 (.tmp 138)) _ _ _ _ :: _) _ _; refine wpList_load_runS (by rfl) 24 _ rfl _ _ rfl (act_id hS8 HXO.out) ?_))
                            try rw [hle]
                            clear cn heq hgu hle
                            go_loopw [17, 18] (fun s17 s18 wx => ∃ (q : Int) (fr : Bool), s18 = .int .i64 q ∧ s17 = .bool fr ∧ 0 ≤ q ∧ gk.locked ≤ q ∧ q ≤ 12 ∧ (fr = false → ¬ gk.locked < 0 ∧ gk.lock ≠ x.id ∧ ∀ i : Int, gk.locked ≤ i → 0 ≤ i → i < q → sureO N (putT N gk.c x.round x.num b x.id) i 0 ≠ some x.id) ∧ Below Wn.heap.size Wn wx) (fun _ s18 _ => (12 - intOf s18).toNat)
                            case atStart => exact ⟨_, false, rfl, rfl, by omega, by omega, by omega, fun _ => ⟨by omega, by simpa using HLE.out, fun i h1 h2 h3 => by omega⟩, Below.refl _ _⟩
                            case round =>
                              obtain ⟨q, fr, rfl, rfl, hq0, hq1, hq2, hfr, hbx⟩ := hrel
                              have HBX := Lib.hid hbx
                              have HFR := Lib.hid hfr
                              have hS8x := hS8.below hbx hS8.lt
                              have crx := act_round hS8x
                              clear hbx hfr
                              cases fr with
                              | true =>
                                by_cases hqr : q < x.round
                                · go_wp2_with fail
                                  replace hlk := hlk.below HBX.out
                                  replace hO := hO.below HBX.out
                                  go_roundw
                                  case rel =>
                                    refine ⟨k + 1, hkl, by go_num, ?_, ?_, hO⟩
                                    · rw [take_fold (upL N b) HXK.out, HGK.out, HUP.out]
                                    · rw [take_fold (upL N b) HXK.out, HGK.out, HUP.out]
                                      exact hlk
                                  case measure => simp [intOf]; omega
                                · go_wp2_with fail
                                  replace hlk := hlk.below HBX.out
                                  replace hO := hO.below HBX.out
                                  go_roundw
                                  case rel =>
                                    refine ⟨k + 1, hkl, by go_num, ?_, ?_, hO⟩
                                    · rw [take_fold (upL N b) HXK.out, HGK.out, HUP.out]
                                    · rw [take_fold (upL N b) HXK.out, HGK.out, HUP.out]
                                      exact hlk
                                  case measure => simp [intOf]; omega
                              | false =>
                                obtain ⟨f1, f2, f3⟩ := HFR.out rfl
                                have HF3 := Lib.hid f3
                                have HF2 := Lib.hid f2
                                have hxr := HO2.out.1
                                obtain ⟨hxr0, hxr1⟩ := hxr
                                by_cases hqr : q < x.round
                                · clear f3 f2
                                  have HCX := Lib.hid (hlk.cnt.below HBX.out)
                                  have HSU : Hid (∀ W', Below wr.heap.size wr W' → Calls Try.prog 22 #[.pointer (some ⟨C2, 0, none⟩), .int .i64 q, .int .i64 0] W' fun e w' => e = .returned (.tuple #[idv ((sureO N (putT N gk.c x.round x.num b x.id) q 0).getD zeroId), .bool (sureO N (putT N gk.c x.round x.num b x.id) q 0).isSome]) ∧ Below W'.heap.size W' w') := Lib.hid fun W' hb => sure_any (HCX.out.below hb) q 0 (wfi_small (by omega) (by omega)) (wfi_small (by omega) (by omega)) HN1000.out
                                  cases hso : sureO N (putT N gk.c x.round x.num b x.id) q 0 with
                                  | none =>
                                    rw [hso] at HSU
                                    have HSO := Lib.hid hso
                                    clear hso
                                    go_wp2_with (first
                                      | (go_at_call 22; refine (HSU.out _ (Below.refl _ _)).mono ?_; rintro e Wu ⟨rfl, hbu⟩)
                                      | (guard_target = wpList _ _ _ (Oper.mk _ (.store 24 _ _) _ _ _ _ :: _) _ _; refine wpList_store_idv rfl _ _ rfl Wu.heap.size zeroId rfl rfl zeroId_ok 24 _ (Blk.newAt _ _ rfl rfl) rfl ?_; intro W7 hS7 hz7 hb7 hk7))
                                    have hbf := HBX.out.trans ((hbu.trans ((((Below.refl _ Wu).alloc (Nat.le_refl _) _).trans hb7).mono hbu.size)).mono HBX.out.size)
                                    go_roundw
                                    case rel => exact ⟨q + 1, false, by go_num, rfl, by omega, by omega, by omega, fun _ => ⟨by omega, HF2.out, fun i h1 h2 h3 => by
                                      rcases Int.lt_or_le i q with h | h
                                      · exact HF3.out i h1 h2 h
                                      · obtain rfl : i = q := by omega
                                        rw [HSO.out]
                                        intro e
                                        cases e⟩, hbf⟩
                                    case measure => simp [intOf]; omega
                                  | some y =>
                                    rw [hso] at HSU
                                    have HY : Hid (IdOk y) := Lib.hid (sureO_okR HCX.out hso).1
                                    have HSO := Lib.hid hso
                                    clear hso
                                    go_upto_region 32 with (first
                                      | (go_at_call 22; refine (HSU.out _ (Below.refl _ _)).mono ?_; rintro e Wu ⟨rfl, hbu⟩)
                                      | (guard_target = wpList _ _ _ (Oper.mk _ (.store 24 _ _) _ _ _ _ :: _) _ _; refine wpList_store_idv rfl _ _ rfl Wu.heap.size y rfl rfl HY.out 24 _ (Blk.newAt _ _ rfl rfl) rfl ?_; intro W7 hS7 hz7 hb7 hk7))
                                    have hbf := HBX.out.trans ((hbu.trans ((((Below.refl _ Wu).alloc (Nat.le_refl _) _).trans hb7).mono hbu.size)).mono HBX.out.size)
                                    have heq := fun W => eql_idv HY.out HXO.out.id W
                                    have hgu := fun W a b => guard_idv a b y x.id W
                                    clear hz7 hb7 hk7
                                    go_wp2_with (first
                                      | (guard_target = wpList _ _ _ (Oper.mk _ (.load 24 (.tmp 19)) _ _ _ _ :: _) _ _; refine wpList_load_runS (by rfl) 24 _ rfl _ _ rfl (run_loadVar_idv HY.out hS7) ?_)
                                      | (guard_target = wpList _ _ _ (Oper.mk _ (.load 24 (.tmp 163)) _ _ _ _ :: _) _ _; refine wpList_load_runS (by rfl) 24 _ rfl _ _ rfl (act_id (hS8.below hbf hS8.lt) HXO.out) ?_))
                                    go_roundw
                                    case rel => exact ⟨q + 1, (y == x.id), by go_num, rfl, by omega, by omega, by omega, fun he => ⟨by omega, HF2.out, fun i h1 h2 h3 => by
                                      rcases Int.lt_or_le i q with h | h
                                      · exact HF3.out i h1 h2 h
                                      · obtain rfl : i = q := by omega
                                        rw [HSO.out]
                                        intro e
                                        injection e with e
                                        rw [e] at he
                                        simp at he⟩, hbf⟩
                                    case measure => simp [intOf]; omega
                                · exfalso
                                  rcases (HO2.out.2.2.2 HNE2.out).2 hnum0 with h1 | h1 | ⟨i, h1, h2, h3, h4⟩
                                  · exact f1 h1
                                  · exact f2 h1
                                  · exact f3 i h1 h2 (by omega) h4
                · have h2b : (x.kind == 2) = false := by rw [beq_eq_false_iff_ne]; exact h2
                  have HUP : Hid (upL N b gk x = gk) := Lib.hid (up_other h2)
                  clear h2
                  go_wp2_with fail
                  go_roundw
                  case rel =>
                    refine ⟨k + 1, hkl, by go_num, ?_, ?_, hO⟩
                    · rw [take_fold (upL N b) HXK.out, HGK.out, HUP.out]
                    · rw [take_fold (upL N b) HXK.out, HGK.out, HUP.out]
                      exact hlk.more (by omega)
                  case measure => simp [intOf]; omega
              · obtain rfl : k = nl := by omega
                have hki : ¬ (k : Int) < (k : Int) := by omega
                have hfull : lg.take k = lg := List.take_of_length_le (by rw [HNL.out]; exact Nat.le_refl _)
                rw [hfull] at hlk ⊢
                have HLK := Lib.hid hlk
                clear hfull hlk hO
                go_wp2_with fail
                go_roundw
                case rel => exact ⟨j + 1, giveS s i, _, (n2 + 1) + k, hlt, by go_num, rfl, HLK.out, HQ.out.2, by have := HN2.out; omega⟩
                case measure => simp [intOf]; omega
        · have hin : inL N b g i = g := if_neg fun q => h3 q.1
          have h3b : (i.kind == 3) = false := by rw [beq_eq_false_iff_ne]; exact h3
          rw [hin] at HQ
          have hS9v := HS9.out
          clear hin h3 HLI
          go_upto_region 17 with (first
    | (guard_target = wpList _ _ _ (Oper.mk _ (.load 67 _) _ _ _ _ :: _) _ _; refine wpList_load_inn (by rfl) _ rfl ⟨wr.heap.size, 0, none⟩ i rfl (load_inn hS9v HOK.out) ?_)
    | (go_at_call 34; refine (hL.law.give HBM.out (by have := HJL.out; omega) i HOK.out HK6.out).mono ?_; rintro e Wg ⟨vg, rfl, hog, hlg, hkp⟩; rw [HLQ.out] at hog; have hnb : nl ≤ 1000000 := HNL.out ▸ hog.2.1; obtain ⟨Aq, cq, rfl⟩ := hog.sliceN HNL.out))
          have HLG : Hid (LkR W1 B C M N C2 M2 Lb (j + 1) (giveS s i) g n2 Wg) := Lib.hid ⟨hlg, hL.cnt.same (hkp C2 (by simp)) (hkp M2 (by simp)), hL.blk.alike (hkp Lb (by simp)), hL.lid⟩
          obtain ⟨bq, hob, hbq⟩ : ∃ bq, OwnA bq Wg (.slice Aq nl cq) lg ∧ (Lb < bq ∧ M2 < bq) := ⟨_, hog, hL.blk.lt, hL.cnt.ltM⟩
          have HOB := Lib.hid hob
          have HBQ := Lib.hid hbq
          obtain ⟨wp, hwp⟩ : ∃ z, z = wr := ⟨_, rfl⟩
          subst hwp
          have ca' : Below W1.heap.size W1 Wg := HLG.out.base
          clear hob hbq hog hlg hkp
          go_loopw [9, 91] (fun s9 s91 wr => ∃ k : Nat, k ≤ nl ∧ s91 = .int .i64 (k : Int) ∧ s9 = .int .i64 ((lg.take k).foldl (upL N b) g).locked ∧ LkR W1 B C M N C2 M2 Lb (j + 1) (giveS s i) ((lg.take k).foldl (upL N b) g) (n2 + k) wr ∧ OwnA bq wr (.slice Aq nl cq) lg) (fun _ s91 _ => nl - (intOf s91).toNat)
          case atStart => exact ⟨0, Nat.zero_le _, rfl, rfl, HLG.out, HOB.out⟩
          case round =>
            obtain ⟨k, hkn, rfl, rfl, hlk, hO⟩ := hrel
            by_cases hkl : k < nl
            · have hki : (k : Int) < (nl : Int) := by omega
              have hk0 : (0 : Int) ≤ (k : Int) := by omega
              obtain ⟨x, hxk⟩ : ∃ x, lg[k]? = some x := ⟨_, List.getElem?_eq_getElem (by rw [HNL.out]; exact hkl)⟩
              obtain ⟨gk, hgk⟩ : ∃ gk, (lg.take k).foldl (upL N b) g = gk := ⟨_, rfl⟩
              have hok := acts_at HQ.out.1 hxk
              rw [hgk] at hlk hok ⊢
              have HGK := Lib.hid hgk
              have HOKX := Lib.hid hok
              have HXK := Lib.hid hxk
              obtain ⟨adx, cx, hex, hxo, _, hla⟩ := hO.rd.here hxk
              rw [HNL.out] at hex
              obtain ⟨rfl, -, rfl⟩ := Value.slice.inj hex
              have HLA := Lib.hid hla
              have HXO := Lib.hid hxo
              have HNB : Hid (n2 + k < 1000000000) := Lib.hid (by have := HN2.out; have := HJL.out; omega)
              have HP8 : Hid (some wr.heap.size ≠ some M2) := Lib.hid fun e => by have := hlk.cnt.ltM; injection e with e; omega
              have HP7 : Hid (some wr.heap.size ≠ some Lb) := Lib.hid fun e => by have := hlk.blk.lt; injection e with e; omega
              clear hxk hex hxo hla hgk hok
              go_upto_region 19 with (first
            | (guard_target = wpList _ _ _ (Oper.mk _ (.load 71 _) _ _ _ _ :: _) _ _; refine wpList_load_runS (by rfl) 71 _ rfl _ _ rfl (HLA.out _ (Below.refl _ _)) ?_)
            | (guard_target = wpList _ _ _ (Oper.mk _ (.store 71 _ _) _ _ _ _ :: _) _ _; refine wpList_store_actL rfl _ _ rfl wr.heap.size x rfl rfl HXO.out 71 _ (Blk.newAt _ _ rfl rfl) rfl ?_; intro W8 hS8 hz8 hb8 hk8; have hbn := (((Below.refl _ wr).alloc (Nat.le_refl _) _).trans hb8); replace hlk := hlk.below hbn; replace hO := hO.below hbn; clear hz8 hb8 hk8 hbn))
              have ck : W8.cell? ⟨wr.heap.size, 0, none⟩ = some (.int .i64 x.kind) := by rw [hS8.cell]; rfl
              by_cases h2 : x.kind = 2
              · have hokx := HOKX.out h2
                have HO2 := Lib.hid hokx
                have cr : W8.cell? ⟨wr.heap.size, 1, none⟩ = some (.int .i64 x.round) := by rw [hS8.cell]; rfl
                have cn : W8.cell? ⟨wr.heap.size, 2, none⟩ = some (.int .i64 x.num) := by rw [hS8.cell]; rfl
                have ca : W8.cell? ⟨w.heap.size, 1, none⟩ = some (.int .i64 b) := by rw [(HK1.out.below (hlk.base) HK1.out.lt).cell]; rfl
                have HK2 := Lib.hid h2
                rw [h2] at ck
                clear h2 hokx
                go_upto_region 21 with (first
            | (guard_target = wpList _ _ _ (Oper.mk _ (.load 24 (.tmp 105)) _ _ _ _ :: _) _ _; refine wpList_load_runS (by rfl) 24 _ rfl _ _ rfl (act_id hS8 HXO.out) ?_)
            | (go_at_call 21; refine (put_any hlk.cnt x.round x.num b x.id HXO.out.id HXO.out.round HXO.out.num HWB.out (by have := HNB.out; unfold maxLen; omega)).mono ?_; rintro e Wu ⟨rfl, hcu, hgu⟩; replace hlk := hlk.put HNE.out.2.1 hcu hgu; replace hO := hO.grown hgu HBQ.out.2; replace hS8 := hS8.grown hgu (HP8.out); clear hcu hgu))
                clear ck cr cn ca
                replace hlk := hlk.below (Below.refl _ _).drew
                replace hO := hO.drew
                replace hS8 := hS8.drew
                cases hnl2 : x.id == nilId with
                | true =>
                  have HUP : Hid (upL N b gk x = { gk with c := putT N gk.c x.round x.num b x.id }) := Lib.hid (by unfold upL; rw [if_neg (fun e => e HK2.out), if_pos (by simpa using hnl2)])
                  refine wp_region_held_drew (S := fun W' => (Instr.loadAt 24 (.pointer (some ⟨wr.heap.size, 4, none⟩))).run Try.prog W' = .ok (idv x.id) W') (by kernel_rfl) ?_ (fun hHeld => ?_)
                  · exact act_id hS8 HXO.out
                  refine wpAnyH_take (i := 0) (oi := ⟨some 108, _, _, _, _, _⟩) (v := ?_) rfl (by kernel_rfl) (by kernel_rfl) (by kernel_rfl) (fun _ _ _ h => h) (Or.inl ⟨by rfl, ?_⟩) (by assumption) ?_
                  rotate_left
                  · intro w hSw; (try dsimp only at hSw); go_simp; try (with_reducible rfl)
                  rotate_left 0
                  try simp only [Act.put, List.setIfInBounds_toArray, List.set_cons_zero, List.set_cons_succ]
                  refine wpAnyH_take (i := 1) (oi := ⟨some 109, _, _, _, _, _⟩) (v := (idv x.id)) rfl (by kernel_rfl) (by kernel_rfl) (by kernel_rfl) (fun _ _ _ h => h) (yields_run (by rfl) 24 _ rfl (.pointer (some ⟨wr.heap.size, 4, none⟩)) _ rfl (fun W' hS => hS)) (by assumption) ?_
                  try simp only [Act.put, List.setIfInBounds_toArray, List.set_cons_zero, List.set_cons_succ]
                  refine wpAnyH_ready (rs := [2]) (by kernel_rfl) (by simp) ?_
                  refine (AllReadyH.cons (o := ⟨some 110, _, _, _, _, _⟩) rfl (fun K hK => ?_) AllReadyH.nil)
                  (try rw [if_pos (by rfl)])
                  go_simp
                  refine (nil_any _).mono ?_
                  rintro e Wn ⟨rfl, hbn⟩
                  replace hlk := hlk.below hbn
                  replace hO := hO.below hbn
                  replace hS8 := hS8.below hbn hS8.lt
                  clear hbn
                  try dsimp only
                  refine hK.out _ _ (act_id hS8 HXO.out) (fun hHeld => ?_)
                  clear hK K
                  try simp only [Act.put, List.setIfInBounds_toArray, List.set_cons_zero, List.set_cons_succ]
                  refine wpAnyH_take (i := 3) (oi := ⟨some 111, _, _, _, _, _⟩) (v := (.bool (x.id == nilId))) rfl (by kernel_rfl) (by kernel_rfl) (by kernel_rfl) (fun _ _ _ h => h) (yields_eqI (by rfl) _ _ rfl x.id nilId rfl rfl HXO.out.id nilId_ok) (by assumption) ?_
                  try simp only [Act.put, List.setIfInBounds_toArray, List.set_cons_zero, List.set_cons_succ]
                  refine wpAnyH_done (by kernel_rfl) ?_ _
                  rw [hnl2]
                  go_wp2_with fail
                  go_roundw
                  case rel =>
                    refine ⟨k + 1, hkl, by go_num, ?_, ?_, hO⟩
                    · rw [take_fold (upL N b) HXK.out, HGK.out, HUP.out]
                    · rw [take_fold (upL N b) HXK.out, HGK.out, HUP.out]
                      exact hlk
                  case measure => simp [intOf]; omega
                | false =>
                  have hne : x.id ≠ nilId := by simpa using hnl2
                  have HNE2 := Lib.hid hne
                  clear hne
                  refine wp_region_held_drew (S := fun W' => (Instr.loadAt 24 (.pointer (some ⟨wr.heap.size, 4, none⟩))).run Try.prog W' = .ok (idv x.id) W') (by kernel_rfl) ?_ (fun hHeld => ?_)
                  · exact act_id hS8 HXO.out
                  refine wpAnyH_take (i := 0) (oi := ⟨some 108, _, _, _, _, _⟩) (v := ?_) rfl (by kernel_rfl) (by kernel_rfl) (by kernel_rfl) (fun _ _ _ h => h) (Or.inl ⟨by rfl, ?_⟩) (by assumption) ?_
                  rotate_left
                  · intro w hSw; (try dsimp only at hSw); go_simp; try (with_reducible rfl)
                  rotate_left 0
                  try simp only [Act.put, List.setIfInBounds_toArray, List.set_cons_zero, List.set_cons_succ]
                  refine wpAnyH_take (i := 1) (oi := ⟨some 109, _, _, _, _, _⟩) (v := (idv x.id)) rfl (by kernel_rfl) (by kernel_rfl) (by kernel_rfl) (fun _ _ _ h => h) (yields_run (by rfl) 24 _ rfl (.pointer (some ⟨wr.heap.size, 4, none⟩)) _ rfl (fun W' hS => hS)) (by assumption) ?_
                  try simp only [Act.put, List.setIfInBounds_toArray, List.set_cons_zero, List.set_cons_succ]
                  refine wpAnyH_ready (rs := [2]) (by kernel_rfl) (by simp) ?_
                  refine (AllReadyH.cons (o := ⟨some 110, _, _, _, _, _⟩) rfl (fun K hK => ?_) AllReadyH.nil)
                  (try rw [if_pos (by rfl)])
                  go_simp
                  refine (nil_any _).mono ?_
                  rintro e Wn ⟨rfl, hbn⟩
                  replace hlk := hlk.below hbn
                  replace hO := hO.below hbn
                  replace hS8 := hS8.below hbn hS8.lt
                  clear hbn
                  try dsimp only
                  refine hK.out _ _ (act_id hS8 HXO.out) (fun hHeld => ?_)
                  clear hK K
                  try simp only [Act.put, List.setIfInBounds_toArray, List.set_cons_zero, List.set_cons_succ]
                  refine wpAnyH_take (i := 3) (oi := ⟨some 111, _, _, _, _, _⟩) (v := (.bool (x.id == nilId))) rfl (by kernel_rfl) (by kernel_rfl) (by kernel_rfl) (fun _ _ _ h => h) (yields_eqI (by rfl) _ _ rfl x.id nilId rfl rfl HXO.out.id nilId_ok) (by assumption) ?_
                  try simp only [Act.put, List.setIfInBounds_toArray, List.set_cons_zero, List.set_cons_succ]
                  refine wpAnyH_done (by kernel_rfl) ?_ _
                  rw [hnl2]
                  have cn := act_num hS8
                  by_cases hnum : x.num = 1
                  · as_aux_lemma =>
                      have HUP : Hid (upL N b gk x = ⟨putT N gk.c x.round x.num b x.id, x.round, x.id⟩) := Lib.hid (by unfold upL; rw [if_neg (fun e => e HK2.out), if_neg HNE2.out, if_pos hnum])
                      have hsu := (HO2.out.2.2.2 HNE2.out).1 hnum
                      have HSU : Hid (∀ W', CountAt W' C2 M2 (n2 + k + 1) N (putT N gk.c x.round x.num b x.id) → Calls Try.prog 22 #[.pointer (some ⟨C2, 0, none⟩), .int .i64 x.round, .int .i64 0] W' fun e w' => e = .returned (.tuple #[idv x.id, .bool true]) ∧ Below W'.heap.size W' w') := Lib.hid fun W' hc => by
                        have := sure_any hc x.round 0 HXO.out.round (wfi_small (by omega) (by omega)) HN1000.out
                        rwa [hsu] at this
                      rw [hnum] at cn
                      clear hsu hnum
                      have cr := act_round hS8
                      go_upto_region 24 with (first
                        | (go_at_call 22; refine (HSU.out _ hlk.cnt).mono ?_; rintro e Wu ⟨rfl, hbn⟩; replace hlk := hlk.below hbn; replace hO := hO.below hbn; replace hS8 := hS8.below hbn hS8.lt; clear hbn)
                        | (guard_target = wpList _ _ _ (Oper.mk _ (.store 24 _ _) _ _ _ _ :: _) _ _; refine wpList_store_idv rfl _ _ rfl Wu.heap.size x.id rfl rfl HXO.out.id 24 _ (Blk.newAt _ _ rfl rfl) rfl ?_; intro W7 hS7 hz7 hb7 hk7; have hbn := (((Below.refl _ Wu).alloc (Nat.le_refl _) _).trans hb7); replace hlk := hlk.below hbn; replace hO := hO.below hbn; replace hS8 := hS8.below hbn hS8.lt; clear hbn; clear hz7 hb7 hk7))
                      clear cn cr
                      have heq := fun W => neq_idv HXO.out.id HXO.out.id W
                      have hgu := fun W a b => guardn_idv a b x.id x.id W
                      go_upto_region 26 with (first
                        | (guard_target = wpList _ _ _ (Oper.mk _ (.load 24 (.tmp 15)) _ _ _ _ :: _) _ _; refine wpList_load_runS (by rfl) 24 _ rfl _ _ rfl (run_loadVar_idv HXO.out.id hS7) ?_)
                        | (guard_target = wpList _ _ _ (Oper.mk _ (.load 24 (.tmp 126)) _ _ _ _ :: _) _ _; refine wpList_load_runS (by rfl) 24 _ rfl _ _ rfl (act_id hS8 HXO.out) ?_))
                      clear heq hgu hS7
                      replace hlk := hlk.below (Below.refl _ _).drew
                      replace hO := hO.drew
                      replace hS8 := hS8.drew
                      refine wp_region_held_drew (S := fun W' => W'.cell? ⟨wr.heap.size, 1, none⟩ = some (.int .i64 x.round) ∧ (Instr.loadAt 24 (.pointer (some ⟨wr.heap.size, 4, none⟩))).run Try.prog W' = .ok (idv x.id) W') (by kernel_rfl) ?_ (fun hHeld => ?_)
                      · exact ⟨act_round hS8, act_id hS8 HXO.out⟩
                      refine wpAnyH_take (i := 0) (oi := ⟨some 130, _, _, _, _, _⟩) (v := ?_) rfl (by kernel_rfl) (by kernel_rfl) (by kernel_rfl) (fun _ _ _ h => h) (Or.inl ⟨by rfl, ?_⟩) (by assumption) ?_
                      rotate_left
                      · intro w hSw; (try dsimp only at hSw); go_simp; try (with_reducible rfl)
                      rotate_left 0
                      try simp only [Act.put, List.setIfInBounds_toArray, List.set_cons_zero, List.set_cons_succ]
                      refine wpAnyH_take (i := 1) (oi := ⟨some 131, _, _, _, _, _⟩) (v := (.int .i64 x.round)) rfl (by kernel_rfl) (by kernel_rfl) (by kernel_rfl) (fun _ _ _ h => h) (yields_one (by rfl) 3 _ rfl ⟨wr.heap.size, 1, none⟩ rfl _ _ (fun W' hS => hS.1) Try.underlying3 rfl) (by assumption) ?_
                      try simp only [Act.put, List.setIfInBounds_toArray, List.set_cons_zero, List.set_cons_succ]
                      refine wpAnyH_take (i := 2) (oi := ⟨some 132, _, _, _, _, _⟩) (v := ?_) rfl (by kernel_rfl) (by kernel_rfl) (by kernel_rfl) (fun _ _ _ h => h) (Or.inl ⟨by rfl, ?_⟩) (by assumption) ?_
                      rotate_left
                      · intro w hSw; (try dsimp only at hSw); go_simp; try (with_reducible rfl)
                      rotate_left 0
                      try simp only [Act.put, List.setIfInBounds_toArray, List.set_cons_zero, List.set_cons_succ]
                      refine wpAnyH_take (i := 3) (oi := ⟨some 133, _, _, _, _, _⟩) (v := (idv x.id)) rfl (by kernel_rfl) (by kernel_rfl) (by kernel_rfl) (fun _ _ _ h => h) (yields_run (by rfl) 24 _ rfl (.pointer (some ⟨wr.heap.size, 4, none⟩)) _ rfl (fun W' hS => hS.2)) (by assumption) ?_
                      try simp only [Act.put, List.setIfInBounds_toArray, List.set_cons_zero, List.set_cons_succ]
                      refine wpAnyH_take (i := 4) (oi := ⟨some 9, _, _, _, _, _⟩) (v := ?_) rfl (by kernel_rfl) (by kernel_rfl) (by kernel_rfl) (fun _ _ _ h => h) (Or.inl ⟨by rfl, ?_⟩) (by assumption) ?_
                      rotate_left
                      · intro w hSw; (try dsimp only at hSw); go_simp; try (with_reducible rfl)
                      rotate_left 0
                      try simp only [Act.put, List.setIfInBounds_toArray, List.set_cons_zero, List.set_cons_succ]
                      refine wpAnyH_ready (rs := [5]) (by kernel_rfl) (by simp) ?_
                      refine (AllReadyH.cons (o := ⟨none, _, _, _, _, _⟩) rfl (fun K hK => ?_) AllReadyH.nil)
                      (try rw [if_pos (by rfl)])
                      refine oper_store_idR _ _ rfl Lb x.id rfl rfl HXO.out.id 24 _ hlk.blk (idC_size hlk.lid) ?_
                      intro Wl hkl2 hgl hzl
                      replace hlk := hlk.store (r := x.round) HNE.out.2.2.1 HNE.out.2.2.2 HXO.out.id hkl2 hgl
                      replace hO := hO.grown hgl HBQ.out.1
                      replace hS8 := hS8.grown hgl HP7.out
                      clear hkl2 hgl hzl
                      try dsimp only
                      refine hK.out _ _ (⟨act_round hS8, act_id hS8 HXO.out⟩) (fun hHeld => ?_)
                      clear hK K
                      try simp only [Act.put]
                      refine wpAnyH_done (by kernel_rfl) ?_ _
                      go_wp2_with fail
                      go_roundw
                      case rel =>
                        refine ⟨k + 1, hkl, by go_num, ?_, ?_, hO⟩
                        · rw [take_fold (upL N b) HXK.out, HGK.out, HUP.out]
                        · rw [take_fold (upL N b) HXK.out, HGK.out, HUP.out]
                          exact hlk
                      case measure => simp [intOf]; omega
                  · have hnum0 : x.num = 0 := by have := HO2.out.2.1; omega
                    have HUP : Hid (upL N b gk x = { gk with c := putT N gk.c x.round x.num b x.id }) := Lib.hid (by unfold upL; rw [if_neg (fun e => e HK2.out), if_neg HNE2.out, if_neg (by omega)])
                    rw [hnum0] at cn
                    have hlr := HO2.out.2.2.1
                    obtain ⟨hlr0, hlr1⟩ := hlr
                    by_cases hneg : gk.locked < 0
                    · as_aux_lemma =>
                        have hmx : max gk.locked 0 = 0 := by omega
                        go_upto_region 29 with fail
                        clear cn
                        go_loopw [17, 18] (fun s17 s18 wx => ∃ (q : Int) (fr : Bool), s18 = .int .i64 q ∧ s17 = .bool fr ∧ 0 ≤ q ∧ gk.locked ≤ q ∧ q ≤ 12 ∧ (fr = false → ¬ gk.locked < 0 ∧ gk.lock ≠ x.id ∧ ∀ i : Int, gk.locked ≤ i → 0 ≤ i → i < q → sureO N (putT N gk.c x.round x.num b x.id) i 0 ≠ some x.id) ∧ Below Wn.heap.size Wn wx) (fun _ s18 _ => (12 - intOf s18).toNat)
                        case atStart => exact ⟨_, true, rfl, rfl, by omega, by omega, by omega, fun e => (by cases e), Below.refl _ _⟩
                        case round =>
                          obtain ⟨q, fr, rfl, rfl, hq0, hq1, hq2, hfr, hbx⟩ := hrel
                          have HBX := Lib.hid hbx
                          have HFR := Lib.hid hfr
                          have hS8x := hS8.below hbx hS8.lt
                          have crx := act_round hS8x
                          clear hbx hfr
                          cases fr with
                          | true =>
                            by_cases hqr : q < x.round
                            · go_wp2_with fail
                              replace hlk := hlk.below HBX.out
                              replace hO := hO.below HBX.out
                              go_roundw
                              case rel =>
                                refine ⟨k + 1, hkl, by go_num, ?_, ?_, hO⟩
                                · rw [take_fold (upL N b) HXK.out, HGK.out, HUP.out]
                                · rw [take_fold (upL N b) HXK.out, HGK.out, HUP.out]
                                  exact hlk
                              case measure => simp [intOf]; omega
                            · go_wp2_with fail
                              replace hlk := hlk.below HBX.out
                              replace hO := hO.below HBX.out
                              go_roundw
                              case rel =>
                                refine ⟨k + 1, hkl, by go_num, ?_, ?_, hO⟩
                                · rw [take_fold (upL N b) HXK.out, HGK.out, HUP.out]
                                · rw [take_fold (upL N b) HXK.out, HGK.out, HUP.out]
                                  exact hlk
                              case measure => simp [intOf]; omega
                          | false =>
                            obtain ⟨f1, f2, f3⟩ := HFR.out rfl
                            exact absurd hneg f1
                    · have hmx : max gk.locked 0 = gk.locked := by omega
                      have hneg2 : 0 ≤ gk.locked := by omega
                      have heq := fun W => eql_idv hlk.lid HXO.out.id W
                      have hgu := fun W a b => guard_idv a b gk.lock x.id W
                      cases hle : gk.lock == x.id with
                      | true =>
                        as_aux_lemma =>
                          have HLE := Lib.hid hle
                          go_upto_region 29 with (first
                      | (guard_target = wpList _ _ _ (Oper.mk _ (.load 24 (.tmp 10)) _ _ _ _ :: _) _ _; refine wpList_load_runS (by rfl) 24 _ rfl _ _ rfl (run_loadVar_idv hlk.lid hlk.blk) ?_)
                      | (guard_target = wpList _ _ _ (Oper.mk _ (.load 24 (.tmp 138)) _ _ _ _ :: _) _ _; refine wpList_load_runS (by rfl) 24 _ rfl _ _ rfl (act_id hS8 HXO.out) ?_))
                          try rw [hle]
                          clear cn heq hgu hle
                          go_loopw [17, 18] (fun s17 s18 wx => ∃ (q : Int) (fr : Bool), s18 = .int .i64 q ∧ s17 = .bool fr ∧ 0 ≤ q ∧ gk.locked ≤ q ∧ q ≤ 12 ∧ (fr = false → ¬ gk.locked < 0 ∧ gk.lock ≠ x.id ∧ ∀ i : Int, gk.locked ≤ i → 0 ≤ i → i < q → sureO N (putT N gk.c x.round x.num b x.id) i 0 ≠ some x.id) ∧ Below Wn.heap.size Wn wx) (fun _ s18 _ => (12 - intOf s18).toNat)
                          case atStart => exact ⟨_, true, rfl, rfl, by omega, by omega, by omega, fun e => (by cases e), Below.refl _ _⟩
                          case round =>
                            obtain ⟨q, fr, rfl, rfl, hq0, hq1, hq2, hfr, hbx⟩ := hrel
                            have HBX := Lib.hid hbx
                            have HFR := Lib.hid hfr
                            have hS8x := hS8.below hbx hS8.lt
                            have crx := act_round hS8x
                            clear hbx hfr
                            cases fr with
                            | true =>
                              by_cases hqr : q < x.round
                              · go_wp2_with fail
                                replace hlk := hlk.below HBX.out
                                replace hO := hO.below HBX.out
                                go_roundw
                                case rel =>
                                  refine ⟨k + 1, hkl, by go_num, ?_, ?_, hO⟩
                                  · rw [take_fold (upL N b) HXK.out, HGK.out, HUP.out]
                                  · rw [take_fold (upL N b) HXK.out, HGK.out, HUP.out]
                                    exact hlk
                                case measure => simp [intOf]; omega
                              · go_wp2_with fail
                                replace hlk := hlk.below HBX.out
                                replace hO := hO.below HBX.out
                                go_roundw
                                case rel =>
                                  refine ⟨k + 1, hkl, by go_num, ?_, ?_, hO⟩
                                  · rw [take_fold (upL N b) HXK.out, HGK.out, HUP.out]
                                  · rw [take_fold (upL N b) HXK.out, HGK.out, HUP.out]
                                    exact hlk
                                case measure => simp [intOf]; omega
                            | false =>
                              obtain ⟨f1, f2, f3⟩ := HFR.out rfl
                              exact absurd (by simpa using HLE.out) f2
                      | false =>
                        as_aux_lemma =>
                          have HLE := Lib.hid hle
                          go_upto_region 29 with (first
                      | (guard_target = wpList _ _ _ (Oper.mk _ (.load 24 (.tmp 10)) _ _ _ _ :: _) _ _; refine wpList_load_runS (by rfl) 24 _ rfl _ _ rfl (run_loadVar_idv hlk.lid hlk.blk) ?_)
                      | (guard_target = wpList _ _ _ (Oper.mk _ (.load 24 (.tmp 138)) _ _ _ _ :: _) _ _; refine wpList_load_runS (by rfl) 24 _ rfl _ _ rfl (act_id hS8 HXO.out) ?_))
                          try rw [hle]
                          clear cn heq hgu hle
                          go_loopw [17, 18] (fun s17 s18 wx => ∃ (q : Int) (fr : Bool), s18 = .int .i64 q ∧ s17 = .bool fr ∧ 0 ≤ q ∧ gk.locked ≤ q ∧ q ≤ 12 ∧ (fr = false → ¬ gk.locked < 0 ∧ gk.lock ≠ x.id ∧ ∀ i : Int, gk.locked ≤ i → 0 ≤ i → i < q → sureO N (putT N gk.c x.round x.num b x.id) i 0 ≠ some x.id) ∧ Below Wn.heap.size Wn wx) (fun _ s18 _ => (12 - intOf s18).toNat)
                          case atStart => exact ⟨_, false, rfl, rfl, by omega, by omega, by omega, fun _ => ⟨by omega, by simpa using HLE.out, fun i h1 h2 h3 => by omega⟩, Below.refl _ _⟩
                          case round =>
                            obtain ⟨q, fr, rfl, rfl, hq0, hq1, hq2, hfr, hbx⟩ := hrel
                            have HBX := Lib.hid hbx
                            have HFR := Lib.hid hfr
                            have hS8x := hS8.below hbx hS8.lt
                            have crx := act_round hS8x
                            clear hbx hfr
                            cases fr with
                            | true =>
                              by_cases hqr : q < x.round
                              · go_wp2_with fail
                                replace hlk := hlk.below HBX.out
                                replace hO := hO.below HBX.out
                                go_roundw
                                case rel =>
                                  refine ⟨k + 1, hkl, by go_num, ?_, ?_, hO⟩
                                  · rw [take_fold (upL N b) HXK.out, HGK.out, HUP.out]
                                  · rw [take_fold (upL N b) HXK.out, HGK.out, HUP.out]
                                    exact hlk
                                case measure => simp [intOf]; omega
                              · go_wp2_with fail
                                replace hlk := hlk.below HBX.out
                                replace hO := hO.below HBX.out
                                go_roundw
                                case rel =>
                                  refine ⟨k + 1, hkl, by go_num, ?_, ?_, hO⟩
                                  · rw [take_fold (upL N b) HXK.out, HGK.out, HUP.out]
                                  · rw [take_fold (upL N b) HXK.out, HGK.out, HUP.out]
                                    exact hlk
                                case measure => simp [intOf]; omega
                            | false =>
                              obtain ⟨f1, f2, f3⟩ := HFR.out rfl
                              have HF3 := Lib.hid f3
                              have HF2 := Lib.hid f2
                              have hxr := HO2.out.1
                              obtain ⟨hxr0, hxr1⟩ := hxr
                              by_cases hqr : q < x.round
                              · clear f3 f2
                                have HCX := Lib.hid (hlk.cnt.below HBX.out)
                                have HSU : Hid (∀ W', Below wr.heap.size wr W' → Calls Try.prog 22 #[.pointer (some ⟨C2, 0, none⟩), .int .i64 q, .int .i64 0] W' fun e w' => e = .returned (.tuple #[idv ((sureO N (putT N gk.c x.round x.num b x.id) q 0).getD zeroId), .bool (sureO N (putT N gk.c x.round x.num b x.id) q 0).isSome]) ∧ Below W'.heap.size W' w') := Lib.hid fun W' hb => sure_any (HCX.out.below hb) q 0 (wfi_small (by omega) (by omega)) (wfi_small (by omega) (by omega)) HN1000.out
                                cases hso : sureO N (putT N gk.c x.round x.num b x.id) q 0 with
                                | none =>
                                  rw [hso] at HSU
                                  have HSO := Lib.hid hso
                                  clear hso
                                  go_wp2_with (first
                                    | (go_at_call 22; refine (HSU.out _ (Below.refl _ _)).mono ?_; rintro e Wu ⟨rfl, hbu⟩)
                                    | (guard_target = wpList _ _ _ (Oper.mk _ (.store 24 _ _) _ _ _ _ :: _) _ _; refine wpList_store_idv rfl _ _ rfl Wu.heap.size zeroId rfl rfl zeroId_ok 24 _ (Blk.newAt _ _ rfl rfl) rfl ?_; intro W7 hS7 hz7 hb7 hk7))
                                  have hbf := HBX.out.trans ((hbu.trans ((((Below.refl _ Wu).alloc (Nat.le_refl _) _).trans hb7).mono hbu.size)).mono HBX.out.size)
                                  go_roundw
                                  case rel => exact ⟨q + 1, false, by go_num, rfl, by omega, by omega, by omega, fun _ => ⟨by omega, HF2.out, fun i h1 h2 h3 => by
                                    rcases Int.lt_or_le i q with h | h
                                    · exact HF3.out i h1 h2 h
                                    · obtain rfl : i = q := by omega
                                      rw [HSO.out]
                                      intro e
                                      cases e⟩, hbf⟩
                                  case measure => simp [intOf]; omega
                                | some y =>
                                  rw [hso] at HSU
                                  have HY : Hid (IdOk y) := Lib.hid (sureO_okR HCX.out hso).1
                                  have HSO := Lib.hid hso
                                  clear hso
                                  go_upto_region 32 with (first
                                    | (go_at_call 22; refine (HSU.out _ (Below.refl _ _)).mono ?_; rintro e Wu ⟨rfl, hbu⟩)
                                    | (guard_target = wpList _ _ _ (Oper.mk _ (.store 24 _ _) _ _ _ _ :: _) _ _; refine wpList_store_idv rfl _ _ rfl Wu.heap.size y rfl rfl HY.out 24 _ (Blk.newAt _ _ rfl rfl) rfl ?_; intro W7 hS7 hz7 hb7 hk7))
                                  have hbf := HBX.out.trans ((hbu.trans ((((Below.refl _ Wu).alloc (Nat.le_refl _) _).trans hb7).mono hbu.size)).mono HBX.out.size)
                                  have heq := fun W => eql_idv HY.out HXO.out.id W
                                  have hgu := fun W a b => guard_idv a b y x.id W
                                  clear hz7 hb7 hk7
                                  go_wp2_with (first
                                    | (guard_target = wpList _ _ _ (Oper.mk _ (.load 24 (.tmp 19)) _ _ _ _ :: _) _ _; refine wpList_load_runS (by rfl) 24 _ rfl _ _ rfl (run_loadVar_idv HY.out hS7) ?_)
                                    | (guard_target = wpList _ _ _ (Oper.mk _ (.load 24 (.tmp 163)) _ _ _ _ :: _) _ _; refine wpList_load_runS (by rfl) 24 _ rfl _ _ rfl (act_id (hS8.below hbf hS8.lt) HXO.out) ?_))
                                  go_roundw
                                  case rel => exact ⟨q + 1, (y == x.id), by go_num, rfl, by omega, by omega, by omega, fun he => ⟨by omega, HF2.out, fun i h1 h2 h3 => by
                                    rcases Int.lt_or_le i q with h | h
                                    · exact HF3.out i h1 h2 h
                                    · obtain rfl : i = q := by omega
                                      rw [HSO.out]
                                      intro e
                                      injection e with e
                                      rw [e] at he
                                      simp at he⟩, hbf⟩
                                  case measure => simp [intOf]; omega
                              · exfalso
                                rcases (HO2.out.2.2.2 HNE2.out).2 hnum0 with h1 | h1 | ⟨i, h1, h2, h3, h4⟩
                                · exact f1 h1
                                · exact f2 h1
                                · exact f3 i h1 h2 (by omega) h4
              · have h2b : (x.kind == 2) = false := by rw [beq_eq_false_iff_ne]; exact h2
                have HUP : Hid (upL N b gk x = gk) := Lib.hid (up_other h2)
                clear h2
                go_wp2_with fail
                go_roundw
                case rel =>
                  refine ⟨k + 1, hkl, by go_num, ?_, ?_, hO⟩
                  · rw [take_fold (upL N b) HXK.out, HGK.out, HUP.out]
                  · rw [take_fold (upL N b) HXK.out, HGK.out, HUP.out]
                    exact hlk.more (by omega)
                case measure => simp [intOf]; omega
            · obtain rfl : k = nl := by omega
              have hki : ¬ (k : Int) < (k : Int) := by omega
              have hfull : lg.take k = lg := List.take_of_length_le (by rw [HNL.out]; exact Nat.le_refl _)
              rw [hfull] at hlk ⊢
              have HLK := Lib.hid hlk
              clear hfull hlk hO
              go_wp2_with fail
              go_roundw
              case rel => exact ⟨j + 1, giveS s i, _, n2 + k, hlt, by go_num, rfl, HLK.out, HQ.out.2, by have := HN2.out; omega⟩
              case measure => simp [intOf]; omega
    · obtain rfl : j = mm := by omega
      have hji : ¬ (j : Int) < (j : Int) := by omega
      go_wp2_with fail
      go_ret
      exact ⟨rfl, HB1.out.trans (HLJ.out.base.mono HB1.out.size)⟩
end Go.Proofs.Ytclhfokflagopaa
