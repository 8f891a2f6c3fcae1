/-
  SlabCuts' walk: for whatever bytes and place, in whatever memory: true; nothing old turns.
-/
import Derived.Test.YtnkaapghjgnliaaSlabIn
import Derived.BigRegion
import Derived.Deep.RegionWith
import Derived.Deep.DeepCutAuto
namespace Go.Proofs.Ytnkaapghjgnliaa
open Go Go.RowKit Go.Shelf

theorem p_app (room : Nat) (bs cs : List UInt8) (su : Nat) (h : cs.length ≤ room - bs.length) : SlabS.app ⟨room, bs, su, -1⟩ cs = (⟨room, bs ++ cs, su, -1⟩, 0) := by
  unfold SlabS.app; rw [if_neg (by show ¬ room - bs.length < cs.length; omega), if_neg (by show ¬ (-1 : Int) = 0; decide)]; rfl
theorem p_sync (room : Nat) (bs : List UInt8) (su : Nat) : SlabS.sync ⟨room, bs, su, -1⟩ = (⟨room, bs, bs.length, -1⟩, 0) := by
  unfold SlabS.sync; rw [if_neg (by show ¬ (-1 : Int) = 0; decide)]; rfl
theorem p_cut_no (s : SlabS) (k : Int) (h : k < 0 ∨ (s.bs.length : Int) < k) : s.cut k = (s, 1) := by unfold SlabS.cut; rw [if_pos h]
theorem p_cut (room : Nat) (bs : List UInt8) (su k : Nat) (h : k ≤ bs.length) : SlabS.cut ⟨room, bs, su, -1⟩ (k : Int) = (⟨room, bs.take k, min su k, -1⟩, 0) := by
  unfold SlabS.cut; rw [if_neg (by show ¬ ((k : Int) < 0 ∨ (bs.length : Int) < (k : Int)); omega), if_neg (by show ¬ (-1 : Int) = 0; decide)]; rfl
theorem p_crash0 (room : Nat) (bs : List UInt8) (su : Nat) (_h : su ≤ bs.length) : SlabS.crash ⟨room, bs, su, -1⟩ 0 = ⟨room, bs.take su, su, -1⟩ := by
  have e : SlabS.left ⟨room, bs, su, -1⟩ 0 = su := by unfold SlabS.left; show su + (min (max 0 0) ((bs.length : Int) - su)).toNat = su; omega
  unfold SlabS.crash; rw [e]
/-- What a region leaves of the slab. -/
def SlabStays (w wx : World) (g : Nat) (s : SlabS) : Prop := SlabIn wx w.heap.size g s ∧ Below w.heap.size w wx
set_option maxRecDepth 100000 in
set_option maxHeartbeats 4000000 in
theorem cuts_any (A1 : Option Addr) (c1 : Nat) (L1 : List UInt8) (A2 : Option Addr) (c2 : Nat) (L2 : List UInt8) (k : Int) (w : World) (hr1 : RdB w (fun b => b < w.heap.size) (.slice A1 L1.length c1) L1) (hr2 : RdB w (fun b => b < w.heap.size) (.slice A2 L2.length c2) L2) :
    Calls Try.prog 7 #[.slice A1 L1.length c1, .slice A2 L2.length c2, .int .i64 k] w fun e w' => e = .returned (.bool true) ∧ Below w.heap.size w w' := by
  have hc1 : L1.length ≤ c1 ∧ L1.length ≤ 140737488351232 := by obtain ⟨_, _, hv, h1, h2, _⟩ := hr1; injection hv with _ _ e; omega
  obtain ⟨n1, hn1⟩ : ∃ n, L1.length = n := ⟨_, rfl⟩
  obtain ⟨n2, hn2⟩ : ∃ n, L2.length = n := ⟨_, rfl⟩
  rw [hn1] at hr1 hc1 ⊢
  rw [hn2] at hr2 ⊢
  have RF := Lib.hid hr1
  have RS := Lib.hid hr2
  by_cases h1 : 500 < n1
  · have d1 : decide ((500 : Int) < (n1 : Int)) = true := decide_eq_true (by omega)
    clear hn1 hn2 hr1 hr2
    go_enter Try.func7, Try.ntmps7
    go_wp2_with (first
      | (go_at_call 8; refine (keeps_any _).mono ?_; rintro e w1 ⟨rfl, hb1⟩; have B1 := Lib.hid hb1; clear hb1))
    go_ret
    exact ⟨rfl, B1.out⟩
  · have d1 : decide ((500 : Int) < (n1 : Int)) = false := decide_eq_false (by omega)
    by_cases h2 : 500 < n2
    · have d2 : decide ((500 : Int) < (n2 : Int)) = true := decide_eq_true (by omega)
      clear hn1 hn2 hr1 hr2
      go_enter Try.func7, Try.ntmps7
      go_wp2_with (first
        | (go_at_call 8; refine (keeps_any _).mono ?_; rintro e w1 ⟨rfl, hb1⟩; have B1 := Lib.hid hb1; clear hb1))
      go_ret
      exact ⟨rfl, B1.out⟩
    · have d2 : decide ((500 : Int) < (n2 : Int)) = false := decide_eq_false (by omega)
      have P1 := Lib.hid (p_app 2000 [] L1 0 (by show L1.length ≤ 2000 - 0; omega))
      have P2 := Lib.hid (p_sync 2000 L1 0)
      have LF := Lib.hid hn1
      have LS := Lib.hid hn2
      rw [hn1] at P2
      by_cases h3 : k < 0 ∨ (n1 : Int) < k
      · have P3 := Lib.hid (p_cut_no ⟨2000, L1, n1, -1⟩ k (by show k < 0 ∨ (L1.length : Int) < k; omega))
        clear hn1 hn2 hr1 hr2
        by_cases h4 : k < 0
        · have d4 : decide (k < 0) = true := decide_eq_true h4
          clear h3
          go_enter Try.func7, Try.ntmps7
          go_wp2_with (first
            | (go_at_call 8; refine (keeps_any _).mono ?_; rintro e w1 ⟨rfl, hb1⟩; have B1 := Lib.hid hb1; clear hb1)
            | (go_at_call 9; refine (new_in (B := w.heap.size) 2000 (by omega) _ B1.out.size).mono ?_; rintro e w2 ⟨rfl, h2, hb2⟩; have H2 := Lib.hid (And.intro h2 (B1.out.trans (hb2.mono B1.out.size))); clear h2 hb2 B1)
            | (go_at_call 12; refine (app_in (ok := fun b => b < w.heap.size) H2.out.1 (Below.refl _ _) H2.out.2.size (RF.out.kept fun a x ha h => (H2.out.2.cell (p := a) ha).trans h) (fun i hi => ⟨Nat.lt_of_lt_of_le hi H2.out.2.size, .inl hi⟩) LF.out P1.out).mono ?_; rintro e w3 ⟨rfl, h3, hb3⟩; have H3 := Lib.hid (And.intro h3 (H2.out.2.trans hb3)); clear h3 hb3 H2)
            | (go_at_call 14; refine (sync_in H3.out.1 H3.out.2.size P2.out).mono ?_; rintro e w4 ⟨rfl, h4, hb4⟩; have H4 := Lib.hid (And.intro h4 (H3.out.2.trans hb4)); clear h4 hb4 H3))
          go_region_with ((first
            | (go_at_call 16; refine (cut_in (B := w.heap.size) H4.out.1.drew H4.out.2.size k P3.out).mono ?_; rintro e w5 ⟨rfl, h5, hb5⟩; have h6 := H4.out.2.drew.trans hb5; have e1 := str_rd (RF.out.kept fun a x ha h => (h6.cell (p := a) ha).trans h); have H5 := Lib.hid (And.intro h5 h6); clear h5 h6 hb5 H4)
            | (go_at_call 24; refine (bytes_in H5.out.1).mono ?_; rintro e w7 ⟨⟨A7, c7, rfl, _, hcv⟩, h7, hb7⟩; rw [LF.out] at hcv; rw [LF.out]; have h8 := H5.out.2.trans (hb7.mono H5.out.2.size); have e2 := str_rd (RF.out.kept fun a x ha h => (h8.cell (p := a) ha).trans h); have H8 := Lib.hid h8; clear h7 hb7 H5 h8)))
          all_goals (go_wp2; go_ret; exact ⟨rfl, H8.out⟩)
        · have d4 : decide (k < 0) = false := decide_eq_false h4
          have d5 : decide ((n1 : Int) < k) = true := decide_eq_true (by omega)
          clear h3
          go_enter Try.func7, Try.ntmps7
          go_wp2_with (first
            | (go_at_call 8; refine (keeps_any _).mono ?_; rintro e w1 ⟨rfl, hb1⟩; have B1 := Lib.hid hb1; clear hb1)
            | (go_at_call 9; refine (new_in (B := w.heap.size) 2000 (by omega) _ B1.out.size).mono ?_; rintro e w2 ⟨rfl, h2, hb2⟩; have H2 := Lib.hid (And.intro h2 (B1.out.trans (hb2.mono B1.out.size))); clear h2 hb2 B1)
            | (go_at_call 12; refine (app_in (ok := fun b => b < w.heap.size) H2.out.1 (Below.refl _ _) H2.out.2.size (RF.out.kept fun a x ha h => (H2.out.2.cell (p := a) ha).trans h) (fun i hi => ⟨Nat.lt_of_lt_of_le hi H2.out.2.size, .inl hi⟩) LF.out P1.out).mono ?_; rintro e w3 ⟨rfl, h3, hb3⟩; have H3 := Lib.hid (And.intro h3 (H2.out.2.trans hb3)); clear h3 hb3 H2)
            | (go_at_call 14; refine (sync_in H3.out.1 H3.out.2.size P2.out).mono ?_; rintro e w4 ⟨rfl, h4, hb4⟩; have H4 := Lib.hid (And.intro h4 (H3.out.2.trans hb4)); clear h4 hb4 H3))
          go_region_with ((first
            | (go_at_call 16; refine (cut_in (B := w.heap.size) H4.out.1.drew H4.out.2.size k P3.out).mono ?_; rintro e w5 ⟨rfl, h5, hb5⟩; have h6 := H4.out.2.drew.trans hb5; have e1 := str_rd (RF.out.kept fun a x ha h => (h6.cell (p := a) ha).trans h); have H5 := Lib.hid (And.intro h5 h6); clear h5 h6 hb5 H4)
            | (go_at_call 24; refine (bytes_in H5.out.1).mono ?_; rintro e w7 ⟨⟨A7, c7, rfl, _, hcv⟩, h7, hb7⟩; rw [LF.out] at hcv; rw [LF.out]; have h8 := H5.out.2.trans (hb7.mono H5.out.2.size); have e2 := str_rd (RF.out.kept fun a x ha h => (h8.cell (p := a) ha).trans h); have H8 := Lib.hid h8; clear h7 hb7 H5 h8)))
          all_goals (go_wp2; go_ret; exact ⟨rfl, H8.out⟩)
      · obtain ⟨m, rfl⟩ := Int.eq_ofNat_of_zero_le (show 0 ≤ k by omega)
        have d4 : decide ((m : Int) < 0) = false := decide_eq_false (by omega)
        have d5 : decide ((n1 : Int) < (m : Int)) = false := decide_eq_false (by omega)
        have hm : m ≤ n1 := by omega
        have P3 := Lib.hid (p_cut 2000 L1 n1 m (by omega))
        have lt : (L1.take m).length = m := by rw [List.length_take]; omega
        have LT := Lib.hid lt
        have em : min n1 m = m := by omega
        rw [em] at P3
        have RT := Lib.hid (hr1.firsts hm)
        have s1 := run_slice_to (P := Try.prog) 32 5 Try.underlying32 (by kernel_rfl) A1 n1 c1 m (by omega)
        have P4 := Lib.hid (p_app 2000 (L1.take m) L2 m (by omega))
        have P5 := Lib.hid (p_crash0 2000 (L1.take m ++ L2) m (by rw [List.length_append]; omega))
        rw [show (L1.take m ++ L2).take m = L1.take m from by rw [List.take_append_of_le_length (by omega), List.take_take, Nat.min_self]] at P5
        have LA : Hid ((L1.take m ++ L2).length = m + n2) := Lib.hid (by rw [List.length_append]; omega)
        have e9 := fun W => add_str (L1.take m) L2 (by omega) W
        have hm500 : m ≤ 500 := by omega
        generalize L1.take m = T at *
        clear hn1 hn2 hr1 hr2 h3 em lt
        go_enter Try.func7, Try.ntmps7
        go_upto_region 15 with (first
          | (go_at_call 8; refine (keeps_any _).mono ?_; rintro e w1 ⟨rfl, hb1⟩; have B1 := Lib.hid hb1; clear hb1)
          | (go_at_call 9; refine (new_in (B := w.heap.size) 2000 (by omega) _ B1.out.size).mono ?_; rintro e w2 ⟨rfl, h2, hb2⟩; have H2 := Lib.hid (And.intro h2 (B1.out.trans (hb2.mono B1.out.size))); clear h2 hb2 B1)
          | (go_at_call 12; refine (app_in (ok := fun b => b < w.heap.size) H2.out.1 (Below.refl _ _) H2.out.2.size (RF.out.kept fun a x ha h => (H2.out.2.cell (p := a) ha).trans h) (fun i hi => ⟨Nat.lt_of_lt_of_le hi H2.out.2.size, .inl hi⟩) LF.out P1.out).mono ?_; rintro e w3 ⟨rfl, h3, hb3⟩; have H3 := Lib.hid (And.intro h3 (H2.out.2.trans hb3)); clear h3 hb3 H2)
          | (go_at_call 14; refine (sync_in H3.out.1 H3.out.2.size P2.out).mono ?_; rintro e w4 ⟨rfl, h4, hb4⟩; have H4 := Lib.hid (And.intro h4 (H3.out.2.trans hb4)); clear h4 hb4 H3)
          | (go_at_call 16; refine (cut_in H4.out.1 H4.out.2.size (m : Int) P3.out).mono ?_; rintro e w5 ⟨rfl, h5, hb5⟩; have H5 := Lib.hid (And.intro h5 (H4.out.2.trans hb5)); clear h5 hb5 H4)
          | (go_at_call 23; refine (size_in H5.out.1).mono ?_; rintro e w6 ⟨rfl, h6, hb6⟩; rw [LT.out]; have H6 := Lib.hid (And.intro h6 (H5.out.2.trans (hb6.mono H5.out.2.size))); clear h6 hb6 H5)
          | (go_at_call 12; refine (app_in (ok := fun b => b < w.heap.size) H6.out.1 (Below.refl _ _) H6.out.2.size (RS.out.kept fun a x ha h => (H6.out.2.cell (p := a) ha).trans h) (fun i hi => ⟨Nat.lt_of_lt_of_le hi H6.out.2.size, .inl hi⟩) LS.out P4.out).mono ?_; rintro e w7 ⟨rfl, h7, hb7⟩; have h8 := H6.out.2.trans hb7; have e1 := str_rd (RT.out.kept (W' := w7.drew) fun a x ha h => (h8.drew.cell (p := a) ha).trans h); have e2 := str_rd (RS.out.kept (W' := w7.drew) fun a x ha h => (h8.drew.cell (p := a) ha).trans h); have H7 := Lib.hid (And.intro h7 h8); clear h7 hb7 h8 H6))
        go_cut [91] (fun s91 wx => s91 = .bool false ∧ SlabStays w wx w1.heap.size ⟨2000, T ++ L2, m, -1⟩)
        case first =>
          go_region_with ((go_at_call 24; refine (bytes_in H7.out.1.drew).mono ?_; rintro e w8 ⟨⟨A8, c8, rfl, _, hcv⟩, h8, hb8⟩; rw [LA.out] at hcv; rw [LA.out]; have h9 := H7.out.2.drew.trans (hb8.mono H7.out.2.size); have e3 := str_rd (RT.out.kept fun a x ha h => (h9.cell (p := a) ha).trans h); have e4 := str_rd (RS.out.kept fun a x ha h => (h9.cell (p := a) ha).trans h); have H8 := Lib.hid (And.intro h8 h9); clear h8 hb8 h9 H7))
          all_goals (go_wp2_with fail; go_meet; exact ⟨rfl, H8.out⟩)
        case rest =>
          obtain ⟨rfl, hs8⟩ := hcut
          have H8 := Lib.hid hs8
          clear hs8
          go_upto_region 18 with (go_at_call 20; refine (crash_in H8.out.1 H8.out.2.size 0 P5.out).mono ?_; rintro e w9 ⟨rfl, h9, hb9⟩; have h10 := H8.out.2.trans hb9; have e5 := str_rd (RT.out.kept (W' := w9.drew) fun a x ha h => (h10.drew.cell (p := a) ha).trans h); have H9 := Lib.hid (And.intro h9 h10); clear h9 hb9 h10 H8)
          go_region_with ((go_at_call 24; refine (bytes_in H9.out.1.drew).mono ?_; rintro e wa ⟨⟨Aa, ca, rfl, _, hcv⟩, ha, hba⟩; rw [LT.out] at hcv; rw [LT.out]; have hb := H9.out.2.drew.trans (hba.mono H9.out.2.size); have e6 := str_rd (RT.out.kept fun a x ha h => (hb.cell (p := a) ha).trans h); have HA := Lib.hid hb; clear ha hba hb H9))
          all_goals (go_wp2; go_ret; exact ⟨rfl, HA.out⟩)
end Go.Proofs.Ytnkaapghjgnliaa
