/-
  SlabSure's walk: for whatever bytes and number, in whatever memory: true; nothing old turns.
-/
import Derived.Test.YtnkaapghjgnliaaSlabIn
namespace Go.Proofs.Ytnkaapghjgnliaa
open Go Go.RowKit Go.Shelf

set_option maxRecDepth 100000 in
set_option maxHeartbeats 2000000 in
theorem sure_any (A1 : Option Addr) (c1 : Nat) (L1 : List UInt8) (A2 : Option Addr) (c2 : Nat) (L2 : List UInt8) (keep : Int) (w : World) (hr1 : RdB w (fun b => b < w.heap.size) (.slice A1 L1.length c1) L1) (hr2 : RdB w (fun b => b < w.heap.size) (.slice A2 L2.length c2) L2) :
    Calls Try.prog 4 #[.slice A1 L1.length c1, .slice A2 L2.length c2, .int .i64 keep] w fun e w' => e = .returned (.bool true) ∧ Below w.heap.size w w' := by
  have hc1 : L1.length ≤ c1 ∧ L1.length ≤ 140737488351232 := by obtain ⟨_, _, hv, h1, h2, _⟩ := hr1; injection hv with _ _ e; omega
  have hc2 : L2.length ≤ c2 ∧ L2.length ≤ 140737488351232 := by obtain ⟨_, _, hv, h1, h2, _⟩ := hr2; injection hv with _ _ e; omega
  obtain ⟨n1, hn1⟩ : ∃ n, L1.length = n := ⟨_, rfl⟩
  obtain ⟨n2, hn2⟩ : ∃ n, L2.length = n := ⟨_, rfl⟩
  rw [hn1] at hr1 hc1 ⊢
  rw [hn2] at hr2 hc2 ⊢
  obtain ⟨m1, hm1⟩ : ∃ m, m = min n1 300 := ⟨_, rfl⟩
  obtain ⟨m2, hm2⟩ : ∃ m, m = min n2 300 := ⟨_, rfl⟩
  have g1 : min (n1 : Int) 300 = (m1 : Int) := by omega
  have g2 : min (n2 : Int) 300 = (m2 : Int) := by omega
  have l1 : (L1.take m1).length = m1 := by rw [List.length_take]; omega
  have l2 : (L2.take m2).length = m2 := by rw [List.length_take]; omega
  have RF := Lib.hid (hr1.firsts (m := m1) (by omega))
  have RS := Lib.hid (hr2.firsts (m := m2) (by omega))
  have s1 := run_slice_to (P := Try.prog) 32 5 Try.underlying32 (by kernel_rfl) A1 n1 c1 m1 (by omega)
  have s2 := run_slice_to (P := Try.prog) 32 5 Try.underlying32 (by kernel_rfl) A2 n2 c2 m2 (by omega)
  generalize L1.take m1 = F at *
  generalize L2.take m2 = S at *
  have k1 : m1 ≤ 300 := by omega
  have k2 : m2 ≤ 300 := by omega
  have LF := Lib.hid l1
  have LS := Lib.hid l2
  have P1 : Hid (SlabS.app ⟨1000, [], 0, -1⟩ F = (⟨1000, F, 0, -1⟩, 0)) := Lib.hid (by unfold SlabS.app; rw [if_neg (by show ¬ 1000 - 0 < F.length; omega), if_neg (by show ¬ (-1 : Int) = 0; decide)]; rfl)
  have P2 : Hid (SlabS.sync ⟨1000, F, 0, -1⟩ = (⟨1000, F, m1, -1⟩, 0)) := Lib.hid (by unfold SlabS.sync; rw [if_neg (by show ¬ (-1 : Int) = 0; decide), ← l1]; rfl)
  have P3 : Hid (SlabS.app ⟨1000, F, m1, -1⟩ S = (⟨1000, F ++ S, m1, -1⟩, 0)) := Lib.hid (by unfold SlabS.app; rw [if_neg (by show ¬ 1000 - F.length < S.length; omega), if_neg (by show ¬ (-1 : Int) = 0; decide)]; rfl)
  obtain ⟨q, hq⟩ : ∃ q : Nat, max 0 (min keep (m2 : Int)) = (q : Int) := ⟨(max 0 (min keep (m2 : Int))).toNat, by omega⟩
  have hqm : q ≤ m2 := by omega
  obtain ⟨N, hN⟩ : ∃ N, m1 + q = N := ⟨_, rfl⟩
  have P4 : Hid (SlabS.crash ⟨1000, F ++ S, m1, -1⟩ keep = ⟨1000, (F ++ S).take N, N, -1⟩) := Lib.hid (by
    have e : SlabS.left ⟨1000, F ++ S, m1, -1⟩ keep = N := by
      rw [← hN]
      unfold SlabS.left
      show m1 + (min (max keep 0) (((F ++ S).length : Int) - (m1 : Int))).toNat = m1 + q
      rw [List.length_append]; omega
    unfold SlabS.crash; rw [e])
  have LT : Hid (((F ++ S).take N).length = N) := Lib.hid (by rw [List.length_take, List.length_append]; omega)
  have T1 := Lib.hid (fun W => to_str (F ++ S) N (by rw [List.length_append]; omega) W)
  have hq1 : (m1 : Int) + (q : Int) = (N : Int) := by omega
  have hkq : N ≤ 600 := by omega
  have hqq : q ≤ 300 := by omega
  have e4 := fun W => add_str F S (by omega) W
  have T2 := T1.out
  clear hN hqm T1 hr1 hr2 hm1 hm2 l1 l2 hn1 hn2 hc1 hc2
  go_enter Try.func4, Try.ntmps4
  go_wp2_with (first
    | (go_at_call 8; refine (keeps_any _).mono ?_; rintro e w1 ⟨rfl, hb1⟩; have B1 := Lib.hid hb1; clear hb1))
  go_quiet (fail)
  have BW := Lib.hid (show Below w.heap.size w (w1.drewN nq) from ⟨B1.out.os, B1.out.tape, B1.out.output, B1.out.size, B1.out.block⟩)
  clear B1
  generalize w1.drewN nq = W at *
  go_wp2_with (first
    | (go_at_call 9; refine (new_in (B := w.heap.size) 1000 (by omega) _ BW.out.size).mono ?_; rintro e w2 ⟨rfl, h2, hb2⟩; have H2 := Lib.hid (And.intro h2 (BW.out.trans (hb2.mono BW.out.size))); clear h2 hb2 BW)
    | (go_at_call 12; refine (app_in (ok := fun b => b < w.heap.size) H2.out.1 (Below.refl _ _) H2.out.2.size (RF.out.kept fun a x ha h => (H2.out.2.cell (p := a) ha).trans h) (fun i hi => ⟨Nat.lt_of_lt_of_le hi H2.out.2.size, .inl hi⟩) LF.out P1.out).mono ?_; rintro e w3 ⟨rfl, h3, hb3⟩; have H3 := Lib.hid (And.intro h3 (H2.out.2.trans hb3)); clear h3 hb3 H2)
    | (go_at_call 14; refine (sync_in H3.out.1 H3.out.2.size P2.out).mono ?_; rintro e w4 ⟨rfl, h4, hb4⟩; have H4 := Lib.hid (And.intro h4 (H3.out.2.trans hb4)); clear h4 hb4 H3)
    | (go_at_call 12; refine (app_in (ok := fun b => b < w.heap.size) H4.out.1 (Below.refl _ _) H4.out.2.size (RS.out.kept fun a x ha h => (H4.out.2.cell (p := a) ha).trans h) (fun i hi => ⟨Nat.lt_of_lt_of_le hi H4.out.2.size, .inl hi⟩) LS.out P3.out).mono ?_; rintro e w5 ⟨rfl, h5, hb5⟩; have H5 := Lib.hid (And.intro h5 (H4.out.2.trans hb5)); clear h5 hb5 H4)
    | (go_at_call 20; refine (crash_in H5.out.1 H5.out.2.size keep P4.out).mono ?_; rintro e w6 ⟨rfl, h6, hb6⟩; have H6 := Lib.hid (And.intro h6 (H5.out.2.trans hb6)); clear h6 hb6 H5)
    | (go_at_call 24; refine (bytes_in H6.out.1).mono ?_; rintro e w7 ⟨⟨A7, c7, rfl, _, hcv⟩, h7, hb7⟩; rw [LT.out] at hcv; rw [LT.out]; have h8 := H6.out.2.trans (hb7.mono H6.out.2.size); have e1 := str_rd (RF.out.kept fun a x ha h => (h8.cell (p := a) ha).trans h); have e2 := str_rd (RS.out.kept fun a x ha h => (h8.cell (p := a) ha).trans h); have H8 := Lib.hid h8; clear h7 hb7 H6 h8))
  go_ret
  exact ⟨rfl, H8.out⟩
end Go.Proofs.Ytnkaapghjgnliaa
