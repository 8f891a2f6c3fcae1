/-
  SlabSteps' walk: for whatever number, bytes and kinds, in whatever memory: true; nothing old turns.
-/
import Derived.Test.YtnkaapghjgnliaaSlabLawC
namespace Go.Proofs.Ytnkaapghjgnliaa
open Go Go.RowKit Go.Shelf

/-- A slice of bools that reads as ks. -/
def RdO (W : World) (ok : Nat → Prop) (A : Option Addr) (ks : List Bool) : Prop := ∀ j, j < ks.length → ∃ ad : Addr, A = some ad ∧ ok ad.block ∧ W.cell? (ad.add j) = some (.bool (ks.getD j false))
theorem RdO.kept {W W' : World} {ok : Nat → Prop} {A : Option Addr} {ks : List Bool} (h : RdO W ok A ks) (hk : ∀ (a : Addr) (x : Value), ok a.block → W.cell? a = some x → W'.cell? a = some x) : RdO W' ok A ks := fun j hj => by
  obtain ⟨ad, hA, hok, hc⟩ := h j hj
  exact ⟨ad, hA, hok, hk _ _ (by rw [block_add]; exact hok) hc⟩
/-- What holds at the head of a round. -/
def StepRel (w wr : World) (g steps k done : Nat) : Prop := ∃ s : SlabS, SlabIn wr w.heap.size g s ∧ s.room = 5000 ∧ s.bs.length ≤ 20 * k ∧ s.pow = (steps : Int) - (done : Int) ∧ done ≤ steps ∧ Below w.heap.size w wr
theorem p_app_dn {s : SlabS} {cs : List UInt8} (h1 : cs.length ≤ s.room - s.bs.length) (h0 : s.pow = 0) : s.app cs = (s, 90) := by
  unfold SlabS.app; rw [if_neg (by omega), if_pos h0]
theorem p_app_up {s : SlabS} {cs : List UInt8} (h1 : cs.length ≤ s.room - s.bs.length) (h0 : s.pow ≠ 0) : s.app cs = ({ s with bs := s.bs ++ cs, pow := decP s.pow }, 0) := by
  unfold SlabS.app; rw [if_neg (by omega), if_neg h0]
theorem p_sync_dn {s : SlabS} (h0 : s.pow = 0) : s.sync = (s, 90) := by unfold SlabS.sync; rw [if_pos h0]
theorem p_sync_up {s : SlabS} (h0 : s.pow ≠ 0) : s.sync = ({ s with sure := s.bs.length, pow := decP s.pow }, 0) := by unfold SlabS.sync; rw [if_neg h0]
theorem step_same {w wr : World} {g steps k done : Nat} {s : SlabS} (h1 : SlabIn wr w.heap.size g s) (h2 : s.room = 5000) (h3 : s.bs.length ≤ 20 * k) (h4 : s.pow = 0) (h5 : s.pow = (steps : Int) - (done : Int)) (h6 : Below w.heap.size w wr) : StepRel w wr g steps (k + 1) done :=
  ⟨s, h1, h2, by omega, h5, by omega, h6⟩
theorem step_sync {w wr : World} {g steps k done : Nat} {s : SlabS} (h1 : SlabIn wr w.heap.size g { s with sure := s.bs.length, pow := decP s.pow }) (h2 : s.room = 5000) (h3 : s.bs.length ≤ 20 * k) (h4 : s.pow ≠ 0) (h5 : s.pow = (steps : Int) - (done : Int)) (h7 : done ≤ steps) (h6 : Below w.heap.size w wr) : StepRel w wr g steps (k + 1) (done + 1) :=
  ⟨_, h1, h2, by show s.bs.length ≤ _; omega, by show decP s.pow = _; unfold decP; rw [if_pos (by omega)]; omega, by omega, h6⟩
theorem step_app {w wr : World} {g steps k done : Nat} {s : SlabS} {cs : List UInt8} (h1 : SlabIn wr w.heap.size g { s with bs := s.bs ++ cs, pow := decP s.pow }) (h2 : s.room = 5000) (h3 : s.bs.length ≤ 20 * k) (hc : cs.length ≤ 20) (h4 : s.pow ≠ 0) (h5 : s.pow = (steps : Int) - (done : Int)) (h7 : done ≤ steps) (h6 : Below w.heap.size w wr) : StepRel w wr g steps (k + 1) (done + 1) :=
  ⟨_, h1, h2, by show (s.bs ++ cs).length ≤ _; rw [List.length_append]; omega, by show decP s.pow = _; unfold decP; rw [if_pos (by omega)]; omega, by omega, h6⟩
theorem bytes_str {w : World} {B g : Nat} {s : SlabS} (h : SlabIn w B g s) : Calls Try.prog 24 #[.pointer (some ⟨g, 0, none⟩)] w fun e w' => ∃ A n c, e = .returned (.slice A n c) ∧ (convert 32 9 (.slice A n c)).run Try.prog w' = .ok (.string ⟨s.bs.toArray⟩) w' ∧ SlabIn w' B g s ∧ Below w.heap.size w w' :=
  (bytes_in h).mono fun _ _ ⟨⟨A, c, h1, _, h2⟩, h3, h4⟩ => ⟨A, _, c, h1, h2, h3, h4⟩
set_option maxRecDepth 100000 in
set_option maxHeartbeats 4000000 in
theorem steps_any (st : Int) (A1 : Option Addr) (c1 : Nat) (L1 : List UInt8) (A2 : Option Addr) (c2 : Nat) (ks : List Bool) (w : World) (hr1 : RdB w (fun b => b < w.heap.size) (.slice A1 L1.length c1) L1) (hr2 : RdO w (fun b => b < w.heap.size) A2 ks) (hk2 : ks.length ≤ 140737488351232) :
    Calls Try.prog 6 #[.int .i64 st, .slice A1 L1.length c1, .slice A2 ks.length c2] w fun e w' => e = .returned (.bool true) ∧ Below w.heap.size w w' := by
  obtain ⟨n1, hn1⟩ : ∃ n, L1.length = n := ⟨_, rfl⟩
  obtain ⟨n2, hn2⟩ : ∃ n, ks.length = n := ⟨_, rfl⟩
  have hc1 : n1 ≤ 140737488351232 := by obtain ⟨_, _, hv, h1, h2, _⟩ := hr1; omega
  rw [hn1] at hr1 ⊢
  rw [hn2] at hk2 ⊢
  have RF := Lib.hid hr1
  have RK := Lib.hid hr2
  have LF := Lib.hid hn1
  have LK := Lib.hid hn2
  clear hr1 hr2 hn1 hn2
  by_cases h1 : st < 0
  · have d1 : decide (st < 0) = true := decide_eq_true h1
    go_enter Try.func6, Try.ntmps6
    go_wp2_with (go_at_call 8; refine (keeps_any _).mono ?_; rintro e w1 ⟨rfl, hb1⟩; have B1 := Lib.hid hb1; clear hb1)
    go_ret
    exact ⟨rfl, B1.out⟩
  · have d1 : decide (st < 0) = false := decide_eq_false h1
    by_cases h2 : 30 < st
    · have d2 : decide (30 < st) = true := decide_eq_true h2
      go_enter Try.func6, Try.ntmps6
      go_wp2_with (go_at_call 8; refine (keeps_any _).mono ?_; rintro e w1 ⟨rfl, hb1⟩; have B1 := Lib.hid hb1; clear hb1)
      go_ret
      exact ⟨rfl, B1.out⟩
    · have d2 : decide (30 < st) = false := decide_eq_false h2
      by_cases h3 : 20 < n1
      · have d3 : decide ((20 : Int) < (n1 : Int)) = true := decide_eq_true (by omega)
        go_enter Try.func6, Try.ntmps6
        go_wp2_with (go_at_call 8; refine (keeps_any _).mono ?_; rintro e w1 ⟨rfl, hb1⟩; have B1 := Lib.hid hb1; clear hb1)
        go_ret
        exact ⟨rfl, B1.out⟩
      · have d3 : decide ((20 : Int) < (n1 : Int)) = false := decide_eq_false (by omega)
        by_cases h4 : 60 < n2
        · have d4 : decide ((60 : Int) < (n2 : Int)) = true := decide_eq_true (by omega)
          go_enter Try.func6, Try.ntmps6
          go_wp2_with (go_at_call 8; refine (keeps_any _).mono ?_; rintro e w1 ⟨rfl, hb1⟩; have B1 := Lib.hid hb1; clear hb1)
          go_ret
          exact ⟨rfl, B1.out⟩
        · have d4 : decide ((60 : Int) < (n2 : Int)) = false := decide_eq_false (by omega)
          obtain ⟨steps, rfl⟩ := Int.eq_ofNat_of_zero_le (show 0 ≤ st by omega)
          have hs : steps ≤ 30 := by omega
          have hn20 : n1 ≤ 20 := by omega
          have hn60 : n2 ≤ 60 := by omega
          clear h1 h2 h3 h4
          go_enter Try.func6, Try.ntmps6
          go_wp2_with (first
            | (go_at_call 8; refine (keeps_any _).mono ?_; rintro e w1 ⟨rfl, hb1⟩; have B1 := Lib.hid hb1; clear hb1)
            | (go_at_call 9; refine (new_in (B := w.heap.size) 5000 (by omega) _ B1.out.size).mono ?_; rintro e w2 ⟨rfl, h2, hb2⟩; have H2 := Lib.hid (And.intro h2 (B1.out.trans (hb2.mono B1.out.size))); clear h2 hb2 B1)
            | (go_at_call 18; refine (break_in (s' := ⟨5000, [], 0, (steps : Int)⟩) H2.out.1 H2.out.2.size (steps : Int) (by omega) (by omega) rfl).mono ?_; rintro e w3 ⟨rfl, h3, hb3⟩; have H3 : Hid (StepRel w w3 w1.heap.size steps 0 0) := Lib.hid ⟨_, h3, rfl, Nat.le_refl _, (by show (steps : Int) = _; omega), Nat.zero_le _, H2.out.2.trans hb3⟩; clear h3 hb3 H2))
          go_loopw [9, 43] (fun d i wr => ∃ k done : Nat, k ≤ n2 ∧ i = .int .i64 (k : Int) ∧ d = .int .i64 (done : Int) ∧ StepRel w wr w1.heap.size steps k done) (fun _ i _ => n2 - (intOf i).toNat)
          case atStart => exact ⟨0, 0, by omega, rfl, rfl, H3.out⟩
          case round =>
            obtain ⟨k, done, hk, rfl, rfl, s, hS, hroom, hlen, hpow, hdone, hbel⟩ := hrel
            have HS := Lib.hid (And.intro hS (And.intro hroom (And.intro hlen (And.intro hpow (And.intro hdone hbel)))))
            clear hS hroom hpow hbel
            by_cases hlt : k < n2
            · obtain ⟨ad, rfl, hok, hcell⟩ := (RK.out.kept (W' := wr) fun a x ha h => (HS.out.2.2.2.2.2.cell (p := a) ha).trans h) k (by rw [LK.out]; exact hlt)
              have hkn : (k : Int) < (n2 : Int) := by omega
              obtain ⟨b, hb⟩ : ∃ b, ks.getD k false = b := ⟨_, rfl⟩
              rw [hb] at hcell
              clear hb hok
              by_cases hp : s.pow = 0
              · have hds : ¬ (done : Int) < (steps : Int) := by have := HS.out; omega
                have HP := Lib.hid hp
                clear hp
                cases b
                · go_wp2_with (first
                    | (go_at_call 24; refine (bytes_str HS.out.1).mono ?_; rintro e w5 ⟨A5, n5, c5, rfl, hcv, h5, hb5⟩; have H5 := Lib.hid (And.intro h5 (HS.out.2.2.2.2.2.trans (hb5.mono HS.out.2.2.2.2.2.size))); clear h5 hb5)
                    | (go_at_call 12; refine (app_in (ok := fun b => b < w.heap.size) H5.out.1 (Below.refl _ _) H5.out.2.size (RF.out.kept fun a x ha h => (H5.out.2.cell (p := a) ha).trans h) (fun i hi => ⟨Nat.lt_of_lt_of_le hi H5.out.2.size, .inl hi⟩) LF.out (p_app_dn (by have h1 := HS.out.2.1; have h2 := HS.out.2.2.1; rw [LF.out]; omega) HP.out)).mono ?_; rintro e w6 ⟨rfl, h6, hb6⟩; have H6 := Lib.hid (And.intro h6 (H5.out.2.trans hb6)); clear h6 hb6 H5)
                    | (go_at_call 24; refine (bytes_str H6.out.1).mono ?_; rintro e w7 ⟨A7, n7, c7, rfl, hcv7, h7, hb7⟩; have H7 := Lib.hid (And.intro h7 (H6.out.2.trans (hb7.mono H6.out.2.size))); clear h7 hb7 H6))
                  go_roundw
                  case rel => exact ⟨k + 1, done, by omega, by go_num, rfl, step_same H7.out.1 HS.out.2.1 HS.out.2.2.1 HP.out HS.out.2.2.2.1 H7.out.2⟩
                  case measure => simp [intOf]; omega
                · go_wp2_with (first
                    | (go_at_call 24; refine (bytes_str HS.out.1).mono ?_; rintro e w5 ⟨A5, n5, c5, rfl, hcv, h5, hb5⟩; have H5 := Lib.hid (And.intro h5 (HS.out.2.2.2.2.2.trans (hb5.mono HS.out.2.2.2.2.2.size))); clear h5 hb5)
                    | (go_at_call 14; refine (sync_in H5.out.1 H5.out.2.size (p_sync_dn HP.out)).mono ?_; rintro e w6 ⟨rfl, h6, hb6⟩; have H6 := Lib.hid (And.intro h6 (H5.out.2.trans hb6)); clear h6 hb6 H5)
                    | (go_at_call 24; refine (bytes_str H6.out.1).mono ?_; rintro e w7 ⟨A7, n7, c7, rfl, hcv7, h7, hb7⟩; have H7 := Lib.hid (And.intro h7 (H6.out.2.trans (hb7.mono H6.out.2.size))); clear h7 hb7 H6))
                  go_roundw
                  case rel => exact ⟨k + 1, done, by omega, by go_num, rfl, step_same H7.out.1 HS.out.2.1 HS.out.2.2.1 HP.out HS.out.2.2.2.1 H7.out.2⟩
                  case measure => simp [intOf]; omega
              · have hds : (done : Int) < (steps : Int) := by have := HS.out; omega
                have hdl : (done : Int) ≤ 30 := by omega
                have HP : Hid (s.pow ≠ 0) := Lib.hid hp
                clear hp
                cases b
                · go_wp2_with (first
                    | (go_at_call 24; refine (bytes_str HS.out.1).mono ?_; rintro e w5 ⟨A5, n5, c5, rfl, hcv, h5, hb5⟩; have H5 := Lib.hid (And.intro h5 (HS.out.2.2.2.2.2.trans (hb5.mono HS.out.2.2.2.2.2.size))); clear h5 hb5)
                    | (go_at_call 12; refine (app_in (ok := fun b => b < w.heap.size) H5.out.1 (Below.refl _ _) H5.out.2.size (RF.out.kept fun a x ha h => (H5.out.2.cell (p := a) ha).trans h) (fun i hi => ⟨Nat.lt_of_lt_of_le hi H5.out.2.size, .inl hi⟩) LF.out (p_app_up (by have h1 := HS.out.2.1; have h2 := HS.out.2.2.1; rw [LF.out]; omega) HP.out)).mono ?_; rintro e w6 ⟨rfl, h6, hb6⟩; have H6 := Lib.hid (And.intro h6 (H5.out.2.trans hb6)); clear h6 hb6 H5))
                  go_roundw
                  case rel => exact ⟨k + 1, done + 1, by omega, by go_num, by go_num, step_app H6.out.1 HS.out.2.1 HS.out.2.2.1 (by rw [LF.out]; omega) HP.out HS.out.2.2.2.1 HS.out.2.2.2.2.1 H6.out.2⟩
                  case measure => simp [intOf]; omega
                · go_wp2_with (first
                    | (go_at_call 24; refine (bytes_str HS.out.1).mono ?_; rintro e w5 ⟨A5, n5, c5, rfl, hcv, h5, hb5⟩; have H5 := Lib.hid (And.intro h5 (HS.out.2.2.2.2.2.trans (hb5.mono HS.out.2.2.2.2.2.size))); clear h5 hb5)
                    | (go_at_call 14; refine (sync_in H5.out.1 H5.out.2.size (p_sync_up HP.out)).mono ?_; rintro e w6 ⟨rfl, h6, hb6⟩; have H6 := Lib.hid (And.intro h6 (H5.out.2.trans hb6)); clear h6 hb6 H5))
                  go_roundw
                  case rel => exact ⟨k + 1, done + 1, by omega, by go_num, by go_num, step_sync H6.out.1 HS.out.2.1 HS.out.2.2.1 HP.out HS.out.2.2.2.1 HS.out.2.2.2.2.1 H6.out.2⟩
                  case measure => simp [intOf]; omega
            · obtain rfl : k = n2 := by omega
              have P5 : Hid (s.crash 0 = { s with bs := s.bs.take s.sure, sure := s.sure, pow := -1 }) := Lib.hid (by
                have e : s.left 0 = s.sure := by unfold SlabS.left; have := HS.out.1.ok.sure; omega
                unfold SlabS.crash; rw [e])
              have P6 : Hid (SlabS.app { s with bs := s.bs.take s.sure, sure := s.sure, pow := -1 } L1 = ({ s with bs := s.bs.take s.sure ++ L1, sure := s.sure, pow := -1 }, 0)) := Lib.hid (by
                have h := p_app s.room (s.bs.take s.sure) L1 s.sure (by have h1 := HS.out.2.1; have h2 := HS.out.2.2.1; rw [LF.out, List.length_take]; omega)
                exact h)
              have P7 : Hid (SlabS.sync { s with bs := s.bs.take s.sure ++ L1, sure := s.sure, pow := -1 } = (⟨s.room, s.bs.take s.sure ++ L1, (s.bs.take s.sure ++ L1).length, -1⟩, 0)) := Lib.hid (p_sync s.room _ s.sure)
              go_wp2_with (first
                | (go_at_call 20; refine (crash_in HS.out.1 HS.out.2.2.2.2.2.size 0 P5.out).mono ?_; rintro e w5 ⟨rfl, h5, hb5⟩; have H5 := Lib.hid (And.intro h5 (HS.out.2.2.2.2.2.trans hb5)); clear h5 hb5)
                | (go_at_call 12; refine (app_in (ok := fun b => b < w.heap.size) H5.out.1 (Below.refl _ _) H5.out.2.size (RF.out.kept fun a x ha h => (H5.out.2.cell (p := a) ha).trans h) (fun i hi => ⟨Nat.lt_of_lt_of_le hi H5.out.2.size, .inl hi⟩) LF.out P6.out).mono ?_; rintro e w6 ⟨rfl, h6, hb6⟩; have H6 := Lib.hid (And.intro h6 (H5.out.2.trans hb6)); clear h6 hb6 H5)
                | (go_at_call 14; refine (sync_in H6.out.1 H6.out.2.size P7.out).mono ?_; rintro e w7 ⟨rfl, h7, hb7⟩; have H7 := Lib.hid (H6.out.2.trans hb7); clear h7 hb7 H6))
              go_ret
              exact ⟨rfl, H7.out⟩
end Go.Proofs.Ytnkaapghjgnliaa
