/-
  ProofBegins: for every list of leaves and every size, in whatever memory in which the tables lie. No condition.
-/
import Derived.Test.YtkkanaefngggoaaDoorPrfRefC
import Derived.Test.YtkkanaefngggoaaDoorPrfGuard
namespace Go.Proofs.YtkkanaefngggoaaDoor
open Go Go.RowKit Go.Shelf TreeM

set_option maxRecDepth 100000 in
theorem refCon_any (n : Nat) (l : List D) (a : Nat) (v : Value) (w : World) (hn : l.length = n) (hle : n ≤ 1000000) (h1 : 1 ≤ a) (ha : a ≤ n) (hr : RdI w (fun b => b < w.heap.size) v l) :
    Calls Tryd.prog 39 #[v, .int .i64 (a : Int)] w fun e w' => ∃ v', e = .returned v' ∧ ∃ m, m ≤ n ∧ w'.ownsRow w.heap.size 30 32 v' m (idCells (subL l a true)) ∧ Below w.heap.size w w' := by
  have HS := Lib.hid (refSub_any n l a true v w hn hle h1 ha hr)
  clear hr hn
  go_enter Tryd.func39, Tryd.ntmps39
  go_wp2_with (go_at_call 56; refine HS.out.mono ?_; rintro e W1 ⟨v', rfl, m, hm, ho, hb⟩)
  go_ret
  exact ⟨_, rfl, m, hm, ho, hb⟩
set_option maxRecDepth 100000 in
set_option maxHeartbeats 1000000 in
theorem begins_low (v : Value) (l : List D) (a : Int) (w : World) (hT : Tables w) (hr : RdI w (fun b => b < w.heap.size) v l) (q : Nat) (hq : min l.length 40 = q) (ha : a < 1) :
    Calls Tryd.prog 11 #[v, .int .i64 a] w fun e w' => e = .returned (.bool true) ∧ Below w.heap.size w w' := by
  obtain ⟨A, c, rfl, hlc, _⟩ := id hr
  obtain ⟨n, hn⟩ : ∃ n, l.length = n := ⟨_, rfl⟩
  rw [hn] at hr hlc hq ⊢
  have hr1 := hr.take (k := q) (by omega)
  have hn1 : (l.take q).length = q := by rw [List.length_take]; omega
  have hmin : min (n : Int) 40 = (q : Int) := by omega
  have hq40 : q ≤ 40 := by omega
  have hqs : ∀ W, (Instr.sliceAt 22 (.slice A n c) none (some (.int .i64 (q : Int))) none).run Tryd.prog W = .ok (.slice A q c) W := fun W => run_slice_toN (P := Tryd.prog) 22 30 Tryd.underlying22 32 (by kernel_rfl) A n c q (by omega) W
  generalize l.take q = s at *
  have HPR := Lib.hid (proves_any w hT)
  have HIN : Hid (∀ W, Below w.heap.size w W → Calls Tryd.prog 38 #[.slice A q c, .int .i64 a] W fun e w' => e = .returned (.tuple #[.slice none 0 0, .int .i64 1]) ∧ w' = W) := Lib.hid fun W hb => by
    have := consistency_range (.slice A q c) s a W ((hr1.old hb).mono fun b hb' => Nat.lt_of_lt_of_le hb' hb.size) (by rw [hn1]; omega)
    exact this
  clear hr hr1 hT hn hlc hq hn1
  go_enter Tryd.func11, Tryd.ntmps11
  go_wp2_with (first
    | (go_at_call 34; refine HPR.out.mono ?_; rintro e W1 ⟨rfl, hb1⟩; have HB1 := Lib.hid hb1; clear hb1 HPR)
    | (go_at_call 38; refine (HIN.out _ HB1.out).mono ?_; rintro e W2 ⟨rfl, rfl⟩))
  go_ret
  exact ⟨rfl, HB1.out⟩
set_option maxRecDepth 100000 in
set_option maxHeartbeats 1000000 in
theorem begins_high (v : Value) (l : List D) (a : Int) (w : World) (hT : Tables w) (hr : RdI w (fun b => b < w.heap.size) v l) (q : Nat) (hq : min l.length 40 = q) (ha0 : 1 ≤ a) (ha : (q : Int) < a) :
    Calls Tryd.prog 11 #[v, .int .i64 a] w fun e w' => e = .returned (.bool true) ∧ Below w.heap.size w w' := by
  obtain ⟨A, c, rfl, hlc, _⟩ := id hr
  obtain ⟨n, hn⟩ : ∃ n, l.length = n := ⟨_, rfl⟩
  rw [hn] at hr hlc hq ⊢
  have hr1 := hr.take (k := q) (by omega)
  have hn1 : (l.take q).length = q := by rw [List.length_take]; omega
  have hmin : min (n : Int) 40 = (q : Int) := by omega
  have hq40 : q ≤ 40 := by omega
  have hqs : ∀ W, (Instr.sliceAt 22 (.slice A n c) none (some (.int .i64 (q : Int))) none).run Tryd.prog W = .ok (.slice A q c) W := fun W => run_slice_toN (P := Tryd.prog) 22 30 Tryd.underlying22 32 (by kernel_rfl) A n c q (by omega) W
  generalize l.take q = s at *
  have HPR := Lib.hid (proves_any w hT)
  have HIN : Hid (∀ W, Below w.heap.size w W → Calls Tryd.prog 38 #[.slice A q c, .int .i64 a] W fun e w' => e = .returned (.tuple #[.slice none 0 0, .int .i64 1]) ∧ w' = W) := Lib.hid fun W hb => by
    have := consistency_range (.slice A q c) s a W ((hr1.old hb).mono fun b hb' => Nat.lt_of_lt_of_le hb' hb.size) (by rw [hn1]; omega)
    exact this
  have hna : ¬ a < 1 := by omega
  clear hr hr1 hT hn hlc hq hn1
  go_enter Tryd.func11, Tryd.ntmps11
  go_wp2_with (first
    | (go_at_call 34; refine HPR.out.mono ?_; rintro e W1 ⟨rfl, hb1⟩; have HB1 := Lib.hid hb1; clear hb1 HPR)
    | (go_at_call 38; refine (HIN.out _ HB1.out).mono ?_; rintro e W2 ⟨rfl, rfl⟩))
  go_ret
  exact ⟨rfl, HB1.out⟩
set_option maxRecDepth 100000 in
set_option maxHeartbeats 4000000 in
theorem begins_in (v : Value) (l : List D) (a : Nat) (w : World) (hT : Tables w) (hr : RdI w (fun b => b < w.heap.size) v l) (q : Nat) (hq : min l.length 40 = q) (h1a : 1 ≤ a) (ha : a ≤ q) :
    Calls Tryd.prog 11 #[v, .int .i64 (a : Int)] w fun e w' => e = .returned (.bool true) ∧ Below w.heap.size w w' := by
  obtain ⟨A, c, rfl, hlc, _⟩ := id hr
  obtain ⟨n, hn⟩ : ∃ n, l.length = n := ⟨_, rfl⟩
  rw [hn] at hr hlc hq ⊢
  have hr1 := hr.take (k := q) (by omega)
  have hn1 : (l.take q).length = q := by rw [List.length_take]; omega
  have hmin : min (n : Int) 40 = (q : Int) := by omega
  have hq40 : q ≤ 40 := by omega
  have hqs : ∀ W, (Instr.sliceAt 22 (.slice A n c) none (some (.int .i64 (q : Int))) none).run Tryd.prog W = .ok (.slice A q c) W := fun W => run_slice_toN (P := Tryd.prog) 22 30 Tryd.underlying22 32 (by kernel_rfl) A n c q (by omega) W
  generalize l.take q = s at *
  have HPR := Lib.hid (proves_any w hT)
  have hold : ∀ W, Below w.heap.size w W → RdI W (fun b => b < W.heap.size) (.slice A q c) s := fun W hb' => (hr1.old hb').mono fun b hb'' => Nat.lt_of_lt_of_le hb'' hb'.size
  have hai : (a : Int) ≤ (q : Int) := by omega
  have ha0 : (0 : Int) ≤ (a : Int) := by omega
  have hna : ¬ (a : Int) < 1 := by omega
  have hnq : ¬ (q : Int) < (a : Int) := by omega
  obtain ⟨x, hx⟩ : ∃ x, mth (s.take a) = x := ⟨_, rfl⟩
  obtain ⟨R, hR⟩ : ∃ R, mth s = R := ⟨_, rfl⟩
  obtain ⟨P1, hP1⟩ : ∃ P1, (linkP a 0 q).reverse.map (rtP s) = P1 := ⟨_, rfl⟩
  obtain ⟨N1, hN1⟩ : ∃ N1, (linkP a 0 q).length = N1 := ⟨_, rfl⟩
  have hpl : P1.length = N1 := by rw [← hP1, ← hN1]; simp
  have hw1 : N1 ≤ 7 := by rw [← hN1]; exact linkP_length 6 a 0 q (by omega) (by omega) (by omega)
  have hic : subL s a true = P1 := by rw [con_link s a h1a (by rw [hn1]; exact ha), hn1, hP1]
  have HIN : Hid (∀ W, Below w.heap.size w W → Calls Tryd.prog 38 #[.slice A q c, .int .i64 (a : Int)] W fun e w' => ∃ g, e = .returned (.tuple #[.slice (some ⟨g, 0, none⟩) N1 N1, .int .i64 0]) ∧ RdI w' (fun b => b < w'.heap.size) (.slice (some ⟨g, 0, none⟩) N1 N1) P1 ∧ Below W.heap.size W w') := Lib.hid fun W hb' => (consistency_in _ s a W (hT.below hb') (hold W hb') (by rw [hn1]; omega) h1a (by rw [hn1]; exact ha)).mono (by
    rintro e w' ⟨g, N, rfl, h1, h2, h3⟩
    rw [hn1] at h1 h2
    rw [hP1] at h2
    rw [hN1] at h1
    subst h1
    exact ⟨g, rfl, h2.mono fun b hb => hb.2, h3⟩)
  have HRI' : Hid (∀ W, Below w.heap.size w W → Calls Tryd.prog 39 #[.slice A q c, .int .i64 (a : Int)] W fun e w' => ∃ v', e = .returned v' ∧ ∃ m, m ≤ q ∧ w'.ownsRow W.heap.size 30 32 v' m (idCells P1) ∧ Below W.heap.size W w') := Lib.hid fun W hb' => by
    have := refCon_any q s a (.slice A q c) W hn1 (by omega) h1a ha (hold W hb')
    rw [hic] at this
    exact this
  have HSM' : Hid (∀ g W v' m B, RdI W (fun b => b < W.heap.size) (.slice (some ⟨g, 0, none⟩) N1 N1) P1 → m ≤ q → W.ownsRow B 30 32 v' m (idCells P1) → Calls Tryd.prog 24 #[.slice (some ⟨g, 0, none⟩) N1 N1, v'] W fun e w' => e = .returned (.bool true) ∧ Below W.heap.size W w') := Lib.hid fun g W v' m B h1 h2 h3 => (same_true _ v' P1 W h1 ((own_rd h3 (by omega)).mono fun b hb => hb.2.2) (by omega)).mono (by
    rintro e w' ⟨rfl, h⟩
    first | exact ⟨rfl, h⟩ | exact ⟨rfl, by rw [h]; exact Below.refl _ _⟩)
  have HRR' : Hid (∀ W, Below w.heap.size w W → Calls Tryd.prog 22 #[.slice A q c] W fun e w' => e = .returned (.agg (arr 32 fun i => bv (R i))) ∧ Below W.heap.size W w') := Lib.hid fun W hb' => by
    rw [← hR]
    exact refRoot_any q s _ W hn1 (by omega) (hold W hb')
  have HRS' : Hid (∀ W, Below w.heap.size w W → Calls Tryd.prog 22 #[.slice A a c] W fun e w' => e = .returned (.agg (arr 32 fun i => bv (x i))) ∧ Below W.heap.size W w') := Lib.hid fun W hb' => by
    rw [← hx]
    exact refRoot_any a (s.take a) _ W (by rw [List.length_take]; omega) (by omega) ((hold W hb').take (by omega))
  have hsl : ∀ W, (Instr.sliceAt 22 (.slice A q c) none (some (.int .i64 (a : Int))) none).run Tryd.prog W = .ok (.slice A a c) W := fun W => run_slice_toN (P := Tryd.prog) 22 30 Tryd.underlying22 32 (by kernel_rfl) A q c a (by omega) W
  have HCI' : Hid (∀ g W, Below w.heap.size w W → RdI W (fun b => b < W.heap.size) (.slice (some ⟨g, 0, none⟩) N1 N1) P1 → Calls Tryd.prog 40 #[.int .i64 (a : Int), .int .i64 (q : Int), .agg (arr 32 fun i => bv (x i)), .agg (arr 32 fun i => bv (R i)), .slice (some ⟨g, 0, none⟩) N1 N1] W fun e w' => e = .returned (.int .i64 0) ∧ Below W.heap.size W w') := Lib.hid fun g W hb' hr' => by
    have := ccon_any x R a q _ P1 W (hT.below hb') hr'
    have h0 := ccon_true s a h1a (by rw [hn1]; exact ha) (by rw [hn1]; omega)
    rw [hn1, hx, hP1, hR] at h0
    rw [h0] at this
    exact this
  clear hr hr1 hT hn hlc hq hn1 hold hx hR hP1 hN1 hpl hic
  go_enter Tryd.func11, Tryd.ntmps11
  go_wp2_with (first
    | (go_at_call 34; refine HPR.out.mono ?_; rintro e W1 ⟨rfl, hb1⟩; have HB1 := Lib.hid hb1; clear hb1 HPR)
    | (go_at_call 38; refine (HIN.out _ HB1.out).mono ?_; rintro e W2 ⟨g1, rfl, hi2, hb2⟩; have HI2 := Lib.hid hi2; have HB2 := Lib.hid (HB1.out.trans (hb2.mono HB1.out.size)); clear hi2 hb2 HIN)
    | (go_at_call 39; refine (HRI'.out _ HB2.out).mono ?_; rintro e W3 ⟨v', rfl, m, hm, ho, hb3⟩; have HO3 := Lib.hid ho; have HI3 := Lib.hid (HI2.out.below hb3); have HB3 := Lib.hid (HB2.out.trans (hb3.mono HB2.out.size)); clear ho hb3 HRI' HI2)
    | (go_at_call 24; refine (HSM'.out g1 _ _ m _ HI3.out hm HO3.out).mono ?_; rintro e W4 ⟨rfl, hb4⟩; have HI4 := Lib.hid (HI3.out.below hb4); have HB4 := Lib.hid (HB3.out.trans (hb4.mono HB3.out.size)); clear hb4 HSM' HI3)
    | (go_at_call 22; refine (HRS'.out _ HB4.out).mono ?_; rintro e W5 ⟨rfl, hb5⟩; have HI5 := Lib.hid (HI4.out.below hb5); have HB5 := Lib.hid (HB4.out.trans (hb5.mono HB4.out.size)); clear hb5 HRS' HI4)
    | (go_at_call 22; refine (HRR'.out _ HB5.out).mono ?_; rintro e W6 ⟨rfl, hb6⟩; have HI6 := Lib.hid (HI5.out.below hb6); have HB6 := Lib.hid (HB5.out.trans (hb6.mono HB5.out.size)); clear hb6 HRR' HI5)
    | (go_at_call 40; refine (HCI'.out g1 _ HB6.out HI6.out).mono ?_; rintro e W7 ⟨rfl, hb7⟩; have HB7 := Lib.hid (HB6.out.trans (hb7.mono HB6.out.size)); clear hb7 HCI' HI6))
  go_ret
  exact ⟨rfl, HB7.out⟩
theorem begins_law (v : Value) (l : List D) (a : Int) (w : World) (hT : Tables w) (hr : RdI w (fun b => b < w.heap.size) v l) :
    Calls Tryd.prog 11 #[v, .int .i64 a] w fun e w' => e = .returned (.bool true) ∧ Below w.heap.size w w' := by
  by_cases h : a < 1
  · exact begins_low v l a w hT hr _ rfl h
  by_cases h2 : ((min l.length 40 : Nat) : Int) < a
  · exact begins_high v l a w hT hr _ rfl (by omega) h2
  · obtain ⟨k, rfl⟩ : ∃ k : Nat, a = (k : Int) := ⟨a.toNat, by omega⟩
    exact begins_in v l k w hT hr _ rfl (by omega) (by omega)
end Go.Proofs.YtkkanaefngggoaaDoor
