/-
  ProofIncludes: for every list of leaves and every place, in whatever memory in which the tables lie. No condition.
-/
import Derived.Test.YtkkanaefngggoaaDoorPrfRefI
import Derived.Test.YtkkanaefngggoaaDoorPrfGuard
namespace Go.Proofs.YtkkanaefngggoaaDoor
open Go Go.RowKit Go.Shelf TreeM

set_option maxRecDepth 100000 in
set_option maxHeartbeats 1000000 in
theorem includes_low (v : Value) (l : List D) (a : Int) (w : World) (hT : Tables w) (hr : RdI w (fun b => b < w.heap.size) v l) (q : Nat) (hq : min l.length 40 = q) (ha : a < 0) :
    Calls Tryd.prog 10 #[v, .int .i64 a] w fun e w' => e = .returned (.bool true) ∧ Below w.heap.size w w' := by
  obtain ⟨A, c, rfl, hlc, _⟩ := id hr
  obtain ⟨n, hn⟩ : ∃ n, l.length = n := ⟨_, rfl⟩
  rw [hn] at hr hlc hq ⊢
  have hr1 := hr.take (k := q) (by omega)
  have hn1 : (l.take q).length = q := by rw [List.length_take]; omega
  have hmin : min (n : Int) 40 = (q : Int) := by omega
  have hq40 : q ≤ 40 := by omega
  have hqs : ∀ W, (Instr.sliceAt 22 (.slice A n c) none (some (.int .i64 (q : Int))) none).run Tryd.prog W = .ok (.slice A q c) W := fun W => run_slice_toN (P := Tryd.prog) 22 30 Tryd.underlying22 32 (by kernel_rfl) A n c q (by omega) W
  generalize l.take q = s at *
  have HPR := Lib.hid (proves_any w hT)
  have HIN : Hid (∀ W, Below w.heap.size w W → Calls Tryd.prog 35 #[.slice A q c, .int .i64 a] W fun e w' => e = .returned (.tuple #[.slice none 0 0, .int .i64 1]) ∧ w' = W) := Lib.hid fun W hb => by
    have := inclusion_range (.slice A q c) s a W ((hr1.old hb).mono fun b hb' => Nat.lt_of_lt_of_le hb' hb.size) (by rw [hn1]; omega)
    exact this
  clear hr hr1 hT hn hlc hq hn1
  go_enter Tryd.func10, Tryd.ntmps10
  go_wp2_with (first
    | (go_at_call 34; refine HPR.out.mono ?_; rintro e W1 ⟨rfl, hb1⟩; have HB1 := Lib.hid hb1; clear hb1 HPR)
    | (go_at_call 35; refine (HIN.out _ HB1.out).mono ?_; rintro e W2 ⟨rfl, rfl⟩))
  go_ret
  exact ⟨rfl, HB1.out⟩
set_option maxRecDepth 100000 in
set_option maxHeartbeats 1000000 in
theorem includes_high (v : Value) (l : List D) (a : Int) (w : World) (hT : Tables w) (hr : RdI w (fun b => b < w.heap.size) v l) (q : Nat) (hq : min l.length 40 = q) (ha0 : 0 ≤ a) (ha : (q : Int) ≤ a) :
    Calls Tryd.prog 10 #[v, .int .i64 a] w fun e w' => e = .returned (.bool true) ∧ Below w.heap.size w w' := by
  obtain ⟨A, c, rfl, hlc, _⟩ := id hr
  obtain ⟨n, hn⟩ : ∃ n, l.length = n := ⟨_, rfl⟩
  rw [hn] at hr hlc hq ⊢
  have hr1 := hr.take (k := q) (by omega)
  have hn1 : (l.take q).length = q := by rw [List.length_take]; omega
  have hmin : min (n : Int) 40 = (q : Int) := by omega
  have hq40 : q ≤ 40 := by omega
  have hqs : ∀ W, (Instr.sliceAt 22 (.slice A n c) none (some (.int .i64 (q : Int))) none).run Tryd.prog W = .ok (.slice A q c) W := fun W => run_slice_toN (P := Tryd.prog) 22 30 Tryd.underlying22 32 (by kernel_rfl) A n c q (by omega) W
  generalize l.take q = s at *
  have HPR := Lib.hid (proves_any w hT)
  have HIN : Hid (∀ W, Below w.heap.size w W → Calls Tryd.prog 35 #[.slice A q c, .int .i64 a] W fun e w' => e = .returned (.tuple #[.slice none 0 0, .int .i64 1]) ∧ w' = W) := Lib.hid fun W hb => by
    have := inclusion_range (.slice A q c) s a W ((hr1.old hb).mono fun b hb' => Nat.lt_of_lt_of_le hb' hb.size) (by rw [hn1]; omega)
    exact this
  have hna : ¬ a < 0 := by omega
  clear hr hr1 hT hn hlc hq hn1
  go_enter Tryd.func10, Tryd.ntmps10
  go_wp2_with (first
    | (go_at_call 34; refine HPR.out.mono ?_; rintro e W1 ⟨rfl, hb1⟩; have HB1 := Lib.hid hb1; clear hb1 HPR)
    | (go_at_call 35; refine (HIN.out _ HB1.out).mono ?_; rintro e W2 ⟨rfl, rfl⟩))
  go_ret
  exact ⟨rfl, HB1.out⟩
set_option maxRecDepth 100000 in
set_option maxHeartbeats 4000000 in
theorem includes_in (v : Value) (l : List D) (a : Nat) (w : World) (hT : Tables w) (hr : RdI w (fun b => b < w.heap.size) v l) (q : Nat) (hq : min l.length 40 = q) (ha : a < q) :
    Calls Tryd.prog 10 #[v, .int .i64 (a : Int)] w fun e w' => e = .returned (.bool true) ∧ Below w.heap.size w w' := by
  obtain ⟨A, c, rfl, hlc, _⟩ := id hr
  obtain ⟨n, hn⟩ : ∃ n, l.length = n := ⟨_, rfl⟩
  rw [hn] at hr hlc hq ⊢
  have hr1 := hr.take (k := q) (by omega)
  have hn1 : (l.take q).length = q := by rw [List.length_take]; omega
  have hmin : min (n : Int) 40 = (q : Int) := by omega
  have hq40 : q ≤ 40 := by omega
  have hqs : ∀ W, (Instr.sliceAt 22 (.slice A n c) none (some (.int .i64 (q : Int))) none).run Tryd.prog W = .ok (.slice A q c) W := fun W => run_slice_toN (P := Tryd.prog) 22 30 Tryd.underlying22 32 (by kernel_rfl) A n c q (by omega) W
  generalize l.take q = s at *
  have HPR := Lib.hid (proves_any w hT)
  have hold : ∀ W, Below w.heap.size w W → RdI W (fun b => b < W.heap.size) (.slice A q c) s := fun W hb' => (hr1.old hb').mono fun b hb'' => Nat.lt_of_lt_of_le hb'' hb'.size
  obtain ⟨ad, rfl, _, _⟩ := hr1.at_ (k := a) ha
  have hai : (a : Int) < (q : Int) := by omega
  have ha0 : (0 : Int) ≤ (a : Int) := by omega
  have hna : ¬ (a : Int) < 0 := by omega
  have hnq : ¬ (q : Int) ≤ (a : Int) := by omega
  obtain ⟨x, hx⟩ : ∃ x, s.getD a dz = x := ⟨_, rfl⟩
  obtain ⟨R, hR⟩ : ∃ R, mth s = R := ⟨_, rfl⟩
  obtain ⟨P1, hP1⟩ : ∃ P1, (wayP a 0 q).reverse.map (rtP s) = P1 := ⟨_, rfl⟩
  obtain ⟨N1, hN1⟩ : ∃ N1, (wayP a 0 q).length = N1 := ⟨_, rfl⟩
  have hpl : P1.length = N1 := by rw [← hP1, ← hN1]; simp
  have hw1 : N1 ≤ 6 := by rw [← hN1]; exact wayP_length 6 a 0 q (by omega)
  have hic : incL s a = P1 := by rw [inc_way s a (by rw [hn1]; exact ha), hn1, hP1]
  have HIN : Hid (∀ W, Below w.heap.size w W → Calls Tryd.prog 35 #[.slice (some ad) q c, .int .i64 (a : Int)] W fun e w' => ∃ g, e = .returned (.tuple #[.slice (some ⟨g, 0, none⟩) N1 N1, .int .i64 0]) ∧ RdI w' (fun b => b < w'.heap.size) (.slice (some ⟨g, 0, none⟩) N1 N1) P1 ∧ Below W.heap.size W w') := Lib.hid fun W hb' => (inclusion_in _ s a W (hT.below hb') (hold W hb') (by rw [hn1]; omega) (by rw [hn1]; exact ha)).mono (by
    rintro e w' ⟨g, N, rfl, h1, h2, h3⟩
    rw [hn1] at h1 h2
    rw [hP1] at h2
    rw [hN1] at h1
    subst h1
    exact ⟨g, rfl, h2.mono fun b hb => hb.2, h3⟩)
  have HRI' : Hid (∀ W, Below w.heap.size w W → Calls Tryd.prog 36 #[.slice (some ad) q c, .int .i64 (a : Int)] W fun e w' => ∃ v', e = .returned v' ∧ ∃ m, m ≤ q ∧ w'.ownsRow W.heap.size 30 32 v' m (idCells P1) ∧ Below W.heap.size W w') := Lib.hid fun W hb' => by
    have := refInc_any q s a (.slice (some ad) q c) W hn1 (by omega) ha (hold W hb')
    rw [hic] at this
    exact this
  have HSM' : Hid (∀ g W v' m B, RdI W (fun b => b < W.heap.size) (.slice (some ⟨g, 0, none⟩) N1 N1) P1 → m ≤ q → W.ownsRow B 30 32 v' m (idCells P1) → Calls Tryd.prog 24 #[.slice (some ⟨g, 0, none⟩) N1 N1, v'] W fun e w' => e = .returned (.bool true) ∧ Below W.heap.size W w') := Lib.hid fun g W v' m B h1 h2 h3 => (same_true _ v' P1 W h1 ((own_rd h3 (by omega)).mono fun b hb => hb.2.2) (by omega)).mono (by
    rintro e w' ⟨rfl, h⟩
    first | exact ⟨rfl, h⟩ | exact ⟨rfl, by rw [h]; exact Below.refl _ _⟩)
  have HRR' : Hid (∀ W, Below w.heap.size w W → Calls Tryd.prog 22 #[.slice (some ad) q c] W fun e w' => e = .returned (.agg (arr 32 fun i => bv (R i))) ∧ Below W.heap.size W w') := Lib.hid fun W hb' => by
    rw [← hR]
    exact refRoot_any q s _ W hn1 (by omega) (hold W hb')
  have HCI' : Hid (∀ g W, Below w.heap.size w W → RdI W (fun b => b < W.heap.size) (.slice (some ⟨g, 0, none⟩) N1 N1) P1 → Calls Tryd.prog 37 #[.agg (arr 32 fun i => bv (x i)), .int .i64 (a : Int), .int .i64 (q : Int), .slice (some ⟨g, 0, none⟩) N1 N1, .agg (arr 32 fun i => bv (R i))] W fun e w' => e = .returned (.int .i64 0) ∧ Below W.heap.size W w') := Lib.hid fun g W hb' hr' => by
    have := cinc_any x R a q _ P1 W (hT.below hb') hr'
    have h0 := cinc_true s a (by rw [hn1]; exact ha) (by rw [hn1]; omega)
    rw [hn1, hx, hP1, hR] at h0
    rw [h0] at this
    exact this
  have HOLD := Lib.hid hold
  have HXX := Lib.hid hx
  clear hr hr1 hT hn hlc hq hn1 hold hx hR hP1 hN1 hpl hic
  go_enter Tryd.func10, Tryd.ntmps10
  go_wp2_with (first
    | (go_at_call 34; refine HPR.out.mono ?_; rintro e W1 ⟨rfl, hb1⟩; have HB1 := Lib.hid hb1; clear hb1 HPR)
    | (go_at_call 35; refine (HIN.out _ HB1.out).mono ?_; rintro e W2 ⟨g1, rfl, hi2, hb2⟩; have HI2 := Lib.hid hi2; have HB2 := Lib.hid (HB1.out.trans (hb2.mono HB1.out.size)); clear hi2 hb2 HIN))
  have hbw2 := HB2.out
  have HLK : Hid (∀ W, Below W2.heap.size W2 W → ∀ i, i < 32 → W.cell? ((ad.add (a * 32)).add i) = some (bv (x i))) := Lib.hid fun W hb' i hi => by
    obtain ⟨ad', e, _, hc⟩ := (HOLD.out W (hbw2.trans (hb'.mono hbw2.size))).at_ ha
    injection e with e
    subst e
    have := hc i hi
    rw [HXX.out, Nat.mul_comm 32 a] at this
    exact this
  have HRI := Lib.hid fun W (hb' : Below W2.heap.size W2 W) => HRI'.out W (hbw2.trans (hb'.mono hbw2.size))
  have HSM := Lib.hid fun W v' m B (hb' : Below W2.heap.size W2 W) => HSM'.out g1 W v' m B (HI2.out.below hb')
  have HRR := Lib.hid fun W (hb' : Below W2.heap.size W2 W) => HRR'.out W (hbw2.trans (hb'.mono hbw2.size))
  have HCI := Lib.hid fun W (hb' : Below W2.heap.size W2 W) => HCI'.out g1 W (hbw2.trans (hb'.mono hbw2.size)) (HI2.out.below hb')
  have hbX : Below W2.heap.size W2 W2.drew := (Below.refl _ _).drew
  clear HRI' HSM' HRR' HCI' HI2 hbw2 hmin hqs HOLD HXX
  refine wp_region_held_drew (S := fun W' => Below W2.heap.size W2 W') (by kernel_rfl) ?_ (fun hHeld => ?_)
  · exact hbX
  refine wpAnyH_take (i := 0) (oi := ⟨some 35, _, _, _, _, _⟩) (v := ?_) rfl (by kernel_rfl) (by kernel_rfl) (by kernel_rfl) (fun _ _ _ h => h) (Or.inl ⟨by rfl, ?_⟩) (by assumption) ?_
  rotate_left
  · intro w hSw; (try dsimp only at hSw); go_simp; try (with_reducible rfl)
  rotate_left 0
  try simp only [Act.put, List.setIfInBounds_toArray, List.set_cons_zero, List.set_cons_succ]
  refine wpAnyH_take (i := 1) (oi := ⟨some 36, _, _, _, _, _⟩) (v := ?_) rfl (by kernel_rfl) (by kernel_rfl) (by kernel_rfl) (fun _ _ _ h => h) (Or.inl ⟨by rfl, ?_⟩) (by assumption) ?_
  rotate_left
  · intro w hSw; (try dsimp only at hSw); go_simp; try (with_reducible rfl)
  rotate_left 0
  try simp only [Act.put, List.setIfInBounds_toArray, List.set_cons_zero, List.set_cons_succ]
  refine wpAnyH_take (i := 2) (oi := ⟨some 37, _, _, _, _, _⟩) (v := ?_) rfl (by kernel_rfl) (by kernel_rfl) (by kernel_rfl) (fun _ _ _ h => h) (Or.inl ⟨by rfl, ?_⟩) (by assumption) ?_
  rotate_left
  · intro w hSw; (try dsimp only at hSw); go_simp; try (with_reducible rfl)
  rotate_left 0
  try simp only [Act.put, List.setIfInBounds_toArray, List.set_cons_zero, List.set_cons_succ]
  refine wpAnyH_take (i := 3) (oi := ⟨some 38, _, _, _, _, _⟩) (v := ?_) rfl (by kernel_rfl) (by kernel_rfl) (by kernel_rfl) (fun _ _ _ h => h) (Or.inl ⟨by rfl, ?_⟩) (by assumption) ?_
  rotate_left
  · intro w hSw; (try dsimp only at hSw); go_simp; try (with_reducible rfl)
  rotate_left 0
  try simp only [Act.put, List.setIfInBounds_toArray, List.set_cons_zero, List.set_cons_succ]
  refine wpAnyH_take (i := 4) (oi := ⟨some 39, _, _, _, _, _⟩) (v := ?_) rfl (by kernel_rfl) (by kernel_rfl) (by kernel_rfl) (fun _ _ _ h => h) (Or.inl ⟨by rfl, ?_⟩) (by assumption) ?_
  rotate_left
  · intro w hSw; (try dsimp only at hSw); go_simp; try (with_reducible rfl)
  rotate_left 0
  try simp only [Act.put, List.setIfInBounds_toArray, List.set_cons_zero, List.set_cons_succ]
  refine wpAnyH_take (i := 5) (oi := ⟨some 40, _, _, _, _, _⟩) (v := ?_) rfl (by kernel_rfl) (by kernel_rfl) (by kernel_rfl) (fun _ _ _ h => h) (Or.inl ⟨by rfl, ?_⟩) (by assumption) ?_
  rotate_left
  · intro w hSw; (try dsimp only at hSw); go_simp; try (with_reducible rfl)
  rotate_left 0
  try simp only [Act.put, List.setIfInBounds_toArray, List.set_cons_zero, List.set_cons_succ]
  refine wpAnyH_ready (rs := [6]) (by kernel_rfl) (by simp) ?_
  refine (AllReadyH.cons (o := ⟨some 41, _, _, _, _, _⟩) rfl (fun K hK => ?_) AllReadyH.nil)
  (try rw [if_pos (by rfl)])
  go_simp
  refine (HRI.out _ hbX).mono ?_
  rintro e W3 ⟨v', rfl, m, hm, ho, hb3⟩
  have HO3 := Lib.hid ho
  replace hbX := hbX.trans (hb3.mono hbX.size)
  clear ho
  try dsimp only
  refine hK.out _ _ (hbX) (fun hHeld => ?_)
  clear hK K
  try simp only [Act.put, List.setIfInBounds_toArray, List.set_cons_zero, List.set_cons_succ]
  refine wpAnyH_ready (rs := [7]) (by kernel_rfl) (by simp) ?_
  refine (AllReadyH.cons (o := ⟨some 42, _, _, _, _, _⟩) rfl (fun K hK => ?_) AllReadyH.nil)
  (try rw [if_pos (by rfl)])
  go_simp
  refine (HSM.out _ _ m _ hbX hm HO3.out).mono ?_
  rintro e W4 ⟨rfl, hb4⟩
  replace hbX := hbX.trans (hb4.mono hbX.size)
  clear HO3
  try dsimp only
  refine hK.out _ _ (hbX) (fun hHeld => ?_)
  clear hK K
  try simp only [Act.put, List.setIfInBounds_toArray, List.set_cons_zero, List.set_cons_succ]
  refine wpAnyH_take (i := 8) (oi := ⟨some 43, _, _, _, _, _⟩) (v := ?_) rfl (by kernel_rfl) (by kernel_rfl) (by kernel_rfl) (fun _ _ _ h => h) (Or.inl ⟨by rfl, ?_⟩) (by assumption) ?_
  rotate_left
  · intro w hSw; (try dsimp only at hSw); go_simp; try (with_reducible rfl)
  rotate_left 0
  try simp only [Act.put, List.setIfInBounds_toArray, List.set_cons_zero, List.set_cons_succ]
  refine wpAnyH_take (i := 9) (oi := ⟨some 44, _, _, _, _, _⟩) (v := ?_) rfl (by kernel_rfl) (by kernel_rfl) (by kernel_rfl) (fun _ _ _ h => h) (Or.inl ⟨by rfl, ?_⟩) (by assumption) ?_
  rotate_left
  · intro w hSw; (try dsimp only at hSw); go_simp; try (with_reducible rfl)
  rotate_left 0
  try simp only [Act.put, List.setIfInBounds_toArray, List.set_cons_zero, List.set_cons_succ]
  refine wpAnyH_take (i := 10) (oi := ⟨some 45, _, _, _, _, _⟩) (v := ?_) rfl (by kernel_rfl) (by kernel_rfl) (by kernel_rfl) (fun _ _ _ h => h) (Or.inl ⟨by rfl, ?_⟩) (by assumption) ?_
  rotate_left
  · intro w hSw; (try dsimp only at hSw); go_simp; try (with_reducible rfl)
  rotate_left 0
  try simp only [Act.put, List.setIfInBounds_toArray, List.set_cons_zero, List.set_cons_succ]
  refine wpAnyH_take (i := 11) (oi := ⟨some 46, _, _, _, _, _⟩) (v := ?_) rfl (by kernel_rfl) (by kernel_rfl) (by kernel_rfl) (fun _ _ _ h => h) (Or.inl ⟨by rfl, ?_⟩) (by assumption) ?_
  rotate_left
  · intro w hSw; (try dsimp only at hSw); go_simp; try (with_reducible rfl)
  rotate_left 0
  try simp only [Act.put, List.setIfInBounds_toArray, List.set_cons_zero, List.set_cons_succ]
  refine wpAnyH_take (i := 12) (oi := ⟨some 47, _, _, _, _, _⟩) (v := ?_) rfl (by kernel_rfl) (by kernel_rfl) (by kernel_rfl) (fun _ _ _ h => h) (Or.inl ⟨by rfl, ?_⟩) (by assumption) ?_
  rotate_left
  · intro w hSw; (try dsimp only at hSw); go_simp; try (with_reducible rfl)
  rotate_left 0
  try simp only [Act.put, List.setIfInBounds_toArray, List.set_cons_zero, List.set_cons_succ]
  refine wpAnyH_take (i := 13) (oi := ⟨some 48, _, _, _, _, _⟩) (v := (.agg (arr 32 fun i => bv (x i)))) rfl (by kernel_rfl) (by kernel_rfl) (by kernel_rfl) (fun _ _ _ h => h) (yieldsIf_load_at (by rfl) 30 _ rfl (ad.add (a * 32)) rfl 32 (fun i => bv (x i)) 5 (fun W hS => HLK.out W hS) Tryd.underlying30 (by kernel_rfl)) (by assumption) ?_
  try simp only [Act.put, List.setIfInBounds_toArray, List.set_cons_zero, List.set_cons_succ]
  refine wpAnyH_take (i := 14) (oi := ⟨some 49, _, _, _, _, _⟩) (v := ?_) rfl (by kernel_rfl) (by kernel_rfl) (by kernel_rfl) (fun _ _ _ h => h) (Or.inl ⟨by rfl, ?_⟩) (by assumption) ?_
  rotate_left
  · intro w hSw; (try dsimp only at hSw); go_simp; try (with_reducible rfl)
  rotate_left 0
  try simp only [Act.put, List.setIfInBounds_toArray, List.set_cons_zero, List.set_cons_succ]
  refine wpAnyH_take (i := 15) (oi := ⟨some 50, _, _, _, _, _⟩) (v := ?_) rfl (by kernel_rfl) (by kernel_rfl) (by kernel_rfl) (fun _ _ _ h => h) (Or.inl ⟨by rfl, ?_⟩) (by assumption) ?_
  rotate_left
  · intro w hSw; (try dsimp only at hSw); go_simp; try (with_reducible rfl)
  rotate_left 0
  try simp only [Act.put, List.setIfInBounds_toArray, List.set_cons_zero, List.set_cons_succ]
  refine wpAnyH_take (i := 16) (oi := ⟨some 51, _, _, _, _, _⟩) (v := ?_) rfl (by kernel_rfl) (by kernel_rfl) (by kernel_rfl) (fun _ _ _ h => h) (Or.inl ⟨by rfl, ?_⟩) (by assumption) ?_
  rotate_left
  · intro w hSw; (try dsimp only at hSw); go_simp; try (with_reducible rfl)
  rotate_left 0
  try simp only [Act.put, List.setIfInBounds_toArray, List.set_cons_zero, List.set_cons_succ]
  refine wpAnyH_take (i := 17) (oi := ⟨some 52, _, _, _, _, _⟩) (v := ?_) rfl (by kernel_rfl) (by kernel_rfl) (by kernel_rfl) (fun _ _ _ h => h) (Or.inl ⟨by rfl, ?_⟩) (by assumption) ?_
  rotate_left
  · intro w hSw; (try dsimp only at hSw); go_simp; try (with_reducible rfl)
  rotate_left 0
  try simp only [Act.put, List.setIfInBounds_toArray, List.set_cons_zero, List.set_cons_succ]
  refine wpAnyH_take (i := 18) (oi := ⟨some 53, _, _, _, _, _⟩) (v := ?_) rfl (by kernel_rfl) (by kernel_rfl) (by kernel_rfl) (fun _ _ _ h => h) (Or.inl ⟨by rfl, ?_⟩) (by assumption) ?_
  rotate_left
  · intro w hSw; (try dsimp only at hSw); go_simp; try (with_reducible rfl)
  rotate_left 0
  try simp only [Act.put, List.setIfInBounds_toArray, List.set_cons_zero, List.set_cons_succ]
  refine wpAnyH_ready (rs := [19]) (by kernel_rfl) (by simp) ?_
  refine (AllReadyH.cons (o := ⟨some 54, _, _, _, _, _⟩) rfl (fun K hK => ?_) AllReadyH.nil)
  (try rw [if_pos (by rfl)])
  go_simp
  refine (HRR.out _ hbX).mono ?_
  rintro e W5 ⟨rfl, hb5⟩
  replace hbX := hbX.trans (hb5.mono hbX.size)
  try dsimp only
  refine hK.out _ _ (hbX) (fun hHeld => ?_)
  clear hK K
  try simp only [Act.put, List.setIfInBounds_toArray, List.set_cons_zero, List.set_cons_succ]
  refine wpAnyH_ready (rs := [20]) (by kernel_rfl) (by simp) ?_
  refine (AllReadyH.cons (o := ⟨some 55, _, _, _, _, _⟩) rfl (fun K hK => ?_) AllReadyH.nil)
  (try rw [if_pos (by rfl)])
  go_simp
  refine (HCI.out _ hbX).mono ?_
  rintro e W6 ⟨rfl, hb6⟩
  replace hbX := hbX.trans (hb6.mono hbX.size)
  try dsimp only
  refine hK.out _ _ (hbX) (fun hHeld => ?_)
  clear hK K
  try simp only [Act.put, List.setIfInBounds_toArray, List.set_cons_zero, List.set_cons_succ]
  refine wpAnyH_take (i := 21) (oi := ⟨some 56, _, _, _, _, _⟩) (v := ?_) rfl (by kernel_rfl) (by kernel_rfl) (by kernel_rfl) (fun _ _ _ h => h) (Or.inl ⟨by rfl, ?_⟩) (by assumption) ?_
  rotate_left
  · intro w hSw; (try dsimp only at hSw); go_simp; try (with_reducible rfl)
  rotate_left 0
  try simp only [Act.put, List.setIfInBounds_toArray, List.set_cons_zero, List.set_cons_succ]
  refine wpAnyH_take (i := 22) (oi := ⟨some 57, _, _, _, _, _⟩) (v := ?_) rfl (by kernel_rfl) (by kernel_rfl) (by kernel_rfl) (fun _ _ _ h => h) (Or.inl ⟨by rfl, ?_⟩) (by assumption) ?_
  rotate_left
  · intro w hSw; (try dsimp only at hSw); go_simp; try (with_reducible rfl)
  rotate_left 0
  try simp only [Act.put, List.setIfInBounds_toArray, List.set_cons_zero, List.set_cons_succ]
  refine wpAnyH_take (i := 23) (oi := ⟨some 4, _, _, _, _, _⟩) (v := ?_) rfl (by kernel_rfl) (by kernel_rfl) (by kernel_rfl) (fun _ _ _ h => h) (Or.inl ⟨by rfl, ?_⟩) (by assumption) ?_
  rotate_left
  · intro w hSw; (try dsimp only at hSw); go_simp; try (with_reducible rfl)
  rotate_left 0
  try simp only [Act.put, List.setIfInBounds_toArray, List.set_cons_zero, List.set_cons_succ]
  refine wpAnyH_done (by kernel_rfl) ?_ _
  have HX := Lib.hid (HB2.out.trans (hbX.mono HB2.out.size))
  clear hbX
  go_wp2
  go_ret
  exact ⟨rfl, HX.out⟩
theorem includes_law (v : Value) (l : List D) (a : Int) (w : World) (hT : Tables w) (hr : RdI w (fun b => b < w.heap.size) v l) :
    Calls Tryd.prog 10 #[v, .int .i64 a] w fun e w' => e = .returned (.bool true) ∧ Below w.heap.size w w' := by
  by_cases h : a < 0
  · exact includes_low v l a w hT hr _ rfl h
  by_cases h2 : ((min l.length 40 : Nat) : Int) ≤ a
  · exact includes_high v l a w hT hr _ rfl (by omega) h2
  · obtain ⟨k, rfl⟩ : ∃ k : Nat, a = (k : Int) := ⟨a.toNat, by omega⟩
    exact includes_in v l k w hT hr _ rfl (by omega)
end Go.Proofs.YtkkanaefngggoaaDoor
