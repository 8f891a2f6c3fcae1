/-
  ProofAll: for every list of leaves, in whatever memory in which the tables lie. No condition.
-/
import Derived.Test.YtkkanaefngggoaaDoorPrfTruth
import Derived.Test.YtkkanaefngggoaaDoorPrfGuard
namespace Go.Proofs.YtkkanaefngggoaaDoor
open Go Go.RowKit Go.Shelf TreeM

theorem pow_small (d p : Nat) (h : p * 2 ^ d ≤ 20) (hp : 1 ≤ p) : d ≤ 4 := by
  by_cases h5 : d ≤ 4
  · exact h5
  · have h6 : 2 ^ 5 ≤ 2 ^ d := Nat.pow_le_pow_right (by omega) (by omega)
    have h7 : 1 * 2 ^ d ≤ p * 2 ^ d := Nat.mul_le_mul_right _ hp
    omega
theorem half_step (q d p : Nat) (h : q ≤ (p + 1) * 2 ^ d) : q ≤ (p / 2 + 1) * 2 ^ (d + 1) := by
  have h1 : (p + 1) * 2 ^ d ≤ ((p / 2 + 1) * 2) * 2 ^ d := Nat.mul_le_mul_right _ (by omega)
  have h2 : (p / 2 + 1) * 2 ^ (d + 1) = ((p / 2 + 1) * 2) * 2 ^ d := by rw [Nat.pow_succ, Nat.mul_assoc, Nat.mul_comm 2, Nat.mul_comm (2 ^ d) 2]
  omega
theorem half_low (d p : Nat) (h : p * 2 ^ d ≤ 20) : p / 2 * 2 ^ (d + 1) ≤ 20 := by
  have h1 : p / 2 * 2 * 2 ^ d ≤ p * 2 ^ d := Nat.mul_le_mul_right _ (by omega)
  have h2 : p / 2 * 2 ^ (d + 1) = p / 2 * 2 * 2 ^ d := by rw [Nat.pow_succ, Nat.mul_assoc, Nat.mul_comm 2, Nat.mul_comm (2 ^ d) 2]
  omega
set_option maxRecDepth 100000 in
set_option maxHeartbeats 4000000 in
theorem all_law (v : Value) (l : List D) (w : World) (hT : Tables w) (hr : RdI w (fun b => b < w.heap.size) v l) :
    Calls Tryd.prog 15 #[v] w fun e w' => e = .returned (.bool true) ∧ Below w.heap.size w w' := by
  obtain ⟨A, c, rfl, hlc, _⟩ := id hr
  obtain ⟨n, hn⟩ : ∃ n, l.length = n := ⟨_, rfl⟩
  obtain ⟨q, hq⟩ : ∃ q, min n 20 = q := ⟨_, rfl⟩
  rw [hn] at hr hlc ⊢
  have hr1 := hr.take (k := q) (by omega)
  have hn1 : (l.take q).length = q := by rw [List.length_take]; omega
  have hmin : min (n : Int) 20 = (q : Int) := by omega
  have hq20 : q ≤ 20 := by omega
  have hqc : q ≤ c := by omega
  have hqs : ∀ W, (Instr.sliceAt 22 (.slice A n c) none (some (.int .i64 (q : Int))) none).run Tryd.prog W = .ok (.slice A q c) W := fun W => run_slice_toN (P := Tryd.prog) 22 30 Tryd.underlying22 32 (by kernel_rfl) A n c q (by omega) W
  generalize l.take q = s at *
  have HPR := Lib.hid (proves_any w hT)
  obtain ⟨R, hR⟩ : ∃ R, mth s = R := ⟨_, rfl⟩
  have HRT : Hid (∀ W, Below w.heap.size w W → Calls Tryd.prog 27 #[.slice A q c] W fun e w' => e = .returned (.agg (arr 32 fun i => bv (R i))) ∧ Below W.heap.size W w') := Lib.hid fun W hb => by
    rw [← hR]
    exact troot_any _ s W (hT.below hb) ((hr1.old hb).mono fun b hb' => Nat.lt_of_lt_of_le hb' hb.size) (by rw [hn1]; omega)
  have HR := Lib.hid hr1
  have HT := Lib.hid hT
  have HN1 := Lib.hid hn1
  have HMR := Lib.hid hR
  clear hr hr1 hT hn hlc hq hn1 hR
  go_enter Tryd.func15, Tryd.ntmps15
  go_wp2_with (first
    | (go_at_call 34; refine HPR.out.mono ?_; rintro e W1 ⟨rfl, hb1⟩; have HB1 := Lib.hid hb1; clear hb1 HPR)
    | (go_at_call 27; refine (HRT.out _ HB1.out).mono ?_; rintro e W2 ⟨rfl, hb2⟩; have HB2 := Lib.hid (HB1.out.trans (hb2.mono HB1.out.size)); clear hb2 HRT)
    | (refine wpList_store_arrW rfl 30 _ _ rfl W2.heap.size (arr 32 fun i => bv (R i)) rfl rfl 30 _ (Blk.new W2 _ _) (by rw [arr_size]; kernel_rfl) (by rw [arr_size]; rfl) (arr_all_bv _ _) ?_; intro W3 hS3 hz3 hb3 hk3; have HS3 := Lib.hid hS3; have HB3 := Lib.hid (HB2.out.trans ((((Below.refl _ W2).alloc (Nat.le_refl _) _).trans hb3).mono HB2.out.size)); clear hS3 hz3 hb3 hk3))
  clear hmin hqs
  go_loopw [4, 5] (fun d p wr => ∃ (dd : Nat) (pp : Int), d = .int .i64 (dd : Int) ∧ p = .int .i64 pp ∧ -1 ≤ pp ∧ pp ≤ 20 ∧ pp.toNat * 2 ^ dd ≤ 20 ∧ q ≤ (pp.toNat + 1) * 2 ^ dd ∧ dd ≤ 5 ∧ W3 = wr) (fun _ p _ => (intOf p).toNat)
  case atStart => exact ⟨0, (q : Int) - 1, rfl, by go_num, by omega, by omega, by omega, by omega, by omega, by trivial⟩
  case round =>
    obtain ⟨dd, pp, rfl, rfl, h1, h2, h3, h4, hd5, hw3⟩ := hrel
    subst hw3
    by_cases hlt : 0 < pp
    · obtain ⟨p, rfl⟩ : ∃ p : Nat, pp = (p : Int) := ⟨pp.toNat, by omega⟩
      rw [Int.toNat_natCast] at h3 h4
      have h5 := pow_small dd p h3 (by omega)
      have h6 := half_step q dd p h4
      have h7 := half_low dd p h3
      clear h3 h4
      go_wp2
      go_roundw
      case rel => exact ⟨dd + 1, ((p / 2 : Nat) : Int), by go_num, by go_num, by omega, by omega, by rw [Int.toNat_natCast]; exact h7, by rw [Int.toNat_natCast]; exact h6, by omega, by trivial⟩
      case measure => simp [intOf]; omega
    · have hdq : q ≤ 2 ^ dd := by
        rw [show pp.toNat = 0 from by omega] at h4
        omega
      clear h1 h2 h3 h4
      go_wp2
      clear hlt
      go_loopw [31] (fun i wr => ∃ k : Nat, k ≤ q ∧ i = .int .i64 (k : Int) ∧ Below W3.heap.size W3 wr) (fun i _ => q - (intOf i).toNat)
      case atStart => exact ⟨0, Nat.zero_le _, rfl, Below.refl _ _⟩
      case round =>
        obtain ⟨k, hk, rfl, hb⟩ := hrel
        by_cases hlt : k < q
        · have hkn : (k : Int) < (q : Int) := by omega
          have hk0 : (0 : Int) ≤ (k : Int) := by omega
          have hk20 : (k : Int) ≤ 20 := by omega
          obtain ⟨ad, rfl, _, _⟩ := HR.out.at_ (k := k) hlt
          have HBW := Lib.hid (HB3.out.trans (hb.mono HB3.out.size))
          have hold : ∀ W, Below w.heap.size w W → RdI W (fun b => b < W.heap.size) (.slice (some ad) q c) s := fun W hb' => (HR.out.old hb').mono fun b hb'' => Nat.lt_of_lt_of_le hb'' hb'.size
          obtain ⟨x, hx⟩ : ∃ x, s.getD k dz = x := ⟨_, rfl⟩
          obtain ⟨P1, hP1⟩ : ∃ P1, (wayP k 0 q).reverse.map (rtP s) = P1 := ⟨_, rfl⟩
          obtain ⟨P2, hP2⟩ : ∃ P2, (linkP (k + 1) 0 q).reverse.map (rtP s) = P2 := ⟨_, rfl⟩
          obtain ⟨N1, hN1⟩ : ∃ N1, (wayP k 0 q).length = N1 := ⟨_, rfl⟩
          obtain ⟨N2, hN2⟩ : ∃ N2, (linkP (k + 1) 0 q).length = N2 := ⟨_, rfl⟩
          have hw1 : N1 ≤ dd := by rw [← hN1]; exact wayP_length dd k 0 q (by omega)
          have hw2 : N2 ≤ dd + 1 := by rw [← hN2]; exact linkP_length dd (k + 1) 0 q (by omega) (by omega) (by omega)
          have HIN : Hid (∀ W, Below w.heap.size w W → Calls Tryd.prog 35 #[.slice (some ad) q c, .int .i64 (k : Int)] W fun e w' => ∃ g, e = .returned (.tuple #[.slice (some ⟨g, 0, none⟩) N1 N1, .int .i64 0]) ∧ RdI w' (fun b => b < w'.heap.size) (.slice (some ⟨g, 0, none⟩) N1 N1) P1 ∧ Below W.heap.size W w') := Lib.hid fun W hb' => (inclusion_in _ s k W (HT.out.below hb') (hold W hb') (by rw [HN1.out]; omega) (by rw [HN1.out]; exact hlt)).mono (by
            rintro e w' ⟨g, N, rfl, h1, h2, h3⟩
            rw [HN1.out] at h1 h2
            rw [hP1] at h2
            rw [hN1] at h1
            subst h1
            exact ⟨g, rfl, h2.mono fun b hb => hb.2, h3⟩)
          have HCN : Hid (∀ W, Below w.heap.size w W → Calls Tryd.prog 38 #[.slice (some ad) q c, .int .i64 ((k : Int) + 1)] W fun e w' => ∃ g, e = .returned (.tuple #[.slice (some ⟨g, 0, none⟩) N2 N2, .int .i64 0]) ∧ RdI w' (fun b => b < w'.heap.size) (.slice (some ⟨g, 0, none⟩) N2 N2) P2 ∧ Below W.heap.size W w') := Lib.hid fun W hb' => (consistency_in _ s (k + 1) W (HT.out.below hb') (hold W hb') (by rw [HN1.out]; omega) (by omega) (by rw [HN1.out]; omega)).mono (by
            rintro e w' ⟨g, N, rfl, h1, h2, h3⟩
            rw [HN1.out] at h1 h2
            rw [hP2] at h2
            rw [hN2] at h1
            subst h1
            exact ⟨g, rfl, h2.mono fun b hb => hb.2, h3⟩)
          have HCI' : Hid (∀ g W, Below w.heap.size w W → RdI W (fun b => b < W.heap.size) (.slice (some ⟨g, 0, none⟩) N1 N1) P1 → Calls Tryd.prog 37 #[.agg (arr 32 fun i => bv (x i)), .int .i64 (k : Int), .int .i64 (q : Int), .slice (some ⟨g, 0, none⟩) N1 N1, .agg (arr 32 fun i => bv (R i))] W fun e w' => e = .returned (.int .i64 0) ∧ Below W.heap.size W w') := Lib.hid fun g W hb' hr' => by
            have := cinc_any x R k q _ P1 W (HT.out.below hb') hr'
            have h0 := cinc_true s k (by rw [HN1.out]; exact hlt) (by rw [HN1.out]; omega)
            rw [HN1.out, hx, hP1, HMR.out] at h0
            rw [h0] at this
            exact this
          obtain ⟨R2, hR2⟩ : ∃ R2, mth (s.take (k + 1)) = R2 := ⟨_, rfl⟩
          have HCC' : Hid (∀ g W, Below w.heap.size w W → RdI W (fun b => b < W.heap.size) (.slice (some ⟨g, 0, none⟩) N2 N2) P2 → Calls Tryd.prog 40 #[.int .i64 ((k : Int) + 1), .int .i64 (q : Int), .agg (arr 32 fun i => bv (R2 i)), .agg (arr 32 fun i => bv (R i)), .slice (some ⟨g, 0, none⟩) N2 N2] W fun e w' => e = .returned (.int .i64 0) ∧ Below W.heap.size W w') := Lib.hid fun g W hb' hr' => by
            have := ccon_any R2 R ((k + 1 : Nat) : Int) q _ P2 W (HT.out.below hb') hr'
            have h0 := ccon_true s (k + 1) (by omega) (by rw [HN1.out]; omega) (by rw [HN1.out]; omega)
            rw [HN1.out, hR2, hP2, HMR.out] at h0
            rw [h0] at this
            exact this
          have HRT2' : Hid (∀ W, Below w.heap.size w W → Calls Tryd.prog 27 #[.slice (some ad) (k + 1) c] W fun e w' => e = .returned (.agg (arr 32 fun i => bv (R2 i))) ∧ Below W.heap.size W w') := Lib.hid fun W hb' => by
            rw [← hR2]
            exact troot_any _ (s.take (k + 1)) W (HT.out.below hb') ((hold W hb').take (by omega)) (by rw [List.length_take]; have := HN1.out; omega)
          have hsl : ∀ W, (Instr.sliceAt 22 (.slice (some ad) q c) none (some (.int .i64 ((k : Int) + 1))) none).run Tryd.prog W = .ok (.slice (some ad) (k + 1) c) W := fun W => run_slice_toN (P := Tryd.prog) 22 30 Tryd.underlying22 32 (by kernel_rfl) (some ad) q c (k + 1) (by omega) W
          have HB := Lib.hid hb
          clear hb
          go_wp2_with (first
            | (go_at_call 35; refine (HIN.out _ HBW.out).mono ?_; rintro e W4 ⟨g1, rfl, hi4, hb4⟩; have HI4 := Lib.hid hi4; have HBW4 := Lib.hid (HBW.out.trans (hb4.mono HBW.out.size)); have HB4 := Lib.hid (HB.out.trans (hb4.mono HB.out.size)); clear hi4 hb4 HIN)
            | (go_at_call 38; refine (HCN.out _ HBW4.out).mono ?_; rintro e W5 ⟨g2, rfl, hc5, hb5⟩; have HI5 := Lib.hid (HI4.out.below hb5); have HC5 := Lib.hid hc5; have HBW5 := Lib.hid (HBW4.out.trans (hb5.mono HBW4.out.size)); have HB5 := Lib.hid (HB4.out.trans (hb5.mono HB4.out.size)); clear hc5 hb5 HCN))
          have hbw5 := HBW5.out
          have HLK : Hid (∀ W, Below W5.heap.size W5 W → ∀ i, i < 32 → W.cell? ((ad.add (k * 32)).add i) = some (bv (x i))) := Lib.hid fun W hb' i hi => by
            obtain ⟨ad', e, _, hc⟩ := (hold W (hbw5.trans (hb'.mono hbw5.size))).at_ hlt
            injection e with e
            subst e
            have := hc i hi
            rw [hx, Nat.mul_comm 32 k] at this
            exact this
          have HR0 : Hid (∀ W, Below W5.heap.size W5 W → ∀ i, i < 32 → W.cell? ((⟨W2.heap.size, 0, none⟩ : Addr).add i) = some (bv (R i))) := Lib.hid fun W hb' i hi => by
            have hbb := HB5.out.trans (hb'.mono HB5.out.size)
            rw [add_zero_block, (HS3.out.below hbb HS3.out.lt).cell, arr_get, if_pos hi]
          have HCI := Lib.hid fun W (hb' : Below W5.heap.size W5 W) => HCI'.out g1 W (hbw5.trans (hb'.mono hbw5.size)) (HI5.out.below hb')
          have HCC := Lib.hid fun W (hb' : Below W5.heap.size W5 W) => HCC'.out g2 W (hbw5.trans (hb'.mono hbw5.size)) (HC5.out.below hb')
          have HRT2 := Lib.hid fun W (hb' : Below W5.heap.size W5 W) => HRT2'.out W (hbw5.trans (hb'.mono hbw5.size))
          have hc1 : ¬ (dd : Int) < (N1 : Int) := by omega
          have hc1n : ¬ dd < N1 := by omega
          have hc2 : ¬ (dd : Int) + 1 < (N2 : Int) := by omega
          have hdd : (dd : Int) ≤ 5 := by omega
          have hdd0 : (0 : Int) ≤ (dd : Int) := by omega
          have hwd : IntKind.i64.wrap ((dd : Int) + 1) = (dd : Int) + 1 := by rw [IntKind.wrap_i64]; omega
          have hwk : IntKind.i64.wrap ((k : Int) + 1) = (k : Int) + 1 := by rw [IntKind.wrap_i64]; omega
          have hbX : Below W5.heap.size W5 W5.drew := (Below.refl _ _).drew
          clear HCI' HCC' HRT2' HI4 HI5 HC5 HBW4 HB4 hbw5 hold hx hP1 hP2 hN1 hN2 hw1 hw2 hR2
          refine wp_region_held_drew (S := fun W' => Below W5.heap.size W5 W') (by kernel_rfl) ?_ (fun hHeld => ?_)
          · exact hbX
          refine wpAnyH_take (i := 0) (oi := ⟨some 47, _, _, _, _, _⟩) (v := ?_) rfl (by kernel_rfl) (by kernel_rfl) (by kernel_rfl) (fun _ _ _ h => h) (Or.inl ⟨by rfl, ?_⟩) (by assumption) ?_
          rotate_left
          · intro w hSw; (try dsimp only at hSw); go_simp; try (with_reducible rfl)
          rotate_left 0
          try simp only [Act.put, List.setIfInBounds_toArray, List.set_cons_zero, List.set_cons_succ]
          refine wpAnyH_take (i := 1) (oi := ⟨some 48, _, _, _, _, _⟩) (v := ?_) rfl (by kernel_rfl) (by kernel_rfl) (by kernel_rfl) (fun _ _ _ h => h) (Or.inl ⟨by rfl, ?_⟩) (by assumption) ?_
          rotate_left
          · intro w hSw; (try dsimp only at hSw); go_simp; try (with_reducible rfl)
          rotate_left 0
          try simp only [Act.put, List.setIfInBounds_toArray, List.set_cons_zero, List.set_cons_succ]
          refine wpAnyH_take (i := 2) (oi := ⟨some 49, _, _, _, _, _⟩) (v := ?_) rfl (by kernel_rfl) (by kernel_rfl) (by kernel_rfl) (fun _ _ _ h => h) (Or.inl ⟨by rfl, ?_⟩) (by assumption) ?_
          rotate_left
          · intro w hSw; (try dsimp only at hSw); go_simp; try (with_reducible rfl)
          rotate_left 0
          try simp only [Act.put, List.setIfInBounds_toArray, List.set_cons_zero, List.set_cons_succ]
          refine wpAnyH_take (i := 3) (oi := ⟨some 50, _, _, _, _, _⟩) (v := ?_) rfl (by kernel_rfl) (by kernel_rfl) (by kernel_rfl) (fun _ _ _ h => h) (Or.inl ⟨by rfl, ?_⟩) (by assumption) ?_
          rotate_left
          · intro w hSw; (try dsimp only at hSw); go_simp; try (with_reducible rfl)
          rotate_left 0
          try simp only [Act.put, List.setIfInBounds_toArray, List.set_cons_zero, List.set_cons_succ]
          refine wpAnyH_take (i := 4) (oi := ⟨some 51, _, _, _, _, _⟩) (v := ?_) rfl (by kernel_rfl) (by kernel_rfl) (by kernel_rfl) (fun _ _ _ h => h) (Or.inl ⟨by rfl, ?_⟩) (by assumption) ?_
          rotate_left
          · intro w hSw; (try dsimp only at hSw); go_simp; try (with_reducible rfl)
          rotate_left 0
          try simp only [Act.put, List.setIfInBounds_toArray, List.set_cons_zero, List.set_cons_succ]
          refine wpAnyH_take (i := 5) (oi := ⟨some 52, _, _, _, _, _⟩) (v := ?_) rfl (by kernel_rfl) (by kernel_rfl) (by kernel_rfl) (fun _ _ _ h => h) (Or.inl ⟨by rfl, ?_⟩) (by assumption) ?_
          rotate_left
          · intro w hSw; (try dsimp only at hSw); go_simp; try (with_reducible rfl)
          rotate_left 0
          try simp only [Act.put, List.setIfInBounds_toArray, List.set_cons_zero, List.set_cons_succ]
          refine wpAnyH_take (i := 6) (oi := ⟨some 53, _, _, _, _, _⟩) (v := ?_) rfl (by kernel_rfl) (by kernel_rfl) (by kernel_rfl) (fun _ _ _ h => h) (Or.inl ⟨by rfl, ?_⟩) (by assumption) ?_
          rotate_left
          · intro w hSw; (try dsimp only at hSw); go_simp; try (with_reducible rfl)
          rotate_left 0
          try simp only [Act.put, List.setIfInBounds_toArray, List.set_cons_zero, List.set_cons_succ]
          refine wpAnyH_take (i := 7) (oi := ⟨some 54, _, _, _, _, _⟩) (v := ?_) rfl (by kernel_rfl) (by kernel_rfl) (by kernel_rfl) (fun _ _ _ h => h) (Or.inl ⟨by rfl, ?_⟩) (by assumption) ?_
          rotate_left
          · intro w hSw; (try dsimp only at hSw); go_simp; try (with_reducible rfl)
          rotate_left 0
          try simp only [Act.put, List.setIfInBounds_toArray, List.set_cons_zero, List.set_cons_succ]
          refine wpAnyH_take (i := 8) (oi := ⟨some 55, _, _, _, _, _⟩) (v := ?_) rfl (by kernel_rfl) (by kernel_rfl) (by kernel_rfl) (fun _ _ _ h => h) (Or.inl ⟨by rfl, ?_⟩) (by assumption) ?_
          rotate_left
          · intro w hSw; (try dsimp only at hSw); go_simp; try (with_reducible rfl)
          rotate_left 0
          try simp only [Act.put, List.setIfInBounds_toArray, List.set_cons_zero, List.set_cons_succ]
          refine wpAnyH_take (i := 9) (oi := ⟨some 56, _, _, _, _, _⟩) (v := ?_) rfl (by kernel_rfl) (by kernel_rfl) (by kernel_rfl) (fun _ _ _ h => h) (Or.inl ⟨by rfl, ?_⟩) (by assumption) ?_
          rotate_left
          · intro w hSw; (try dsimp only at hSw); go_simp; try (with_reducible rfl)
          rotate_left 0
          try simp only [Act.put, List.setIfInBounds_toArray, List.set_cons_zero, List.set_cons_succ]
          refine wpAnyH_take (i := 10) (oi := ⟨some 57, _, _, _, _, _⟩) (v := ?_) rfl (by kernel_rfl) (by kernel_rfl) (by kernel_rfl) (fun _ _ _ h => h) (Or.inl ⟨by rfl, ?_⟩) (by assumption) ?_
          rotate_left
          · intro w hSw; (try dsimp only at hSw); go_simp; try (with_reducible rfl)
          rotate_left 0
          try simp only [Act.put, List.setIfInBounds_toArray, List.set_cons_zero, List.set_cons_succ]
          refine wpAnyH_take (i := 11) (oi := ⟨some 58, _, _, _, _, _⟩) (v := ?_) rfl (by kernel_rfl) (by kernel_rfl) (by kernel_rfl) (fun _ _ _ h => h) (Or.inl ⟨by rfl, ?_⟩) (by assumption) ?_
          rotate_left
          · intro w hSw; (try dsimp only at hSw); go_simp; try (with_reducible rfl)
          rotate_left 0
          try simp only [Act.put, List.setIfInBounds_toArray, List.set_cons_zero, List.set_cons_succ]
          refine wpAnyH_take (i := 12) (oi := ⟨some 59, _, _, _, _, _⟩) (v := ?_) rfl (by kernel_rfl) (by kernel_rfl) (by kernel_rfl) (fun _ _ _ h => h) (Or.inl ⟨by rfl, ?_⟩) (by assumption) ?_
          rotate_left
          · intro w hSw; (try dsimp only at hSw); go_simp; try (with_reducible rfl)
          rotate_left 0
          try simp only [Act.put, List.setIfInBounds_toArray, List.set_cons_zero, List.set_cons_succ]
          refine wpAnyH_take (i := 13) (oi := ⟨some 60, _, _, _, _, _⟩) (v := ?_) rfl (by kernel_rfl) (by kernel_rfl) (by kernel_rfl) (fun _ _ _ h => h) (Or.inl ⟨by rfl, ?_⟩) (by assumption) ?_
          rotate_left
          · intro w hSw; (try dsimp only at hSw); go_simp; try (with_reducible rfl)
          rotate_left 0
          try simp only [Act.put, List.setIfInBounds_toArray, List.set_cons_zero, List.set_cons_succ]
          refine wpAnyH_take (i := 14) (oi := ⟨some 61, _, _, _, _, _⟩) (v := ?_) rfl (by kernel_rfl) (by kernel_rfl) (by kernel_rfl) (fun _ _ _ h => h) (Or.inl ⟨by rfl, ?_⟩) (by assumption) ?_
          rotate_left
          · intro w hSw; (try dsimp only at hSw); go_simp; try (with_reducible rfl)
          rotate_left 0
          try simp only [Act.put, List.setIfInBounds_toArray, List.set_cons_zero, List.set_cons_succ]
          refine wpAnyH_take (i := 15) (oi := ⟨some 62, _, _, _, _, _⟩) (v := ?_) rfl (by kernel_rfl) (by kernel_rfl) (by kernel_rfl) (fun _ _ _ h => h) (Or.inl ⟨by rfl, ?_⟩) (by assumption) ?_
          rotate_left
          · intro w hSw; (try dsimp only at hSw); go_simp; try (with_reducible rfl)
          rotate_left 0
          try simp only [Act.put, List.setIfInBounds_toArray, List.set_cons_zero, List.set_cons_succ]
          refine wpAnyH_take (i := 16) (oi := ⟨some 63, _, _, _, _, _⟩) (v := (.int .i64 ((dd : Int) + 1))) rfl (by kernel_rfl) (by kernel_rfl) (by kernel_rfl) (fun _ _ _ h => h) (Or.inl ⟨by rfl, fun w hSw => by go_simp⟩) (by assumption) ?_
          try simp only [Act.put, List.setIfInBounds_toArray, List.set_cons_zero, List.set_cons_succ]
          refine wpAnyH_take (i := 17) (oi := ⟨some 64, _, _, _, _, _⟩) (v := ?_) rfl (by kernel_rfl) (by kernel_rfl) (by kernel_rfl) (fun _ _ _ h => h) (Or.inl ⟨by rfl, ?_⟩) (by assumption) ?_
          rotate_left
          · intro w hSw; (try dsimp only at hSw); go_simp; try (with_reducible rfl)
          rotate_left 0
          try simp only [Act.put, List.setIfInBounds_toArray, List.set_cons_zero, List.set_cons_succ]
          refine wpAnyH_take (i := 18) (oi := ⟨some 65, _, _, _, _, _⟩) (v := ?_) rfl (by kernel_rfl) (by kernel_rfl) (by kernel_rfl) (fun _ _ _ h => h) (Or.inl ⟨by rfl, ?_⟩) (by assumption) ?_
          rotate_left
          · intro w hSw; (try dsimp only at hSw); go_simp; try (with_reducible rfl)
          rotate_left 0
          try simp only [Act.put, List.setIfInBounds_toArray, List.set_cons_zero, List.set_cons_succ]
          refine wpAnyH_take (i := 19) (oi := ⟨some 66, _, _, _, _, _⟩) (v := ?_) rfl (by kernel_rfl) (by kernel_rfl) (by kernel_rfl) (fun _ _ _ h => h) (Or.inl ⟨by rfl, ?_⟩) (by assumption) ?_
          rotate_left
          · intro w hSw; (try dsimp only at hSw); go_simp; try (with_reducible rfl)
          rotate_left 0
          try simp only [Act.put, List.setIfInBounds_toArray, List.set_cons_zero, List.set_cons_succ]
          refine wpAnyH_take (i := 20) (oi := ⟨some 67, _, _, _, _, _⟩) (v := ?_) rfl (by kernel_rfl) (by kernel_rfl) (by kernel_rfl) (fun _ _ _ h => h) (Or.inl ⟨by rfl, ?_⟩) (by assumption) ?_
          rotate_left
          · intro w hSw; (try dsimp only at hSw); go_simp; try (with_reducible rfl)
          rotate_left 0
          try simp only [Act.put, List.setIfInBounds_toArray, List.set_cons_zero, List.set_cons_succ]
          refine wpAnyH_take (i := 21) (oi := ⟨some 68, _, _, _, _, _⟩) (v := ?_) rfl (by kernel_rfl) (by kernel_rfl) (by kernel_rfl) (fun _ _ _ h => h) (Or.inl ⟨by rfl, ?_⟩) (by assumption) ?_
          rotate_left
          · intro w hSw; (try dsimp only at hSw); go_simp; try (with_reducible rfl)
          rotate_left 0
          try simp only [Act.put, List.setIfInBounds_toArray, List.set_cons_zero, List.set_cons_succ]
          refine wpAnyH_take (i := 22) (oi := ⟨some 69, _, _, _, _, _⟩) (v := ?_) rfl (by kernel_rfl) (by kernel_rfl) (by kernel_rfl) (fun _ _ _ h => h) (Or.inl ⟨by rfl, ?_⟩) (by assumption) ?_
          rotate_left
          · intro w hSw; (try dsimp only at hSw); go_simp; try (with_reducible rfl)
          rotate_left 0
          try simp only [Act.put, List.setIfInBounds_toArray, List.set_cons_zero, List.set_cons_succ]
          refine wpAnyH_take (i := 23) (oi := ⟨some 70, _, _, _, _, _⟩) (v := (.agg (arr 32 fun i => bv (x i)))) rfl (by kernel_rfl) (by kernel_rfl) (by kernel_rfl) (fun _ _ _ h => h) (yieldsIf_load_at (by rfl) 30 _ rfl (ad.add (k * 32)) rfl 32 (fun i => bv (x i)) 5 (fun W hS => HLK.out W hS) Tryd.underlying30 (by kernel_rfl)) (by assumption) ?_
          try simp only [Act.put, List.setIfInBounds_toArray, List.set_cons_zero, List.set_cons_succ]
          refine wpAnyH_take (i := 24) (oi := ⟨some 71, _, _, _, _, _⟩) (v := ?_) rfl (by kernel_rfl) (by kernel_rfl) (by kernel_rfl) (fun _ _ _ h => h) (Or.inl ⟨by rfl, ?_⟩) (by assumption) ?_
          rotate_left
          · intro w hSw; (try dsimp only at hSw); go_simp; try (with_reducible rfl)
          rotate_left 0
          try simp only [Act.put, List.setIfInBounds_toArray, List.set_cons_zero, List.set_cons_succ]
          refine wpAnyH_take (i := 25) (oi := ⟨some 72, _, _, _, _, _⟩) (v := ?_) rfl (by kernel_rfl) (by kernel_rfl) (by kernel_rfl) (fun _ _ _ h => h) (Or.inl ⟨by rfl, ?_⟩) (by assumption) ?_
          rotate_left
          · intro w hSw; (try dsimp only at hSw); go_simp; try (with_reducible rfl)
          rotate_left 0
          try simp only [Act.put, List.setIfInBounds_toArray, List.set_cons_zero, List.set_cons_succ]
          refine wpAnyH_take (i := 26) (oi := ⟨some 73, _, _, _, _, _⟩) (v := ?_) rfl (by kernel_rfl) (by kernel_rfl) (by kernel_rfl) (fun _ _ _ h => h) (Or.inl ⟨by rfl, ?_⟩) (by assumption) ?_
          rotate_left
          · intro w hSw; (try dsimp only at hSw); go_simp; try (with_reducible rfl)
          rotate_left 0
          try simp only [Act.put, List.setIfInBounds_toArray, List.set_cons_zero, List.set_cons_succ]
          refine wpAnyH_take (i := 27) (oi := ⟨some 74, _, _, _, _, _⟩) (v := ?_) rfl (by kernel_rfl) (by kernel_rfl) (by kernel_rfl) (fun _ _ _ h => h) (Or.inl ⟨by rfl, ?_⟩) (by assumption) ?_
          rotate_left
          · intro w hSw; (try dsimp only at hSw); go_simp; try (with_reducible rfl)
          rotate_left 0
          try simp only [Act.put, List.setIfInBounds_toArray, List.set_cons_zero, List.set_cons_succ]
          refine wpAnyH_take (i := 28) (oi := ⟨some 75, _, _, _, _, _⟩) (v := (.agg (arr 32 fun i => bv (R i)))) rfl (by kernel_rfl) (by kernel_rfl) (by kernel_rfl) (fun _ _ _ h => h) (yieldsIf_load_at (by rfl) 30 _ rfl ⟨W2.heap.size, 0, none⟩ rfl 32 (fun i => bv (R i)) 5 (fun W hS => HR0.out W hS) Tryd.underlying30 (by kernel_rfl)) (by assumption) ?_
          try simp only [Act.put, List.setIfInBounds_toArray, List.set_cons_zero, List.set_cons_succ]
          refine wpAnyH_ready (rs := [29]) (by kernel_rfl) (by simp) ?_
          refine (AllReadyH.cons (o := ⟨some 76, _, _, _, _, _⟩) rfl (fun K hK => ?_) AllReadyH.nil)
          (try rw [if_pos (by rfl)])
          go_simp
          refine (HCI.out _ hbX).mono ?_
          rintro e W6 ⟨rfl, hb6⟩
          replace hbX := hbX.trans (hb6.mono hbX.size)
          try dsimp only
          refine hK.out _ _ (hbX) (fun hHeld => ?_)
          clear hK K
          try simp only [Act.put, List.setIfInBounds_toArray, List.set_cons_zero, List.set_cons_succ]
          refine wpAnyH_take (i := 30) (oi := ⟨some 77, _, _, _, _, _⟩) (v := ?_) rfl (by kernel_rfl) (by kernel_rfl) (by kernel_rfl) (fun _ _ _ h => h) (Or.inl ⟨by rfl, ?_⟩) (by assumption) ?_
          rotate_left
          · intro w hSw; (try dsimp only at hSw); go_simp; try (with_reducible rfl)
          rotate_left 0
          try simp only [Act.put, List.setIfInBounds_toArray, List.set_cons_zero, List.set_cons_succ]
          refine wpAnyH_take (i := 31) (oi := ⟨some 78, _, _, _, _, _⟩) (v := ?_) rfl (by kernel_rfl) (by kernel_rfl) (by kernel_rfl) (fun _ _ _ h => h) (Or.inl ⟨by rfl, ?_⟩) (by assumption) ?_
          rotate_left
          · intro w hSw; (try dsimp only at hSw); go_simp; try (with_reducible rfl)
          rotate_left 0
          try simp only [Act.put, List.setIfInBounds_toArray, List.set_cons_zero, List.set_cons_succ]
          refine wpAnyH_take (i := 32) (oi := ⟨some 79, _, _, _, _, _⟩) (v := ?_) rfl (by kernel_rfl) (by kernel_rfl) (by kernel_rfl) (fun _ _ _ h => h) (Or.inl ⟨by rfl, ?_⟩) (by assumption) ?_
          rotate_left
          · intro w hSw; (try dsimp only at hSw); go_simp; try (with_reducible rfl)
          rotate_left 0
          try simp only [Act.put, List.setIfInBounds_toArray, List.set_cons_zero, List.set_cons_succ]
          refine wpAnyH_take (i := 33) (oi := ⟨some 80, _, _, _, _, _⟩) (v := ?_) rfl (by kernel_rfl) (by kernel_rfl) (by kernel_rfl) (fun _ _ _ h => h) (Or.inl ⟨by rfl, ?_⟩) (by assumption) ?_
          rotate_left
          · intro w hSw; (try dsimp only at hSw); go_simp; try (with_reducible rfl)
          rotate_left 0
          try simp only [Act.put, List.setIfInBounds_toArray, List.set_cons_zero, List.set_cons_succ]
          refine wpAnyH_take (i := 34) (oi := ⟨some 81, _, _, _, _, _⟩) (v := (.int .i64 ((k : Int) + 1))) rfl (by kernel_rfl) (by kernel_rfl) (by kernel_rfl) (fun _ _ _ h => h) (Or.inl ⟨by rfl, fun w hSw => by go_simp⟩) (by assumption) ?_
          try simp only [Act.put, List.setIfInBounds_toArray, List.set_cons_zero, List.set_cons_succ]
          refine wpAnyH_take (i := 35) (oi := ⟨some 82, _, _, _, _, _⟩) (v := ?_) rfl (by kernel_rfl) (by kernel_rfl) (by kernel_rfl) (fun _ _ _ h => h) (Or.inl ⟨by rfl, ?_⟩) (by assumption) ?_
          rotate_left
          · intro w hSw; (try dsimp only at hSw); go_simp; try (with_reducible rfl)
          rotate_left 0
          try simp only [Act.put, List.setIfInBounds_toArray, List.set_cons_zero, List.set_cons_succ]
          refine wpAnyH_take (i := 36) (oi := ⟨some 83, _, _, _, _, _⟩) (v := ?_) rfl (by kernel_rfl) (by kernel_rfl) (by kernel_rfl) (fun _ _ _ h => h) (Or.inl ⟨by rfl, ?_⟩) (by assumption) ?_
          rotate_left
          · intro w hSw; (try dsimp only at hSw); go_simp; try (with_reducible rfl)
          rotate_left 0
          try simp only [Act.put, List.setIfInBounds_toArray, List.set_cons_zero, List.set_cons_succ]
          refine wpAnyH_take (i := 37) (oi := ⟨some 84, _, _, _, _, _⟩) (v := ?_) rfl (by kernel_rfl) (by kernel_rfl) (by kernel_rfl) (fun _ _ _ h => h) (Or.inl ⟨by rfl, ?_⟩) (by assumption) ?_
          rotate_left
          · intro w hSw; (try dsimp only at hSw); go_simp; try (with_reducible rfl)
          rotate_left 0
          try simp only [Act.put, List.setIfInBounds_toArray, List.set_cons_zero, List.set_cons_succ]
          refine wpAnyH_take (i := 38) (oi := ⟨some 85, _, _, _, _, _⟩) (v := ?_) rfl (by kernel_rfl) (by kernel_rfl) (by kernel_rfl) (fun _ _ _ h => h) (Or.inl ⟨by rfl, ?_⟩) (by assumption) ?_
          rotate_left
          · intro w hSw; (try dsimp only at hSw); go_simp; try (with_reducible rfl)
          rotate_left 0
          try simp only [Act.put, List.setIfInBounds_toArray, List.set_cons_zero, List.set_cons_succ]
          refine wpAnyH_take (i := 39) (oi := ⟨some 86, _, _, _, _, _⟩) (v := (.int .i64 ((k : Int) + 1))) rfl (by kernel_rfl) (by kernel_rfl) (by kernel_rfl) (fun _ _ _ h => h) (Or.inl ⟨by rfl, fun w hSw => by go_simp⟩) (by assumption) ?_
          try simp only [Act.put, List.setIfInBounds_toArray, List.set_cons_zero, List.set_cons_succ]
          refine wpAnyH_take (i := 40) (oi := ⟨some 87, _, _, _, _, _⟩) (v := ?_) rfl (by kernel_rfl) (by kernel_rfl) (by kernel_rfl) (fun _ _ _ h => h) (Or.inl ⟨by rfl, ?_⟩) (by assumption) ?_
          rotate_left
          · intro w hSw; (try dsimp only at hSw); go_simp; try (with_reducible rfl)
          rotate_left 0
          try simp only [Act.put, List.setIfInBounds_toArray, List.set_cons_zero, List.set_cons_succ]
          refine wpAnyH_take (i := 42) (oi := ⟨some 89, _, _, _, _, _⟩) (v := (.agg (arr 32 fun i => bv (R i)))) rfl (by kernel_rfl) (by kernel_rfl) (by kernel_rfl) (fun _ _ _ h => h) (yieldsIf_load_at (by rfl) 30 _ rfl ⟨W2.heap.size, 0, none⟩ rfl 32 (fun i => bv (R i)) 5 (fun W hS => HR0.out W hS) Tryd.underlying30 (by kernel_rfl)) (by assumption) ?_
          try simp only [Act.put, List.setIfInBounds_toArray, List.set_cons_zero, List.set_cons_succ]
          refine wpAnyH_take (i := 43) (oi := ⟨some 90, _, _, _, _, _⟩) (v := ?_) rfl (by kernel_rfl) (by kernel_rfl) (by kernel_rfl) (fun _ _ _ h => h) (Or.inl ⟨by rfl, ?_⟩) (by assumption) ?_
          rotate_left
          · intro w hSw; (try dsimp only at hSw); go_simp; try (with_reducible rfl)
          rotate_left 0
          try simp only [Act.put, List.setIfInBounds_toArray, List.set_cons_zero, List.set_cons_succ]
          refine wpAnyH_ready (rs := [41]) (by kernel_rfl) (by simp) ?_
          refine (AllReadyH.cons (o := ⟨some 88, _, _, _, _, _⟩) rfl (fun K hK => ?_) AllReadyH.nil)
          (try rw [if_pos (by rfl)])
          go_simp
          refine (HRT2.out _ hbX).mono ?_
          rintro e W7 ⟨rfl, hb7⟩
          replace hbX := hbX.trans (hb7.mono hbX.size)
          try dsimp only
          refine hK.out _ _ (hbX) (fun hHeld => ?_)
          clear hK K
          try simp only [Act.put, List.setIfInBounds_toArray, List.set_cons_zero, List.set_cons_succ]
          refine wpAnyH_ready (rs := [44]) (by kernel_rfl) (by simp) ?_
          refine (AllReadyH.cons (o := ⟨some 91, _, _, _, _, _⟩) rfl (fun K hK => ?_) AllReadyH.nil)
          (try rw [if_pos (by rfl)])
          go_simp
          refine (HCC.out _ hbX).mono ?_
          rintro e W8 ⟨rfl, hb8⟩
          replace hbX := hbX.trans (hb8.mono hbX.size)
          try dsimp only
          refine hK.out _ _ (hbX) (fun hHeld => ?_)
          clear hK K
          try simp only [Act.put, List.setIfInBounds_toArray, List.set_cons_zero, List.set_cons_succ]
          refine wpAnyH_take (i := 45) (oi := ⟨some 92, _, _, _, _, _⟩) (v := ?_) rfl (by kernel_rfl) (by kernel_rfl) (by kernel_rfl) (fun _ _ _ h => h) (Or.inl ⟨by rfl, ?_⟩) (by assumption) ?_
          rotate_left
          · intro w hSw; (try dsimp only at hSw); go_simp; try (with_reducible rfl)
          rotate_left 0
          try simp only [Act.put, List.setIfInBounds_toArray, List.set_cons_zero, List.set_cons_succ]
          refine wpAnyH_take (i := 46) (oi := ⟨some 93, _, _, _, _, _⟩) (v := ?_) rfl (by kernel_rfl) (by kernel_rfl) (by kernel_rfl) (fun _ _ _ h => h) (Or.inl ⟨by rfl, ?_⟩) (by assumption) ?_
          rotate_left
          · intro w hSw; (try dsimp only at hSw); go_simp; try (with_reducible rfl)
          rotate_left 0
          try simp only [Act.put, List.setIfInBounds_toArray, List.set_cons_zero, List.set_cons_succ]
          refine wpAnyH_done (by kernel_rfl) ?_ _
          have HX := Lib.hid (HB5.out.trans (hbX.mono HB5.out.size))
          clear hbX
          go_wp2
          go_roundw
          case rel => exact ⟨k + 1, by omega, by go_num, HX.out⟩
          case measure => simp [intOf]; omega
        · obtain rfl : k = q := by omega
          go_wp2
          go_ret
          exact ⟨rfl, HB3.out.trans (hb.mono HB3.out.size)⟩
    end Go.Proofs.YtkkanaefngggoaaDoor
