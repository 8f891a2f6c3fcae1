/-
  TreeSplits: for every list of leaves, in whatever memory in which the tables lie. No condition.
-/
import Derived.Test.YtkkanaefngggoaaDoorTreeSame
import Derived.Deep.DeepMust
import Derived.Deep.RegionHeld3
import Derived.Test.YtkkanaefngggoaaDoorRegK
namespace Go.Proofs.YtkkanaefngggoaaDoor
open Go Go.RowKit Go.Shelf TreeM

/-- The cells of a row's only ID. -/
theorem own_load {w : World} {B G c : Nat} {f : D} (h : w.ownsRow B 30 32 (.slice (some ⟨G, 0, none⟩) 1 c) 1 (idCells [f])) :
    (Instr.loadAt 30 (.pointer (some ⟨G, 0, none⟩))).run Tryd.prog w = .ok (.agg (arr 32 fun i => bv (f i))) w :=
  run_loadAt_cells 30 ⟨G, 0, none⟩ 32 (fun i => bv (f i)) 5 w (fun i hi => by
    rw [add_zero_block, h.cellAt i (by omega), idCells_one, idc_get _ _ hi]) Tryd.underlying30 (by kernel_rfl)
/-- Tops, of a whole tree. -/
theorem tops_whole (Z : Nat → Prop) (g j : Nat) (L : List D) (w : World) (h : TreeAt w Z g L) (hj : L.length = 2 ^ j) :
    Calls Tryd.prog 25 #[.pointer (some ⟨g, 0, none⟩)] w fun e w' => ∃ G c, e = .returned (.slice (some ⟨G, 0, none⟩) 1 c) ∧ (Instr.loadAt 30 (.pointer (some ⟨G, 0, none⟩))).run Tryd.prog w' = .ok (.agg (arr 32 fun i => bv (mth L i))) w' ∧ Below w.heap.size w w' := by
  refine (treeTops_any Z g L w h).mono ?_
  rintro e w' ⟨v', rfl, ho, hb⟩
  rw [tops_pow j L hj] at ho
  obtain ⟨A, c, rfl, _⟩ := own_len ho
  obtain ⟨G, rfl⟩ := own_addrN ho (by simp)
  exact ⟨G, c, rfl, own_load ho, hb⟩
set_option maxRecDepth 100000 in
set_option maxHeartbeats 1000000 in
theorem splits_any (v : Value) (l : List D) (w : World) (hT : Tables w) (hr : RdI w (fun b => b < w.heap.size) v l) :
    Calls Tryd.prog 7 #[v] w fun e w' => e = .returned (.bool true) ∧ Below w.heap.size w w' := by
  obtain ⟨A, c, rfl, hlc, _⟩ := id hr
  obtain ⟨n, hn⟩ : ∃ n, l.length = n := ⟨_, rfl⟩
  obtain ⟨q, hq⟩ : ∃ q, min n 64 = q := ⟨_, rfl⟩
  rw [hn] at hr hlc ⊢
  have hr1 := hr.take (k := q) (by omega)
  obtain ⟨l1, hl1⟩ : ∃ l1, l.take q = l1 := ⟨_, rfl⟩
  have hn1 : l1.length = q := by rw [← hl1, List.length_take]; omega
  rw [hl1] at hr1
  have hq80 : q ≤ 64 := by omega
  have hqc : q ≤ c := by omega
  have HCUT := Lib.hid fun W => cut_any A n c 64 q hlc hq (by omega) W
  have HGR := Lib.hid (grows_any w hT)
  have HR1 := Lib.hid hr1
  have HN1 := Lib.hid hn1
  have HT := Lib.hid hT
  clear hr hr1 hl1 hn hq hlc hn1 hT
  by_cases h2 : q < 2
  · have d2 : decide ((q : Int) < 2) = true := decide_eq_true (by omega)
    go_enter Tryd.func7, Tryd.ntmps7
    go_wp2_with (first
      | (go_at_call 17; refine HGR.out.mono ?_; rintro e W1 ⟨rfl, hb1⟩; have HB1 := Lib.hid hb1; clear hb1)
      | (go_at_call 18; refine (HCUT.out _).mono ?_; rintro e W2 ⟨rfl, rfl⟩))
    go_ret
    exact ⟨rfl, HB1.out⟩
  · have d2 : decide ((q : Int) < 2) = false := decide_eq_false (by omega)
    go_enter Tryd.func7, Tryd.ntmps7
    go_wp2_with (first
      | (go_at_call 17; refine HGR.out.mono ?_; rintro e W1 ⟨rfl, hb1⟩; have HB1 := Lib.hid hb1; clear hb1)
      | (go_at_call 18; refine (HCUT.out _).mono ?_; rintro e W2 ⟨rfl, rfl⟩))
    clear d2
    go_loopw [3] (fun k wr => ∃ j : Nat, k = .int .i64 ((2 ^ j : Nat) : Int) ∧ 2 ^ j < q ∧ wr = W2) (fun k _ => q - (intOf k).toNat)
    case atStart => exact ⟨0, rfl, by simp; omega, rfl⟩
    case round =>
      obtain ⟨j, rfl, hj, rfl⟩ := hrel
      have hpos := Nat.two_pow_pos j
      have hsucc : 2 ^ (j + 1) = 2 ^ j * 2 := Nat.pow_succ ..
      obtain ⟨p, hp⟩ : ∃ p, 2 ^ j = p := ⟨_, rfl⟩
      have HP := Lib.hid hp
      have HS := Lib.hid hsucc
      rw [hp] at hj hpos ⊢
      clear hp hsucc
      have hp1 : (p : Int) ≤ 64 := by omega
      have hp0 : (0 : Int) < (p : Int) := by omega
      by_cases hlt : p * 2 < q
      · have hl2 : (p : Int) * 2 < (q : Int) := by omega
        have hl3 : 2 * (p : Int) < (q : Int) := by omega
        go_wp2
        go_roundw
        case rel => exact ⟨j + 1, by rw [HS.out, HP.out]; go_num, by rw [HS.out, HP.out]; omega, by first | rfl | trivial⟩
        case measure => simp [intOf]; omega
      · have hl2 : ¬ (2 * (p : Int) < (q : Int)) := by omega
        have he : half q = p := by
          unfold half
          rw [← HP.out]
          exact top2_eq (by rw [HP.out]; omega) (by rw [HP.out]; omega)
        have hh := mth_halves (l := l1) (by rw [HN1.out]; omega)
        rw [HN1.out, he] at hh
        obtain ⟨S, hS⟩ : ∃ S, l1.take p = S := ⟨_, rfl⟩
        obtain ⟨R, hR⟩ : ∃ R, l1.drop p = R := ⟨_, rfl⟩
        have hSl : S.length = 2 ^ j := by rw [← hS, List.length_take, HN1.out, HP.out]; omega
        have hSp : S.length = p := by rw [hSl, HP.out]
        have hRl : R.length = q - p := by rw [← hR, List.length_drop, HN1.out]
        have rd (W : World) (hb : Below w.heap.size w W) : RdI W (fun b => b < W.heap.size) (.slice A q c) l1 := (HR1.out.old hb).mono fun b hb' => Nat.lt_of_lt_of_le hb' hb.size
        have HOF : Hid (Calls Tryd.prog 19 #[.slice A p c] wr fun e w' => ∃ g Z, e = .returned (.pointer (some ⟨g, 0, none⟩)) ∧ TreeAt w' Z g S ∧ Below w.heap.size w w') := Lib.hid ((treeOf_any (.slice A p c) S wr (HT.out.below HB1.out) (by have := (rd _ HB1.out).take (k := p) (by omega); rwa [hS] at this) (by omega)).mono (by
          rintro e w' ⟨g', Z', h1, h2, h3, _⟩
          exact ⟨g', Z', h1, h2, HB1.out.trans (h3.mono HB1.out.size)⟩))
        have HRT : Hid (∀ g Z W, Below w.heap.size w W → TreeAt W Z g S → Calls Tryd.prog 21 #[.pointer (some ⟨g, 0, none⟩)] W fun e w' => e = .returned (.agg (arr 32 fun i => bv (mth S i))) ∧ Below W.heap.size W w') := Lib.hid fun g Z W hb h => callsIn_wide.1 (treeRoot_any Z g S W (HT.out.below hb) h)
        have HTP := Lib.hid fun g Z W (h : TreeAt W Z g S) => tops_whole Z g j S W h hSl
        have HT1 : Hid (∀ W, Below w.heap.size w W → Calls Tryd.prog 27 #[.slice A q c] W fun e w' => e = .returned (.agg (arr 32 fun i => bv (mth l1 i))) ∧ Below w.heap.size w w') := Lib.hid fun W hb => (troot_any (.slice A q c) l1 W (HT.out.below hb) (rd _ hb) (by rw [HN1.out]; omega)).mono fun e w' h => ⟨h.1, hb.trans (h.2.mono hb.size)⟩
        have HT2 : Hid (∀ W, Below w.heap.size w W → Calls Tryd.prog 27 #[.slice A p c] W fun e w' => e = .returned (.agg (arr 32 fun i => bv (mth S i))) ∧ Below w.heap.size w w') := Lib.hid fun W hb => (troot_any (.slice A p c) S W (HT.out.below hb) (by have := (rd _ hb).take (k := p) (by omega); rwa [hS] at this) (by omega)).mono fun e w' h => ⟨h.1, hb.trans (h.2.mono hb.size)⟩
        have HT3 : Hid (∀ W, Below w.heap.size w W → Calls Tryd.prog 27 #[.slice (cutI A c p) (q - p) (c - p)] W fun e w' => e = .returned (.agg (arr 32 fun i => bv (mth R i))) ∧ Below w.heap.size w w') := Lib.hid fun W hb => (troot_any (.slice (cutI A c p) (q - p) (c - p)) R W (HT.out.below hb) (by have := (rd _ hb).drop (k := p) (by omega); rwa [hR] at this) (by omega)).mono fun e w' h => ⟨h.1, hb.trans (h.2.mono hb.size)⟩
        have HND : Hid (∀ W, Below w.heap.size w W → Calls Tryd.prog 33 #[.agg (arr 32 fun i => bv (mth S i)), .agg (arr 32 fun i => bv (mth R i))] W fun e w' => e = .returned (.agg (arr 32 fun i => bv (mth l1 i))) ∧ Below w.heap.size w w') := Lib.hid fun W hb => by
          have := node_any (mth S) (mth R) W (HT.out.below hb)
          rw [hh, hS, hR]
          exact this.mono fun e w' h => ⟨h.1, hb.trans (h.2.mono hb.size)⟩
        have sl1 := run_slice_toN (P := Tryd.prog) 22 30 Tryd.underlying22 32 (by kernel_rfl) A q c p (by omega)
        have sl2 := run_slice_fromI (P := Tryd.prog) 22 30 Tryd.underlying22 (by kernel_rfl) A q c p (by omega)
        have eq1 := eql_id (mth S) (mth S)
        have eq2 := eql_id (mth l1) (mth l1)
        rw [beq_self_eq_true] at eq1 eq2
        obtain ⟨d, hd⟩ : ∃ d, q - p = d := ⟨_, rfl⟩
        obtain ⟨m, hm⟩ : ∃ m, c - p = m := ⟨_, rfl⟩
        obtain ⟨A2, hA2⟩ : ∃ A2, cutI A c p = A2 := ⟨_, rfl⟩
        rw [hd, hm, hA2] at HT3 sl2
        clear hh hS hR hSl hSp hRl hd hm hA2 he
        generalize (arr 32 fun i => bv (mth S i)) = rs at *
        generalize (arr 32 fun i => bv (mth R i)) = rr at *
        generalize (arr 32 fun i => bv (mth l1 i)) = rl at *
        go_wp2_with (go_at_call 19; refine HOF.out.mono ?_; rintro e W3 ⟨g, Z, rfl, h1, h2⟩; have HA3 := Lib.hid h1; have HB3 := Lib.hid h2; clear h1 h2)
        refine wp_region_held_drew (S := fun _ => True) (by kernel_rfl) ?_ (fun hHeld => ?_)
        · trivial
        refine wpAnyH_take (i := 0) (oi := ⟨some 23, _, _, _, _, _⟩) (v := ?_) rfl (by kernel_rfl) (by kernel_rfl) (by kernel_rfl) (fun _ _ _ h => h) (Or.inl ⟨by rfl, ?_⟩) (by assumption) ?_
        rotate_left
        · intro w hSw; (try dsimp only at hSw); go_simp; try (with_reducible rfl)
        rotate_left 0
        try simp only [Act.put, List.setIfInBounds_toArray, List.set_cons_zero, List.set_cons_succ]
        refine wpAnyH_take (i := 1) (oi := ⟨some 24, _, _, _, _, _⟩) (v := ?_) rfl (by kernel_rfl) (by kernel_rfl) (by kernel_rfl) (fun _ _ _ h => h) (Or.inl ⟨by rfl, ?_⟩) (by assumption) ?_
        rotate_left
        · intro w hSw; (try dsimp only at hSw); go_simp; try (with_reducible rfl)
        rotate_left 0
        try simp only [Act.put, List.setIfInBounds_toArray, List.set_cons_zero, List.set_cons_succ]
        refine wpAnyH_take (i := 2) (oi := ⟨some 25, _, _, _, _, _⟩) (v := ?_) rfl (by kernel_rfl) (by kernel_rfl) (by kernel_rfl) (fun _ _ _ h => h) (Or.inl ⟨by rfl, ?_⟩) (by assumption) ?_
        rotate_left
        · intro w hSw; (try dsimp only at hSw); go_simp; try (with_reducible rfl)
        rotate_left 0
        try simp only [Act.put, List.setIfInBounds_toArray, List.set_cons_zero, List.set_cons_succ]
        refine wpAnyH_take (i := 3) (oi := ⟨some 26, _, _, _, _, _⟩) (v := ?_) rfl (by kernel_rfl) (by kernel_rfl) (by kernel_rfl) (fun _ _ _ h => h) (Or.inl ⟨by rfl, ?_⟩) (by assumption) ?_
        rotate_left
        · intro w hSw; (try dsimp only at hSw); go_simp; try (with_reducible rfl)
        rotate_left 0
        try simp only [Act.put, List.setIfInBounds_toArray, List.set_cons_zero, List.set_cons_succ]
        refine wpAnyH_ready (rs := [4]) (by kernel_rfl) (by simp) ?_
        refine AllReadyH.cons (o := ⟨some 27, _, _, _, _, _⟩) rfl (fun K hK => ?_) AllReadyH.nil
        (try rw [if_pos (by rfl)])
        go_simp
        refine (HTP.out g Z _ (show TreeAt W3.drew Z g S from HA3.out)).mono ?_; rintro e W4 ⟨G4, c4, rfl, hl4, hb4⟩; have HB4 := Lib.hid (HB3.out.drew.trans (hb4.mono HB3.out.size)); have HA4 := Lib.hid (show TreeAt W4 Z g S from RangeAt.below (show RangeAt W3.drew Z g _ _ from HA3.out) hb4); clear hb4 hl4
        try dsimp only
        refine hK.out _ _ trivial (fun hHeld => ?_)
        clear hK K
        try simp only [Act.put, List.setIfInBounds_toArray, List.set_cons_zero, List.set_cons_succ]
        refine wpAnyH_take (i := 5) (oi := ⟨some 28, _, _, _, _, _⟩) (v := ?_) rfl (by kernel_rfl) (by kernel_rfl) (by kernel_rfl) (fun _ _ _ h => h) (Or.inl ⟨by rfl, ?_⟩) (by assumption) ?_
        rotate_left
        · intro w hSw; (try dsimp only at hSw); go_simp; try (with_reducible rfl)
        rotate_left 0
        try simp only [Act.put, List.setIfInBounds_toArray, List.set_cons_zero, List.set_cons_succ]
        refine wpAnyH_take (i := 6) (oi := ⟨some 29, _, _, _, _, _⟩) (v := ?_) rfl (by kernel_rfl) (by kernel_rfl) (by kernel_rfl) (fun _ _ _ h => h) (Or.inl ⟨by rfl, ?_⟩) (by assumption) ?_
        rotate_left
        · intro w hSw; (try dsimp only at hSw); go_simp; try (with_reducible rfl)
        rotate_left 0
        try simp only [Act.put, List.setIfInBounds_toArray, List.set_cons_zero, List.set_cons_succ]
        refine wpAnyH_take (i := 7) (oi := ⟨some 30, _, _, _, _, _⟩) (v := ?_) rfl (by kernel_rfl) (by kernel_rfl) (by kernel_rfl) (fun _ _ _ h => h) (Or.inl ⟨by rfl, ?_⟩) (by assumption) ?_
        rotate_left
        · intro w hSw; (try dsimp only at hSw); go_simp; try (with_reducible rfl)
        rotate_left 0
        try simp only [Act.put, List.setIfInBounds_toArray, List.set_cons_zero, List.set_cons_succ]
        refine wpAnyH_take (i := 8) (oi := ⟨some 31, _, _, _, _, _⟩) (v := ?_) rfl (by kernel_rfl) (by kernel_rfl) (by kernel_rfl) (fun _ _ _ h => h) (Or.inl ⟨by rfl, ?_⟩) (by assumption) ?_
        rotate_left
        · intro w hSw; (try dsimp only at hSw); go_simp; try (with_reducible rfl)
        rotate_left 0
        try simp only [Act.put, List.setIfInBounds_toArray, List.set_cons_zero, List.set_cons_succ]
        refine wpAnyH_take (i := 9) (oi := ⟨some 32, _, _, _, _, _⟩) (v := ?_) rfl (by kernel_rfl) (by kernel_rfl) (by kernel_rfl) (fun _ _ _ h => h) (Or.inl ⟨by rfl, ?_⟩) (by assumption) ?_
        rotate_left
        · intro w hSw; (try dsimp only at hSw); go_simp; try (with_reducible rfl)
        rotate_left 0
        try simp only [Act.put, List.setIfInBounds_toArray, List.set_cons_zero, List.set_cons_succ]
        refine wpAnyH_take (i := 11) (oi := ⟨some 34, _, _, _, _, _⟩) (v := ?_) rfl (by kernel_rfl) (by kernel_rfl) (by kernel_rfl) (fun _ _ _ h => h) (Or.inl ⟨by rfl, ?_⟩) (by assumption) ?_
        rotate_left
        · intro w hSw; (try dsimp only at hSw); go_simp; try (with_reducible rfl)
        rotate_left 0
        try simp only [Act.put, List.setIfInBounds_toArray, List.set_cons_zero, List.set_cons_succ]
        refine wpAnyH_ready (rs := [10]) (by kernel_rfl) (by simp) ?_
        refine AllReadyH.cons (o := ⟨some 33, _, _, _, _, _⟩) rfl (fun K hK => ?_) AllReadyH.nil
        (try rw [if_pos (by rfl)])
        go_simp
        refine (HRT.out g Z _ HB4.out HA4.out).mono ?_; rintro e W5 ⟨rfl, hb5⟩; have HB5 := Lib.hid (HB4.out.trans (hb5.mono HB4.out.size)); have HA5 := Lib.hid (show TreeAt W5 Z g S from RangeAt.below HA4.out hb5); clear hb5
        try dsimp only
        refine hK.out _ _ trivial (fun hHeld => ?_)
        clear hK K
        try simp only [Act.put, List.setIfInBounds_toArray, List.set_cons_zero, List.set_cons_succ]
        refine wpAnyH_ready (rs := [12]) (by kernel_rfl) (by simp) ?_
        refine AllReadyH.cons (o := ⟨some 35, _, _, _, _, _⟩) rfl (fun K hK => ?_) AllReadyH.nil
        (try rw [if_pos (by rfl)])
        go_simp
        refine (HTP.out g Z _ HA5.out).mono ?_; rintro e W6 ⟨G6, c6, rfl, hl6, hb6⟩; have HB6 := Lib.hid (HB5.out.trans (hb6.mono HB5.out.size)); clear hb6
        try dsimp only
        refine hK.out _ _ trivial (fun hHeld => ?_)
        clear hK K
        try simp only [Act.put, List.setIfInBounds_toArray, List.set_cons_zero, List.set_cons_succ]
        refine wpAnyH_take (i := 13) (oi := ⟨some 36, _, _, _, _, _⟩) (v := ?_) rfl (by kernel_rfl) (by kernel_rfl) (by kernel_rfl) (fun _ _ _ h => h) (Or.inl ⟨by rfl, ?_⟩) (by assumption) ?_
        rotate_left
        · intro w hSw; (try dsimp only at hSw); go_simp; try (with_reducible rfl)
        rotate_left 0
        try simp only [Act.put, List.setIfInBounds_toArray, List.set_cons_zero, List.set_cons_succ]
        refine wpAnyH_ready (rs := [14]) (by kernel_rfl) (by simp) ?_
        refine AllReadyH.cons (o := ⟨some 37, _, _, _, _, _⟩) rfl (fun K hK => ?_) AllReadyH.nil
        (try rw [if_pos (by rfl)])
        refine oper_load 30 _ rfl _ _ rfl hl6 ?_
        try simp only [Act.put, List.setIfInBounds_toArray, List.set_cons_zero, List.set_cons_succ]
        refine hK.out _ _ trivial (fun hHeld => ?_)
        clear hK K
        try simp only [Act.put, List.setIfInBounds_toArray, List.set_cons_zero, List.set_cons_succ]
        refine wpAnyH_take (i := 15) (oi := ⟨some 38, _, _, _, _, _⟩) (v := ?_) rfl (by kernel_rfl) (by kernel_rfl) (by kernel_rfl) (fun _ _ _ h => h) (Or.inl ⟨by rfl, ?_⟩) (by assumption) ?_
        rotate_left
        · intro w hSw; (try dsimp only at hSw); go_simp; try (with_reducible rfl)
        rotate_left 0
        try simp only [Act.put, List.setIfInBounds_toArray, List.set_cons_zero, List.set_cons_succ]
        refine wpAnyH_take (i := 16) (oi := ⟨some 39, _, _, _, _, _⟩) (v := ?_) rfl (by kernel_rfl) (by kernel_rfl) (by kernel_rfl) (fun _ _ _ h => h) (Or.inl ⟨by rfl, ?_⟩) (by assumption) ?_
        rotate_left
        · intro w hSw; (try dsimp only at hSw); go_simp; try (with_reducible rfl)
        rotate_left 0
        try simp only [Act.put, List.setIfInBounds_toArray, List.set_cons_zero, List.set_cons_succ]
        refine wpAnyH_take (i := 17) (oi := ⟨some 40, _, _, _, _, _⟩) (v := ?_) rfl (by kernel_rfl) (by kernel_rfl) (by kernel_rfl) (fun _ _ _ h => h) (Or.inl ⟨by rfl, ?_⟩) (by assumption) ?_
        rotate_left
        · intro w hSw; (try dsimp only at hSw); go_simp; try (with_reducible rfl)
        rotate_left 0
        try simp only [Act.put, List.setIfInBounds_toArray, List.set_cons_zero, List.set_cons_succ]
        refine wpAnyH_take (i := 18) (oi := ⟨some 41, _, _, _, _, _⟩) (v := ?_) rfl (by kernel_rfl) (by kernel_rfl) (by kernel_rfl) (fun _ _ _ h => h) (Or.inl ⟨by rfl, ?_⟩) (by assumption) ?_
        rotate_left
        · intro w hSw; (try dsimp only at hSw); go_simp; try (with_reducible rfl)
        rotate_left 0
        try simp only [Act.put, List.setIfInBounds_toArray, List.set_cons_zero, List.set_cons_succ]
        refine wpAnyH_take (i := 20) (oi := ⟨some 43, _, _, _, _, _⟩) (v := ?_) rfl (by kernel_rfl) (by kernel_rfl) (by kernel_rfl) (fun _ _ _ h => h) (Or.inl ⟨by rfl, ?_⟩) (by assumption) ?_
        rotate_left
        · intro w hSw; (try dsimp only at hSw); go_simp; try (with_reducible rfl)
        rotate_left 0
        try simp only [Act.put, List.setIfInBounds_toArray, List.set_cons_zero, List.set_cons_succ]
        refine wpAnyH_take (i := 21) (oi := ⟨some 44, _, _, _, _, _⟩) (v := ?_) rfl (by kernel_rfl) (by kernel_rfl) (by kernel_rfl) (fun _ _ _ h => h) (Or.inl ⟨by rfl, ?_⟩) (by assumption) ?_
        rotate_left
        · intro w hSw; (try dsimp only at hSw); go_simp; try (with_reducible rfl)
        rotate_left 0
        try simp only [Act.put, List.setIfInBounds_toArray, List.set_cons_zero, List.set_cons_succ]
        refine wpAnyH_take (i := 22) (oi := ⟨some 45, _, _, _, _, _⟩) (v := ?_) rfl (by kernel_rfl) (by kernel_rfl) (by kernel_rfl) (fun _ _ _ h => h) (Or.inl ⟨by rfl, ?_⟩) (by assumption) ?_
        rotate_left
        · intro w hSw; (try dsimp only at hSw); go_simp; try (with_reducible rfl)
        rotate_left 0
        try simp only [Act.put, List.setIfInBounds_toArray, List.set_cons_zero, List.set_cons_succ]
        refine wpAnyH_take (i := 24) (oi := ⟨some 47, _, _, _, _, _⟩) (v := ?_) rfl (by kernel_rfl) (by kernel_rfl) (by kernel_rfl) (fun _ _ _ h => h) (Or.inl ⟨by rfl, ?_⟩) (by assumption) ?_
        rotate_left
        · intro w hSw; (try dsimp only at hSw); go_simp; try (with_reducible rfl)
        rotate_left 0
        try simp only [Act.put, List.setIfInBounds_toArray, List.set_cons_zero, List.set_cons_succ]
        refine wpAnyH_take (i := 25) (oi := ⟨some 48, _, _, _, _, _⟩) (v := ?_) rfl (by kernel_rfl) (by kernel_rfl) (by kernel_rfl) (fun _ _ _ h => h) (Or.inl ⟨by rfl, ?_⟩) (by assumption) ?_
        rotate_left
        · intro w hSw; (try dsimp only at hSw); go_simp; try (with_reducible rfl)
        rotate_left 0
        try simp only [Act.put, List.setIfInBounds_toArray, List.set_cons_zero, List.set_cons_succ]
        refine wpAnyH_take (i := 26) (oi := ⟨some 49, _, _, _, _, _⟩) (v := ?_) rfl (by kernel_rfl) (by kernel_rfl) (by kernel_rfl) (fun _ _ _ h => h) (Or.inl ⟨by rfl, ?_⟩) (by assumption) ?_
        rotate_left
        · intro w hSw; (try dsimp only at hSw); go_simp; try (with_reducible rfl)
        rotate_left 0
        try simp only [Act.put, List.setIfInBounds_toArray, List.set_cons_zero, List.set_cons_succ]
        refine wpAnyH_ready (rs := [19]) (by kernel_rfl) (by simp) ?_
        refine AllReadyH.cons (o := ⟨some 42, _, _, _, _, _⟩) rfl (fun K hK => ?_) AllReadyH.nil
        (try rw [if_pos (by rfl)])
        go_simp
        refine (HT1.out _ HB6.out).mono ?_; rintro e W7 ⟨rfl, hb7⟩; have HB7 := Lib.hid hb7; clear hb7 hl6
        try dsimp only
        refine hK.out _ _ trivial (fun hHeld => ?_)
        clear hK K
        try simp only [Act.put, List.setIfInBounds_toArray, List.set_cons_zero, List.set_cons_succ]
        refine wpAnyH_ready (rs := [23]) (by kernel_rfl) (by simp) ?_
        refine AllReadyH.cons (o := ⟨some 46, _, _, _, _, _⟩) rfl (fun K hK => ?_) AllReadyH.nil
        (try rw [if_pos (by rfl)])
        go_simp
        refine (HT2.out _ HB7.out).mono ?_; rintro e W8 ⟨rfl, hb8⟩; have HB8 := Lib.hid hb8; clear hb8
        try dsimp only
        refine hK.out _ _ trivial (fun hHeld => ?_)
        clear hK K
        try simp only [Act.put, List.setIfInBounds_toArray, List.set_cons_zero, List.set_cons_succ]
        refine wpAnyH_ready (rs := [27]) (by kernel_rfl) (by simp) ?_
        refine AllReadyH.cons (o := ⟨some 50, _, _, _, _, _⟩) rfl (fun K hK => ?_) AllReadyH.nil
        (try rw [if_pos (by rfl)])
        go_simp
        refine (HT3.out _ HB8.out).mono ?_; rintro e W9 ⟨rfl, hb9⟩; have HB9 := Lib.hid hb9; clear hb9
        try dsimp only
        refine hK.out _ _ trivial (fun hHeld => ?_)
        clear hK K
        try simp only [Act.put, List.setIfInBounds_toArray, List.set_cons_zero, List.set_cons_succ]
        refine wpAnyH_ready (rs := [28]) (by kernel_rfl) (by simp) ?_
        refine AllReadyH.cons (o := ⟨some 51, _, _, _, _, _⟩) rfl (fun K hK => ?_) AllReadyH.nil
        (try rw [if_pos (by rfl)])
        go_simp
        refine (HND.out _ HB9.out).mono ?_; rintro e W10 ⟨rfl, hb10⟩; have HB10 := Lib.hid hb10; clear hb10
        try dsimp only
        refine hK.out _ _ trivial (fun hHeld => ?_)
        clear hK K
        try simp only [Act.put, List.setIfInBounds_toArray, List.set_cons_zero, List.set_cons_succ]
        refine wpAnyH_take (i := 29) (oi := ⟨some 52, _, _, _, _, _⟩) (v := ?_) rfl (by kernel_rfl) (by kernel_rfl) (by kernel_rfl) (fun _ _ _ h => h) (Or.inl ⟨by rfl, ?_⟩) (by assumption) ?_
        rotate_left
        · intro w hSw; (try dsimp only at hSw); go_simp; try (with_reducible rfl)
        rotate_left 0
        try simp only [Act.put, List.setIfInBounds_toArray, List.set_cons_zero, List.set_cons_succ]
        refine wpAnyH_take (i := 30) (oi := ⟨some 53, _, _, _, _, _⟩) (v := ?_) rfl (by kernel_rfl) (by kernel_rfl) (by kernel_rfl) (fun _ _ _ h => h) (Or.inl ⟨by rfl, ?_⟩) (by assumption) ?_
        rotate_left
        · intro w hSw; (try dsimp only at hSw); go_simp; try (with_reducible rfl)
        rotate_left 0
        try simp only [Act.put, List.setIfInBounds_toArray, List.set_cons_zero, List.set_cons_succ]
        refine wpAnyH_take (i := 31) (oi := ⟨some 2, _, _, _, _, _⟩) (v := ?_) rfl (by kernel_rfl) (by kernel_rfl) (by kernel_rfl) (fun _ _ _ h => h) (Or.inl ⟨by rfl, ?_⟩) (by assumption) ?_
        rotate_left
        · intro w hSw; (try dsimp only at hSw); go_simp; try (with_reducible rfl)
        rotate_left 0
        try simp only [Act.put, List.setIfInBounds_toArray, List.set_cons_zero, List.set_cons_succ]
        refine wpAnyH_done (by kernel_rfl) ?_ _
        go_wp2
        go_ret
        exact ⟨rfl, HB10.out⟩
end Go.Proofs.YtkkanaefngggoaaDoor
