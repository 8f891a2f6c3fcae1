/-
  TreeSteps: for every list of leaves, in whatever memory in which the tables lie. No condition.
-/
import Derived.Test.YtkkanaefngggoaaDoorTreeGo
import Derived.Deep.DeepMust
namespace Go.Proofs.YtkkanaefngggoaaDoor
open Go Go.RowKit Go.Shelf TreeM

/-- What a tree's own blocks are. -/
theorem TLeft.own {w0 w w' : World} {Z : Nat → Prop} {g : Nat} {L : List D} (h : TLeft Z g L w w') (hb0 : Below w0.heap.size w0 w) (hZ : ∀ i, Z i → w0.heap.size ≤ i) : ∃ Z', TreeAt w' Z' g L ∧ Below w0.heap.size w0 w' ∧ ∀ i, Z' i → w0.heap.size ≤ i := by
  obtain ⟨Z', h1, h2, h3⟩ := h
  refine ⟨Z', h1, hb0.trans (h2.below hb0.size fun i hi hz => by have := hZ i hz; omega), fun i hi => ?_⟩
  have := hb0.size
  rcases h3 i hi with h | h
  · exact hZ i h
  · omega
/-- A leaf more, handed in as a slice of its own. -/
theorem append_one (w0 : World) (hT : Tables w0) (Z : Nat → Prop) (g : Nat) (L : List D) (f : D) (w wr : World) (h : TLeft Z g L w wr) (hb0 : Below w0.heap.size w0 w) (hZ : ∀ i, Z i → w0.heap.size ≤ i) (hn : L.length < 1000000) :
    Calls Tryd.prog 20 #[.pointer (some ⟨g, 0, none⟩), .slice (some ⟨wr.heap.size, 0, none⟩) 1 1] (wr.alloc (.cells (arr 32 fun i => bv (f i)) 30)) fun e w' => e = .returned (.int .i64 0) ∧ TLeft Z g (L ++ [f]) w w' := by
  obtain ⟨Z', h1, h2, h3⟩ := id h
  obtain ⟨Z'', k1, k2, k3⟩ := h.own hb0 hZ
  have hcs : (arr 32 fun i => bv (f i)) = (idCells [f]).toArray := by rw [idCells_one, idc_arr]
  have hb : Below wr.heap.size wr (wr.alloc (.cells (arr 32 fun i => bv (f i)) 30)) := (Below.refl _ _).alloc (Nat.le_refl _) _
  have hrd : RdI (wr.alloc (.cells (arr 32 fun i => bv (f i)) 30)) (fun b => b = wr.heap.size) (.slice (some ⟨wr.heap.size, 0, none⟩) 1 1) [f] := by
    rw [hcs]
    exact rdI_new wr [f] 1 rfl (by omega)
  have hlt : ∀ i, Z' i → i < wr.heap.size := by
    obtain ⟨_, _, _, _, _, q, _⟩ := h1
    exact q
  have hZ' : ∀ i, Z' i → w0.heap.size ≤ i := fun i hi => by
    have := hb0.size
    rcases h3 i hi with q | q
    · exact hZ i q
    · omega
  refine (treeAppend_any w0 hT Z' g L _ [f] _ (RangeAt.below h1 hb) hZ' (k2.trans (hb.mono k2.size)) (fun b => b = wr.heap.size) hrd (fun b hb' => ⟨by rw [hb']; simp, fun hz => by have := hlt b hz; omega⟩) (by simp; omega)).mono ?_
  rintro e w' ⟨rfl, Z3, q1, q2, q3⟩
  refine ⟨rfl, Z3, q1, (h2.trans (Turn.of_new hb Z) (fun _ _ hi => hi)).trans q2 (fun i hi hz => (h3 i hz).resolve_right (by omega)), fun i hi => ?_⟩
  have := h2.size
  have := hb.size
  rcases q3 i hi with q | q
  · exact h3 i q
  · exact .inr (by omega)
theorem wpList_build_idA {ops : Array Oper} {rest : List Oper} {o : Oper} {a : Act} {w : World} {Q : Exit → Act → World → Prop} (hgd : o.guard = none) (x : Operand) (ho : o.op = .buildSlice 22 1 #[(0, x)]) (f : D) (hx : a.eval x = .agg (arr 32 fun i => bv (f i)))
    (h : wpList Tryd.prog ops Q rest (a.put o.dst (.slice (some ⟨w.heap.size, 0, none⟩) 1 1)) (w.alloc (.cells (arr 32 fun i => bv (f i)) 30))) : wpList Tryd.prog ops Q (o :: rest) a w :=
  wpList_plain hgd fun _ hK => wp_build_idc x ho f (by rw [hx, idc_arr]) (hK _ _ h)
set_option maxRecDepth 100000 in
set_option maxHeartbeats 1000000 in
theorem steps_any (v : Value) (l : List D) (w : World) (hT : Tables w) (hr : RdI w (fun b => b < w.heap.size) v l) :
    Calls Tryd.prog 8 #[v] w fun e w' => e = .returned (.bool true) ∧ Below w.heap.size w w' := by
  obtain ⟨A, c, rfl, hlc, _⟩ := id hr
  obtain ⟨n, hn⟩ : ∃ n, l.length = n := ⟨_, rfl⟩
  obtain ⟨q, hq⟩ : ∃ q, min n 80 = q := ⟨_, rfl⟩
  rw [hn] at hr hlc ⊢
  have hr1 := hr.take (k := q) (by omega)
  obtain ⟨l1, hl1⟩ : ∃ l1, l.take q = l1 := ⟨_, rfl⟩
  have hn1 : l1.length = q := by rw [← hl1, List.length_take]; omega
  rw [hl1] at hr1
  have hq80 : q ≤ 80 := by omega
  have HCUT := Lib.hid fun W => cut_any A n c 80 q hlc hq (by omega) W
  have HGR := Lib.hid (grows_any w hT)
  have HOF0 : Hid (∀ W, Below w.heap.size w W → Calls Tryd.prog 19 #[.slice none 0 0] W fun e w' => ∃ g Z, e = .returned (.pointer (some ⟨g, 0, none⟩)) ∧ TreeAt w' Z g [] ∧ Below w.heap.size w w' ∧ ∀ i, Z i → w.heap.size ≤ i) := Lib.hid fun W hb => (treeOf_any (.slice none 0 0) [] W (hT.below hb) (RdI.nil _ _ _ _) (by simp)).mono (by
    rintro e w' ⟨g, Z, h1, h2, h3, h4⟩
    exact ⟨g, Z, h1, h2, hb.trans (h3.mono hb.size), fun i hi => Nat.le_trans hb.size (h4 i hi)⟩)
  have HR1 := Lib.hid hr1
  have HN1 := Lib.hid hn1
  have HT := Lib.hid hT
  clear hr hr1 hl1 hn hq hlc hn1 hT
  go_enter Tryd.func8, Tryd.ntmps8
  go_wp2_with (first
    | (go_at_call 17; refine HGR.out.mono ?_; rintro e W1 ⟨rfl, hb1⟩; have HB1 := Lib.hid hb1; clear hb1)
    | (go_at_call 18; refine (HCUT.out _).mono ?_; rintro e W2 ⟨rfl, rfl⟩)
    | (go_at_call 19; refine (HOF0.out _ HB1.out).mono ?_; rintro e W2 ⟨g, Z, rfl, ht, hb, hz⟩; have HT2 := Lib.hid ht; have HB2 := Lib.hid hb; have HZ2 := Lib.hid hz; clear ht hb hz))
  go_loopw [18] (fun i wr => ∃ k : Nat, k ≤ q ∧ i = .int .i64 (k : Int) ∧ TLeft Z g (l1.take k) W2 wr) (fun i _ => q - (intOf i).toNat)
  case atStart => exact ⟨0, by omega, rfl, by rw [List.take_zero]; exact TLeft.refl HT2.out⟩
  case round =>
    obtain ⟨k, hk, rfl, hL⟩ := hrel
    by_cases hlt : k < q
    · obtain ⟨Z3, hT3, hb3, hz3⟩ := hL.own HB2.out HZ2.out
      obtain ⟨ad, rfl, hok, hcell⟩ := (HR1.out.old hb3).at_ hlt
      have hkn : (k : Int) < (q : Int) := by omega
      have hk80 : (k : Int) ≤ 80 := by omega
      have hk0 : (0 : Int) ≤ (k : Int) := by omega
      have hap := append_one w HT.out Z g (l1.take k) (l1.getD k dz) W2 (wr.alloc (.cells (arr 32 fun i => bv (l1.getD k dz i)) 30)) (hL.below ((Below.refl _ _).alloc (Nat.le_refl _) _)) HB2.out HZ2.out (by rw [List.length_take]; omega)
      rw [← take_succ_get l1 k (by rw [HN1.out]; exact hlt), World.size_alloc] at hap
      have hlen : (l1.take (k + 1)).length = k + 1 := by rw [List.length_take, HN1.out]; omega
      have HTOP : Hid (∀ W4, TLeft Z g (l1.take (k + 1)) W2 W4 → Calls Tryd.prog 25 #[.pointer (some ⟨g, 0, none⟩)] W4 fun e w' => ∃ A c, e = .returned (.slice A (pop (k + 1)) c) ∧ TLeft Z g (l1.take (k + 1)) W2 w') := Lib.hid fun W4 h4 => by
        obtain ⟨Z4, q1, q2, q3⟩ := id h4
        refine (treeTops_any Z4 g _ W4 q1).mono ?_
        rintro e w' ⟨v', rfl, ho, hb⟩
        obtain ⟨A, c, rfl, _⟩ := own_len ho
        have hpl : (tops (l1.take (k + 1))).length = pop (k + 1) := by
          obtain ⟨_, _, _, _, _, _, hp, _⟩ := q1
          rw [hp, hlen]
        rw [hpl]
        exact ⟨A, c, rfl, h4.below hb⟩
      have HSZ : Hid (∀ W4, TLeft Z g (l1.take (k + 1)) W2 W4 → Calls Tryd.prog 23 #[.pointer (some ⟨g, 0, none⟩)] W4 fun e w' => e = .returned (.int .i64 ((k : Int) + 1)) ∧ w' = W4) := Lib.hid fun W4 h4 => by
        obtain ⟨Z4, q1, q2, q3⟩ := id h4
        have := treeSize_any Z4 g _ W4 q1
        rw [hlen] at this
        exact this
      obtain ⟨f, hf⟩ : ∃ f, l1.getD k dz = f := ⟨_, rfl⟩
      rw [hf] at hcell hap
      rw [Nat.mul_comm 32 k] at hcell
      obtain ⟨L1, hL1⟩ : ∃ L1, l1.take (k + 1) = L1 := ⟨_, rfl⟩
      rw [hL1] at hap HTOP HSZ
      have HC := Lib.hid hcell
      have HAP := Lib.hid hap
      have HL1 := Lib.hid hL1
      clear hf hcell hap hlen hL1 hL hok hT3 hb3 hz3
      go_wp2_with (first
        | (refine wpList_load_at rfl 30 _ rfl (ad.add (k * 32)) rfl 32 (fun i => bv (f i)) 5 HC.out Tryd.underlying30 (by kernel_rfl) ?_)
        | (refine wpList_store_row rfl 30 _ _ rfl wr.heap.size (arr 32 fun i => bv (f i)) rfl rfl 30 _ (heap_alloc_new wr _) (by rw [arr_size]; kernel_rfl) (by rw [arr_size]; rfl) (arr_all_bv _ _) ?_; rw [World.setRow_alloc_new])
        | (refine wpList_load_arr rfl 30 _ rfl wr.heap.size rfl 30 (arr 32 fun i => bv (f i)) _ (Blk.newAt wr _ rfl rfl) Tryd.underlying30 rfl (by rw [arr_size]; kernel_rfl) ?_)
        | (guard_target = wpList _ _ _ (Oper.mk _ (.buildSlice _ _ _) _ _ _ _ :: _) _ _; go_must (refine wpList_build_idA rfl _ rfl f rfl ?_))
        | (go_at_call 20; refine HAP.out.mono ?_; rintro e W4 ⟨rfl, h4⟩; have H4 := Lib.hid h4; clear h4))
      go_loopw [6, 7] (fun o m wr' => ∃ x y : Nat, o = .int .i64 (x : Int) ∧ m = .int .i64 (y : Int) ∧ x + pop y = pop (k + 1) ∧ y ≤ 81 ∧ wr' = W4) (fun _ m _ => (intOf m).toNat)
      case atStart => exact ⟨0, k + 1, rfl, by go_num, by omega, by omega, rfl⟩
      case round =>
        obtain ⟨x, y, rfl, rfl, hxy, hy, rfl⟩ := hrel
        have hps := pop_step y
        have hp7 : pop (k + 1) ≤ 7 := pop_le 7 (k + 1) (by omega)
        by_cases h0 : y = 0
        · subst h0
          rw [pop_zero] at hxy
          obtain rfl : x = pop (k + 1) := by omega
          have hpx : ((pop (k + 1) : Nat) : Int) ≤ 80 := by omega
          clear hxy hps
          generalize pop (k + 1) = pk at *
          go_wp2_with (first
            | (go_at_call 25; refine (HTOP.out _ H4.out).mono ?_; rintro e W5 ⟨A5, c5, rfl, h5⟩; have H5 := Lib.hid h5; clear h5)
            | (go_at_call 23; refine (HSZ.out _ H5.out).mono ?_; rintro e W6 ⟨rfl, rfl⟩))
          go_roundw
          case rel => exact ⟨k + 1, by omega, by go_num, by rw [HL1.out]; exact H5.out⟩
          case measure => simp [intOf]; omega
        · have hy0 : (y : Int) > 0 := by omega
          have hy1 : (0 : Int) < (y : Int) := by omega
          have hpop := pop_le 7 y (by omega)
          have hpos : y % 2 ≤ pop y := by omega
          have hb1 : (x : Int) + (y : Int) % 2 ≤ 1000 := by omega
          have hb2 : 0 ≤ (x : Int) + (y : Int) % 2 := by omega
          have HPS := Lib.hid hps
          clear hps hpop hpos hp7
          go_wp2
          go_roundw
          case rel => exact ⟨x + y % 2, y / 2, by go_num, by go_num, by have := HPS.out; omega, by omega, by first | rfl | trivial⟩
          case measure => simp [intOf]; omega
    · obtain rfl : k = q := by omega
      have e : l1.take k = l1 := by rw [← HN1.out]; simp
      rw [e] at hL
      obtain ⟨Z3, hT3, hb3, hz3⟩ := hL.own HB2.out HZ2.out
      have HOF : Hid (Calls Tryd.prog 19 #[.slice A k c] wr fun e w' => ∃ g' Z', e = .returned (.pointer (some ⟨g', 0, none⟩)) ∧ TreeAt w' Z' g' l1 ∧ TreeAt w' Z3 g l1 ∧ Below w.heap.size w w') := Lib.hid ((treeOf_any (.slice A k c) l1 wr (HT.out.below hb3) ((HR1.out.old hb3).mono fun b hb => Nat.lt_of_lt_of_le hb hb3.size) (by rw [HN1.out]; omega)).mono (by
        rintro e w' ⟨g', Z', h1, h2, h3, _⟩
        exact ⟨g', Z', h1, h2, RangeAt.below hT3 h3, hb3.trans (h3.mono hb3.size)⟩))
      have HRT : Hid (∀ g Z W, Below w.heap.size w W → TreeAt W Z g l1 → Calls Tryd.prog 21 #[.pointer (some ⟨g, 0, none⟩)] W fun e w' => e = .returned (.agg (arr 32 fun i => bv (mth l1 i))) ∧ Below W.heap.size W w') := Lib.hid fun g Z W hb h => callsIn_wide.1 (treeRoot_any Z g l1 W (HT.out.below hb) h)
      have HTP : Hid (∀ g Z W, TreeAt W Z g l1 → Calls Tryd.prog 25 #[.pointer (some ⟨g, 0, none⟩)] W fun e w' => ∃ A c, e = .returned (.slice A (tops l1).length c) ∧ RdI w' (fun b => b < w'.heap.size) (.slice A (tops l1).length c) (tops l1) ∧ Below W.heap.size W w') := Lib.hid fun g Z W h => (treeTops_any Z g l1 W h).mono (by
        rintro e w' ⟨v', rfl, ho, hb⟩
        have hp := pop_le 7 l1.length (by rw [HN1.out]; omega)
        obtain ⟨_, _, _, _, _, _, hp2, _⟩ := h
        obtain ⟨A, c, rfl, _⟩ := own_len ho
        exact ⟨A, c, rfl, (own_rd ho (by omega)).mono fun b hb => hb.2.2, hb⟩)
      have eq1 := eql_id (mth l1) (mth l1)
      rw [beq_self_eq_true] at eq1
      have HSM := Lib.hid fun v v' W h h' => same_true v v' (tops l1) W h h' (by
        have hp := pop_le 7 l1.length (by rw [HN1.out]; omega)
        obtain ⟨_, _, _, _, _, _, hp2, _⟩ := hT3
        omega)
      have HT3 := Lib.hid hT3
      clear hL e hT3 hb3 hz3
      generalize (arr 32 fun i => bv (mth l1 i)) = R at *
      generalize (tops l1).length = nt at *
      go_wp2_with (first
        | (go_at_call 19; refine HOF.out.mono ?_; rintro e W5 ⟨g', Z', rfl, h1, h2, h3⟩; have HA5 := Lib.hid h2; have HC5 := Lib.hid h1; have HB5 := Lib.hid h3; clear h1 h2 h3)
        | (go_at_call 21; refine (HRT.out g Z3 _ HB5.out HA5.out).mono ?_; rintro e W6 ⟨rfl, hb6⟩; have HB6 := Lib.hid (HB5.out.trans (hb6.mono HB5.out.size)); have HA6 := Lib.hid (RangeAt.below HA5.out hb6); have HC6 := Lib.hid (RangeAt.below HC5.out hb6); clear hb6 HA5 HC5)
        | (go_at_call 21; refine (HRT.out g' Z' _ HB6.out HC6.out).mono ?_; rintro e W7 ⟨rfl, hb7⟩; have HB7 := Lib.hid (HB6.out.trans (hb7.mono HB6.out.size)); have HA7 := Lib.hid (RangeAt.below HA6.out hb7); have HC7 := Lib.hid (RangeAt.below HC6.out hb7); clear hb7 HA6 HC6)
        | (go_at_call 25; refine (HTP.out g Z3 _ HA7.out).mono ?_; rintro e W8 ⟨A8, c8, rfl, hr8, hb8⟩; have HB8 := Lib.hid (HB7.out.trans (hb8.mono HB7.out.size)); have HC8 := Lib.hid (RangeAt.below HC7.out hb8); have HR8 := Lib.hid hr8; clear hb8 hr8 HA7 HC7)
        | (go_at_call 25; refine (HTP.out g' Z' _ HC8.out).mono ?_; rintro e W9 ⟨A9, c9, rfl, hr9, hb9⟩; have HB9 := Lib.hid (HB8.out.trans (hb9.mono HB8.out.size)); have HS9 := Lib.hid (HSM.out _ _ _ (HR8.out.below hb9) hr9); clear hb9 hr9 HC8)
        | (go_at_call 24; refine HS9.out.mono ?_; rintro e W10 ⟨rfl, hb10⟩; have HB10 := Lib.hid (HB9.out.trans (hb10.mono HB9.out.size)); clear hb10))
      go_ret
      exact ⟨rfl, HB10.out⟩
end Go.Proofs.YtkkanaefngggoaaDoor
