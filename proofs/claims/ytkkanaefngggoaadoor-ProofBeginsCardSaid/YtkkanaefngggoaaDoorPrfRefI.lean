/-
  The reference's Inclusion: of any list of not more than a million leaves and any place in it. No condition.
-/
import Derived.Test.YtkkanaefngggoaaDoorPrfTruth
import Derived.Test.YtkkanaefngggoaaDoorTreeRefR
namespace Go.Proofs.YtkkanaefngggoaaDoor
open Go Go.RowKit Go.Shelf TreeM

/-- A leaf's path, by halves. -/
def incL (l : List D) (a : Nat) : List D :=
  if _h : 2 ≤ l.length then
    if a < half l.length then incL (l.take (half l.length)) a ++ [mth (l.drop (half l.length))]
    else incL (l.drop (half l.length)) (a - half l.length) ++ [mth (l.take (half l.length))]
  else []
termination_by l.length
decreasing_by
  · have := half_lt (n := l.length) _h
    rw [List.length_take]; omega
  · have := half_pos l.length
    rw [List.length_drop]; omega
theorem incL_low {l : List D} {a n K : Nat} (hn : l.length = n) (hK : half n = K) (h2 : 2 ≤ n) (h : a < K) : incL l a = incL (l.take K) a ++ [mth (l.drop K)] := by
  subst hn hK
  conv => lhs; rw [incL]
  rw [dif_pos h2, if_pos h]
theorem incL_high {l : List D} {a n K : Nat} (hn : l.length = n) (hK : half n = K) (h2 : 2 ≤ n) (h : ¬ a < K) : incL l a = incL (l.drop K) (a - K) ++ [mth (l.take K)] := by
  subst hn hK
  conv => lhs; rw [incL]
  rw [dif_pos h2, if_neg h]
theorem incL_end {l : List D} {a n : Nat} (hn : l.length = n) (h2 : ¬ 2 ≤ n) : incL l a = [] := by
  subst hn
  rw [incL, dif_neg h2]
theorem incL_way (l : List D) : ∀ (j a f t : Nat), t - f ≤ j → f ≤ a → a < t → t ≤ l.length → incL ((l.drop f).take (t - f)) (a - f) = (wayP a f t).reverse.map (rtP l) := by
  intro j
  induction j with
  | zero =>
    intro a f t h h1 h2 _
    omega
  | succ j ih =>
    intro a f t h h1 h2 h3
    have hlen : ((l.drop f).take (t - f)).length = t - f := by rw [List.length_take, List.length_drop]; omega
    by_cases h4 : f + 2 ≤ t
    · have hr := inP_range (a := a) h4
      have hh := inP_has (f := f) (t := t) h1 h2
      have hi := ih a (inP a f t).1 (inP a f t).2 (by omega) hh.1 hh.2 (by omega)
      have hlt := half_lt (n := t - f) (by omega)
      rw [wayP_step h4, List.reverse_cons, List.map_append, List.map_cons, List.map_nil, ← hi]
      unfold inP besP rtP
      by_cases h5 : a < f + half (t - f)
      · rw [incL_low hlen rfl (by omega) (by omega), if_pos h5, if_pos h5, List.take_take, Nat.min_eq_left (by omega), List.drop_take, List.drop_drop]
        simp only
        rw [show f + half (t - f) - f = half (t - f) from by omega, show t - f - half (t - f) = t - (f + half (t - f)) from by omega]
      · rw [incL_high hlen rfl (by omega) (by omega), if_neg h5, if_neg h5, List.take_take, Nat.min_eq_left (by omega), List.drop_take, List.drop_drop]
        simp only
        rw [show f + half (t - f) - f = half (t - f) from by omega, show t - f - half (t - f) = t - (f + half (t - f)) from by omega, show a - f - half (t - f) = a - (f + half (t - f)) from by omega]
    · rw [incL_end hlen (by omega), wayP_end h4]
      rfl
theorem inc_way (l : List D) (a : Nat) (ha : a < l.length) : incL l a = (wayP a 0 l.length).reverse.map (rtP l) := by
  have := incL_way l l.length a 0 l.length (by omega) (by omega) ha (Nat.le_refl _)
  simpa using this
/-- An ID more, behind the others. -/
theorem id_more {w W6 : World} {B m : Nat} {v : Value} {L : List D} {f : D} (hw : B ≤ W6.heap.size) (hb : Below w.heap.size w W6) (hBw : w.heap.size ≤ B) (ho : W6.ownsRow B 30 32 v m (idCells L)) (hm : m ≤ 1000000) :
    ∃ g cap W7, (Builtin.append_ #[22, 22] 22 #[v, .slice (some ⟨W6.heap.size, 0, none⟩) 1 1]).run Tryd.prog (W6.alloc (.cells (arr 32 fun i => bv (f i)) 30)) = .ok (.slice (some ⟨g, 0, none⟩) (m + 1) cap) W7 ∧
      W7.ownsRow B 30 32 (.slice (some ⟨g, 0, none⟩) (m + 1) cap) (m + 1) (idCells (L ++ [f])) ∧ Below w.heap.size w W7 := by
  have h1 : Below W6.heap.size W6 (W6.alloc (.cells (arr 32 fun i => bv (f i)) 30)) := (Below.refl _ _).alloc (Nat.le_refl _) _
  have o6 := Turn.own (Turn.of_below h1) ho (fun i hi => by have := (ho.lt i hi).2; omega)
  obtain ⟨g, cap, W7, r, o7, gr, _⟩ := app_id (Nat.le_trans hw h1.size) o6 f (Blk.new _ _ _) (by omega)
  have t7 : Turn (fun i => B ≤ i) W6 W7 := ((Turn.refl _ W6).alloc _).grown gr (fun i hi _ => (ho.lt i hi).1)
  have b7 : Below B W6 W7 := t7.below hw (fun i hi => by omega)
  exact ⟨g, cap, W7, r, by rw [idCells_append, idCells_one]; exact o7, hb.trans (b7.mono hBw)⟩
theorem id_more2 {w W2 : World} {m : Nat} {v : Value} {L : List D} {f : D} (hb : Below w.heap.size w W2) (ho : W2.ownsRow w.heap.size 30 32 v m (idCells L)) (hm : m ≤ 1000000) :
    ∃ g cap W7, (Builtin.append_ #[22, 22] 22 #[v, .slice (some ⟨(W2.alloc (.cells (arr 32 fun i => bv (f i)) 30)).heap.size, 0, none⟩) 1 1]).run Tryd.prog ((W2.alloc (.cells (arr 32 fun i => bv (f i)) 30)).alloc (.cells (arr 32 fun i => bv (f i)) 30)) = .ok (.slice (some ⟨g, 0, none⟩) (m + 1) cap) W7 ∧
      W7.ownsRow w.heap.size 30 32 (.slice (some ⟨g, 0, none⟩) (m + 1) cap) (m + 1) (idCells (L ++ [f])) ∧ Below w.heap.size w W7 := by
  have h1 : Below W2.heap.size W2 (W2.alloc (.cells (arr 32 fun i => bv (f i)) 30)) := (Below.refl _ _).alloc (Nat.le_refl _) _
  have h2 := hb.trans (h1.mono hb.size)
  exact id_more h2.size h2 (Nat.le_refl _) (Turn.own (Turn.of_below h1) ho (fun i hi => by have := (ho.lt i hi).2; omega)) hm
theorem wpList_build_idI {ops : Array Oper} {rest : List Oper} {o : Oper} {a : Act} {w : World} {Q : Exit → Act → World → Prop} (hgd : o.guard = none) (x : Operand) (ho : o.op = .buildSlice 22 1 #[(0, x)]) (f : D) (hx : a.eval x = .agg (arr 32 fun i => bv (f i)))
    (h : wpList Tryd.prog ops Q rest (a.put o.dst (.slice (some ⟨w.heap.size, 0, none⟩) 1 1)) (w.alloc (.cells (arr 32 fun i => bv (f i)) 30))) : wpList Tryd.prog ops Q (o :: rest) a w :=
  wpList_plain hgd fun _ hK => wp_build_idc x ho f (by rw [hx, idc_arr]) (hK _ _ h)
set_option maxRecDepth 100000 in
set_option maxHeartbeats 2000000 in
theorem refInc_any : ∀ (n : Nat) (l : List D) (a : Nat) (v : Value) (w : World), l.length = n → n ≤ 1000000 → a < n → RdI w (fun b => b < w.heap.size) v l →
    Calls Tryd.prog 36 #[v, .int .i64 (a : Int)] w fun e w' => ∃ v', e = .returned v' ∧ ∃ m, m ≤ n ∧ w'.ownsRow w.heap.size 30 32 v' m (idCells (incL l a)) ∧ Below w.heap.size w w' := by
  intro n
  induction n using Nat.strongRecOn with
  | _ n ih =>
    intro l a v w hn hle ha hr
    obtain ⟨A, c, rfl, hlc, _⟩ := id hr
    rw [hn] at hlc hr ⊢
    have HR := Lib.hid hr
    clear hr
    by_cases h2 : 2 ≤ n
    · have hkl := half_lt (n := n) (by omega)
      have hkp := half_pos n
      have HHF := Lib.hid fun W => half_any n (by omega) (by omega) W
      obtain ⟨K, hK⟩ : ∃ K, half n = K := ⟨_, rfl⟩
      rw [hK] at hkl hkp HHF
      have sl1 := run_slice_toN (P := Tryd.prog) 22 30 Tryd.underlying22 32 (by kernel_rfl) A n c K (by omega)
      have sl2 := run_slice_fromI (P := Tryd.prog) 22 30 Tryd.underlying22 (by kernel_rfl) A n c K (by omega)
      have hr1 := HR.out.take (k := K) (by omega)
      have hr2 := HR.out.drop (k := K) (by omega)
      have n2 : ¬ (n : Int) < 2 := by omega
      have n2n : ¬ n < 2 := by omega
      by_cases haK : a < K
      · rw [incL_low hn hK h2 haK]
        have IH : Hid (Calls Tryd.prog 36 #[.slice A K c, .int .i64 (a : Int)] w fun e w' => ∃ v', e = .returned v' ∧ ∃ m, m ≤ K ∧ w'.ownsRow w.heap.size 30 32 v' m (idCells (incL (l.take K) a)) ∧ Below w.heap.size w w') := Lib.hid (ih K hkl (l.take K) a _ w (by rw [List.length_take]; omega) (by omega) haK hr1)
        have HRT : Hid (∀ W, Below w.heap.size w W → Calls Tryd.prog 22 #[.slice (cutI A c K) (n - K) (c - K)] W fun e w' => e = .returned (.agg (arr 32 fun i => bv (mth (l.drop K) i))) ∧ Below W.heap.size W w') := Lib.hid fun W hb => refRoot_any (n - K) (l.drop K) _ W (by rw [List.length_drop]; omega) (by omega) ((hr2.old hb).mono fun b hb' => Nat.lt_of_lt_of_le hb' hb.size)
        obtain ⟨q, hq⟩ : ∃ q, n - K = q := ⟨_, rfl⟩
        obtain ⟨d, hd⟩ : ∃ d, c - K = d := ⟨_, rfl⟩
        obtain ⟨A2, hA2⟩ : ∃ A2, cutI A c K = A2 := ⟨_, rfl⟩
        have hKn : K + q = n := by omega
        rw [hq, hd, hA2] at sl2 HRT
        obtain ⟨ra, hra⟩ : ∃ ra, mth (l.drop K) = ra := ⟨_, rfl⟩
        obtain ⟨PL, hPL⟩ : ∃ PL, incL (l.take K) a = PL := ⟨_, rfl⟩
        rw [hra] at HRT ⊢
        rw [hPL] at IH ⊢
        clear ih hn hK h2 hr1 hr2 hq hd hA2 hra hPL
        have haKi : (a : Int) < (K : Int) := by omega
        go_enter Tryd.func36, Tryd.ntmps36
        go_wp2_with (first
          | (go_at_call 47; refine (HHF.out _).mono ?_; rintro e W0 ⟨rfl, rfl⟩)
          | (go_at_call 36; refine IH.out.mono ?_; rintro e W1 ⟨v', rfl, m, hm, ho, hb⟩; have HO1 := Lib.hid ho; have HB1 := Lib.hid hb; clear ho hb IH)
          | (go_at_call 22; refine (HRT.out _ HB1.out).mono ?_; rintro e W2 ⟨rfl, hb2⟩; have HO2 := Lib.hid (Turn.own (Turn.of_below hb2) HO1.out (fun i hi => by have := (HO1.out.lt i hi).2; omega)); have HB2 := Lib.hid (HB1.out.trans (hb2.mono HB1.out.size)); obtain ⟨g, cap, W7, hrun, ho7, hb7⟩ := id_more2 (f := ra) HB2.out HO2.out (by omega); have R7 := Lib.hid hrun; have HO7 := Lib.hid ho7; have HB7 := Lib.hid hb7; clear hrun ho7 hb7 hb2 HRT)
          | (refine wpList_store_row rfl 30 _ _ rfl W2.heap.size (arr 32 fun i => bv (ra i)) rfl rfl 30 _ (heap_alloc_new W2 _) (by rw [arr_size]; kernel_rfl) (by rw [arr_size]; rfl) (arr_all_bv _ _) ?_; rw [World.setRow_alloc_new])
          | (refine wpList_load_arr rfl 30 _ rfl W2.heap.size rfl 30 (arr 32 fun i => bv (ra i)) _ (Blk.new W2 _ _) Tryd.underlying30 rfl (by rw [arr_size]; kernel_rfl) ?_)
          | (guard_target = wpList _ _ _ (Oper.mk _ (.buildSlice _ _ _) _ _ _ _ :: _) _ _; go_must (refine wpList_build_idI rfl _ rfl ra rfl ?_))
          | (at_builtin; refine wpList_append_run rfl (.tmp 28) (.tmp 30) _ _ rfl _ _ rfl rfl _ _ R7.out ?_))
        go_ret
        exact ⟨_, rfl, m + 1, by omega, HO7.out, HB7.out⟩
      · rw [incL_high hn hK h2 haK]
        have IH : Hid (Calls Tryd.prog 36 #[.slice (cutI A c K) (n - K) (c - K), .int .i64 ((a : Int) - (K : Int))] w fun e w' => ∃ v', e = .returned v' ∧ ∃ m, m ≤ n - K ∧ w'.ownsRow w.heap.size 30 32 v' m (idCells (incL (l.drop K) (a - K))) ∧ Below w.heap.size w w') := Lib.hid (by
          have := ih (n - K) (by omega) (l.drop K) (a - K) _ w (by rw [List.length_drop]; omega) (by omega) (by omega) hr2
          rw [show ((a - K : Nat) : Int) = (a : Int) - (K : Int) from by omega] at this
          exact this)
        have HRT : Hid (∀ W, Below w.heap.size w W → Calls Tryd.prog 22 #[.slice A K c] W fun e w' => e = .returned (.agg (arr 32 fun i => bv (mth (l.take K) i))) ∧ Below W.heap.size W w') := Lib.hid fun W hb => refRoot_any K (l.take K) _ W (by rw [List.length_take]; omega) (by omega) ((hr1.old hb).mono fun b hb' => Nat.lt_of_lt_of_le hb' hb.size)
        obtain ⟨q, hq⟩ : ∃ q, n - K = q := ⟨_, rfl⟩
        obtain ⟨d, hd⟩ : ∃ d, c - K = d := ⟨_, rfl⟩
        obtain ⟨A2, hA2⟩ : ∃ A2, cutI A c K = A2 := ⟨_, rfl⟩
        have hKn : K + q = n := by omega
        rw [hq, hd, hA2] at sl2 IH
        obtain ⟨ra, hra⟩ : ∃ ra, mth (l.take K) = ra := ⟨_, rfl⟩
        obtain ⟨PL, hPL⟩ : ∃ PL, incL (l.drop K) (a - K) = PL := ⟨_, rfl⟩
        rw [hra] at HRT ⊢
        rw [hPL] at IH ⊢
        clear ih hn hK h2 hr1 hr2 hq hd hA2 hra hPL
        have haKi : ¬ (a : Int) < (K : Int) := by omega
        have ham : (a : Int) ≤ 1000000 := by omega
        have hKm : (K : Int) ≤ 1000000 := by omega
        have ha0 : (0 : Int) ≤ (a : Int) := by omega
        have hK0 : (0 : Int) ≤ (K : Int) := by omega
        go_enter Tryd.func36, Tryd.ntmps36
        go_wp2_with (first
          | (go_at_call 47; refine (HHF.out _).mono ?_; rintro e W0 ⟨rfl, rfl⟩)
          | (go_at_call 36; refine IH.out.mono ?_; rintro e W1 ⟨v', rfl, m, hm, ho, hb⟩; have HO1 := Lib.hid ho; have HB1 := Lib.hid hb; clear ho hb IH)
          | (go_at_call 22; refine (HRT.out _ HB1.out).mono ?_; rintro e W2 ⟨rfl, hb2⟩; have HO2 := Lib.hid (Turn.own (Turn.of_below hb2) HO1.out (fun i hi => by have := (HO1.out.lt i hi).2; omega)); have HB2 := Lib.hid (HB1.out.trans (hb2.mono HB1.out.size)); obtain ⟨g, cap, W7, hrun, ho7, hb7⟩ := id_more2 (f := ra) HB2.out HO2.out (by omega); have R7 := Lib.hid hrun; have HO7 := Lib.hid ho7; have HB7 := Lib.hid hb7; clear hrun ho7 hb7 hb2 HRT)
          | (refine wpList_store_row rfl 30 _ _ rfl W2.heap.size (arr 32 fun i => bv (ra i)) rfl rfl 30 _ (heap_alloc_new W2 _) (by rw [arr_size]; kernel_rfl) (by rw [arr_size]; rfl) (arr_all_bv _ _) ?_; rw [World.setRow_alloc_new])
          | (refine wpList_load_arr rfl 30 _ rfl W2.heap.size rfl 30 (arr 32 fun i => bv (ra i)) _ (Blk.new W2 _ _) Tryd.underlying30 rfl (by rw [arr_size]; kernel_rfl) ?_)
          | (guard_target = wpList _ _ _ (Oper.mk _ (.buildSlice _ _ _) _ _ _ _ :: _) _ _; go_must (refine wpList_build_idI rfl _ rfl ra rfl ?_))
          | (at_builtin; refine wpList_append_run rfl (.tmp 43) (.tmp 45) _ _ rfl _ _ rfl rfl _ _ R7.out ?_))
        go_ret
        exact ⟨_, rfl, m + 1, by omega, HO7.out, HB7.out⟩
    · rw [incL_end hn h2]
      have n2 : (n : Int) < 2 := by omega
      have n2n : n < 2 := by omega
      clear ih hn hle h2
      go_enter Tryd.func36, Tryd.ntmps36
      go_wp2
      go_ret
      exact ⟨_, rfl, 0, Nat.zero_le _, World.ownsRow_nil _ _ _ _, Below.refl _ _⟩
end Go.Proofs.YtkkanaefngggoaaDoor
