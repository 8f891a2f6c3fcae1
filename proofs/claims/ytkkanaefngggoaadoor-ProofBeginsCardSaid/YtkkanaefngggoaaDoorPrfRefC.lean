/-
  The reference's Consistency: of any list of not more than a million leaves that is no shorter than its elder. No condition.
-/
import Derived.Test.YtkkanaefngggoaaDoorPrfRefI
namespace Go.Proofs.YtkkanaefngggoaaDoor
open Go Go.RowKit Go.Shelf TreeM

/-- A link's path, by halves; whether the part begins where the list does. -/
def subL (l : List D) (m : Nat) (b : Bool) : List D :=
  if m = l.length then (if b then [] else [mth l])
  else if _h : 2 ≤ l.length then
    if m ≤ half l.length then subL (l.take (half l.length)) m b ++ [mth (l.drop (half l.length))]
    else subL (l.drop (half l.length)) (m - half l.length) false ++ [mth (l.take (half l.length))]
  else []
termination_by l.length
decreasing_by
  · have := half_lt (n := l.length) _h
    rw [List.length_take]; omega
  · have := half_pos l.length
    rw [List.length_drop]; omega
theorem subL_low {l : List D} {m n K : Nat} {b : Bool} (hn : l.length = n) (hK : half n = K) (h2 : 2 ≤ n) (hm : m ≠ n) (h : m ≤ K) : subL l m b = subL (l.take K) m b ++ [mth (l.drop K)] := by
  subst hn hK
  conv => lhs; rw [subL]
  rw [if_neg hm, dif_pos h2, if_pos h]
theorem subL_high {l : List D} {m n K : Nat} {b : Bool} (hn : l.length = n) (hK : half n = K) (h2 : 2 ≤ n) (hm : m ≠ n) (h : ¬ m ≤ K) : subL l m b = subL (l.drop K) (m - K) false ++ [mth (l.take K)] := by
  subst hn hK
  conv => lhs; rw [subL]
  rw [if_neg hm, dif_pos h2, if_neg h]
theorem subL_end {l : List D} {m n : Nat} {b : Bool} (hn : l.length = n) (hm : m = n) : subL l m b = if b then [] else [mth l] := by
  subst hn hm
  rw [subL, if_pos rfl]
theorem subL_link (l : List D) (m : Nat) : ∀ (j f t : Nat), t - f ≤ j → f < m → m ≤ t → t ≤ l.length → subL ((l.drop f).take (t - f)) (m - f) (decide (f = 0)) = (linkP m f t).reverse.map (rtP l) := by
  intro j
  induction j with
  | zero =>
    intro f t h h1 h2 _
    omega
  | succ j ih =>
    intro f t h h1 h2 h3
    have hlen : ((l.drop f).take (t - f)).length = t - f := by rw [List.length_take, List.length_drop]; omega
    by_cases h4 : m < t
    · have h5 : f + 2 ≤ t := by omega
      have hr := inP_range (a := m - 1) h5
      have hh := inP_has (a := m - 1) (f := f) (t := t) (by omega) (by omega)
      have hi := ih (inP (m - 1) f t).1 (inP (m - 1) f t).2 (by omega) (by omega) (by omega) (by omega)
      have hlt := half_lt (n := t - f) (by omega)
      have hp := half_pos (t - f)
      rw [linkP_step h4 h5, List.reverse_cons, List.map_append, List.map_cons, List.map_nil, ← hi]
      unfold inP besP rtP
      by_cases h6 : m - 1 < f + half (t - f)
      · rw [subL_low hlen rfl (by omega) (by omega) (by omega), if_pos h6, if_pos h6, List.take_take, Nat.min_eq_left (by omega), List.drop_take, List.drop_drop]
        simp only
        rw [show f + half (t - f) - f = half (t - f) from by omega, show t - f - half (t - f) = t - (f + half (t - f)) from by omega]
      · rw [subL_high hlen rfl (by omega) (by omega) (by omega), if_neg h6, if_neg h6, List.take_take, Nat.min_eq_left (by omega), List.drop_take, List.drop_drop]
        simp only
        rw [show f + half (t - f) - f = half (t - f) from by omega, show t - f - half (t - f) = t - (f + half (t - f)) from by omega, show m - f - half (t - f) = m - (f + half (t - f)) from by omega, decide_eq_false (show ¬ f + half (t - f) = 0 by omega)]
    · obtain rfl : m = t := by omega
      rw [linkP_end (by omega), subL_end hlen rfl]
      by_cases h5 : f > 0
      · rw [if_pos h5, decide_eq_false (show ¬ f = 0 by omega)]
        simp [rtP]
      · rw [if_neg h5, decide_eq_true (show f = 0 by omega)]
        simp
theorem con_link (l : List D) (m : Nat) (h1 : 1 ≤ m) (hm : m ≤ l.length) : subL l m true = (linkP m 0 l.length).reverse.map (rtP l) := by
  have := subL_link l m l.length 0 l.length (by omega) (by omega) hm (Nat.le_refl _)
  simpa using this
/-- A row of one ID that has just been laid. -/
theorem own_fresh (w : World) (f : D) : (w.alloc (.cells (arr 32 fun i => bv (f i)) 30)).ownsRow w.heap.size 30 32 (.slice (some ⟨w.heap.size, 0, none⟩) 1 1) 1 (idCells [f]) := by
  refine ⟨by rw [idCells_length]; rfl, .inr ⟨w.heap.size, 1, (arr 32 fun i => bv (f i)), rfl, Nat.le_refl _, Blk.new w _ _, Nat.le_refl _, by unfold maxLen; omega, by rw [arr_size], ?_⟩⟩
  rw [List.take_of_length_le (by simp [arr_size]), idCells_one, idc_arr]
set_option maxRecDepth 100000 in
set_option maxHeartbeats 2000000 in
theorem refSub_any : ∀ (n : Nat) (l : List D) (a : Nat) (b : Bool) (v : Value) (w : World), l.length = n → n ≤ 1000000 → 1 ≤ a → a ≤ n → RdI w (fun b => b < w.heap.size) v l →
    Calls Tryd.prog 56 #[v, .int .i64 (a : Int), .bool b] w fun e w' => ∃ v', e = .returned v' ∧ ∃ m, m ≤ n ∧ w'.ownsRow w.heap.size 30 32 v' m (idCells (subL l a b)) ∧ Below w.heap.size w w' := by
  intro n
  induction n using Nat.strongRecOn with
  | _ n ih =>
    intro l a b v w hn hle ha1 ha hr
    obtain ⟨A, c, rfl, hlc, _⟩ := id hr
    rw [hn] at hlc hr ⊢
    have HR := Lib.hid hr
    clear hr
    by_cases h2 : a = n
    · subst h2
      rw [subL_end hn rfl]
      cases b with
      | true =>
        clear ih hn
        go_enter Tryd.func56, Tryd.ntmps56
        go_wp2
        go_ret
        exact ⟨_, rfl, 0, Nat.zero_le _, World.ownsRow_nil _ _ _ _, Below.refl _ _⟩
      | false =>
        have HRT := Lib.hid (refRoot_any a l _ w hn hle HR.out)
        obtain ⟨ra, hra⟩ : ∃ ra, mth l = ra := ⟨_, rfl⟩
        rw [hra] at HRT
        have e1 : (if (false : Bool) = true then ([] : List D) else [mth l]) = [ra] := by rw [hra]; rfl
        rw [e1]
        clear ih hn hra e1
        go_enter Tryd.func56, Tryd.ntmps56
        go_wp2_with (first
          | (go_at_call 22; refine HRT.out.mono ?_; rintro e W2 ⟨rfl, hb2⟩; have HB2 := Lib.hid hb2; clear hb2 HRT)
          | (guard_target = wpList _ _ _ (Oper.mk _ (.buildSlice _ _ _) _ _ _ _ :: _) _ _; go_must (refine wpList_build_idI rfl _ rfl ra rfl ?_)))
        go_ret
        exact ⟨_, rfl, 1, ha1, (own_fresh W2 ra).mono HB2.out.size, HB2.out.trans ((((Below.refl _ W2).alloc (Nat.le_refl _) _)).mono HB2.out.size)⟩
    · have hne : ¬ (a : Int) = (n : Int) := by omega
      have hbq : ((a : Int) == (n : Int)) = false := beq_eq_false_iff_ne.2 hne
      have hkl := half_lt (n := n) (by omega)
      have hkp := half_pos n
      have HHF := Lib.hid fun W => half_any n (by omega) (by omega) W
      obtain ⟨K, hK⟩ : ∃ K, half n = K := ⟨_, rfl⟩
      rw [hK] at hkl hkp HHF
      have sl1 := run_slice_toN (P := Tryd.prog) 22 30 Tryd.underlying22 32 (by kernel_rfl) A n c K (by omega)
      have sl2 := run_slice_fromI (P := Tryd.prog) 22 30 Tryd.underlying22 (by kernel_rfl) A n c K (by omega)
      have hr1 := HR.out.take (k := K) (by omega)
      have hr2 := HR.out.drop (k := K) (by omega)
      by_cases haK : a ≤ K
      · rw [subL_low hn hK (by omega) h2 haK]
        have IH : Hid (Calls Tryd.prog 56 #[.slice A K c, .int .i64 (a : Int), .bool b] w fun e w' => ∃ v', e = .returned v' ∧ ∃ m, m ≤ K ∧ w'.ownsRow w.heap.size 30 32 v' m (idCells (subL (l.take K) a b)) ∧ Below w.heap.size w w') := Lib.hid (ih K hkl (l.take K) a b _ w (by rw [List.length_take]; omega) (by omega) ha1 haK hr1)
        have HRT : Hid (∀ W, Below w.heap.size w W → Calls Tryd.prog 22 #[.slice (cutI A c K) (n - K) (c - K)] W fun e w' => e = .returned (.agg (arr 32 fun i => bv (mth (l.drop K) i))) ∧ Below W.heap.size W w') := Lib.hid fun W hb => refRoot_any (n - K) (l.drop K) _ W (by rw [List.length_drop]; omega) (by omega) ((hr2.old hb).mono fun b hb' => Nat.lt_of_lt_of_le hb' hb.size)
        obtain ⟨q, hq⟩ : ∃ q, n - K = q := ⟨_, rfl⟩
        obtain ⟨d, hd⟩ : ∃ d, c - K = d := ⟨_, rfl⟩
        obtain ⟨A2, hA2⟩ : ∃ A2, cutI A c K = A2 := ⟨_, rfl⟩
        have hKn : K + q = n := by omega
        rw [hq, hd, hA2] at sl2 HRT
        obtain ⟨ra, hra⟩ : ∃ ra, mth (l.drop K) = ra := ⟨_, rfl⟩
        obtain ⟨PL, hPL⟩ : ∃ PL, subL (l.take K) a b = PL := ⟨_, rfl⟩
        rw [hra] at HRT ⊢
        rw [hPL] at IH ⊢
        clear ih hn hK hr1 hr2 hq hd hA2 hra hPL
        have haKi : (a : Int) ≤ (K : Int) := by omega
        go_enter Tryd.func56, Tryd.ntmps56
        go_wp2_with (first
          | (go_at_call 47; refine (HHF.out _).mono ?_; rintro e W0 ⟨rfl, rfl⟩)
          | (go_at_call 56; refine IH.out.mono ?_; rintro e W1 ⟨v', rfl, m, hm, ho, hb⟩; have HO1 := Lib.hid ho; have HB1 := Lib.hid hb; clear ho hb IH)
          | (go_at_call 22; refine (HRT.out _ HB1.out).mono ?_; rintro e W2 ⟨rfl, hb2⟩; have HO2 := Lib.hid (Turn.own (Turn.of_below hb2) HO1.out (fun i hi => by have := (HO1.out.lt i hi).2; omega)); have HB2 := Lib.hid (HB1.out.trans (hb2.mono HB1.out.size)); obtain ⟨g, cap, W7, hrun, ho7, hb7⟩ := id_more2 (f := ra) HB2.out HO2.out (by omega); have R7 := Lib.hid hrun; have HO7 := Lib.hid ho7; have HB7 := Lib.hid hb7; clear hrun ho7 hb7 hb2 HRT)
          | (refine wpList_store_row rfl 30 _ _ rfl W2.heap.size (arr 32 fun i => bv (ra i)) rfl rfl 30 _ (heap_alloc_new W2 _) (by rw [arr_size]; kernel_rfl) (by rw [arr_size]; rfl) (arr_all_bv _ _) ?_; rw [World.setRow_alloc_new])
          | (refine wpList_load_arr rfl 30 _ rfl W2.heap.size rfl 30 (arr 32 fun i => bv (ra i)) _ (Blk.new W2 _ _) Tryd.underlying30 rfl (by rw [arr_size]; kernel_rfl) ?_)
          | (guard_target = wpList _ _ _ (Oper.mk _ (.buildSlice _ _ _) _ _ _ _ :: _) _ _; go_must (refine wpList_build_idI rfl _ rfl ra rfl ?_))
          | (at_builtin; refine wpList_append_run rfl (.tmp 36) (.tmp 38) _ _ rfl _ _ rfl rfl _ _ R7.out ?_))
        go_ret
        exact ⟨_, rfl, m + 1, by omega, HO7.out, HB7.out⟩
      · rw [subL_high hn hK (by omega) h2 haK]
        have IH : Hid (Calls Tryd.prog 56 #[.slice (cutI A c K) (n - K) (c - K), .int .i64 ((a : Int) - (K : Int)), .bool false] w fun e w' => ∃ v', e = .returned v' ∧ ∃ m, m ≤ n - K ∧ w'.ownsRow w.heap.size 30 32 v' m (idCells (subL (l.drop K) (a - K) false)) ∧ Below w.heap.size w w') := Lib.hid (by
          have := ih (n - K) (by omega) (l.drop K) (a - K) false _ w (by rw [List.length_drop]; omega) (by omega) (by omega) (by omega) hr2
          rw [show ((a - K : Nat) : Int) = (a : Int) - (K : Int) from by omega] at this
          exact this)
        have HRT : Hid (∀ W, Below w.heap.size w W → Calls Tryd.prog 22 #[.slice A K c] W fun e w' => e = .returned (.agg (arr 32 fun i => bv (mth (l.take K) i))) ∧ Below W.heap.size W w') := Lib.hid fun W hb => refRoot_any K (l.take K) _ W (by rw [List.length_take]; omega) (by omega) ((hr1.old hb).mono fun b hb' => Nat.lt_of_lt_of_le hb' hb.size)
        obtain ⟨q, hq⟩ : ∃ q, n - K = q := ⟨_, rfl⟩
        obtain ⟨d, hd⟩ : ∃ d, c - K = d := ⟨_, rfl⟩
        obtain ⟨A2, hA2⟩ : ∃ A2, cutI A c K = A2 := ⟨_, rfl⟩
        have hKn : K + q = n := by omega
        rw [hq, hd, hA2] at sl2 IH
        obtain ⟨ra, hra⟩ : ∃ ra, mth (l.take K) = ra := ⟨_, rfl⟩
        obtain ⟨PL, hPL⟩ : ∃ PL, subL (l.drop K) (a - K) false = PL := ⟨_, rfl⟩
        rw [hra] at HRT ⊢
        rw [hPL] at IH ⊢
        clear ih hn hK hr1 hr2 hq hd hA2 hra hPL
        have haKi : ¬ (a : Int) ≤ (K : Int) := by omega
        have ham : (a : Int) ≤ 1000000 := by omega
        have hKm : (K : Int) ≤ 1000000 := by omega
        have ha0 : (0 : Int) ≤ (a : Int) := by omega
        have hK0 : (0 : Int) ≤ (K : Int) := by omega
        go_enter Tryd.func56, Tryd.ntmps56
        go_wp2_with (first
          | (go_at_call 47; refine (HHF.out _).mono ?_; rintro e W0 ⟨rfl, rfl⟩)
          | (go_at_call 56; refine IH.out.mono ?_; rintro e W1 ⟨v', rfl, m, hm, ho, hb⟩; have HO1 := Lib.hid ho; have HB1 := Lib.hid hb; clear ho hb IH)
          | (go_at_call 22; refine (HRT.out _ HB1.out).mono ?_; rintro e W2 ⟨rfl, hb2⟩; have HO2 := Lib.hid (Turn.own (Turn.of_below hb2) HO1.out (fun i hi => by have := (HO1.out.lt i hi).2; omega)); have HB2 := Lib.hid (HB1.out.trans (hb2.mono HB1.out.size)); obtain ⟨g, cap, W7, hrun, ho7, hb7⟩ := id_more2 (f := ra) HB2.out HO2.out (by omega); have R7 := Lib.hid hrun; have HO7 := Lib.hid ho7; have HB7 := Lib.hid hb7; clear hrun ho7 hb7 hb2 HRT)
          | (refine wpList_store_row rfl 30 _ _ rfl W2.heap.size (arr 32 fun i => bv (ra i)) rfl rfl 30 _ (heap_alloc_new W2 _) (by rw [arr_size]; kernel_rfl) (by rw [arr_size]; rfl) (arr_all_bv _ _) ?_; rw [World.setRow_alloc_new])
          | (refine wpList_load_arr rfl 30 _ rfl W2.heap.size rfl 30 (arr 32 fun i => bv (ra i)) _ (Blk.new W2 _ _) Tryd.underlying30 rfl (by rw [arr_size]; kernel_rfl) ?_)
          | (guard_target = wpList _ _ _ (Oper.mk _ (.buildSlice _ _ _) _ _ _ _ :: _) _ _; go_must (refine wpList_build_idI rfl _ rfl ra rfl ?_))
          | (at_builtin; refine wpList_append_run rfl (.tmp 51) (.tmp 53) _ _ rfl _ _ rfl rfl _ _ R7.out ?_))
        go_ret
        exact ⟨_, rfl, m + 1, by omega, HO7.out, HB7.out⟩
end Go.Proofs.YtkkanaefngggoaaDoor
