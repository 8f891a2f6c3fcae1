/-
  TreeRestores: for every two lists of leaves and every size, in whatever memory in which the tables lie. No condition.
-/
import Derived.Test.YtkkanaefngggoaaDoorTreePart
import Derived.Test.YtkkanaefngggoaaDoorTreeRefP
import Derived.Test.YtkkanaefngggoaaDoorTreeLawT
namespace Go.Proofs.YtkkanaefngggoaaDoor
open Go Go.RowKit Go.Shelf TreeM

/-- Tops, read. -/
theorem tops_rd (Z : Nat → Prop) (g : Nat) (L : List D) (W : World) (h : TreeAt W Z g L) :
    Calls Tryd.prog 25 #[.pointer (some ⟨g, 0, none⟩)] W fun e w' => ∃ A c, e = .returned (.slice A (pop L.length) c) ∧ RdI w' (fun b => b < w'.heap.size) (.slice A (pop L.length) c) (tops L) ∧ Below W.heap.size W w' := by
  obtain ⟨_, _, _, _, _, _, hp, hle⟩ := id h
  refine (treeTops_any Z g L W h).mono ?_
  rintro e w' ⟨v', rfl, ho, hb⟩
  obtain ⟨A, c, rfl, _⟩ := own_len ho
  rw [hp] at ho ⊢
  have := pop_le 41 L.length (by omega)
  exact ⟨A, c, rfl, (own_rd ho (by omega)).mono fun b hb => hb.2.2, hb⟩
theorem restore_out (size : Int) (h : size < 0 ∨ 1099511627776 < size) (v : Value) (W : World) : Calls Tryd.prog 30 #[.int .i64 size, v] W fun e w' => e = .returned (.tuple #[.pointer none, .int .i64 1]) ∧ w' = W := callsIn_wide.1 (restore_range size h v W)
theorem restore_no (m : Nat) (hm : m ≤ 1099511627776) (v : Value) (ts : List D) (W : World) (hr : RdI W (fun b => b < W.heap.size) v ts) (h : ts.length ≠ pop m) : Calls Tryd.prog 30 #[.int .i64 (m : Int), v] W fun e w' => e = .returned (.tuple #[.pointer none, .int .i64 60]) ∧ Below W.heap.size W w' := by
  refine (callsIn_wide.1 (restore_any m hm v ts W hr)).mono ?_
  rintro e w' ⟨h1, h2⟩
  rw [if_neg h] at h2
  exact ⟨h2, h1⟩
theorem restore_yes (m : Nat) (hm : m ≤ 1099511627776) (v : Value) (ts : List D) (W : World) (hr : RdI W (fun b => b < W.heap.size) v ts) (h : ts.length = pop m) : Calls Tryd.prog 30 #[.int .i64 (m : Int), v] W fun e w' => ∃ g Z, e = .returned (.tuple #[.pointer (some ⟨g, 0, none⟩), .int .i64 0]) ∧ RangeAt w' Z g m ts ∧ (∀ i, Z i → W.heap.size ≤ i) ∧ Below W.heap.size W w' := by
  refine (callsIn_wide.1 (restore_any m hm v ts W hr)).mono ?_
  rintro e w' ⟨h1, h2⟩
  rw [if_pos h] at h2
  obtain ⟨g, Z, rfl, h3, h4⟩ := h2
  exact ⟨g, Z, rfl, h3, h4, h1⟩
/-- Of a list's own tops. -/
theorem restore_tree (L : List D) (hL : L.length ≤ 1099511627776) (v : Value) (W : World) (hr : RdI W (fun b => b < W.heap.size) v (tops L)) : Calls Tryd.prog 30 #[.int .i64 (L.length : Int), v] W fun e w' => ∃ g Z, e = .returned (.tuple #[.pointer (some ⟨g, 0, none⟩), .int .i64 0]) ∧ TreeAt w' Z g L ∧ (∀ i, Z i → W.heap.size ≤ i) ∧ Below W.heap.size W w' :=
  restore_yes L.length hL v (tops L) W hr (tops_length _ L rfl)
theorem RangeAt.lt {w : World} {Z : Nat → Prop} {g n : Nat} {ts : List D} (h : RangeAt w Z g n ts) : ∀ i, Z i → i < w.heap.size := by
  obtain ⟨_, _, _, _, _, h5, _⟩ := h
  exact h5
set_option maxRecDepth 100000 in
set_option maxHeartbeats 2000000 in
theorem restores_outA (v v2 : Value) (l more : List D) (size : Int) (hs : size < 0) (w : World) (hT : Tables w) (hr : RdI w (fun b => b < w.heap.size) v l) (hr2 : RdI w (fun b => b < w.heap.size) v2 more) :
    Calls Tryd.prog 5 #[v, v2, .int .i64 size] w fun e w' => e = .returned (.bool true) ∧ Below w.heap.size w w' := by
  obtain ⟨A, c, rfl, hlc, _⟩ := id hr
  obtain ⟨A', c', rfl, hlc', _⟩ := id hr2
  obtain ⟨n, hn⟩ : ∃ n, l.length = n := ⟨_, rfl⟩
  obtain ⟨n', hn'⟩ : ∃ n', more.length = n' := ⟨_, rfl⟩
  obtain ⟨q, hq⟩ : ∃ q, min n 60 = q := ⟨_, rfl⟩
  obtain ⟨q', hq'⟩ : ∃ q', min n' 30 = q' := ⟨_, rfl⟩
  rw [hn] at hr hlc ⊢
  rw [hn'] at hr2 hlc' ⊢
  have hr1 := hr.take (k := q) (by omega)
  have hr3 := hr2.take (k := q') (by omega)
  have hn1 : (l.take q).length = q := by rw [List.length_take]; omega
  have hn2 : (more.take q').length = q' := by rw [List.length_take]; omega
  have hq60 : q ≤ 60 := by omega
  have hq30 : q' ≤ 30 := by omega
  have HCUT := Lib.hid fun W => cut_any A n c 60 q hlc hq (by omega) W
  have HCUT2 := Lib.hid fun W => cut_any A' n' c' 30 q' hlc' hq' (by omega) W
  have HRS2 := Lib.hid fun v W => restore_out size (by omega) v W
  have d0 : decide (size < 0) = true := decide_eq_true hs
  generalize l.take q = l1 at *
  generalize more.take q' = l2 at *
  have HGR := Lib.hid (grows_any w hT)
  have HR1 := Lib.hid hr1
  have HR3 := Lib.hid hr3
  have HT := Lib.hid hT
  have h12 : (l1 ++ l2).length = q + q' := by rw [List.length_append, hn1, hn2]
  have HOF : Hid (∀ W, Below w.heap.size w W → Calls Tryd.prog 19 #[.slice A q c] W fun e w' => ∃ g Z, e = .returned (.pointer (some ⟨g, 0, none⟩)) ∧ TreeAt w' Z g l1 ∧ Below w.heap.size w w' ∧ ∀ i, Z i → w.heap.size ≤ i) := Lib.hid fun W hb => (treeOf_any (.slice A q c) l1 W (HT.out.below hb) ((HR1.out.old hb).mono fun b hb' => Nat.lt_of_lt_of_le hb' hb.size) (by omega)).mono (by
    rintro e w' ⟨g, Z, h1, h2, h3, h4⟩
    exact ⟨g, Z, h1, h2, hb.trans (h3.mono hb.size), fun i hi => Nat.le_trans hb.size (h4 i hi)⟩)
  have HTP : Hid (∀ g Z W, TreeAt W Z g l1 → Calls Tryd.prog 25 #[.pointer (some ⟨g, 0, none⟩)] W fun e w' => ∃ A c, e = .returned (.slice A (pop q) c) ∧ RdI w' (fun b => b < w'.heap.size) (.slice A (pop q) c) (tops l1) ∧ Below W.heap.size W w') := Lib.hid fun g Z W h => by
    have := tops_rd Z g l1 W h
    rw [hn1] at this
    exact this
  have HRS : Hid (∀ W v, RdI W (fun b => b < W.heap.size) v (tops l1) → Calls Tryd.prog 30 #[.int .i64 (q : Int), v] W fun e w' => ∃ g Z, e = .returned (.tuple #[.pointer (some ⟨g, 0, none⟩), .int .i64 0]) ∧ TreeAt w' Z g l1 ∧ (∀ i, Z i → W.heap.size ≤ i) ∧ Below W.heap.size W w') := Lib.hid fun W v hr => by
    have := restore_tree l1 (by omega) v W hr
    rw [hn1] at this
    exact this
  have HAP : Hid (∀ g Z W, TreeAt W Z g l1 → (∀ i, Z i → w.heap.size ≤ i) → Below w.heap.size w W → Calls Tryd.prog 20 #[.pointer (some ⟨g, 0, none⟩), .slice A' q' c'] W fun e w' => e = .returned (.int .i64 0) ∧ TLeft Z g (l1 ++ l2) W w') := Lib.hid fun g Z W h hz hb =>
    treeAppend_any w HT.out Z g l1 _ l2 W h hz hb (fun b => b < w.heap.size) (HR3.out.old hb) (fun b hb' => ⟨Nat.lt_of_lt_of_le hb' hb.size, fun hh => by have := hz b hh; omega⟩) (by omega)
  have HRT : Hid (∀ g Z W, Below w.heap.size w W → TreeAt W Z g (l1 ++ l2) → Calls Tryd.prog 21 #[.pointer (some ⟨g, 0, none⟩)] W fun e w' => e = .returned (.agg (arr 32 fun i => bv (mth (l1 ++ l2) i))) ∧ Below W.heap.size W w') := Lib.hid fun g Z W hb h => callsIn_wide.1 (treeRoot_any Z g _ W (HT.out.below hb) h)
  have HSZ : Hid (∀ g Z W, TreeAt W Z g (l1 ++ l2) → Calls Tryd.prog 23 #[.pointer (some ⟨g, 0, none⟩)] W fun e w' => e = .returned (.int .i64 ((q : Int) + (q' : Int))) ∧ w' = W) := Lib.hid fun g Z W h => by
    have := treeSize_any Z g _ W h
    rw [h12, Int.natCast_add] at this
    exact this
  have HTP2 : Hid (∀ g Z W, TreeAt W Z g (l1 ++ l2) → Calls Tryd.prog 25 #[.pointer (some ⟨g, 0, none⟩)] W fun e w' => ∃ A c, e = .returned (.slice A (pop (q + q')) c) ∧ RdI w' (fun b => b < w'.heap.size) (.slice A (pop (q + q')) c) (tops (l1 ++ l2)) ∧ Below W.heap.size W w') := Lib.hid fun g Z W h => by
    have := tops_rd Z g _ W h
    rw [h12] at this
    exact this
  have ne1 := neq_id (mth (l1 ++ l2)) (mth (l1 ++ l2))
  rw [beq_self_eq_true] at ne1
  have hp7 : pop (q + q') ≤ 7 := pop_le 7 _ (by omega)
  have hpq : pop q ≤ 7 := pop_le 7 _ (by omega)
  clear hs
  clear hr hr1 hr2 hr3 hn hq hlc hn' hq' hlc' hT hn1 hn2 h12
  generalize (arr 32 fun i => bv (mth (l1 ++ l2) i)) = R at *
  generalize pop (q + q') = p at *
  generalize pop q = p0 at *
  go_enter Tryd.func5, Tryd.ntmps5
  go_wp2_with (first
    | (go_at_call 17; refine HGR.out.mono ?_; rintro e W1 ⟨rfl, hb1⟩; have HB1 := Lib.hid hb1; clear hb1 HGR)
    | (go_at_call 18; refine (HCUT.out _).mono ?_; rintro e W2 ⟨rfl, rfl⟩; clear HCUT)
    | (go_at_call 18; refine (HCUT2.out _).mono ?_; rintro e W2 ⟨rfl, rfl⟩)
    | (go_at_call 19; refine (HOF.out _ HB1.out).mono ?_; rintro e W2 ⟨g, Z, rfl, ht, hb, hz⟩; have HA2 := Lib.hid ht; have HB2 := Lib.hid hb; have HZ2 := Lib.hid hz; clear ht hb hz HOF)
    | (go_at_call 25; refine (HTP.out g Z _ HA2.out).mono ?_; rintro e W3 ⟨A3, c3, rfl, hr3, hb3⟩; have HB3 := Lib.hid (HB2.out.trans (hb3.mono HB2.out.size)); have HA3 := Lib.hid (RangeAt.below HA2.out hb3); have HV3 := Lib.hid hr3; clear hb3 hr3 HTP)
    | (go_at_call 30; refine (HRS.out _ _ HV3.out).mono ?_; rintro e W4 ⟨g', Z', rfl, hs4, hz4, hb4⟩; have HA4 := Lib.hid (RangeAt.below HA3.out hb4); have HS4 := Lib.hid hs4; have HZ4 := Lib.hid (show ∀ i, Z' i → w.heap.size ≤ i from fun i hi => Nat.le_trans HB3.out.size (hz4 i hi)); have HD4 := Lib.hid (show ∀ i, Z' i → ¬ Z i from fun i hi hz => by have := RangeAt.lt HA3.out i hz; have := hz4 i hi; omega); have HB4 := Lib.hid (HB3.out.trans (hb4.mono HB3.out.size)); clear hs4 hz4 hb4 HRS HA3 HV3)
    | (go_at_call 20; refine (HAP.out g Z _ HA4.out HZ2.out HB4.out).mono ?_; rintro e W5 ⟨rfl, Z5, h1, h2, h3⟩; have HA5 := Lib.hid h1; have HB5 := Lib.hid (HB4.out.trans (h2.below HB4.out.size fun i hi hz => by have := HZ2.out i hz; omega)); have HZ5 := Lib.hid (show ∀ i, Z5 i → w.heap.size ≤ i from fun i hi => by rcases h3 i hi with h | h; exact HZ2.out i h; exact Nat.le_trans HB4.out.size h); have HS5 := Lib.hid (RangeAt.turn HS4.out h2 HD4.out); have HD5 := Lib.hid (show ∀ i, Z5 i → ¬ Z' i from fun i hi hz => by rcases h3 i hi with h | h; exact HD4.out i hz h; have := RangeAt.lt HS4.out i hz; omega); clear h1 h2 h3 HA4)
    | (go_at_call 20; refine (HAP.out g' Z' _ HS5.out HZ4.out HB5.out).mono ?_; rintro e W6 ⟨rfl, Z6, h1, h2, h3⟩; have HS6 := Lib.hid h1; have HB6 := Lib.hid (HB5.out.trans (h2.below HB5.out.size fun i hi hz => by have := HZ4.out i hz; omega)); have HA6 := Lib.hid (RangeAt.turn HA5.out h2 HD5.out); clear h1 h2 h3 HA5 HS5)
    | (go_at_call 21; refine (HRT.out g Z5 _ HB6.out HA6.out).mono ?_; rintro e W7 ⟨rfl, hb7⟩; have HB7 := Lib.hid (HB6.out.trans (hb7.mono HB6.out.size)); have HA7 := Lib.hid (RangeAt.below HA6.out hb7); have HS7 := Lib.hid (RangeAt.below HS6.out hb7); clear hb7 HA6 HS6)
    | (go_at_call 21; refine (HRT.out g' Z6 _ HB7.out HS7.out).mono ?_; rintro e W8 ⟨rfl, hb8⟩; have HB8 := Lib.hid (HB7.out.trans (hb8.mono HB7.out.size)); have HA8 := Lib.hid (RangeAt.below HA7.out hb8); have HS8 := Lib.hid (RangeAt.below HS7.out hb8); clear hb8 HA7 HS7)
    | (go_at_call 23; refine (HSZ.out g' Z6 _ HS8.out).mono ?_; rintro e W9 ⟨rfl, rfl⟩)
    | (go_at_call 25; refine (HTP2.out g Z5 _ HA8.out).mono ?_; rintro e W10 ⟨A10, c10, rfl, hr10, hb10⟩; have HB10 := Lib.hid (HB8.out.trans (hb10.mono HB8.out.size)); have HA10 := Lib.hid (RangeAt.below HA8.out hb10); have HV10 := Lib.hid hr10; clear hb10 hr10 HA8)
    | (go_at_call 30; refine (HRS2.out _ _).mono ?_; rintro e W11 ⟨rfl, rfl⟩))
  go_ret
  exact ⟨rfl, HB10.out⟩
set_option maxRecDepth 100000 in
set_option maxHeartbeats 2000000 in
theorem restores_outB (v v2 : Value) (l more : List D) (size : Int) (hs : ¬ size < 0 ∧ 1099511627776 < size) (w : World) (hT : Tables w) (hr : RdI w (fun b => b < w.heap.size) v l) (hr2 : RdI w (fun b => b < w.heap.size) v2 more) :
    Calls Tryd.prog 5 #[v, v2, .int .i64 size] w fun e w' => e = .returned (.bool true) ∧ Below w.heap.size w w' := by
  obtain ⟨A, c, rfl, hlc, _⟩ := id hr
  obtain ⟨A', c', rfl, hlc', _⟩ := id hr2
  obtain ⟨n, hn⟩ : ∃ n, l.length = n := ⟨_, rfl⟩
  obtain ⟨n', hn'⟩ : ∃ n', more.length = n' := ⟨_, rfl⟩
  obtain ⟨q, hq⟩ : ∃ q, min n 60 = q := ⟨_, rfl⟩
  obtain ⟨q', hq'⟩ : ∃ q', min n' 30 = q' := ⟨_, rfl⟩
  rw [hn] at hr hlc ⊢
  rw [hn'] at hr2 hlc' ⊢
  have hr1 := hr.take (k := q) (by omega)
  have hr3 := hr2.take (k := q') (by omega)
  have hn1 : (l.take q).length = q := by rw [List.length_take]; omega
  have hn2 : (more.take q').length = q' := by rw [List.length_take]; omega
  have hq60 : q ≤ 60 := by omega
  have hq30 : q' ≤ 30 := by omega
  have HCUT := Lib.hid fun W => cut_any A n c 60 q hlc hq (by omega) W
  have HCUT2 := Lib.hid fun W => cut_any A' n' c' 30 q' hlc' hq' (by omega) W
  have HRS2 := Lib.hid fun v W => restore_out size (by omega) v W
  have d0 : decide (size < 0) = false := decide_eq_false hs.1
  have d1 : decide (1099511627776 < size) = true := decide_eq_true hs.2
  generalize l.take q = l1 at *
  generalize more.take q' = l2 at *
  have HGR := Lib.hid (grows_any w hT)
  have HR1 := Lib.hid hr1
  have HR3 := Lib.hid hr3
  have HT := Lib.hid hT
  have h12 : (l1 ++ l2).length = q + q' := by rw [List.length_append, hn1, hn2]
  have HOF : Hid (∀ W, Below w.heap.size w W → Calls Tryd.prog 19 #[.slice A q c] W fun e w' => ∃ g Z, e = .returned (.pointer (some ⟨g, 0, none⟩)) ∧ TreeAt w' Z g l1 ∧ Below w.heap.size w w' ∧ ∀ i, Z i → w.heap.size ≤ i) := Lib.hid fun W hb => (treeOf_any (.slice A q c) l1 W (HT.out.below hb) ((HR1.out.old hb).mono fun b hb' => Nat.lt_of_lt_of_le hb' hb.size) (by omega)).mono (by
    rintro e w' ⟨g, Z, h1, h2, h3, h4⟩
    exact ⟨g, Z, h1, h2, hb.trans (h3.mono hb.size), fun i hi => Nat.le_trans hb.size (h4 i hi)⟩)
  have HTP : Hid (∀ g Z W, TreeAt W Z g l1 → Calls Tryd.prog 25 #[.pointer (some ⟨g, 0, none⟩)] W fun e w' => ∃ A c, e = .returned (.slice A (pop q) c) ∧ RdI w' (fun b => b < w'.heap.size) (.slice A (pop q) c) (tops l1) ∧ Below W.heap.size W w') := Lib.hid fun g Z W h => by
    have := tops_rd Z g l1 W h
    rw [hn1] at this
    exact this
  have HRS : Hid (∀ W v, RdI W (fun b => b < W.heap.size) v (tops l1) → Calls Tryd.prog 30 #[.int .i64 (q : Int), v] W fun e w' => ∃ g Z, e = .returned (.tuple #[.pointer (some ⟨g, 0, none⟩), .int .i64 0]) ∧ TreeAt w' Z g l1 ∧ (∀ i, Z i → W.heap.size ≤ i) ∧ Below W.heap.size W w') := Lib.hid fun W v hr => by
    have := restore_tree l1 (by omega) v W hr
    rw [hn1] at this
    exact this
  have HAP : Hid (∀ g Z W, TreeAt W Z g l1 → (∀ i, Z i → w.heap.size ≤ i) → Below w.heap.size w W → Calls Tryd.prog 20 #[.pointer (some ⟨g, 0, none⟩), .slice A' q' c'] W fun e w' => e = .returned (.int .i64 0) ∧ TLeft Z g (l1 ++ l2) W w') := Lib.hid fun g Z W h hz hb =>
    treeAppend_any w HT.out Z g l1 _ l2 W h hz hb (fun b => b < w.heap.size) (HR3.out.old hb) (fun b hb' => ⟨Nat.lt_of_lt_of_le hb' hb.size, fun hh => by have := hz b hh; omega⟩) (by omega)
  have HRT : Hid (∀ g Z W, Below w.heap.size w W → TreeAt W Z g (l1 ++ l2) → Calls Tryd.prog 21 #[.pointer (some ⟨g, 0, none⟩)] W fun e w' => e = .returned (.agg (arr 32 fun i => bv (mth (l1 ++ l2) i))) ∧ Below W.heap.size W w') := Lib.hid fun g Z W hb h => callsIn_wide.1 (treeRoot_any Z g _ W (HT.out.below hb) h)
  have HSZ : Hid (∀ g Z W, TreeAt W Z g (l1 ++ l2) → Calls Tryd.prog 23 #[.pointer (some ⟨g, 0, none⟩)] W fun e w' => e = .returned (.int .i64 ((q : Int) + (q' : Int))) ∧ w' = W) := Lib.hid fun g Z W h => by
    have := treeSize_any Z g _ W h
    rw [h12, Int.natCast_add] at this
    exact this
  have HTP2 : Hid (∀ g Z W, TreeAt W Z g (l1 ++ l2) → Calls Tryd.prog 25 #[.pointer (some ⟨g, 0, none⟩)] W fun e w' => ∃ A c, e = .returned (.slice A (pop (q + q')) c) ∧ RdI w' (fun b => b < w'.heap.size) (.slice A (pop (q + q')) c) (tops (l1 ++ l2)) ∧ Below W.heap.size W w') := Lib.hid fun g Z W h => by
    have := tops_rd Z g _ W h
    rw [h12] at this
    exact this
  have ne1 := neq_id (mth (l1 ++ l2)) (mth (l1 ++ l2))
  rw [beq_self_eq_true] at ne1
  have hp7 : pop (q + q') ≤ 7 := pop_le 7 _ (by omega)
  have hpq : pop q ≤ 7 := pop_le 7 _ (by omega)
  clear hs
  clear hr hr1 hr2 hr3 hn hq hlc hn' hq' hlc' hT hn1 hn2 h12
  generalize (arr 32 fun i => bv (mth (l1 ++ l2) i)) = R at *
  generalize pop (q + q') = p at *
  generalize pop q = p0 at *
  go_enter Tryd.func5, Tryd.ntmps5
  go_wp2_with (first
    | (go_at_call 17; refine HGR.out.mono ?_; rintro e W1 ⟨rfl, hb1⟩; have HB1 := Lib.hid hb1; clear hb1 HGR)
    | (go_at_call 18; refine (HCUT.out _).mono ?_; rintro e W2 ⟨rfl, rfl⟩; clear HCUT)
    | (go_at_call 18; refine (HCUT2.out _).mono ?_; rintro e W2 ⟨rfl, rfl⟩)
    | (go_at_call 19; refine (HOF.out _ HB1.out).mono ?_; rintro e W2 ⟨g, Z, rfl, ht, hb, hz⟩; have HA2 := Lib.hid ht; have HB2 := Lib.hid hb; have HZ2 := Lib.hid hz; clear ht hb hz HOF)
    | (go_at_call 25; refine (HTP.out g Z _ HA2.out).mono ?_; rintro e W3 ⟨A3, c3, rfl, hr3, hb3⟩; have HB3 := Lib.hid (HB2.out.trans (hb3.mono HB2.out.size)); have HA3 := Lib.hid (RangeAt.below HA2.out hb3); have HV3 := Lib.hid hr3; clear hb3 hr3 HTP)
    | (go_at_call 30; refine (HRS.out _ _ HV3.out).mono ?_; rintro e W4 ⟨g', Z', rfl, hs4, hz4, hb4⟩; have HA4 := Lib.hid (RangeAt.below HA3.out hb4); have HS4 := Lib.hid hs4; have HZ4 := Lib.hid (show ∀ i, Z' i → w.heap.size ≤ i from fun i hi => Nat.le_trans HB3.out.size (hz4 i hi)); have HD4 := Lib.hid (show ∀ i, Z' i → ¬ Z i from fun i hi hz => by have := RangeAt.lt HA3.out i hz; have := hz4 i hi; omega); have HB4 := Lib.hid (HB3.out.trans (hb4.mono HB3.out.size)); clear hs4 hz4 hb4 HRS HA3 HV3)
    | (go_at_call 20; refine (HAP.out g Z _ HA4.out HZ2.out HB4.out).mono ?_; rintro e W5 ⟨rfl, Z5, h1, h2, h3⟩; have HA5 := Lib.hid h1; have HB5 := Lib.hid (HB4.out.trans (h2.below HB4.out.size fun i hi hz => by have := HZ2.out i hz; omega)); have HZ5 := Lib.hid (show ∀ i, Z5 i → w.heap.size ≤ i from fun i hi => by rcases h3 i hi with h | h; exact HZ2.out i h; exact Nat.le_trans HB4.out.size h); have HS5 := Lib.hid (RangeAt.turn HS4.out h2 HD4.out); have HD5 := Lib.hid (show ∀ i, Z5 i → ¬ Z' i from fun i hi hz => by rcases h3 i hi with h | h; exact HD4.out i hz h; have := RangeAt.lt HS4.out i hz; omega); clear h1 h2 h3 HA4)
    | (go_at_call 20; refine (HAP.out g' Z' _ HS5.out HZ4.out HB5.out).mono ?_; rintro e W6 ⟨rfl, Z6, h1, h2, h3⟩; have HS6 := Lib.hid h1; have HB6 := Lib.hid (HB5.out.trans (h2.below HB5.out.size fun i hi hz => by have := HZ4.out i hz; omega)); have HA6 := Lib.hid (RangeAt.turn HA5.out h2 HD5.out); clear h1 h2 h3 HA5 HS5)
    | (go_at_call 21; refine (HRT.out g Z5 _ HB6.out HA6.out).mono ?_; rintro e W7 ⟨rfl, hb7⟩; have HB7 := Lib.hid (HB6.out.trans (hb7.mono HB6.out.size)); have HA7 := Lib.hid (RangeAt.below HA6.out hb7); have HS7 := Lib.hid (RangeAt.below HS6.out hb7); clear hb7 HA6 HS6)
    | (go_at_call 21; refine (HRT.out g' Z6 _ HB7.out HS7.out).mono ?_; rintro e W8 ⟨rfl, hb8⟩; have HB8 := Lib.hid (HB7.out.trans (hb8.mono HB7.out.size)); have HA8 := Lib.hid (RangeAt.below HA7.out hb8); have HS8 := Lib.hid (RangeAt.below HS7.out hb8); clear hb8 HA7 HS7)
    | (go_at_call 23; refine (HSZ.out g' Z6 _ HS8.out).mono ?_; rintro e W9 ⟨rfl, rfl⟩)
    | (go_at_call 25; refine (HTP2.out g Z5 _ HA8.out).mono ?_; rintro e W10 ⟨A10, c10, rfl, hr10, hb10⟩; have HB10 := Lib.hid (HB8.out.trans (hb10.mono HB8.out.size)); have HA10 := Lib.hid (RangeAt.below HA8.out hb10); have HV10 := Lib.hid hr10; clear hb10 hr10 HA8)
    | (go_at_call 30; refine (HRS2.out _ _).mono ?_; rintro e W11 ⟨rfl, rfl⟩))
  go_ret
  exact ⟨rfl, HB10.out⟩
set_option maxRecDepth 100000 in
set_option maxHeartbeats 2000000 in
theorem restores_yes (v v2 : Value) (l more : List D) (m : Nat) (hm : m ≤ 1099511627776) (w : World) (hT : Tables w) (hr : RdI w (fun b => b < w.heap.size) v l) (hr2 : RdI w (fun b => b < w.heap.size) v2 more) (hs : pop (min l.length 60 + min more.length 30) = pop m) :
    Calls Tryd.prog 5 #[v, v2, .int .i64 (m : Int)] w fun e w' => e = .returned (.bool true) ∧ Below w.heap.size w w' := by
  obtain ⟨A, c, rfl, hlc, _⟩ := id hr
  obtain ⟨A', c', rfl, hlc', _⟩ := id hr2
  obtain ⟨n, hn⟩ : ∃ n, l.length = n := ⟨_, rfl⟩
  obtain ⟨n', hn'⟩ : ∃ n', more.length = n' := ⟨_, rfl⟩
  obtain ⟨q, hq⟩ : ∃ q, min n 60 = q := ⟨_, rfl⟩
  obtain ⟨q', hq'⟩ : ∃ q', min n' 30 = q' := ⟨_, rfl⟩
  rw [hn] at hr hlc ⊢
  rw [hn'] at hr2 hlc' ⊢
  have hr1 := hr.take (k := q) (by omega)
  have hr3 := hr2.take (k := q') (by omega)
  have hn1 : (l.take q).length = q := by rw [List.length_take]; omega
  have hn2 : (more.take q').length = q' := by rw [List.length_take]; omega
  have hq60 : q ≤ 60 := by omega
  have hq30 : q' ≤ 30 := by omega
  have HCUT := Lib.hid fun W => cut_any A n c 60 q hlc hq (by omega) W
  have HCUT2 := Lib.hid fun W => cut_any A' n' c' 30 q' hlc' hq' (by omega) W
  have HPK : Hid (∀ W, Calls Tryd.prog 28 #[.int .i64 (m : Int)] W fun e w' => ∃ Aa ca Ac cc, e = .returned (.tuple #[.slice Aa (pop m) ca, .slice Ac (pop m) cc]) ∧ Below W.heap.size W w') := Lib.hid fun W => (refPeaks_any m hm W).mono (by
    rintro e w' ⟨a, c, rfl, h1, h2, h3⟩
    rw [pk_length] at h1 h2
    obtain ⟨A1, c1, rfl, _⟩ := own_len h1
    obtain ⟨A2, c2, rfl, _⟩ := own_len h2
    exact ⟨A1, c1, A2, c2, rfl, h3⟩)
  have d0 : decide ((m : Int) < 0) = false := decide_eq_false (by omega)
  have d1 : decide (1099511627776 < (m : Int)) = false := decide_eq_false (by omega)
  rw [hn, hn', hq, hq'] at hs
  generalize l.take q = l1 at *
  generalize more.take q' = l2 at *
  have HGR := Lib.hid (grows_any w hT)
  have HR1 := Lib.hid hr1
  have HR3 := Lib.hid hr3
  have HT := Lib.hid hT
  have h12 : (l1 ++ l2).length = q + q' := by rw [List.length_append, hn1, hn2]
  have HOF : Hid (∀ W, Below w.heap.size w W → Calls Tryd.prog 19 #[.slice A q c] W fun e w' => ∃ g Z, e = .returned (.pointer (some ⟨g, 0, none⟩)) ∧ TreeAt w' Z g l1 ∧ Below w.heap.size w w' ∧ ∀ i, Z i → w.heap.size ≤ i) := Lib.hid fun W hb => (treeOf_any (.slice A q c) l1 W (HT.out.below hb) ((HR1.out.old hb).mono fun b hb' => Nat.lt_of_lt_of_le hb' hb.size) (by omega)).mono (by
    rintro e w' ⟨g, Z, h1, h2, h3, h4⟩
    exact ⟨g, Z, h1, h2, hb.trans (h3.mono hb.size), fun i hi => Nat.le_trans hb.size (h4 i hi)⟩)
  have HTP : Hid (∀ g Z W, TreeAt W Z g l1 → Calls Tryd.prog 25 #[.pointer (some ⟨g, 0, none⟩)] W fun e w' => ∃ A c, e = .returned (.slice A (pop q) c) ∧ RdI w' (fun b => b < w'.heap.size) (.slice A (pop q) c) (tops l1) ∧ Below W.heap.size W w') := Lib.hid fun g Z W h => by
    have := tops_rd Z g l1 W h
    rw [hn1] at this
    exact this
  have HRS : Hid (∀ W v, RdI W (fun b => b < W.heap.size) v (tops l1) → Calls Tryd.prog 30 #[.int .i64 (q : Int), v] W fun e w' => ∃ g Z, e = .returned (.tuple #[.pointer (some ⟨g, 0, none⟩), .int .i64 0]) ∧ TreeAt w' Z g l1 ∧ (∀ i, Z i → W.heap.size ≤ i) ∧ Below W.heap.size W w') := Lib.hid fun W v hr => by
    have := restore_tree l1 (by omega) v W hr
    rw [hn1] at this
    exact this
  have HAP : Hid (∀ g Z W, TreeAt W Z g l1 → (∀ i, Z i → w.heap.size ≤ i) → Below w.heap.size w W → Calls Tryd.prog 20 #[.pointer (some ⟨g, 0, none⟩), .slice A' q' c'] W fun e w' => e = .returned (.int .i64 0) ∧ TLeft Z g (l1 ++ l2) W w') := Lib.hid fun g Z W h hz hb =>
    treeAppend_any w HT.out Z g l1 _ l2 W h hz hb (fun b => b < w.heap.size) (HR3.out.old hb) (fun b hb' => ⟨Nat.lt_of_lt_of_le hb' hb.size, fun hh => by have := hz b hh; omega⟩) (by omega)
  have HRT : Hid (∀ g Z W, Below w.heap.size w W → TreeAt W Z g (l1 ++ l2) → Calls Tryd.prog 21 #[.pointer (some ⟨g, 0, none⟩)] W fun e w' => e = .returned (.agg (arr 32 fun i => bv (mth (l1 ++ l2) i))) ∧ Below W.heap.size W w') := Lib.hid fun g Z W hb h => callsIn_wide.1 (treeRoot_any Z g _ W (HT.out.below hb) h)
  have HSZ : Hid (∀ g Z W, TreeAt W Z g (l1 ++ l2) → Calls Tryd.prog 23 #[.pointer (some ⟨g, 0, none⟩)] W fun e w' => e = .returned (.int .i64 ((q : Int) + (q' : Int))) ∧ w' = W) := Lib.hid fun g Z W h => by
    have := treeSize_any Z g _ W h
    rw [h12, Int.natCast_add] at this
    exact this
  have HTP2 : Hid (∀ g Z W, TreeAt W Z g (l1 ++ l2) → Calls Tryd.prog 25 #[.pointer (some ⟨g, 0, none⟩)] W fun e w' => ∃ A c, e = .returned (.slice A (pop (q + q')) c) ∧ RdI w' (fun b => b < w'.heap.size) (.slice A (pop (q + q')) c) (tops (l1 ++ l2)) ∧ Below W.heap.size W w') := Lib.hid fun g Z W h => by
    have := tops_rd Z g _ W h
    rw [h12] at this
    exact this
  have ne1 := neq_id (mth (l1 ++ l2)) (mth (l1 ++ l2))
  rw [beq_self_eq_true] at ne1
  have hp7 : pop (q + q') ≤ 7 := pop_le 7 _ (by omega)
  have hpq : pop q ≤ 7 := pop_le 7 _ (by omega)
  rw [← hs] at HPK
  have HRS2 : Hid (∀ v W, RdI W (fun b => b < W.heap.size) v (tops (l1 ++ l2)) → Calls Tryd.prog 30 #[.int .i64 (m : Int), v] W fun e w' => ∃ g, e = .returned (.tuple #[.pointer (some ⟨g, 0, none⟩), .int .i64 0]) ∧ Below W.heap.size W w') := Lib.hid fun v W hr => (restore_yes m hm v _ W hr (by rw [tops_length _ _ rfl, h12, hs])).mono fun e w' ⟨g, Z, h1, _, _, h2⟩ => ⟨g, h1, h2⟩
  clear hs
  clear hr hr1 hr2 hr3 hn hq hlc hn' hq' hlc' hT hn1 hn2 h12
  generalize (arr 32 fun i => bv (mth (l1 ++ l2) i)) = R at *
  generalize pop (q + q') = p at *
  generalize pop q = p0 at *
  go_enter Tryd.func5, Tryd.ntmps5
  go_wp2_with (first
    | (go_at_call 17; refine HGR.out.mono ?_; rintro e W1 ⟨rfl, hb1⟩; have HB1 := Lib.hid hb1; clear hb1 HGR)
    | (go_at_call 18; refine (HCUT.out _).mono ?_; rintro e W2 ⟨rfl, rfl⟩; clear HCUT)
    | (go_at_call 18; refine (HCUT2.out _).mono ?_; rintro e W2 ⟨rfl, rfl⟩)
    | (go_at_call 19; refine (HOF.out _ HB1.out).mono ?_; rintro e W2 ⟨g, Z, rfl, ht, hb, hz⟩; have HA2 := Lib.hid ht; have HB2 := Lib.hid hb; have HZ2 := Lib.hid hz; clear ht hb hz HOF)
    | (go_at_call 25; refine (HTP.out g Z _ HA2.out).mono ?_; rintro e W3 ⟨A3, c3, rfl, hr3, hb3⟩; have HB3 := Lib.hid (HB2.out.trans (hb3.mono HB2.out.size)); have HA3 := Lib.hid (RangeAt.below HA2.out hb3); have HV3 := Lib.hid hr3; clear hb3 hr3 HTP)
    | (go_at_call 30; refine (HRS.out _ _ HV3.out).mono ?_; rintro e W4 ⟨g', Z', rfl, hs4, hz4, hb4⟩; have HA4 := Lib.hid (RangeAt.below HA3.out hb4); have HS4 := Lib.hid hs4; have HZ4 := Lib.hid (show ∀ i, Z' i → w.heap.size ≤ i from fun i hi => Nat.le_trans HB3.out.size (hz4 i hi)); have HD4 := Lib.hid (show ∀ i, Z' i → ¬ Z i from fun i hi hz => by have := RangeAt.lt HA3.out i hz; have := hz4 i hi; omega); have HB4 := Lib.hid (HB3.out.trans (hb4.mono HB3.out.size)); clear hs4 hz4 hb4 HRS HA3 HV3)
    | (go_at_call 20; refine (HAP.out g Z _ HA4.out HZ2.out HB4.out).mono ?_; rintro e W5 ⟨rfl, Z5, h1, h2, h3⟩; have HA5 := Lib.hid h1; have HB5 := Lib.hid (HB4.out.trans (h2.below HB4.out.size fun i hi hz => by have := HZ2.out i hz; omega)); have HZ5 := Lib.hid (show ∀ i, Z5 i → w.heap.size ≤ i from fun i hi => by rcases h3 i hi with h | h; exact HZ2.out i h; exact Nat.le_trans HB4.out.size h); have HS5 := Lib.hid (RangeAt.turn HS4.out h2 HD4.out); have HD5 := Lib.hid (show ∀ i, Z5 i → ¬ Z' i from fun i hi hz => by rcases h3 i hi with h | h; exact HD4.out i hz h; have := RangeAt.lt HS4.out i hz; omega); clear h1 h2 h3 HA4)
    | (go_at_call 20; refine (HAP.out g' Z' _ HS5.out HZ4.out HB5.out).mono ?_; rintro e W6 ⟨rfl, Z6, h1, h2, h3⟩; have HS6 := Lib.hid h1; have HB6 := Lib.hid (HB5.out.trans (h2.below HB5.out.size fun i hi hz => by have := HZ4.out i hz; omega)); have HA6 := Lib.hid (RangeAt.turn HA5.out h2 HD5.out); clear h1 h2 h3 HA5 HS5)
    | (go_at_call 21; refine (HRT.out g Z5 _ HB6.out HA6.out).mono ?_; rintro e W7 ⟨rfl, hb7⟩; have HB7 := Lib.hid (HB6.out.trans (hb7.mono HB6.out.size)); have HA7 := Lib.hid (RangeAt.below HA6.out hb7); have HS7 := Lib.hid (RangeAt.below HS6.out hb7); clear hb7 HA6 HS6)
    | (go_at_call 21; refine (HRT.out g' Z6 _ HB7.out HS7.out).mono ?_; rintro e W8 ⟨rfl, hb8⟩; have HB8 := Lib.hid (HB7.out.trans (hb8.mono HB7.out.size)); have HA8 := Lib.hid (RangeAt.below HA7.out hb8); have HS8 := Lib.hid (RangeAt.below HS7.out hb8); clear hb8 HA7 HS7)
    | (go_at_call 23; refine (HSZ.out g' Z6 _ HS8.out).mono ?_; rintro e W9 ⟨rfl, rfl⟩)
    | (go_at_call 25; refine (HTP2.out g Z5 _ HA8.out).mono ?_; rintro e W10 ⟨A10, c10, rfl, hr10, hb10⟩; have HB10 := Lib.hid (HB8.out.trans (hb10.mono HB8.out.size)); have HA10 := Lib.hid (RangeAt.below HA8.out hb10); have HV10 := Lib.hid hr10; clear hb10 hr10 HA8)
    | (go_at_call 30; refine (HRS2.out _ _ HV10.out).mono ?_; rintro e W11 ⟨g2, rfl, hb11⟩; have HB11 := Lib.hid (HB10.out.trans (hb11.mono HB10.out.size)); have HA11 := Lib.hid (RangeAt.below HA10.out hb11); clear hb11 HA10)
    | (go_at_call 28; refine (HPK.out _).mono ?_; rintro e W12 ⟨Aa, ca, Ac, cc, rfl, hb12⟩; have HB12 := Lib.hid (HB11.out.trans (hb12.mono HB11.out.size)); have HA12 := Lib.hid (RangeAt.below HA11.out hb12); clear hb12)
    | (go_at_call 25; refine (HTP2.out g Z5 _ HA12.out).mono ?_; rintro e W13 ⟨A13, c13, rfl, hr13, hb13⟩; have HB13 := Lib.hid (HB12.out.trans (hb13.mono HB12.out.size)); clear hb13 hr13))
  go_ret
  exact ⟨rfl, HB13.out⟩
set_option maxRecDepth 100000 in
set_option maxHeartbeats 2000000 in
theorem restores_no (v v2 : Value) (l more : List D) (m : Nat) (hm : m ≤ 1099511627776) (w : World) (hT : Tables w) (hr : RdI w (fun b => b < w.heap.size) v l) (hr2 : RdI w (fun b => b < w.heap.size) v2 more) (hs : pop (min l.length 60 + min more.length 30) ≠ pop m) :
    Calls Tryd.prog 5 #[v, v2, .int .i64 (m : Int)] w fun e w' => e = .returned (.bool true) ∧ Below w.heap.size w w' := by
  obtain ⟨A, c, rfl, hlc, _⟩ := id hr
  obtain ⟨A', c', rfl, hlc', _⟩ := id hr2
  obtain ⟨n, hn⟩ : ∃ n, l.length = n := ⟨_, rfl⟩
  obtain ⟨n', hn'⟩ : ∃ n', more.length = n' := ⟨_, rfl⟩
  obtain ⟨q, hq⟩ : ∃ q, min n 60 = q := ⟨_, rfl⟩
  obtain ⟨q', hq'⟩ : ∃ q', min n' 30 = q' := ⟨_, rfl⟩
  rw [hn] at hr hlc ⊢
  rw [hn'] at hr2 hlc' ⊢
  have hr1 := hr.take (k := q) (by omega)
  have hr3 := hr2.take (k := q') (by omega)
  have hn1 : (l.take q).length = q := by rw [List.length_take]; omega
  have hn2 : (more.take q').length = q' := by rw [List.length_take]; omega
  have hq60 : q ≤ 60 := by omega
  have hq30 : q' ≤ 30 := by omega
  have HCUT := Lib.hid fun W => cut_any A n c 60 q hlc hq (by omega) W
  have HCUT2 := Lib.hid fun W => cut_any A' n' c' 30 q' hlc' hq' (by omega) W
  have HPK : Hid (∀ W, Calls Tryd.prog 28 #[.int .i64 (m : Int)] W fun e w' => ∃ Aa ca Ac cc, e = .returned (.tuple #[.slice Aa (pop m) ca, .slice Ac (pop m) cc]) ∧ Below W.heap.size W w') := Lib.hid fun W => (refPeaks_any m hm W).mono (by
    rintro e w' ⟨a, c, rfl, h1, h2, h3⟩
    rw [pk_length] at h1 h2
    obtain ⟨A1, c1, rfl, _⟩ := own_len h1
    obtain ⟨A2, c2, rfl, _⟩ := own_len h2
    exact ⟨A1, c1, A2, c2, rfl, h3⟩)
  have d0 : decide ((m : Int) < 0) = false := decide_eq_false (by omega)
  have d1 : decide (1099511627776 < (m : Int)) = false := decide_eq_false (by omega)
  rw [hn, hn', hq, hq'] at hs
  generalize l.take q = l1 at *
  generalize more.take q' = l2 at *
  have HGR := Lib.hid (grows_any w hT)
  have HR1 := Lib.hid hr1
  have HR3 := Lib.hid hr3
  have HT := Lib.hid hT
  have h12 : (l1 ++ l2).length = q + q' := by rw [List.length_append, hn1, hn2]
  have HOF : Hid (∀ W, Below w.heap.size w W → Calls Tryd.prog 19 #[.slice A q c] W fun e w' => ∃ g Z, e = .returned (.pointer (some ⟨g, 0, none⟩)) ∧ TreeAt w' Z g l1 ∧ Below w.heap.size w w' ∧ ∀ i, Z i → w.heap.size ≤ i) := Lib.hid fun W hb => (treeOf_any (.slice A q c) l1 W (HT.out.below hb) ((HR1.out.old hb).mono fun b hb' => Nat.lt_of_lt_of_le hb' hb.size) (by omega)).mono (by
    rintro e w' ⟨g, Z, h1, h2, h3, h4⟩
    exact ⟨g, Z, h1, h2, hb.trans (h3.mono hb.size), fun i hi => Nat.le_trans hb.size (h4 i hi)⟩)
  have HTP : Hid (∀ g Z W, TreeAt W Z g l1 → Calls Tryd.prog 25 #[.pointer (some ⟨g, 0, none⟩)] W fun e w' => ∃ A c, e = .returned (.slice A (pop q) c) ∧ RdI w' (fun b => b < w'.heap.size) (.slice A (pop q) c) (tops l1) ∧ Below W.heap.size W w') := Lib.hid fun g Z W h => by
    have := tops_rd Z g l1 W h
    rw [hn1] at this
    exact this
  have HRS : Hid (∀ W v, RdI W (fun b => b < W.heap.size) v (tops l1) → Calls Tryd.prog 30 #[.int .i64 (q : Int), v] W fun e w' => ∃ g Z, e = .returned (.tuple #[.pointer (some ⟨g, 0, none⟩), .int .i64 0]) ∧ TreeAt w' Z g l1 ∧ (∀ i, Z i → W.heap.size ≤ i) ∧ Below W.heap.size W w') := Lib.hid fun W v hr => by
    have := restore_tree l1 (by omega) v W hr
    rw [hn1] at this
    exact this
  have HAP : Hid (∀ g Z W, TreeAt W Z g l1 → (∀ i, Z i → w.heap.size ≤ i) → Below w.heap.size w W → Calls Tryd.prog 20 #[.pointer (some ⟨g, 0, none⟩), .slice A' q' c'] W fun e w' => e = .returned (.int .i64 0) ∧ TLeft Z g (l1 ++ l2) W w') := Lib.hid fun g Z W h hz hb =>
    treeAppend_any w HT.out Z g l1 _ l2 W h hz hb (fun b => b < w.heap.size) (HR3.out.old hb) (fun b hb' => ⟨Nat.lt_of_lt_of_le hb' hb.size, fun hh => by have := hz b hh; omega⟩) (by omega)
  have HRT : Hid (∀ g Z W, Below w.heap.size w W → TreeAt W Z g (l1 ++ l2) → Calls Tryd.prog 21 #[.pointer (some ⟨g, 0, none⟩)] W fun e w' => e = .returned (.agg (arr 32 fun i => bv (mth (l1 ++ l2) i))) ∧ Below W.heap.size W w') := Lib.hid fun g Z W hb h => callsIn_wide.1 (treeRoot_any Z g _ W (HT.out.below hb) h)
  have HSZ : Hid (∀ g Z W, TreeAt W Z g (l1 ++ l2) → Calls Tryd.prog 23 #[.pointer (some ⟨g, 0, none⟩)] W fun e w' => e = .returned (.int .i64 ((q : Int) + (q' : Int))) ∧ w' = W) := Lib.hid fun g Z W h => by
    have := treeSize_any Z g _ W h
    rw [h12, Int.natCast_add] at this
    exact this
  have HTP2 : Hid (∀ g Z W, TreeAt W Z g (l1 ++ l2) → Calls Tryd.prog 25 #[.pointer (some ⟨g, 0, none⟩)] W fun e w' => ∃ A c, e = .returned (.slice A (pop (q + q')) c) ∧ RdI w' (fun b => b < w'.heap.size) (.slice A (pop (q + q')) c) (tops (l1 ++ l2)) ∧ Below W.heap.size W w') := Lib.hid fun g Z W h => by
    have := tops_rd Z g _ W h
    rw [h12] at this
    exact this
  have ne1 := neq_id (mth (l1 ++ l2)) (mth (l1 ++ l2))
  rw [beq_self_eq_true] at ne1
  have hp7 : pop (q + q') ≤ 7 := pop_le 7 _ (by omega)
  have hpq : pop q ≤ 7 := pop_le 7 _ (by omega)
  have HRS2 : Hid (∀ v W, RdI W (fun b => b < W.heap.size) v (tops (l1 ++ l2)) → Calls Tryd.prog 30 #[.int .i64 (m : Int), v] W fun e w' => e = .returned (.tuple #[.pointer none, .int .i64 60]) ∧ Below W.heap.size W w') := Lib.hid fun v W hr => restore_no m hm v _ W hr (by rw [tops_length _ _ rfl, h12]; exact hs)
  have hpm : pop m ≤ 64 := by
    have := pop_le 41 m (by omega)
    omega
  have dne : (((pop m : Nat) : Int) == ((pop (q + q') : Nat) : Int)) = false := by rw [beq_eq_false_iff_ne]; omega
  clear hs
  generalize pop m = pm at *
  clear hr hr1 hr2 hr3 hn hq hlc hn' hq' hlc' hT hn1 hn2 h12
  generalize (arr 32 fun i => bv (mth (l1 ++ l2) i)) = R at *
  generalize pop (q + q') = p at *
  generalize pop q = p0 at *
  go_enter Tryd.func5, Tryd.ntmps5
  go_wp2_with (first
    | (go_at_call 17; refine HGR.out.mono ?_; rintro e W1 ⟨rfl, hb1⟩; have HB1 := Lib.hid hb1; clear hb1 HGR)
    | (go_at_call 18; refine (HCUT.out _).mono ?_; rintro e W2 ⟨rfl, rfl⟩; clear HCUT)
    | (go_at_call 18; refine (HCUT2.out _).mono ?_; rintro e W2 ⟨rfl, rfl⟩)
    | (go_at_call 19; refine (HOF.out _ HB1.out).mono ?_; rintro e W2 ⟨g, Z, rfl, ht, hb, hz⟩; have HA2 := Lib.hid ht; have HB2 := Lib.hid hb; have HZ2 := Lib.hid hz; clear ht hb hz HOF)
    | (go_at_call 25; refine (HTP.out g Z _ HA2.out).mono ?_; rintro e W3 ⟨A3, c3, rfl, hr3, hb3⟩; have HB3 := Lib.hid (HB2.out.trans (hb3.mono HB2.out.size)); have HA3 := Lib.hid (RangeAt.below HA2.out hb3); have HV3 := Lib.hid hr3; clear hb3 hr3 HTP)
    | (go_at_call 30; refine (HRS.out _ _ HV3.out).mono ?_; rintro e W4 ⟨g', Z', rfl, hs4, hz4, hb4⟩; have HA4 := Lib.hid (RangeAt.below HA3.out hb4); have HS4 := Lib.hid hs4; have HZ4 := Lib.hid (show ∀ i, Z' i → w.heap.size ≤ i from fun i hi => Nat.le_trans HB3.out.size (hz4 i hi)); have HD4 := Lib.hid (show ∀ i, Z' i → ¬ Z i from fun i hi hz => by have := RangeAt.lt HA3.out i hz; have := hz4 i hi; omega); have HB4 := Lib.hid (HB3.out.trans (hb4.mono HB3.out.size)); clear hs4 hz4 hb4 HRS HA3 HV3)
    | (go_at_call 20; refine (HAP.out g Z _ HA4.out HZ2.out HB4.out).mono ?_; rintro e W5 ⟨rfl, Z5, h1, h2, h3⟩; have HA5 := Lib.hid h1; have HB5 := Lib.hid (HB4.out.trans (h2.below HB4.out.size fun i hi hz => by have := HZ2.out i hz; omega)); have HZ5 := Lib.hid (show ∀ i, Z5 i → w.heap.size ≤ i from fun i hi => by rcases h3 i hi with h | h; exact HZ2.out i h; exact Nat.le_trans HB4.out.size h); have HS5 := Lib.hid (RangeAt.turn HS4.out h2 HD4.out); have HD5 := Lib.hid (show ∀ i, Z5 i → ¬ Z' i from fun i hi hz => by rcases h3 i hi with h | h; exact HD4.out i hz h; have := RangeAt.lt HS4.out i hz; omega); clear h1 h2 h3 HA4)
    | (go_at_call 20; refine (HAP.out g' Z' _ HS5.out HZ4.out HB5.out).mono ?_; rintro e W6 ⟨rfl, Z6, h1, h2, h3⟩; have HS6 := Lib.hid h1; have HB6 := Lib.hid (HB5.out.trans (h2.below HB5.out.size fun i hi hz => by have := HZ4.out i hz; omega)); have HA6 := Lib.hid (RangeAt.turn HA5.out h2 HD5.out); clear h1 h2 h3 HA5 HS5)
    | (go_at_call 21; refine (HRT.out g Z5 _ HB6.out HA6.out).mono ?_; rintro e W7 ⟨rfl, hb7⟩; have HB7 := Lib.hid (HB6.out.trans (hb7.mono HB6.out.size)); have HA7 := Lib.hid (RangeAt.below HA6.out hb7); have HS7 := Lib.hid (RangeAt.below HS6.out hb7); clear hb7 HA6 HS6)
    | (go_at_call 21; refine (HRT.out g' Z6 _ HB7.out HS7.out).mono ?_; rintro e W8 ⟨rfl, hb8⟩; have HB8 := Lib.hid (HB7.out.trans (hb8.mono HB7.out.size)); have HA8 := Lib.hid (RangeAt.below HA7.out hb8); have HS8 := Lib.hid (RangeAt.below HS7.out hb8); clear hb8 HA7 HS7)
    | (go_at_call 23; refine (HSZ.out g' Z6 _ HS8.out).mono ?_; rintro e W9 ⟨rfl, rfl⟩)
    | (go_at_call 25; refine (HTP2.out g Z5 _ HA8.out).mono ?_; rintro e W10 ⟨A10, c10, rfl, hr10, hb10⟩; have HB10 := Lib.hid (HB8.out.trans (hb10.mono HB8.out.size)); have HA10 := Lib.hid (RangeAt.below HA8.out hb10); have HV10 := Lib.hid hr10; clear hb10 hr10 HA8)
    | (go_at_call 30; refine (HRS2.out _ _ HV10.out).mono ?_; rintro e W11 ⟨rfl, hb11⟩; have HB11 := Lib.hid (HB10.out.trans (hb11.mono HB10.out.size)); have HA11 := Lib.hid (RangeAt.below HA10.out hb11); clear hb11 HA10)
    | (go_at_call 28; refine (HPK.out _).mono ?_; rintro e W12 ⟨Aa, ca, Ac, cc, rfl, hb12⟩; have HB12 := Lib.hid (HB11.out.trans (hb12.mono HB11.out.size)); have HA12 := Lib.hid (RangeAt.below HA11.out hb12); clear hb12)
    | (go_at_call 25; refine (HTP2.out g Z5 _ HA12.out).mono ?_; rintro e W13 ⟨A13, c13, rfl, hr13, hb13⟩; have HB13 := Lib.hid (HB12.out.trans (hb13.mono HB12.out.size)); clear hb13 hr13))
  go_ret
  exact ⟨rfl, HB13.out⟩
theorem restores_law (v : Value) (l : List D) (v2 : Value) (more : List D) (size : Int) (w : World) (hT : Tables w) (hr : RdI w (fun b => b < w.heap.size) v l) (hr2 : RdI w (fun b => b < w.heap.size) v2 more) :
    Calls Tryd.prog 5 #[v, v2, .int .i64 size] w fun e w' => e = .returned (.bool true) ∧ Below w.heap.size w w' := by
  by_cases h0 : size < 0
  · exact restores_outA v v2 l more size h0 w hT hr hr2
  · by_cases h1 : 1099511627776 < size
    · exact restores_outB v v2 l more size ⟨h0, h1⟩ w hT hr hr2
    · obtain ⟨m, rfl⟩ := Int.eq_ofNat_of_zero_le (show 0 ≤ size by omega)
      by_cases h : pop (min l.length 60 + min more.length 30) = pop m
      · exact restores_yes v v2 l more m (by omega) w hT hr hr2 h
      · exact restores_no v v2 l more m (by omega) w hT hr hr2 h
end Go.Proofs.YtkkanaefngggoaaDoor
