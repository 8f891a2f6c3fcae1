/-
  TreeRoots: for every list of leaves and every number, in whatever memory in which the tables lie. No condition.
-/
import Derived.Test.YtkkanaefngggoaaDoorTreeRefT
import Derived.Test.YtkkanaefngggoaaDoorTreeLawE
namespace Go.Proofs.YtkkanaefngggoaaDoor
open Go Go.RowKit Go.Shelf TreeM

set_option maxRecDepth 100000 in
set_option maxHeartbeats 2000000 in
theorem roots_neg (v : Value) (l : List D) (at_ : Int) (hs : at_ < 0) (w : World) (hT : Tables w) (hr : RdI w (fun b => b < w.heap.size) v l) :
    Calls Tryd.prog 3 #[v, .int .i64 at_] w fun e w' => e = .returned (.bool true) ∧ Below w.heap.size w w' := by
  obtain ⟨A, c, rfl, hlc, _⟩ := id hr
  obtain ⟨n, hn⟩ : ∃ n, l.length = n := ⟨_, rfl⟩
  obtain ⟨q, hq⟩ : ∃ q, min n 100 = q := ⟨_, rfl⟩
  rw [hn] at hr hlc ⊢
  have hr1 := hr.take (k := q) (by omega)
  have hn1 : (l.take q).length = q := by rw [List.length_take]; omega
  have hq100 : q ≤ 100 := by omega
  have hqc : q ≤ c := by omega
  have HCUT := Lib.hid fun W => cut_any A n c 100 q hlc hq (by omega) W
  have HGR := Lib.hid (grows_any w hT)
  have d0 : decide (at_ < 0) = true := decide_eq_true hs
  obtain ⟨p, hp0⟩ : ∃ p : Nat, p = 0 := ⟨_, rfl⟩
  have hp : p ≤ q := by omega
  clear hs
  generalize l.take q = l1 at *
  have HR1 := Lib.hid hr1
  have HT := Lib.hid hT
  have rd (W : World) (hb : Below w.heap.size w W) : RdI W (fun b => b < W.heap.size) (.slice A q c) l1 := (HR1.out.old hb).mono fun b hb' => Nat.lt_of_lt_of_le hb' hb.size
  have hS : (l1.take p).length = p := by rw [List.length_take, hn1]; omega
  have hR : (l1.drop p).length = q - p := by rw [List.length_drop, hn1]
  have hSR : l1.take p ++ l1.drop p = l1 := List.take_append_drop p l1
  have HOF : Hid (∀ W, Below w.heap.size w W → Calls Tryd.prog 19 #[.slice A p c] W fun e w' => ∃ g Z, e = .returned (.pointer (some ⟨g, 0, none⟩)) ∧ TreeAt w' Z g (l1.take p) ∧ Below w.heap.size w w' ∧ ∀ i, Z i → w.heap.size ≤ i) := Lib.hid fun W hb => (treeOf_any (.slice A p c) (l1.take p) W (HT.out.below hb) ((rd W hb).take hp) (by omega)).mono (by
    rintro e w' ⟨g, Z, h1, h2, h3, h4⟩
    exact ⟨g, Z, h1, h2, hb.trans (h3.mono hb.size), fun i hi => Nat.le_trans hb.size (h4 i hi)⟩)
  have HAP : Hid (∀ g Z W, TreeAt W Z g (l1.take p) → (∀ i, Z i → w.heap.size ≤ i) → Below w.heap.size w W → Calls Tryd.prog 20 #[.pointer (some ⟨g, 0, none⟩), .slice (cutI A c p) (q - p) (c - p)] W fun e w' => e = .returned (.int .i64 0) ∧ TLeft Z g l1 W w') := Lib.hid fun g Z W h hz hb => by
    have := treeAppend_any w HT.out Z g (l1.take p) _ (l1.drop p) W h hz hb (fun b => b < w.heap.size) ((HR1.out.old hb).drop hp) (fun b hb' => ⟨Nat.lt_of_lt_of_le hb' hb.size, fun hh => by have := hz b hh; omega⟩) (by omega)
    rw [hSR] at this
    exact this
  have HRT : Hid (∀ g Z W, Below w.heap.size w W → TreeAt W Z g l1 → Calls Tryd.prog 21 #[.pointer (some ⟨g, 0, none⟩)] W fun e w' => e = .returned (.agg (arr 32 fun i => bv (mth l1 i))) ∧ Below W.heap.size W w') := Lib.hid fun g Z W hb h => callsIn_wide.1 (treeRoot_any Z g l1 W (HT.out.below hb) h)
  have HRR : Hid (∀ W, Below w.heap.size w W → Calls Tryd.prog 22 #[.slice A q c] W fun e w' => e = .returned (.agg (arr 32 fun i => bv (mth l1 i))) ∧ Below W.heap.size W w') := Lib.hid fun W hb => refRoot_any q l1 _ W hn1 (by omega) (rd W hb)
  have HTR : Hid (∀ W, Below w.heap.size w W → Calls Tryd.prog 27 #[.slice A q c] W fun e w' => e = .returned (.agg (arr 32 fun i => bv (mth l1 i))) ∧ Below W.heap.size W w') := Lib.hid fun W hb => troot_any _ l1 W (HT.out.below hb) (rd W hb) (by omega)
  have HSZ : Hid (∀ g Z W, TreeAt W Z g l1 → Calls Tryd.prog 23 #[.pointer (some ⟨g, 0, none⟩)] W fun e w' => e = .returned (.int .i64 (q : Int)) ∧ w' = W) := Lib.hid fun g Z W h => by
    have := treeSize_any Z g l1 W h
    rw [hn1] at this
    exact this
  have HTP : Hid (∀ g Z W, TreeAt W Z g l1 → Calls Tryd.prog 25 #[.pointer (some ⟨g, 0, none⟩)] W fun e w' => ∃ A c, e = .returned (.slice A (pop q) c) ∧ RdI w' (fun b => b < w'.heap.size) (.slice A (pop q) c) (tops l1) ∧ Below W.heap.size W w') := Lib.hid fun g Z W h => by
    have := tops_rd Z g l1 W h
    rw [hn1] at this
    exact this
  have htl : (tops l1).length = pop q := tops_length q l1 hn1
  have hp7 : pop q ≤ 7 := pop_le 7 _ (by omega)
  have HRTP : Hid (∀ W, Below w.heap.size w W → Calls Tryd.prog 26 #[.slice A q c] W fun e w' => ∃ A c, e = .returned (.slice A (pop q) c) ∧ RdI w' (fun b => b < w'.heap.size) (.slice A (pop q) c) (tops l1) ∧ Below W.heap.size W w') := Lib.hid fun W hb => (refTops_any _ l1 W (rd W hb) (by omega)).mono (by
    rintro e w' ⟨v', rfl, ho, hb⟩
    rw [htl] at ho
    obtain ⟨A, c, rfl, _⟩ := own_len ho
    exact ⟨A, c, rfl, (own_rd ho (by omega)).mono fun b hb => hb.2.2, hb⟩)
  have HSM := Lib.hid fun v v' W h h' => same_true v v' (tops l1) W h h' (by omega)
  have eq1 := eql_id (mth l1) (mth l1)
  rw [beq_self_eq_true] at eq1
  have sl1 := run_slice_toN (P := Tryd.prog) 22 30 Tryd.underlying22 32 (by kernel_rfl) A q c p (by omega)
  have sl2 := run_slice_fromI (P := Tryd.prog) 22 30 Tryd.underlying22 (by kernel_rfl) A q c p (by omega)
  obtain ⟨d, hd⟩ : ∃ d, q - p = d := ⟨_, rfl⟩
  obtain ⟨m, hm⟩ : ∃ m, c - p = m := ⟨_, rfl⟩
  obtain ⟨A2, hA2⟩ : ∃ A2, cutI A c p = A2 := ⟨_, rfl⟩
  rw [hd, hm, hA2] at HAP sl2
  clear hr hr1 hn hq hlc hT hn1 hS hR hSR rd htl hd hm hA2
  generalize (arr 32 fun i => bv (mth l1 i)) = R at *
  generalize pop q = pq at *
  generalize tops l1 = TS at *
  generalize l1.take p = S at *
  subst hp0
  rw [show ((0 : Nat) : Int) = 0 from rfl] at sl1 sl2
  go_enter Tryd.func3, Tryd.ntmps3
  go_wp2_with (first
    | (go_at_call 17; refine HGR.out.mono ?_; rintro e W1 ⟨rfl, hb1⟩; have HB1 := Lib.hid hb1; clear hb1 HGR)
    | (go_at_call 18; refine (HCUT.out _).mono ?_; rintro e W2 ⟨rfl, rfl⟩; clear HCUT)
    | (go_at_call 19; refine (HOF.out _ HB1.out).mono ?_; rintro e W2 ⟨g, Z, rfl, ht, hb, hz⟩; have HA2 := Lib.hid ht; have HB2 := Lib.hid hb; have HZ2 := Lib.hid hz; clear ht hb hz HOF)
    | (go_at_call 20; refine (HAP.out g Z _ HA2.out HZ2.out HB2.out).mono ?_; rintro e W3 ⟨rfl, Z3, h1, h2, h3⟩; have HA3 := Lib.hid h1; have HB3 := Lib.hid (HB2.out.trans (h2.below HB2.out.size fun i hi hz => by have := HZ2.out i hz; omega)); clear h1 h2 h3 HA2 HAP)
    | (go_at_call 21; refine (HRT.out g Z3 _ HB3.out HA3.out).mono ?_; rintro e W4 ⟨rfl, hb4⟩; have HB4 := Lib.hid (HB3.out.trans (hb4.mono HB3.out.size)); have HA4 := Lib.hid (RangeAt.below HA3.out hb4); clear hb4 HA3)
    | (go_at_call 22; refine (HRR.out _ HB4.out).mono ?_; rintro e W5 ⟨rfl, hb5⟩; have HB5 := Lib.hid (HB4.out.trans (hb5.mono HB4.out.size)); have HA5 := Lib.hid (RangeAt.below HA4.out hb5); clear hb5 HA4 HRR)
    | (go_at_call 23; refine (HSZ.out g Z3 _ HA5.out).mono ?_; rintro e W6 ⟨rfl, rfl⟩)
    | (go_at_call 25; refine (HTP.out g Z3 _ HA5.out).mono ?_; rintro e W7 ⟨A7, c7, rfl, hr7, hb7⟩; have HB7 := Lib.hid (HB5.out.trans (hb7.mono HB5.out.size)); have HA7 := Lib.hid (RangeAt.below HA5.out hb7); have HV7 := Lib.hid hr7; clear hb7 hr7 HA5)
    | (go_at_call 26; refine (HRTP.out _ HB7.out).mono ?_; rintro e W8 ⟨A8, c8, rfl, hr8, hb8⟩; have HB8 := Lib.hid (HB7.out.trans (hb8.mono HB7.out.size)); have HA8 := Lib.hid (RangeAt.below HA7.out hb8); have HS8 := Lib.hid (HSM.out _ _ _ (HV7.out.below hb8) hr8); clear hb8 hr8 HA7 HV7)
    | (go_at_call 24; refine HS8.out.mono ?_; rintro e W9 ⟨rfl, hb9⟩; have HB9 := Lib.hid (HB8.out.trans (hb9.mono HB8.out.size)); have HA9 := Lib.hid (RangeAt.below HA8.out hb9); clear hb9 HA8)
    | (go_at_call 27; refine (HTR.out _ HB9.out).mono ?_; rintro e W10 ⟨rfl, hb10⟩; have HB10 := Lib.hid (HB9.out.trans (hb10.mono HB9.out.size)); have HA10 := Lib.hid (RangeAt.below HA9.out hb10); clear hb10 HA9)
    | (go_at_call 21; refine (HRT.out g Z3 _ HB10.out HA10.out).mono ?_; rintro e W11 ⟨rfl, hb11⟩; have HB11 := Lib.hid (HB10.out.trans (hb11.mono HB10.out.size)); clear hb11 HA10))
  go_ret
  exact ⟨rfl, HB11.out⟩
set_option maxRecDepth 100000 in
set_option maxHeartbeats 2000000 in
theorem roots_far (v : Value) (l : List D) (m0 : Nat) (w : World) (hT : Tables w) (hr : RdI w (fun b => b < w.heap.size) v l) (hs : min l.length 100 < m0) :
    Calls Tryd.prog 3 #[v, .int .i64 (m0 : Int)] w fun e w' => e = .returned (.bool true) ∧ Below w.heap.size w w' := by
  obtain ⟨A, c, rfl, hlc, _⟩ := id hr
  obtain ⟨n, hn⟩ : ∃ n, l.length = n := ⟨_, rfl⟩
  obtain ⟨q, hq⟩ : ∃ q, min n 100 = q := ⟨_, rfl⟩
  rw [hn] at hr hlc ⊢
  have hr1 := hr.take (k := q) (by omega)
  have hn1 : (l.take q).length = q := by rw [List.length_take]; omega
  have hq100 : q ≤ 100 := by omega
  have hqc : q ≤ c := by omega
  have HCUT := Lib.hid fun W => cut_any A n c 100 q hlc hq (by omega) W
  have HGR := Lib.hid (grows_any w hT)
  rw [hn, hq] at hs
  have d0 : decide ((m0 : Int) < 0) = false := decide_eq_false (by omega)
  have d1 : decide ((q : Int) < (m0 : Int)) = true := decide_eq_true (by omega)
  have d2 : decide (q < m0) = true := decide_eq_true hs
  obtain ⟨p, hp0⟩ : ∃ p : Nat, p = 0 := ⟨_, rfl⟩
  have hp : p ≤ q := by omega
  generalize l.take q = l1 at *
  have HR1 := Lib.hid hr1
  have HT := Lib.hid hT
  have rd (W : World) (hb : Below w.heap.size w W) : RdI W (fun b => b < W.heap.size) (.slice A q c) l1 := (HR1.out.old hb).mono fun b hb' => Nat.lt_of_lt_of_le hb' hb.size
  have hS : (l1.take p).length = p := by rw [List.length_take, hn1]; omega
  have hR : (l1.drop p).length = q - p := by rw [List.length_drop, hn1]
  have hSR : l1.take p ++ l1.drop p = l1 := List.take_append_drop p l1
  have HOF : Hid (∀ W, Below w.heap.size w W → Calls Tryd.prog 19 #[.slice A p c] W fun e w' => ∃ g Z, e = .returned (.pointer (some ⟨g, 0, none⟩)) ∧ TreeAt w' Z g (l1.take p) ∧ Below w.heap.size w w' ∧ ∀ i, Z i → w.heap.size ≤ i) := Lib.hid fun W hb => (treeOf_any (.slice A p c) (l1.take p) W (HT.out.below hb) ((rd W hb).take hp) (by omega)).mono (by
    rintro e w' ⟨g, Z, h1, h2, h3, h4⟩
    exact ⟨g, Z, h1, h2, hb.trans (h3.mono hb.size), fun i hi => Nat.le_trans hb.size (h4 i hi)⟩)
  have HAP : Hid (∀ g Z W, TreeAt W Z g (l1.take p) → (∀ i, Z i → w.heap.size ≤ i) → Below w.heap.size w W → Calls Tryd.prog 20 #[.pointer (some ⟨g, 0, none⟩), .slice (cutI A c p) (q - p) (c - p)] W fun e w' => e = .returned (.int .i64 0) ∧ TLeft Z g l1 W w') := Lib.hid fun g Z W h hz hb => by
    have := treeAppend_any w HT.out Z g (l1.take p) _ (l1.drop p) W h hz hb (fun b => b < w.heap.size) ((HR1.out.old hb).drop hp) (fun b hb' => ⟨Nat.lt_of_lt_of_le hb' hb.size, fun hh => by have := hz b hh; omega⟩) (by omega)
    rw [hSR] at this
    exact this
  have HRT : Hid (∀ g Z W, Below w.heap.size w W → TreeAt W Z g l1 → Calls Tryd.prog 21 #[.pointer (some ⟨g, 0, none⟩)] W fun e w' => e = .returned (.agg (arr 32 fun i => bv (mth l1 i))) ∧ Below W.heap.size W w') := Lib.hid fun g Z W hb h => callsIn_wide.1 (treeRoot_any Z g l1 W (HT.out.below hb) h)
  have HRR : Hid (∀ W, Below w.heap.size w W → Calls Tryd.prog 22 #[.slice A q c] W fun e w' => e = .returned (.agg (arr 32 fun i => bv (mth l1 i))) ∧ Below W.heap.size W w') := Lib.hid fun W hb => refRoot_any q l1 _ W hn1 (by omega) (rd W hb)
  have HTR : Hid (∀ W, Below w.heap.size w W → Calls Tryd.prog 27 #[.slice A q c] W fun e w' => e = .returned (.agg (arr 32 fun i => bv (mth l1 i))) ∧ Below W.heap.size W w') := Lib.hid fun W hb => troot_any _ l1 W (HT.out.below hb) (rd W hb) (by omega)
  have HSZ : Hid (∀ g Z W, TreeAt W Z g l1 → Calls Tryd.prog 23 #[.pointer (some ⟨g, 0, none⟩)] W fun e w' => e = .returned (.int .i64 (q : Int)) ∧ w' = W) := Lib.hid fun g Z W h => by
    have := treeSize_any Z g l1 W h
    rw [hn1] at this
    exact this
  have HTP : Hid (∀ g Z W, TreeAt W Z g l1 → Calls Tryd.prog 25 #[.pointer (some ⟨g, 0, none⟩)] W fun e w' => ∃ A c, e = .returned (.slice A (pop q) c) ∧ RdI w' (fun b => b < w'.heap.size) (.slice A (pop q) c) (tops l1) ∧ Below W.heap.size W w') := Lib.hid fun g Z W h => by
    have := tops_rd Z g l1 W h
    rw [hn1] at this
    exact this
  have htl : (tops l1).length = pop q := tops_length q l1 hn1
  have hp7 : pop q ≤ 7 := pop_le 7 _ (by omega)
  have HRTP : Hid (∀ W, Below w.heap.size w W → Calls Tryd.prog 26 #[.slice A q c] W fun e w' => ∃ A c, e = .returned (.slice A (pop q) c) ∧ RdI w' (fun b => b < w'.heap.size) (.slice A (pop q) c) (tops l1) ∧ Below W.heap.size W w') := Lib.hid fun W hb => (refTops_any _ l1 W (rd W hb) (by omega)).mono (by
    rintro e w' ⟨v', rfl, ho, hb⟩
    rw [htl] at ho
    obtain ⟨A, c, rfl, _⟩ := own_len ho
    exact ⟨A, c, rfl, (own_rd ho (by omega)).mono fun b hb => hb.2.2, hb⟩)
  have HSM := Lib.hid fun v v' W h h' => same_true v v' (tops l1) W h h' (by omega)
  have eq1 := eql_id (mth l1) (mth l1)
  rw [beq_self_eq_true] at eq1
  have sl1 := run_slice_toN (P := Tryd.prog) 22 30 Tryd.underlying22 32 (by kernel_rfl) A q c p (by omega)
  have sl2 := run_slice_fromI (P := Tryd.prog) 22 30 Tryd.underlying22 (by kernel_rfl) A q c p (by omega)
  obtain ⟨d, hd⟩ : ∃ d, q - p = d := ⟨_, rfl⟩
  obtain ⟨m, hm⟩ : ∃ m, c - p = m := ⟨_, rfl⟩
  obtain ⟨A2, hA2⟩ : ∃ A2, cutI A c p = A2 := ⟨_, rfl⟩
  rw [hd, hm, hA2] at HAP sl2
  clear hr hr1 hn hq hlc hT hn1 hS hR hSR rd htl hd hm hA2
  generalize (arr 32 fun i => bv (mth l1 i)) = R at *
  generalize pop q = pq at *
  generalize tops l1 = TS at *
  generalize l1.take p = S at *
  subst hp0
  rw [show ((0 : Nat) : Int) = 0 from rfl] at sl1 sl2
  go_enter Tryd.func3, Tryd.ntmps3
  go_wp2_with (first
    | (go_at_call 17; refine HGR.out.mono ?_; rintro e W1 ⟨rfl, hb1⟩; have HB1 := Lib.hid hb1; clear hb1 HGR)
    | (go_at_call 18; refine (HCUT.out _).mono ?_; rintro e W2 ⟨rfl, rfl⟩; clear HCUT)
    | (go_at_call 19; refine (HOF.out _ HB1.out).mono ?_; rintro e W2 ⟨g, Z, rfl, ht, hb, hz⟩; have HA2 := Lib.hid ht; have HB2 := Lib.hid hb; have HZ2 := Lib.hid hz; clear ht hb hz HOF)
    | (go_at_call 20; refine (HAP.out g Z _ HA2.out HZ2.out HB2.out).mono ?_; rintro e W3 ⟨rfl, Z3, h1, h2, h3⟩; have HA3 := Lib.hid h1; have HB3 := Lib.hid (HB2.out.trans (h2.below HB2.out.size fun i hi hz => by have := HZ2.out i hz; omega)); clear h1 h2 h3 HA2 HAP)
    | (go_at_call 21; refine (HRT.out g Z3 _ HB3.out HA3.out).mono ?_; rintro e W4 ⟨rfl, hb4⟩; have HB4 := Lib.hid (HB3.out.trans (hb4.mono HB3.out.size)); have HA4 := Lib.hid (RangeAt.below HA3.out hb4); clear hb4 HA3)
    | (go_at_call 22; refine (HRR.out _ HB4.out).mono ?_; rintro e W5 ⟨rfl, hb5⟩; have HB5 := Lib.hid (HB4.out.trans (hb5.mono HB4.out.size)); have HA5 := Lib.hid (RangeAt.below HA4.out hb5); clear hb5 HA4 HRR)
    | (go_at_call 23; refine (HSZ.out g Z3 _ HA5.out).mono ?_; rintro e W6 ⟨rfl, rfl⟩)
    | (go_at_call 25; refine (HTP.out g Z3 _ HA5.out).mono ?_; rintro e W7 ⟨A7, c7, rfl, hr7, hb7⟩; have HB7 := Lib.hid (HB5.out.trans (hb7.mono HB5.out.size)); have HA7 := Lib.hid (RangeAt.below HA5.out hb7); have HV7 := Lib.hid hr7; clear hb7 hr7 HA5)
    | (go_at_call 26; refine (HRTP.out _ HB7.out).mono ?_; rintro e W8 ⟨A8, c8, rfl, hr8, hb8⟩; have HB8 := Lib.hid (HB7.out.trans (hb8.mono HB7.out.size)); have HA8 := Lib.hid (RangeAt.below HA7.out hb8); have HS8 := Lib.hid (HSM.out _ _ _ (HV7.out.below hb8) hr8); clear hb8 hr8 HA7 HV7)
    | (go_at_call 24; refine HS8.out.mono ?_; rintro e W9 ⟨rfl, hb9⟩; have HB9 := Lib.hid (HB8.out.trans (hb9.mono HB8.out.size)); have HA9 := Lib.hid (RangeAt.below HA8.out hb9); clear hb9 HA8)
    | (go_at_call 27; refine (HTR.out _ HB9.out).mono ?_; rintro e W10 ⟨rfl, hb10⟩; have HB10 := Lib.hid (HB9.out.trans (hb10.mono HB9.out.size)); have HA10 := Lib.hid (RangeAt.below HA9.out hb10); clear hb10 HA9)
    | (go_at_call 21; refine (HRT.out g Z3 _ HB10.out HA10.out).mono ?_; rintro e W11 ⟨rfl, hb11⟩; have HB11 := Lib.hid (HB10.out.trans (hb11.mono HB10.out.size)); clear hb11 HA10))
  go_ret
  exact ⟨rfl, HB11.out⟩
set_option maxRecDepth 100000 in
set_option maxHeartbeats 2000000 in
theorem roots_in (v : Value) (l : List D) (p : Nat) (w : World) (hT : Tables w) (hr : RdI w (fun b => b < w.heap.size) v l) (hs : p ≤ min l.length 100) :
    Calls Tryd.prog 3 #[v, .int .i64 (p : Int)] w fun e w' => e = .returned (.bool true) ∧ Below w.heap.size w w' := by
  obtain ⟨A, c, rfl, hlc, _⟩ := id hr
  obtain ⟨n, hn⟩ : ∃ n, l.length = n := ⟨_, rfl⟩
  obtain ⟨q, hq⟩ : ∃ q, min n 100 = q := ⟨_, rfl⟩
  rw [hn] at hr hlc ⊢
  have hr1 := hr.take (k := q) (by omega)
  have hn1 : (l.take q).length = q := by rw [List.length_take]; omega
  have hq100 : q ≤ 100 := by omega
  have hqc : q ≤ c := by omega
  have HCUT := Lib.hid fun W => cut_any A n c 100 q hlc hq (by omega) W
  have HGR := Lib.hid (grows_any w hT)
  rw [hn, hq] at hs
  have hp := hs
  have d0 : decide ((p : Int) < 0) = false := decide_eq_false (by omega)
  have d1 : decide ((q : Int) < (p : Int)) = false := decide_eq_false (by omega)
  clear hs
  generalize l.take q = l1 at *
  have HR1 := Lib.hid hr1
  have HT := Lib.hid hT
  have rd (W : World) (hb : Below w.heap.size w W) : RdI W (fun b => b < W.heap.size) (.slice A q c) l1 := (HR1.out.old hb).mono fun b hb' => Nat.lt_of_lt_of_le hb' hb.size
  have hS : (l1.take p).length = p := by rw [List.length_take, hn1]; omega
  have hR : (l1.drop p).length = q - p := by rw [List.length_drop, hn1]
  have hSR : l1.take p ++ l1.drop p = l1 := List.take_append_drop p l1
  have HOF : Hid (∀ W, Below w.heap.size w W → Calls Tryd.prog 19 #[.slice A p c] W fun e w' => ∃ g Z, e = .returned (.pointer (some ⟨g, 0, none⟩)) ∧ TreeAt w' Z g (l1.take p) ∧ Below w.heap.size w w' ∧ ∀ i, Z i → w.heap.size ≤ i) := Lib.hid fun W hb => (treeOf_any (.slice A p c) (l1.take p) W (HT.out.below hb) ((rd W hb).take hp) (by omega)).mono (by
    rintro e w' ⟨g, Z, h1, h2, h3, h4⟩
    exact ⟨g, Z, h1, h2, hb.trans (h3.mono hb.size), fun i hi => Nat.le_trans hb.size (h4 i hi)⟩)
  have HAP : Hid (∀ g Z W, TreeAt W Z g (l1.take p) → (∀ i, Z i → w.heap.size ≤ i) → Below w.heap.size w W → Calls Tryd.prog 20 #[.pointer (some ⟨g, 0, none⟩), .slice (cutI A c p) (q - p) (c - p)] W fun e w' => e = .returned (.int .i64 0) ∧ TLeft Z g l1 W w') := Lib.hid fun g Z W h hz hb => by
    have := treeAppend_any w HT.out Z g (l1.take p) _ (l1.drop p) W h hz hb (fun b => b < w.heap.size) ((HR1.out.old hb).drop hp) (fun b hb' => ⟨Nat.lt_of_lt_of_le hb' hb.size, fun hh => by have := hz b hh; omega⟩) (by omega)
    rw [hSR] at this
    exact this
  have HRT : Hid (∀ g Z W, Below w.heap.size w W → TreeAt W Z g l1 → Calls Tryd.prog 21 #[.pointer (some ⟨g, 0, none⟩)] W fun e w' => e = .returned (.agg (arr 32 fun i => bv (mth l1 i))) ∧ Below W.heap.size W w') := Lib.hid fun g Z W hb h => callsIn_wide.1 (treeRoot_any Z g l1 W (HT.out.below hb) h)
  have HRR : Hid (∀ W, Below w.heap.size w W → Calls Tryd.prog 22 #[.slice A q c] W fun e w' => e = .returned (.agg (arr 32 fun i => bv (mth l1 i))) ∧ Below W.heap.size W w') := Lib.hid fun W hb => refRoot_any q l1 _ W hn1 (by omega) (rd W hb)
  have HTR : Hid (∀ W, Below w.heap.size w W → Calls Tryd.prog 27 #[.slice A q c] W fun e w' => e = .returned (.agg (arr 32 fun i => bv (mth l1 i))) ∧ Below W.heap.size W w') := Lib.hid fun W hb => troot_any _ l1 W (HT.out.below hb) (rd W hb) (by omega)
  have HSZ : Hid (∀ g Z W, TreeAt W Z g l1 → Calls Tryd.prog 23 #[.pointer (some ⟨g, 0, none⟩)] W fun e w' => e = .returned (.int .i64 (q : Int)) ∧ w' = W) := Lib.hid fun g Z W h => by
    have := treeSize_any Z g l1 W h
    rw [hn1] at this
    exact this
  have HTP : Hid (∀ g Z W, TreeAt W Z g l1 → Calls Tryd.prog 25 #[.pointer (some ⟨g, 0, none⟩)] W fun e w' => ∃ A c, e = .returned (.slice A (pop q) c) ∧ RdI w' (fun b => b < w'.heap.size) (.slice A (pop q) c) (tops l1) ∧ Below W.heap.size W w') := Lib.hid fun g Z W h => by
    have := tops_rd Z g l1 W h
    rw [hn1] at this
    exact this
  have htl : (tops l1).length = pop q := tops_length q l1 hn1
  have hp7 : pop q ≤ 7 := pop_le 7 _ (by omega)
  have HRTP : Hid (∀ W, Below w.heap.size w W → Calls Tryd.prog 26 #[.slice A q c] W fun e w' => ∃ A c, e = .returned (.slice A (pop q) c) ∧ RdI w' (fun b => b < w'.heap.size) (.slice A (pop q) c) (tops l1) ∧ Below W.heap.size W w') := Lib.hid fun W hb => (refTops_any _ l1 W (rd W hb) (by omega)).mono (by
    rintro e w' ⟨v', rfl, ho, hb⟩
    rw [htl] at ho
    obtain ⟨A, c, rfl, _⟩ := own_len ho
    exact ⟨A, c, rfl, (own_rd ho (by omega)).mono fun b hb => hb.2.2, hb⟩)
  have HSM := Lib.hid fun v v' W h h' => same_true v v' (tops l1) W h h' (by omega)
  have eq1 := eql_id (mth l1) (mth l1)
  rw [beq_self_eq_true] at eq1
  have sl1 := run_slice_toN (P := Tryd.prog) 22 30 Tryd.underlying22 32 (by kernel_rfl) A q c p (by omega)
  have sl2 := run_slice_fromI (P := Tryd.prog) 22 30 Tryd.underlying22 (by kernel_rfl) A q c p (by omega)
  obtain ⟨d, hd⟩ : ∃ d, q - p = d := ⟨_, rfl⟩
  obtain ⟨m, hm⟩ : ∃ m, c - p = m := ⟨_, rfl⟩
  obtain ⟨A2, hA2⟩ : ∃ A2, cutI A c p = A2 := ⟨_, rfl⟩
  rw [hd, hm, hA2] at HAP sl2
  clear hr hr1 hn hq hlc hT hn1 hS hR hSR rd htl hd hm hA2
  generalize (arr 32 fun i => bv (mth l1 i)) = R at *
  generalize pop q = pq at *
  generalize tops l1 = TS at *
  generalize l1.take p = S at *

  go_enter Tryd.func3, Tryd.ntmps3
  go_wp2_with (first
    | (go_at_call 17; refine HGR.out.mono ?_; rintro e W1 ⟨rfl, hb1⟩; have HB1 := Lib.hid hb1; clear hb1 HGR)
    | (go_at_call 18; refine (HCUT.out _).mono ?_; rintro e W2 ⟨rfl, rfl⟩; clear HCUT)
    | (go_at_call 19; refine (HOF.out _ HB1.out).mono ?_; rintro e W2 ⟨g, Z, rfl, ht, hb, hz⟩; have HA2 := Lib.hid ht; have HB2 := Lib.hid hb; have HZ2 := Lib.hid hz; clear ht hb hz HOF)
    | (go_at_call 20; refine (HAP.out g Z _ HA2.out HZ2.out HB2.out).mono ?_; rintro e W3 ⟨rfl, Z3, h1, h2, h3⟩; have HA3 := Lib.hid h1; have HB3 := Lib.hid (HB2.out.trans (h2.below HB2.out.size fun i hi hz => by have := HZ2.out i hz; omega)); clear h1 h2 h3 HA2 HAP)
    | (go_at_call 21; refine (HRT.out g Z3 _ HB3.out HA3.out).mono ?_; rintro e W4 ⟨rfl, hb4⟩; have HB4 := Lib.hid (HB3.out.trans (hb4.mono HB3.out.size)); have HA4 := Lib.hid (RangeAt.below HA3.out hb4); clear hb4 HA3)
    | (go_at_call 22; refine (HRR.out _ HB4.out).mono ?_; rintro e W5 ⟨rfl, hb5⟩; have HB5 := Lib.hid (HB4.out.trans (hb5.mono HB4.out.size)); have HA5 := Lib.hid (RangeAt.below HA4.out hb5); clear hb5 HA4 HRR)
    | (go_at_call 23; refine (HSZ.out g Z3 _ HA5.out).mono ?_; rintro e W6 ⟨rfl, rfl⟩)
    | (go_at_call 25; refine (HTP.out g Z3 _ HA5.out).mono ?_; rintro e W7 ⟨A7, c7, rfl, hr7, hb7⟩; have HB7 := Lib.hid (HB5.out.trans (hb7.mono HB5.out.size)); have HA7 := Lib.hid (RangeAt.below HA5.out hb7); have HV7 := Lib.hid hr7; clear hb7 hr7 HA5)
    | (go_at_call 26; refine (HRTP.out _ HB7.out).mono ?_; rintro e W8 ⟨A8, c8, rfl, hr8, hb8⟩; have HB8 := Lib.hid (HB7.out.trans (hb8.mono HB7.out.size)); have HA8 := Lib.hid (RangeAt.below HA7.out hb8); have HS8 := Lib.hid (HSM.out _ _ _ (HV7.out.below hb8) hr8); clear hb8 hr8 HA7 HV7)
    | (go_at_call 24; refine HS8.out.mono ?_; rintro e W9 ⟨rfl, hb9⟩; have HB9 := Lib.hid (HB8.out.trans (hb9.mono HB8.out.size)); have HA9 := Lib.hid (RangeAt.below HA8.out hb9); clear hb9 HA8)
    | (go_at_call 27; refine (HTR.out _ HB9.out).mono ?_; rintro e W10 ⟨rfl, hb10⟩; have HB10 := Lib.hid (HB9.out.trans (hb10.mono HB9.out.size)); have HA10 := Lib.hid (RangeAt.below HA9.out hb10); clear hb10 HA9)
    | (go_at_call 21; refine (HRT.out g Z3 _ HB10.out HA10.out).mono ?_; rintro e W11 ⟨rfl, hb11⟩; have HB11 := Lib.hid (HB10.out.trans (hb11.mono HB10.out.size)); clear hb11 HA10))
  go_ret
  exact ⟨rfl, HB11.out⟩
theorem roots_law (v : Value) (l : List D) (at_ : Int) (w : World) (hT : Tables w) (hr : RdI w (fun b => b < w.heap.size) v l) :
    Calls Tryd.prog 3 #[v, .int .i64 at_] w fun e w' => e = .returned (.bool true) ∧ Below w.heap.size w w' := by
  by_cases h0 : at_ < 0
  · exact roots_neg v l at_ h0 w hT hr
  · obtain ⟨m, rfl⟩ := Int.eq_ofNat_of_zero_le (show 0 ≤ at_ by omega)
    by_cases h : m ≤ min l.length 100
    · exact roots_in v l m w hT hr h
    · exact roots_far v l m w hT hr (by omega)
end Go.Proofs.YtkkanaefngggoaaDoor
