/-
  ProofRanges: of every place, size and leaf, in whatever memory in which the tables lie. No condition.
-/
import Derived.Test.YtkkanaefngggoaaDoorPrfGuard
namespace Go.Proofs.YtkkanaefngggoaaDoor
open Go Go.RowKit Go.Shelf TreeM

section
variable {ops : Array Oper} {rest : List Oper} {o : Oper} {a : Act} {w : World} {Q : Exit → Act → World → Prop}
/-- A slice of one ID, where the guard is met. -/
theorem wpList_build_idcG (hw : Region.wanted o (yielded ops a.tmps) = true) (x : Operand) (ho : o.op = .buildSlice 22 1 #[(0, x)]) (f : D) (hx : a.eval x = .agg (arr 32 fun i => bv (f i)))
    (h : wpList Tryd.prog ops Q rest (a.put o.dst (.slice (some ⟨w.heap.size, 0, none⟩) 1 1)) (w.alloc (.cells (arr 32 fun i => bv (f i)) 30))) : wpList Tryd.prog ops Q (o :: rest) a w :=
  wpList_step fun K hK => by
    rw [if_pos hw]
    exact wp_build_idc x ho f (by rw [hx, idc_arr]) (hK _ _ h)
end
theorem rdI_alone (w : World) (f : D) : RdI (w.alloc (.cells (arr 32 fun i => bv (f i)) 30)) (fun b => b = w.heap.size) (.slice (some ⟨w.heap.size, 0, none⟩) 1 1) [f] := by
  have hcs : (arr 32 fun i => bv (f i)) = (idCells [f]).toArray := by rw [idCells_one, idc_arr]
  rw [hcs]
  exact rdI_new w [f] 1 rfl (by omega)
theorem wayP_nil_iff (m : Nat) (hm : 1 ≤ m) (a : Nat) : (0 = (wayP a 0 m).length) ↔ m = 1 := by
  by_cases h : 0 + 2 ≤ m
  · rw [wayP_step h, List.length_cons]
    omega
  · rw [wayP_end h]
    exact ⟨fun _ => by omega, fun _ => rfl⟩
theorem cinc_nil (x : D) (a n : Int) (h0 : 0 ≤ a) (h1 : a < n) (h2 : n ≤ 1099511627776) : cincV x a n [] x = if n = 1 then 0 else 60 := by
  unfold cincV
  have hw := wayP_nil_iff n.toNat (by omega) a.toNat
  rw [if_neg (by omega)]
  by_cases h : n = 1
  · subst h
    have e : (wayP a.toNat 0 (1 : Int).toNat) = [] := wayP_end (by simp)
    rw [e]
    simp [leadP]
  · rw [if_neg h, if_pos]
    intro h3
    have := hw.1 (by simpa using h3)
    omega
theorem ccon_nil (x : D) (a n : Int) (h0 : 1 ≤ a) (h1 : a ≤ n) (h2 : n ≤ 1099511627776) : cconV a n x x [] = if a = n then 0 else 60 := by
  unfold cconV
  rw [if_neg (by omega)]
  by_cases h : a = n
  · subst h
    rw [linkP_end (by omega), if_pos rfl]
    simp [bothP]
  · rw [linkP_step (by omega) (by omega), if_neg h]
    simp
theorem ccon_more (x : D) (a : Int) (h0 : 1 ≤ a) (h2 : a ≤ 1099511627776) : cconV a a x x [x] = 60 := by
  unfold cconV
  rw [if_neg (by omega), linkP_end (by omega)]
  simp
set_option maxRecDepth 100000 in
set_option maxHeartbeats 1000000 in
theorem ranges_c1 (a n : Int) (x : D) (h : a < 0) (w : World) (hT : Tables w) :
    Calls Tryd.prog 16 #[.int .i64 a, .int .i64 n, .agg (arr 32 fun i => bv (x i))] w fun e w' => e = .returned (.bool true) ∧ Below w.heap.size w w' := by
  have hv7 : cincV x a n [] x = 1 := by unfold cincV; rw [if_pos (by omega)]
  have hv8 : cconV a n x x [] = 1 := by unfold cconV; rw [if_pos (by omega)]
  have hb0 : Below w.heap.size w (w.alloc (.cells (arr 32 fun i => bv (x i)) 30)) := (Below.refl _ _).alloc (Nat.le_refl _) _
  have HPR := Lib.hid (proves_any _ (hT.below hb0))
  have HCI : Hid (∀ W, Below w.heap.size w W → Calls Tryd.prog 37 #[.agg (arr 32 fun i => bv (x i)), .int .i64 a, .int .i64 n, .slice none 0 0, .agg (arr 32 fun i => bv (x i))] W fun e w' => e = .returned (.int .i64 1) ∧ Below W.heap.size W w') := Lib.hid fun W hb => by
    have := cinc_any x x a n (.slice none 0 0) [] W (hT.below hb) (RdI.nil _ _ _ _)
    rw [hv7] at this
    exact this
  have HCC : Hid (∀ W, Below w.heap.size w W → Calls Tryd.prog 40 #[.int .i64 a, .int .i64 n, .agg (arr 32 fun i => bv (x i)), .agg (arr 32 fun i => bv (x i)), .slice none 0 0] W fun e w' => e = .returned (.int .i64 1) ∧ Below W.heap.size W w') := Lib.hid fun W hb => by
    have := ccon_any x x a n (.slice none 0 0) [] W (hT.below hb) (RdI.nil _ _ _ _)
    rw [hv8] at this
    exact this
  have f_p0 : ¬ ((0 : Int) ≤ a) := by omega
  have d_p0 : decide ((0 : Int) ≤ a) = false := decide_eq_false f_p0
  have f_p1 : ¬ ((1 : Int) ≤ a) := by omega
  have d_p1 : decide ((1 : Int) ≤ a) = false := decide_eq_false f_p1
  have HK0 := Lib.hid (Blk.new w 30 (arr 32 fun i => bv (x i)))
  have HB0 := Lib.hid hb0
  clear hb0 hT hv7 hv8 h
  go_enter Tryd.func16, Tryd.ntmps16
  go_wp2_with (first
    | (go_at_call 34; refine HPR.out.mono ?_; rintro e W1 ⟨rfl, hb1⟩; have HK1 := Lib.hid (HK0.out.below hb1 HK0.out.lt); have HB1 := Lib.hid (HB0.out.trans (hb1.mono HB0.out.size)); clear hb1 HPR)
    | (guard_target = wpList _ _ _ (Oper.mk _ (.load 30 _) _ _ _ _ :: _) _ _; first | refine wpList_load_runG (by rfl) 30 _ rfl (.pointer (some ⟨w.heap.size, 0, none⟩)) (.agg (arr 32 fun i => bv (x i))) rfl (load_blk HK3.out) ?_ | refine wpList_load_runG (by rfl) 30 _ rfl (.pointer (some ⟨w.heap.size, 0, none⟩)) (.agg (arr 32 fun i => bv (x i))) rfl (load_blk HK2.out) ?_ | refine wpList_load_runG (by rfl) 30 _ rfl (.pointer (some ⟨w.heap.size, 0, none⟩)) (.agg (arr 32 fun i => bv (x i))) rfl (load_blk HK1.out) ?_)
    | (go_at_call 37; refine (HCI.out _ HB1.out).mono ?_; rintro e W2 ⟨rfl, hb2⟩; have HK2 := Lib.hid (HK1.out.below hb2 HK1.out.lt); have HB2 := Lib.hid (HB1.out.trans (hb2.mono HB1.out.size)); clear hb2 HCI HK1)
    | (go_at_call 40; refine (HCC.out _ HB2.out).mono ?_; rintro e W3 ⟨rfl, hb3⟩; have HK3 := Lib.hid (HK2.out.below hb3 HK2.out.lt); have HB3 := Lib.hid (HB2.out.trans (hb3.mono HB2.out.size)); clear hb3 HCC HK2))
  go_ret
  exact ⟨rfl, HB3.out⟩
set_option maxRecDepth 100000 in
set_option maxHeartbeats 1000000 in
theorem ranges_c2a (a n : Int) (x : D) (h : a = 0 ∧ n ≤ 0) (w : World) (hT : Tables w) :
    Calls Tryd.prog 16 #[.int .i64 a, .int .i64 n, .agg (arr 32 fun i => bv (x i))] w fun e w' => e = .returned (.bool true) ∧ Below w.heap.size w w' := by
  have hv7 : cincV x a n [] x = 1 := by unfold cincV; rw [if_pos (by omega)]
  have hv8 : cconV a n x x [] = 1 := by unfold cconV; rw [if_pos (by omega)]
  have hb0 : Below w.heap.size w (w.alloc (.cells (arr 32 fun i => bv (x i)) 30)) := (Below.refl _ _).alloc (Nat.le_refl _) _
  have HPR := Lib.hid (proves_any _ (hT.below hb0))
  have HCI : Hid (∀ W, Below w.heap.size w W → Calls Tryd.prog 37 #[.agg (arr 32 fun i => bv (x i)), .int .i64 a, .int .i64 n, .slice none 0 0, .agg (arr 32 fun i => bv (x i))] W fun e w' => e = .returned (.int .i64 1) ∧ Below W.heap.size W w') := Lib.hid fun W hb => by
    have := cinc_any x x a n (.slice none 0 0) [] W (hT.below hb) (RdI.nil _ _ _ _)
    rw [hv7] at this
    exact this
  have HCC : Hid (∀ W, Below w.heap.size w W → Calls Tryd.prog 40 #[.int .i64 a, .int .i64 n, .agg (arr 32 fun i => bv (x i)), .agg (arr 32 fun i => bv (x i)), .slice none 0 0] W fun e w' => e = .returned (.int .i64 1) ∧ Below W.heap.size W w') := Lib.hid fun W hb => by
    have := ccon_any x x a n (.slice none 0 0) [] W (hT.below hb) (RdI.nil _ _ _ _)
    rw [hv8] at this
    exact this
  have f_p0 : (0 : Int) ≤ a := by omega
  have d_p0 : decide ((0 : Int) ≤ a) = true := decide_eq_true f_p0
  have f_p1 : ¬ ((1 : Int) ≤ a) := by omega
  have d_p1 : decide ((1 : Int) ≤ a) = false := decide_eq_false f_p1
  have f_lt : ¬ (a < n) := by omega
  have d_lt : decide (a < n) = false := decide_eq_false f_lt
  have HK0 := Lib.hid (Blk.new w 30 (arr 32 fun i => bv (x i)))
  have HB0 := Lib.hid hb0
  clear hb0 hT hv7 hv8 h
  go_enter Tryd.func16, Tryd.ntmps16
  go_wp2_with (first
    | (go_at_call 34; refine HPR.out.mono ?_; rintro e W1 ⟨rfl, hb1⟩; have HK1 := Lib.hid (HK0.out.below hb1 HK0.out.lt); have HB1 := Lib.hid (HB0.out.trans (hb1.mono HB0.out.size)); clear hb1 HPR)
    | (guard_target = wpList _ _ _ (Oper.mk _ (.load 30 _) _ _ _ _ :: _) _ _; first | refine wpList_load_runG (by rfl) 30 _ rfl (.pointer (some ⟨w.heap.size, 0, none⟩)) (.agg (arr 32 fun i => bv (x i))) rfl (load_blk HK3.out) ?_ | refine wpList_load_runG (by rfl) 30 _ rfl (.pointer (some ⟨w.heap.size, 0, none⟩)) (.agg (arr 32 fun i => bv (x i))) rfl (load_blk HK2.out) ?_ | refine wpList_load_runG (by rfl) 30 _ rfl (.pointer (some ⟨w.heap.size, 0, none⟩)) (.agg (arr 32 fun i => bv (x i))) rfl (load_blk HK1.out) ?_)
    | (go_at_call 37; refine (HCI.out _ HB1.out).mono ?_; rintro e W2 ⟨rfl, hb2⟩; have HK2 := Lib.hid (HK1.out.below hb2 HK1.out.lt); have HB2 := Lib.hid (HB1.out.trans (hb2.mono HB1.out.size)); clear hb2 HCI HK1)
    | (go_at_call 40; refine (HCC.out _ HB2.out).mono ?_; rintro e W3 ⟨rfl, hb3⟩; have HK3 := Lib.hid (HK2.out.below hb3 HK2.out.lt); have HB3 := Lib.hid (HB2.out.trans (hb3.mono HB2.out.size)); clear hb3 HCC HK2))
  go_ret
  exact ⟨rfl, HB3.out⟩
set_option maxRecDepth 100000 in
set_option maxHeartbeats 1000000 in
theorem ranges_c2b (a n : Int) (x : D) (h : a = 0 ∧ 1099511627776 < n) (w : World) (hT : Tables w) :
    Calls Tryd.prog 16 #[.int .i64 a, .int .i64 n, .agg (arr 32 fun i => bv (x i))] w fun e w' => e = .returned (.bool true) ∧ Below w.heap.size w w' := by
  have hv7 : cincV x a n [] x = 1 := by unfold cincV; rw [if_pos (by omega)]
  have hv8 : cconV a n x x [] = 1 := by unfold cconV; rw [if_pos (by omega)]
  have hb0 : Below w.heap.size w (w.alloc (.cells (arr 32 fun i => bv (x i)) 30)) := (Below.refl _ _).alloc (Nat.le_refl _) _
  have HPR := Lib.hid (proves_any _ (hT.below hb0))
  have HCI : Hid (∀ W, Below w.heap.size w W → Calls Tryd.prog 37 #[.agg (arr 32 fun i => bv (x i)), .int .i64 a, .int .i64 n, .slice none 0 0, .agg (arr 32 fun i => bv (x i))] W fun e w' => e = .returned (.int .i64 1) ∧ Below W.heap.size W w') := Lib.hid fun W hb => by
    have := cinc_any x x a n (.slice none 0 0) [] W (hT.below hb) (RdI.nil _ _ _ _)
    rw [hv7] at this
    exact this
  have HCC : Hid (∀ W, Below w.heap.size w W → Calls Tryd.prog 40 #[.int .i64 a, .int .i64 n, .agg (arr 32 fun i => bv (x i)), .agg (arr 32 fun i => bv (x i)), .slice none 0 0] W fun e w' => e = .returned (.int .i64 1) ∧ Below W.heap.size W w') := Lib.hid fun W hb => by
    have := ccon_any x x a n (.slice none 0 0) [] W (hT.below hb) (RdI.nil _ _ _ _)
    rw [hv8] at this
    exact this
  have f_p0 : (0 : Int) ≤ a := by omega
  have d_p0 : decide ((0 : Int) ≤ a) = true := decide_eq_true f_p0
  have f_p1 : ¬ ((1 : Int) ≤ a) := by omega
  have d_p1 : decide ((1 : Int) ≤ a) = false := decide_eq_false f_p1
  have f_lt : a < n := by omega
  have d_lt : decide (a < n) = true := decide_eq_true f_lt
  have f_big : ¬ (n ≤ 1099511627776) := by omega
  have d_big : decide (n ≤ 1099511627776) = false := decide_eq_false f_big
  have HK0 := Lib.hid (Blk.new w 30 (arr 32 fun i => bv (x i)))
  have HB0 := Lib.hid hb0
  clear hb0 hT hv7 hv8 h
  go_enter Tryd.func16, Tryd.ntmps16
  go_wp2_with (first
    | (go_at_call 34; refine HPR.out.mono ?_; rintro e W1 ⟨rfl, hb1⟩; have HK1 := Lib.hid (HK0.out.below hb1 HK0.out.lt); have HB1 := Lib.hid (HB0.out.trans (hb1.mono HB0.out.size)); clear hb1 HPR)
    | (guard_target = wpList _ _ _ (Oper.mk _ (.load 30 _) _ _ _ _ :: _) _ _; first | refine wpList_load_runG (by rfl) 30 _ rfl (.pointer (some ⟨w.heap.size, 0, none⟩)) (.agg (arr 32 fun i => bv (x i))) rfl (load_blk HK3.out) ?_ | refine wpList_load_runG (by rfl) 30 _ rfl (.pointer (some ⟨w.heap.size, 0, none⟩)) (.agg (arr 32 fun i => bv (x i))) rfl (load_blk HK2.out) ?_ | refine wpList_load_runG (by rfl) 30 _ rfl (.pointer (some ⟨w.heap.size, 0, none⟩)) (.agg (arr 32 fun i => bv (x i))) rfl (load_blk HK1.out) ?_)
    | (go_at_call 37; refine (HCI.out _ HB1.out).mono ?_; rintro e W2 ⟨rfl, hb2⟩; have HK2 := Lib.hid (HK1.out.below hb2 HK1.out.lt); have HB2 := Lib.hid (HB1.out.trans (hb2.mono HB1.out.size)); clear hb2 HCI HK1)
    | (go_at_call 40; refine (HCC.out _ HB2.out).mono ?_; rintro e W3 ⟨rfl, hb3⟩; have HK3 := Lib.hid (HK2.out.below hb3 HK2.out.lt); have HB3 := Lib.hid (HB2.out.trans (hb3.mono HB2.out.size)); clear hb3 HCC HK2))
  go_ret
  exact ⟨rfl, HB3.out⟩
set_option maxRecDepth 100000 in
set_option maxHeartbeats 1000000 in
theorem ranges_c2c (a : Int) (x : D) (h : a = 0) (w : World) (hT : Tables w) :
    Calls Tryd.prog 16 #[.int .i64 a, .int .i64 1, .agg (arr 32 fun i => bv (x i))] w fun e w' => e = .returned (.bool true) ∧ Below w.heap.size w w' := by
  have hv7 : cincV x a 1 [] x = 0 := by rw [cinc_nil x a 1 (by omega) (by omega) (by omega), if_pos (by omega)]
  have hv8 : cconV a 1 x x [] = 1 := by unfold cconV; rw [if_pos (by omega)]
  have hb0 : Below w.heap.size w (w.alloc (.cells (arr 32 fun i => bv (x i)) 30)) := (Below.refl _ _).alloc (Nat.le_refl _) _
  have HPR := Lib.hid (proves_any _ (hT.below hb0))
  have HCI : Hid (∀ W, Below w.heap.size w W → Calls Tryd.prog 37 #[.agg (arr 32 fun i => bv (x i)), .int .i64 a, .int .i64 1, .slice none 0 0, .agg (arr 32 fun i => bv (x i))] W fun e w' => e = .returned (.int .i64 0) ∧ Below W.heap.size W w') := Lib.hid fun W hb => by
    have := cinc_any x x a 1 (.slice none 0 0) [] W (hT.below hb) (RdI.nil _ _ _ _)
    rw [hv7] at this
    exact this
  have HCC : Hid (∀ W, Below w.heap.size w W → Calls Tryd.prog 40 #[.int .i64 a, .int .i64 1, .agg (arr 32 fun i => bv (x i)), .agg (arr 32 fun i => bv (x i)), .slice none 0 0] W fun e w' => e = .returned (.int .i64 1) ∧ Below W.heap.size W w') := Lib.hid fun W hb => by
    have := ccon_any x x a 1 (.slice none 0 0) [] W (hT.below hb) (RdI.nil _ _ _ _)
    rw [hv8] at this
    exact this
  have f_p0 : (0 : Int) ≤ a := by omega
  have d_p0 : decide ((0 : Int) ≤ a) = true := decide_eq_true f_p0
  have f_p1 : ¬ ((1 : Int) ≤ a) := by omega
  have d_p1 : decide ((1 : Int) ≤ a) = false := decide_eq_false f_p1
  have f_lt : a < 1 := by omega
  have d_lt : decide (a < 1) = true := decide_eq_true f_lt
  have HK0 := Lib.hid (Blk.new w 30 (arr 32 fun i => bv (x i)))
  have HB0 := Lib.hid hb0
  clear hb0 hT hv7 hv8 h
  go_enter Tryd.func16, Tryd.ntmps16
  go_wp2_with (first
    | (go_at_call 34; refine HPR.out.mono ?_; rintro e W1 ⟨rfl, hb1⟩; have HK1 := Lib.hid (HK0.out.below hb1 HK0.out.lt); have HB1 := Lib.hid (HB0.out.trans (hb1.mono HB0.out.size)); clear hb1 HPR)
    | (guard_target = wpList _ _ _ (Oper.mk _ (.load 30 _) _ _ _ _ :: _) _ _; first | refine wpList_load_runG (by rfl) 30 _ rfl (.pointer (some ⟨w.heap.size, 0, none⟩)) (.agg (arr 32 fun i => bv (x i))) rfl (load_blk HK3.out) ?_ | refine wpList_load_runG (by rfl) 30 _ rfl (.pointer (some ⟨w.heap.size, 0, none⟩)) (.agg (arr 32 fun i => bv (x i))) rfl (load_blk HK2.out) ?_ | refine wpList_load_runG (by rfl) 30 _ rfl (.pointer (some ⟨w.heap.size, 0, none⟩)) (.agg (arr 32 fun i => bv (x i))) rfl (load_blk HK1.out) ?_)
    | (go_at_call 37; refine (HCI.out _ HB1.out).mono ?_; rintro e W2 ⟨rfl, hb2⟩; have HK2 := Lib.hid (HK1.out.below hb2 HK1.out.lt); have HB2 := Lib.hid (HB1.out.trans (hb2.mono HB1.out.size)); clear hb2 HCI HK1)
    | (go_at_call 40; refine (HCC.out _ HB2.out).mono ?_; rintro e W3 ⟨rfl, hb3⟩; have HK3 := Lib.hid (HK2.out.below hb3 HK2.out.lt); have HB3 := Lib.hid (HB2.out.trans (hb3.mono HB2.out.size)); clear hb3 HCC HK2))
  go_ret
  exact ⟨rfl, HB3.out⟩
set_option maxRecDepth 100000 in
set_option maxHeartbeats 1000000 in
theorem ranges_c2d (a n : Int) (x : D) (h : a = 0 ∧ 2 ≤ n ∧ n ≤ 1099511627776) (w : World) (hT : Tables w) :
    Calls Tryd.prog 16 #[.int .i64 a, .int .i64 n, .agg (arr 32 fun i => bv (x i))] w fun e w' => e = .returned (.bool true) ∧ Below w.heap.size w w' := by
  have hv7 : cincV x a n [] x = 60 := by rw [cinc_nil x a n (by omega) (by omega) (by omega), if_neg (by omega)]
  have hv8 : cconV a n x x [] = 1 := by unfold cconV; rw [if_pos (by omega)]
  have hb0 : Below w.heap.size w (w.alloc (.cells (arr 32 fun i => bv (x i)) 30)) := (Below.refl _ _).alloc (Nat.le_refl _) _
  have HPR := Lib.hid (proves_any _ (hT.below hb0))
  have HCI : Hid (∀ W, Below w.heap.size w W → Calls Tryd.prog 37 #[.agg (arr 32 fun i => bv (x i)), .int .i64 a, .int .i64 n, .slice none 0 0, .agg (arr 32 fun i => bv (x i))] W fun e w' => e = .returned (.int .i64 60) ∧ Below W.heap.size W w') := Lib.hid fun W hb => by
    have := cinc_any x x a n (.slice none 0 0) [] W (hT.below hb) (RdI.nil _ _ _ _)
    rw [hv7] at this
    exact this
  have HCC : Hid (∀ W, Below w.heap.size w W → Calls Tryd.prog 40 #[.int .i64 a, .int .i64 n, .agg (arr 32 fun i => bv (x i)), .agg (arr 32 fun i => bv (x i)), .slice none 0 0] W fun e w' => e = .returned (.int .i64 1) ∧ Below W.heap.size W w') := Lib.hid fun W hb => by
    have := ccon_any x x a n (.slice none 0 0) [] W (hT.below hb) (RdI.nil _ _ _ _)
    rw [hv8] at this
    exact this
  have f_p0 : (0 : Int) ≤ a := by omega
  have d_p0 : decide ((0 : Int) ≤ a) = true := decide_eq_true f_p0
  have f_p1 : ¬ ((1 : Int) ≤ a) := by omega
  have d_p1 : decide ((1 : Int) ≤ a) = false := decide_eq_false f_p1
  have f_lt : a < n := by omega
  have d_lt : decide (a < n) = true := decide_eq_true f_lt
  have f_big : n ≤ 1099511627776 := by omega
  have d_big : decide (n ≤ 1099511627776) = true := decide_eq_true f_big
  have f_n1 : ¬ (n = 1) := by omega
  have d_n1 : decide (n = 1) = false := decide_eq_false f_n1
  have b_n1 : (n == 1) = false := beq_eq_false_iff_ne.2 f_n1
  have HK0 := Lib.hid (Blk.new w 30 (arr 32 fun i => bv (x i)))
  have HB0 := Lib.hid hb0
  clear hb0 hT hv7 hv8 h
  go_enter Tryd.func16, Tryd.ntmps16
  go_wp2_with (first
    | (go_at_call 34; refine HPR.out.mono ?_; rintro e W1 ⟨rfl, hb1⟩; have HK1 := Lib.hid (HK0.out.below hb1 HK0.out.lt); have HB1 := Lib.hid (HB0.out.trans (hb1.mono HB0.out.size)); clear hb1 HPR)
    | (guard_target = wpList _ _ _ (Oper.mk _ (.load 30 _) _ _ _ _ :: _) _ _; first | refine wpList_load_runG (by rfl) 30 _ rfl (.pointer (some ⟨w.heap.size, 0, none⟩)) (.agg (arr 32 fun i => bv (x i))) rfl (load_blk HK3.out) ?_ | refine wpList_load_runG (by rfl) 30 _ rfl (.pointer (some ⟨w.heap.size, 0, none⟩)) (.agg (arr 32 fun i => bv (x i))) rfl (load_blk HK2.out) ?_ | refine wpList_load_runG (by rfl) 30 _ rfl (.pointer (some ⟨w.heap.size, 0, none⟩)) (.agg (arr 32 fun i => bv (x i))) rfl (load_blk HK1.out) ?_)
    | (go_at_call 37; refine (HCI.out _ HB1.out).mono ?_; rintro e W2 ⟨rfl, hb2⟩; have HK2 := Lib.hid (HK1.out.below hb2 HK1.out.lt); have HB2 := Lib.hid (HB1.out.trans (hb2.mono HB1.out.size)); clear hb2 HCI HK1)
    | (go_at_call 40; refine (HCC.out _ HB2.out).mono ?_; rintro e W3 ⟨rfl, hb3⟩; have HK3 := Lib.hid (HK2.out.below hb3 HK2.out.lt); have HB3 := Lib.hid (HB2.out.trans (hb3.mono HB2.out.size)); clear hb3 HCC HK2))
  go_ret
  exact ⟨rfl, HB3.out⟩
set_option maxRecDepth 100000 in
set_option maxHeartbeats 1000000 in
theorem ranges_c3a (a n : Int) (x : D) (h : 1 ≤ a ∧ n < a) (w : World) (hT : Tables w) :
    Calls Tryd.prog 16 #[.int .i64 a, .int .i64 n, .agg (arr 32 fun i => bv (x i))] w fun e w' => e = .returned (.bool true) ∧ Below w.heap.size w w' := by
  have hv7 : cincV x a n [] x = 1 := by unfold cincV; rw [if_pos (by omega)]
  have hv8 : cconV a n x x [] = 1 := by unfold cconV; rw [if_pos (by omega)]
  have hb0 : Below w.heap.size w (w.alloc (.cells (arr 32 fun i => bv (x i)) 30)) := (Below.refl _ _).alloc (Nat.le_refl _) _
  have HPR := Lib.hid (proves_any _ (hT.below hb0))
  have HCI : Hid (∀ W, Below w.heap.size w W → Calls Tryd.prog 37 #[.agg (arr 32 fun i => bv (x i)), .int .i64 a, .int .i64 n, .slice none 0 0, .agg (arr 32 fun i => bv (x i))] W fun e w' => e = .returned (.int .i64 1) ∧ Below W.heap.size W w') := Lib.hid fun W hb => by
    have := cinc_any x x a n (.slice none 0 0) [] W (hT.below hb) (RdI.nil _ _ _ _)
    rw [hv7] at this
    exact this
  have HCC : Hid (∀ W, Below w.heap.size w W → Calls Tryd.prog 40 #[.int .i64 a, .int .i64 n, .agg (arr 32 fun i => bv (x i)), .agg (arr 32 fun i => bv (x i)), .slice none 0 0] W fun e w' => e = .returned (.int .i64 1) ∧ Below W.heap.size W w') := Lib.hid fun W hb => by
    have := ccon_any x x a n (.slice none 0 0) [] W (hT.below hb) (RdI.nil _ _ _ _)
    rw [hv8] at this
    exact this
  have f_p0 : (0 : Int) ≤ a := by omega
  have d_p0 : decide ((0 : Int) ≤ a) = true := decide_eq_true f_p0
  have f_p1 : (1 : Int) ≤ a := by omega
  have d_p1 : decide ((1 : Int) ≤ a) = true := decide_eq_true f_p1
  have f_lt : ¬ (a < n) := by omega
  have d_lt : decide (a < n) = false := decide_eq_false f_lt
  have f_le : ¬ (a ≤ n) := by omega
  have d_le : decide (a ≤ n) = false := decide_eq_false f_le
  have HK0 := Lib.hid (Blk.new w 30 (arr 32 fun i => bv (x i)))
  have HB0 := Lib.hid hb0
  clear hb0 hT hv7 hv8 h
  go_enter Tryd.func16, Tryd.ntmps16
  go_wp2_with (first
    | (go_at_call 34; refine HPR.out.mono ?_; rintro e W1 ⟨rfl, hb1⟩; have HK1 := Lib.hid (HK0.out.below hb1 HK0.out.lt); have HB1 := Lib.hid (HB0.out.trans (hb1.mono HB0.out.size)); clear hb1 HPR)
    | (guard_target = wpList _ _ _ (Oper.mk _ (.load 30 _) _ _ _ _ :: _) _ _; first | refine wpList_load_runG (by rfl) 30 _ rfl (.pointer (some ⟨w.heap.size, 0, none⟩)) (.agg (arr 32 fun i => bv (x i))) rfl (load_blk HK3.out) ?_ | refine wpList_load_runG (by rfl) 30 _ rfl (.pointer (some ⟨w.heap.size, 0, none⟩)) (.agg (arr 32 fun i => bv (x i))) rfl (load_blk HK2.out) ?_ | refine wpList_load_runG (by rfl) 30 _ rfl (.pointer (some ⟨w.heap.size, 0, none⟩)) (.agg (arr 32 fun i => bv (x i))) rfl (load_blk HK1.out) ?_)
    | (go_at_call 37; refine (HCI.out _ HB1.out).mono ?_; rintro e W2 ⟨rfl, hb2⟩; have HK2 := Lib.hid (HK1.out.below hb2 HK1.out.lt); have HB2 := Lib.hid (HB1.out.trans (hb2.mono HB1.out.size)); clear hb2 HCI HK1)
    | (go_at_call 40; refine (HCC.out _ HB2.out).mono ?_; rintro e W3 ⟨rfl, hb3⟩; have HK3 := Lib.hid (HK2.out.below hb3 HK2.out.lt); have HB3 := Lib.hid (HB2.out.trans (hb3.mono HB2.out.size)); clear hb3 HCC HK2))
  go_ret
  exact ⟨rfl, HB3.out⟩
set_option maxRecDepth 100000 in
set_option maxHeartbeats 1000000 in
theorem ranges_c3b (a n : Int) (x : D) (h : 1 ≤ a ∧ a < n ∧ 1099511627776 < n) (w : World) (hT : Tables w) :
    Calls Tryd.prog 16 #[.int .i64 a, .int .i64 n, .agg (arr 32 fun i => bv (x i))] w fun e w' => e = .returned (.bool true) ∧ Below w.heap.size w w' := by
  have hv7 : cincV x a n [] x = 1 := by unfold cincV; rw [if_pos (by omega)]
  have hv8 : cconV a n x x [] = 1 := by unfold cconV; rw [if_pos (by omega)]
  have hb0 : Below w.heap.size w (w.alloc (.cells (arr 32 fun i => bv (x i)) 30)) := (Below.refl _ _).alloc (Nat.le_refl _) _
  have HPR := Lib.hid (proves_any _ (hT.below hb0))
  have HCI : Hid (∀ W, Below w.heap.size w W → Calls Tryd.prog 37 #[.agg (arr 32 fun i => bv (x i)), .int .i64 a, .int .i64 n, .slice none 0 0, .agg (arr 32 fun i => bv (x i))] W fun e w' => e = .returned (.int .i64 1) ∧ Below W.heap.size W w') := Lib.hid fun W hb => by
    have := cinc_any x x a n (.slice none 0 0) [] W (hT.below hb) (RdI.nil _ _ _ _)
    rw [hv7] at this
    exact this
  have HCC : Hid (∀ W, Below w.heap.size w W → Calls Tryd.prog 40 #[.int .i64 a, .int .i64 n, .agg (arr 32 fun i => bv (x i)), .agg (arr 32 fun i => bv (x i)), .slice none 0 0] W fun e w' => e = .returned (.int .i64 1) ∧ Below W.heap.size W w') := Lib.hid fun W hb => by
    have := ccon_any x x a n (.slice none 0 0) [] W (hT.below hb) (RdI.nil _ _ _ _)
    rw [hv8] at this
    exact this
  have f_p0 : (0 : Int) ≤ a := by omega
  have d_p0 : decide ((0 : Int) ≤ a) = true := decide_eq_true f_p0
  have f_p1 : (1 : Int) ≤ a := by omega
  have d_p1 : decide ((1 : Int) ≤ a) = true := decide_eq_true f_p1
  have f_lt : a < n := by omega
  have d_lt : decide (a < n) = true := decide_eq_true f_lt
  have f_le : a ≤ n := by omega
  have d_le : decide (a ≤ n) = true := decide_eq_true f_le
  have f_big : ¬ (n ≤ 1099511627776) := by omega
  have d_big : decide (n ≤ 1099511627776) = false := decide_eq_false f_big
  have HK0 := Lib.hid (Blk.new w 30 (arr 32 fun i => bv (x i)))
  have HB0 := Lib.hid hb0
  clear hb0 hT hv7 hv8 h
  go_enter Tryd.func16, Tryd.ntmps16
  go_wp2_with (first
    | (go_at_call 34; refine HPR.out.mono ?_; rintro e W1 ⟨rfl, hb1⟩; have HK1 := Lib.hid (HK0.out.below hb1 HK0.out.lt); have HB1 := Lib.hid (HB0.out.trans (hb1.mono HB0.out.size)); clear hb1 HPR)
    | (guard_target = wpList _ _ _ (Oper.mk _ (.load 30 _) _ _ _ _ :: _) _ _; first | refine wpList_load_runG (by rfl) 30 _ rfl (.pointer (some ⟨w.heap.size, 0, none⟩)) (.agg (arr 32 fun i => bv (x i))) rfl (load_blk HK3.out) ?_ | refine wpList_load_runG (by rfl) 30 _ rfl (.pointer (some ⟨w.heap.size, 0, none⟩)) (.agg (arr 32 fun i => bv (x i))) rfl (load_blk HK2.out) ?_ | refine wpList_load_runG (by rfl) 30 _ rfl (.pointer (some ⟨w.heap.size, 0, none⟩)) (.agg (arr 32 fun i => bv (x i))) rfl (load_blk HK1.out) ?_)
    | (go_at_call 37; refine (HCI.out _ HB1.out).mono ?_; rintro e W2 ⟨rfl, hb2⟩; have HK2 := Lib.hid (HK1.out.below hb2 HK1.out.lt); have HB2 := Lib.hid (HB1.out.trans (hb2.mono HB1.out.size)); clear hb2 HCI HK1)
    | (go_at_call 40; refine (HCC.out _ HB2.out).mono ?_; rintro e W3 ⟨rfl, hb3⟩; have HK3 := Lib.hid (HK2.out.below hb3 HK2.out.lt); have HB3 := Lib.hid (HB2.out.trans (hb3.mono HB2.out.size)); clear hb3 HCC HK2))
  go_ret
  exact ⟨rfl, HB3.out⟩
set_option maxRecDepth 100000 in
set_option maxHeartbeats 1000000 in
theorem ranges_c3e (a : Int) (x : D) (h : 1 ≤ a ∧ 1099511627776 < a) (w : World) (hT : Tables w) :
    Calls Tryd.prog 16 #[.int .i64 a, .int .i64 a, .agg (arr 32 fun i => bv (x i))] w fun e w' => e = .returned (.bool true) ∧ Below w.heap.size w w' := by
  have hv7 : cincV x a a [] x = 1 := by unfold cincV; rw [if_pos (by omega)]
  have hv8 : cconV a a x x [] = 1 := by unfold cconV; rw [if_pos (by omega)]
  have hb0 : Below w.heap.size w (w.alloc (.cells (arr 32 fun i => bv (x i)) 30)) := (Below.refl _ _).alloc (Nat.le_refl _) _
  have HPR := Lib.hid (proves_any _ (hT.below hb0))
  have HCI : Hid (∀ W, Below w.heap.size w W → Calls Tryd.prog 37 #[.agg (arr 32 fun i => bv (x i)), .int .i64 a, .int .i64 a, .slice none 0 0, .agg (arr 32 fun i => bv (x i))] W fun e w' => e = .returned (.int .i64 1) ∧ Below W.heap.size W w') := Lib.hid fun W hb => by
    have := cinc_any x x a a (.slice none 0 0) [] W (hT.below hb) (RdI.nil _ _ _ _)
    rw [hv7] at this
    exact this
  have HCC : Hid (∀ W, Below w.heap.size w W → Calls Tryd.prog 40 #[.int .i64 a, .int .i64 a, .agg (arr 32 fun i => bv (x i)), .agg (arr 32 fun i => bv (x i)), .slice none 0 0] W fun e w' => e = .returned (.int .i64 1) ∧ Below W.heap.size W w') := Lib.hid fun W hb => by
    have := ccon_any x x a a (.slice none 0 0) [] W (hT.below hb) (RdI.nil _ _ _ _)
    rw [hv8] at this
    exact this
  have f_p0 : (0 : Int) ≤ a := by omega
  have d_p0 : decide ((0 : Int) ≤ a) = true := decide_eq_true f_p0
  have f_p1 : (1 : Int) ≤ a := by omega
  have d_p1 : decide ((1 : Int) ≤ a) = true := decide_eq_true f_p1
  have f_big : ¬ (a ≤ 1099511627776) := by omega
  have d_big : decide (a ≤ 1099511627776) = false := decide_eq_false f_big
  have HK0 := Lib.hid (Blk.new w 30 (arr 32 fun i => bv (x i)))
  have HB0 := Lib.hid hb0
  clear hb0 hT hv7 hv8 h
  go_enter Tryd.func16, Tryd.ntmps16
  go_wp2_with (first
    | (go_at_call 34; refine HPR.out.mono ?_; rintro e W1 ⟨rfl, hb1⟩; have HK1 := Lib.hid (HK0.out.below hb1 HK0.out.lt); have HB1 := Lib.hid (HB0.out.trans (hb1.mono HB0.out.size)); clear hb1 HPR)
    | (guard_target = wpList _ _ _ (Oper.mk _ (.load 30 _) _ _ _ _ :: _) _ _; first | refine wpList_load_runG (by rfl) 30 _ rfl (.pointer (some ⟨w.heap.size, 0, none⟩)) (.agg (arr 32 fun i => bv (x i))) rfl (load_blk HK3.out) ?_ | refine wpList_load_runG (by rfl) 30 _ rfl (.pointer (some ⟨w.heap.size, 0, none⟩)) (.agg (arr 32 fun i => bv (x i))) rfl (load_blk HK2.out) ?_ | refine wpList_load_runG (by rfl) 30 _ rfl (.pointer (some ⟨w.heap.size, 0, none⟩)) (.agg (arr 32 fun i => bv (x i))) rfl (load_blk HK1.out) ?_)
    | (go_at_call 37; refine (HCI.out _ HB1.out).mono ?_; rintro e W2 ⟨rfl, hb2⟩; have HK2 := Lib.hid (HK1.out.below hb2 HK1.out.lt); have HB2 := Lib.hid (HB1.out.trans (hb2.mono HB1.out.size)); clear hb2 HCI HK1)
    | (go_at_call 40; refine (HCC.out _ HB2.out).mono ?_; rintro e W3 ⟨rfl, hb3⟩; have HK3 := Lib.hid (HK2.out.below hb3 HK2.out.lt); have HB3 := Lib.hid (HB2.out.trans (hb3.mono HB2.out.size)); clear hb3 HCC HK2))
  go_ret
  exact ⟨rfl, HB3.out⟩
set_option maxRecDepth 100000 in
set_option maxHeartbeats 1000000 in
theorem ranges_c3c (a : Int) (x : D) (h : 1 ≤ a ∧ a ≤ 1099511627776) (w : World) (hT : Tables w) :
    Calls Tryd.prog 16 #[.int .i64 a, .int .i64 a, .agg (arr 32 fun i => bv (x i))] w fun e w' => e = .returned (.bool true) ∧ Below w.heap.size w w' := by
  have hv7 : cincV x a a [] x = 1 := by unfold cincV; rw [if_pos (by omega)]
  have hv8 : cconV a a x x [] = 0 := by rw [ccon_nil x a a (by omega) (by omega) (by omega), if_pos (by omega)]
  have hv9 : cconV a a x x [x] = 60 := by
    exact ccon_more x a (by omega) (by omega)
  have hb0 : Below w.heap.size w (w.alloc (.cells (arr 32 fun i => bv (x i)) 30)) := (Below.refl _ _).alloc (Nat.le_refl _) _
  have HPR := Lib.hid (proves_any _ (hT.below hb0))
  have HCI : Hid (∀ W, Below w.heap.size w W → Calls Tryd.prog 37 #[.agg (arr 32 fun i => bv (x i)), .int .i64 a, .int .i64 a, .slice none 0 0, .agg (arr 32 fun i => bv (x i))] W fun e w' => e = .returned (.int .i64 1) ∧ Below W.heap.size W w') := Lib.hid fun W hb => by
    have := cinc_any x x a a (.slice none 0 0) [] W (hT.below hb) (RdI.nil _ _ _ _)
    rw [hv7] at this
    exact this
  have HCC : Hid (∀ W, Below w.heap.size w W → Calls Tryd.prog 40 #[.int .i64 a, .int .i64 a, .agg (arr 32 fun i => bv (x i)), .agg (arr 32 fun i => bv (x i)), .slice none 0 0] W fun e w' => e = .returned (.int .i64 0) ∧ Below W.heap.size W w') := Lib.hid fun W hb => by
    have := ccon_any x x a a (.slice none 0 0) [] W (hT.below hb) (RdI.nil _ _ _ _)
    rw [hv8] at this
    exact this
  have HC9 : Hid (∀ W, Below w.heap.size w W → Calls Tryd.prog 40 #[.int .i64 a, .int .i64 a, .agg (arr 32 fun i => bv (x i)), .agg (arr 32 fun i => bv (x i)), .slice (some ⟨W.heap.size, 0, none⟩) 1 1] (W.alloc (.cells (arr 32 fun i => bv (x i)) 30)) fun e w' => e = .returned (.int .i64 60) ∧ Below W.heap.size W w') := Lib.hid fun W hb => by
    have hbq : Below W.heap.size W (W.alloc (.cells (arr 32 fun i => bv (x i)) 30)) := (Below.refl _ _).alloc (Nat.le_refl _) _
    have := ccon_any x x a a (.slice (some ⟨W.heap.size, 0, none⟩) 1 1) [x] _ (hT.below (hb.trans (hbq.mono hb.size))) ((rdI_alone W x).mono fun b hb' => by rw [hb']; simp)
    rw [hv9] at this
    refine this.mono ?_
    rintro e w' ⟨h1, h2⟩
    exact ⟨h1, hbq.trans (h2.mono hbq.size)⟩
  have f_p0 : (0 : Int) ≤ a := by omega
  have d_p0 : decide ((0 : Int) ≤ a) = true := decide_eq_true f_p0
  have f_p1 : (1 : Int) ≤ a := by omega
  have d_p1 : decide ((1 : Int) ≤ a) = true := decide_eq_true f_p1
  have f_big : a ≤ 1099511627776 := by omega
  have d_big : decide (a ≤ 1099511627776) = true := decide_eq_true f_big
  have HK0 := Lib.hid (Blk.new w 30 (arr 32 fun i => bv (x i)))
  have HB0 := Lib.hid hb0
  clear hb0 hT hv7 hv8 hv9 h
  go_enter Tryd.func16, Tryd.ntmps16
  go_wp2_with (first
    | (go_at_call 34; refine HPR.out.mono ?_; rintro e W1 ⟨rfl, hb1⟩; have HK1 := Lib.hid (HK0.out.below hb1 HK0.out.lt); have HB1 := Lib.hid (HB0.out.trans (hb1.mono HB0.out.size)); clear hb1 HPR)
    | (guard_target = wpList _ _ _ (Oper.mk _ (.load 30 _) _ _ _ _ :: _) _ _; first | refine wpList_load_runG (by rfl) 30 _ rfl (.pointer (some ⟨w.heap.size, 0, none⟩)) (.agg (arr 32 fun i => bv (x i))) rfl (load_blk HK3.out) ?_ | refine wpList_load_runG (by rfl) 30 _ rfl (.pointer (some ⟨w.heap.size, 0, none⟩)) (.agg (arr 32 fun i => bv (x i))) rfl (load_blk HK2.out) ?_ | refine wpList_load_runG (by rfl) 30 _ rfl (.pointer (some ⟨w.heap.size, 0, none⟩)) (.agg (arr 32 fun i => bv (x i))) rfl (load_blk HK1.out) ?_)
    | (go_at_call 37; refine (HCI.out _ HB1.out).mono ?_; rintro e W2 ⟨rfl, hb2⟩; have HK2 := Lib.hid (HK1.out.below hb2 HK1.out.lt); have HB2 := Lib.hid (HB1.out.trans (hb2.mono HB1.out.size)); clear hb2 HCI HK1)
    | (go_at_call 40; refine (HCC.out _ HB2.out).mono ?_; rintro e W3 ⟨rfl, hb3⟩; have HK3 := Lib.hid (HK2.out.below hb3 HK2.out.lt); have HB3 := Lib.hid (HB2.out.trans (hb3.mono HB2.out.size)); clear hb3 HCC HK2)
    | (guard_target = wpList _ _ _ (Oper.mk _ (.buildSlice _ _ _) _ _ _ _ :: _) _ _; refine wpList_build_idcG (by rfl) _ rfl x rfl ?_)
    | (go_at_call 40; refine (HC9.out _ HB3.out).mono ?_; rintro e W4 ⟨rfl, hb4⟩; have HB4 := Lib.hid (HB3.out.trans (hb4.mono HB3.out.size)); clear hb4 HC9))
  go_ret
  exact ⟨rfl, HB4.out⟩
set_option maxRecDepth 100000 in
set_option maxHeartbeats 1000000 in
theorem ranges_c3d (a n : Int) (x : D) (h : 1 ≤ a ∧ a < n ∧ n ≤ 1099511627776) (w : World) (hT : Tables w) :
    Calls Tryd.prog 16 #[.int .i64 a, .int .i64 n, .agg (arr 32 fun i => bv (x i))] w fun e w' => e = .returned (.bool true) ∧ Below w.heap.size w w' := by
  have hv7 : cincV x a n [] x = 60 := by rw [cinc_nil x a n (by omega) (by omega) (by omega), if_neg (by omega)]
  have hv8 : cconV a n x x [] = 60 := by rw [ccon_nil x a n (by omega) (by omega) (by omega), if_neg (by omega)]
  have hb0 : Below w.heap.size w (w.alloc (.cells (arr 32 fun i => bv (x i)) 30)) := (Below.refl _ _).alloc (Nat.le_refl _) _
  have HPR := Lib.hid (proves_any _ (hT.below hb0))
  have HCI : Hid (∀ W, Below w.heap.size w W → Calls Tryd.prog 37 #[.agg (arr 32 fun i => bv (x i)), .int .i64 a, .int .i64 n, .slice none 0 0, .agg (arr 32 fun i => bv (x i))] W fun e w' => e = .returned (.int .i64 60) ∧ Below W.heap.size W w') := Lib.hid fun W hb => by
    have := cinc_any x x a n (.slice none 0 0) [] W (hT.below hb) (RdI.nil _ _ _ _)
    rw [hv7] at this
    exact this
  have HCC : Hid (∀ W, Below w.heap.size w W → Calls Tryd.prog 40 #[.int .i64 a, .int .i64 n, .agg (arr 32 fun i => bv (x i)), .agg (arr 32 fun i => bv (x i)), .slice none 0 0] W fun e w' => e = .returned (.int .i64 60) ∧ Below W.heap.size W w') := Lib.hid fun W hb => by
    have := ccon_any x x a n (.slice none 0 0) [] W (hT.below hb) (RdI.nil _ _ _ _)
    rw [hv8] at this
    exact this
  have f_p0 : (0 : Int) ≤ a := by omega
  have d_p0 : decide ((0 : Int) ≤ a) = true := decide_eq_true f_p0
  have f_p1 : (1 : Int) ≤ a := by omega
  have d_p1 : decide ((1 : Int) ≤ a) = true := decide_eq_true f_p1
  have f_lt : a < n := by omega
  have d_lt : decide (a < n) = true := decide_eq_true f_lt
  have f_le : a ≤ n := by omega
  have d_le : decide (a ≤ n) = true := decide_eq_true f_le
  have f_big : n ≤ 1099511627776 := by omega
  have d_big : decide (n ≤ 1099511627776) = true := decide_eq_true f_big
  have f_eq : ¬ (a = n) := by omega
  have d_eq : decide (a = n) = false := decide_eq_false f_eq
  have f_n1 : ¬ (n = 1) := by omega
  have d_n1 : decide (n = 1) = false := decide_eq_false f_n1
  have b_eq : (a == n) = false := beq_eq_false_iff_ne.2 f_eq
  have b_n1 : (n == 1) = false := beq_eq_false_iff_ne.2 f_n1
  have HK0 := Lib.hid (Blk.new w 30 (arr 32 fun i => bv (x i)))
  have HB0 := Lib.hid hb0
  clear hb0 hT hv7 hv8 h
  go_enter Tryd.func16, Tryd.ntmps16
  go_wp2_with (first
    | (go_at_call 34; refine HPR.out.mono ?_; rintro e W1 ⟨rfl, hb1⟩; have HK1 := Lib.hid (HK0.out.below hb1 HK0.out.lt); have HB1 := Lib.hid (HB0.out.trans (hb1.mono HB0.out.size)); clear hb1 HPR)
    | (guard_target = wpList _ _ _ (Oper.mk _ (.load 30 _) _ _ _ _ :: _) _ _; first | refine wpList_load_runG (by rfl) 30 _ rfl (.pointer (some ⟨w.heap.size, 0, none⟩)) (.agg (arr 32 fun i => bv (x i))) rfl (load_blk HK3.out) ?_ | refine wpList_load_runG (by rfl) 30 _ rfl (.pointer (some ⟨w.heap.size, 0, none⟩)) (.agg (arr 32 fun i => bv (x i))) rfl (load_blk HK2.out) ?_ | refine wpList_load_runG (by rfl) 30 _ rfl (.pointer (some ⟨w.heap.size, 0, none⟩)) (.agg (arr 32 fun i => bv (x i))) rfl (load_blk HK1.out) ?_)
    | (go_at_call 37; refine (HCI.out _ HB1.out).mono ?_; rintro e W2 ⟨rfl, hb2⟩; have HK2 := Lib.hid (HK1.out.below hb2 HK1.out.lt); have HB2 := Lib.hid (HB1.out.trans (hb2.mono HB1.out.size)); clear hb2 HCI HK1)
    | (go_at_call 40; refine (HCC.out _ HB2.out).mono ?_; rintro e W3 ⟨rfl, hb3⟩; have HK3 := Lib.hid (HK2.out.below hb3 HK2.out.lt); have HB3 := Lib.hid (HB2.out.trans (hb3.mono HB2.out.size)); clear hb3 HCC HK2))
  go_ret
  exact ⟨rfl, HB3.out⟩
theorem ranges_law (a n : Int) (x : D) (w : World) (hT : Tables w) :
    Calls Tryd.prog 16 #[.int .i64 a, .int .i64 n, .agg (arr 32 fun i => bv (x i))] w fun e w' => e = .returned (.bool true) ∧ Below w.heap.size w w' := by
  by_cases h1 : a < 0
  · exact ranges_c1 a n x h1 w hT
  by_cases h2 : a = 0
  · by_cases h3 : n ≤ 0
    · exact ranges_c2a a n x (by omega) w hT
    by_cases h4 : 1099511627776 < n
    · exact ranges_c2b a n x (by omega) w hT
    by_cases h5 : n = 1
    · subst h5; exact ranges_c2c a x (by omega) w hT
    · exact ranges_c2d a n x (by omega) w hT
  by_cases h3 : n < a
  · exact ranges_c3a a n x (by omega) w hT
  by_cases h4 : a = n
  · by_cases h5 : 1099511627776 < n
    · subst h4; exact ranges_c3e a x (by omega) w hT
    · subst h4; exact ranges_c3c a x (by omega) w hT
  · by_cases h5 : 1099511627776 < n
    · exact ranges_c3b a n x (by omega) w hT
    · exact ranges_c3d a n x (by omega) w hT
end Go.Proofs.YtkkanaefngggoaaDoor
