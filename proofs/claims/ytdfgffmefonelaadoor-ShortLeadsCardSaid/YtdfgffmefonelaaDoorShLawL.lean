/-
  ShortLeads: of every cut, entry and way, in whatever memory in which the tables lie. No condition.
-/
import Derived.Test.YtdfgffmefonelaaDoorShLeads
import Derived.Test.YtdfgffmefonelaaDoorShRefL
import Derived.Test.YtdfgffmefonelaaDoorShGuard
import Derived.Test.YtdfgffmefonelaaDoorStrT
namespace Go.Proofs.YtdfgffmefonelaaDoor
open Go Go.RowKit Go.Shelf TreeM

section
variable {P : Program} {ops : Array Oper} {rest : List Oper} {o : Oper} {a : Act} {w : World} {Q : Exit → Act → World → Prop}
theorem wpList_load_runS (hw : Region.wanted o (yielded ops a.tmps) = true) (ty : TypeId) (x : Operand) (ho : o.op = .load ty x) (p v : Value) (hx : a.eval x = p) (hl : (Instr.loadAt ty p).run P w = .ok v w)
    (h : wpList P ops Q rest (a.put o.dst v) w) : wpList P ops Q (o :: rest) a w :=
  wpList_step fun K hK => by
    rw [if_pos hw]
    exact oper_load ty x ho p v hx hl (hK _ _ h)
end
/-- A Way's cells. -/
def wayB (a n : Int) (v : Value) (y : D) : Array Value := arr 35 fun i => if i = 0 then .int .i64 a else if i = 1 then .int .i64 n else if i = 2 then v else bv (y (i - 3))
theorem wayB_cells {W : World} {g : Nat} {a n : Int} {y : D} {v : Value} (h : Blk W g 57 (wayB a n v y)) :
    W.cell? ⟨g, 0, none⟩ = some (.int .i64 a) ∧ W.cell? ⟨g, 1, none⟩ = some (.int .i64 n) ∧ W.cell? ⟨g, 2, none⟩ = some v ∧ (∀ i, i < 32 → W.cell? ((⟨g, 3, none⟩ : Addr).add i) = some (bv (y i))) := by
  refine ⟨?_, ?_, ?_, fun i hi => ?_⟩
  · rw [h.cell, wayB, arr_get, if_pos (by omega)]; rfl
  · rw [h.cell, wayB, arr_get, if_pos (by omega)]; rfl
  · rw [h.cell, wayB, arr_get, if_pos (by omega)]; rfl
  · rw [show (⟨g, 3, none⟩ : Addr) = (⟨g, 0, none⟩ : Addr).add 3 from (add_zero_block g 3).symm, add_add, add_zero_block, h.cell, wayB, arr_get, if_pos (by omega), if_neg (by omega), if_neg (by omega), if_neg (by omega), Nat.add_sub_cancel_left]
theorem wayB_root {W : World} {g : Nat} {a n : Int} {y : D} {v : Value} (h : Blk W g 57 (wayB a n v y)) : (Instr.loadAt 23 (.pointer (some ⟨g, 3, none⟩))).run Tryd.prog W = .ok (.agg (arr 32 fun i => bv (y i))) W :=
  run_loadAt_cells 23 ⟨g, 3, none⟩ 32 (fun i => bv (y i)) 5 W (wayB_cells h).2.2.2 Tryd.underlying23 (by kernel_rfl)
set_option maxRecDepth 100000 in
set_option maxHeartbeats 4000000 in
theorem leads_long (c : Int) (ve pv : Value) (entry : List UInt8) (a n : Int) (path : List D) (y : D) (w : World) (hT : Tables w) (he : RdB w (fun b => b < w.heap.size) ve entry) (hp : RdI w (fun b => b < w.heap.size) pv path) (h : 70 < path.length) :
    Calls Tryd.prog 7 #[.int .i64 c, ve, .agg (wayB a n pv y)] w fun e w' => e = .returned (.bool true) ∧ Below w.heap.size w w' := by
  obtain ⟨Ap, cp, rfl, hlp, _⟩ := id hp
  obtain ⟨np, hnp⟩ : ∃ np, path.length = np := ⟨_, rfl⟩
  obtain ⟨Ae, ce, rfl, hle, _⟩ := id he
  obtain ⟨ne, hne⟩ : ∃ ne, entry.length = ne := ⟨_, rfl⟩
  rw [hnp] at hp hlp ⊢
  rw [hne] at he hle ⊢
  have hb0 : Below w.heap.size w (w.alloc (.cells (wayB a n (.slice Ap np cp) y) 57)) := (Below.refl _ _).alloc (Nat.le_refl _) _
  have hk0 : Blk (w.alloc (.cells (wayB a n (.slice Ap np cp) y) 57)) w.heap.size 57 (wayB a n (.slice Ap np cp) y) := Blk.new w _ _
  have HCU := Lib.hid (cuts_any _ (hT.below hb0))
  have HK0 := Lib.hid hk0
  have HB0 := Lib.hid hb0
  have h70 : 70 < (np : Int) := by omega
  obtain ⟨cs, hcs⟩ : ∃ cs, wayB a n (.slice Ap np cp) y = cs := ⟨_, rfl⟩
  rw [hcs] at HK0 HB0 HCU ⊢
  clear hT he hp hb0 hk0 hle hlp hnp hne h
  go_enter Tryd.func7, Tryd.ntmps7
  go_wp2_with (go_at_call 18; refine HCU.out.mono ?_; rintro e W1 ⟨rfl, hb1⟩; have k1 := HK0.out.below hb1 HK0.out.lt; rw [← hcs] at k1; obtain ⟨cA, cN, cP, _⟩ := wayB_cells k1; have HB1 := Lib.hid (HB0.out.trans (hb1.mono HB0.out.size)); have HK1 := Lib.hid k1; clear hb1 HCU k1)
  go_ret
  exact ⟨rfl, HB1.out⟩
set_option maxRecDepth 100000 in
set_option maxHeartbeats 4000000 in
theorem leads_range (c : Int) (ve pv : Value) (entry : List UInt8) (a n : Int) (path : List D) (y : D) (w : World) (hT : Tables w) (he : RdB w (fun b => b < w.heap.size) ve entry) (hp : RdI w (fun b => b < w.heap.size) pv path) (h : path.length ≤ 70) (hr : (a < 0 ∨ n ≤ a ∨ 1099511627776 < n) ∨ 64 < path.length) :
    Calls Tryd.prog 7 #[.int .i64 c, ve, .agg (wayB a n pv y)] w fun e w' => e = .returned (.bool true) ∧ Below w.heap.size w w' := by
  have HRR := Lib.hid hr
  clear hr
  obtain ⟨Ap, cp, rfl, hlp, _⟩ := id hp
  obtain ⟨np, hnp⟩ : ∃ np, path.length = np := ⟨_, rfl⟩
  obtain ⟨Ae, ce, rfl, hle, _⟩ := id he
  obtain ⟨ne, hne⟩ : ∃ ne, entry.length = ne := ⟨_, rfl⟩
  rw [hnp] at hp hlp ⊢
  rw [hne] at he hle ⊢
  have hb0 : Below w.heap.size w (w.alloc (.cells (wayB a n (.slice Ap np cp) y) 57)) := (Below.refl _ _).alloc (Nat.le_refl _) _
  have hk0 : Blk (w.alloc (.cells (wayB a n (.slice Ap np cp) y) 57)) w.heap.size 57 (wayB a n (.slice Ap np cp) y) := Blk.new w _ _
  have HCU := Lib.hid (cuts_any _ (hT.below hb0))
  have HK0 := Lib.hid hk0
  have HB0 := Lib.hid hb0
  have h70 : ¬ 70 < (np : Int) := by omega
  obtain ⟨m, hm⟩ : ∃ m, min ne 100 = m := ⟨_, rfl⟩
  have hm1 : m ≤ ne := by rw [← hm]; exact Nat.min_le_left _ _
  have hm100 : m ≤ 100 := by rw [← hm]; exact Nat.min_le_right _ _
  have HMI : Hid (min (ne : Int) 100 = (m : Int)) := Lib.hid (by omega)
  clear hm
  have hsl : ∀ W, (Instr.sliceAt 50 (.slice Ae ne ce) none (some (.int .i64 (m : Int))) none).run Tryd.prog W = .ok (.slice Ae m ce) W := fun W => run_slice_to (P := Tryd.prog) 50 5 Tryd.underlying50 (by kernel_rfl) Ae ne ce m (by omega) W
  have he1 : RdB w (fun b => b < w.heap.size) (.slice Ae m ce) (entry.take m) := by
    obtain ⟨A', c', e, h1, h2, h3⟩ := he
    injection e with e1 e2 e3
    subst e1; subst e3
    have hl : (entry.take m).length = m := by rw [List.length_take]; omega
    refine ⟨Ae, ce, by rw [hl], by rw [hl]; omega, by rw [hl]; omega, fun h0 => ?_⟩
    obtain ⟨ad, e, hok, hc⟩ := h3 (by omega)
    refine ⟨ad, e, hok, fun j hj => ?_⟩
    rw [hl] at hj
    rw [hc j (by omega), List.getD_eq_getElem?_getD, List.getD_eq_getElem?_getD, List.getElem?_take, if_pos hj]
  have hl1 : (entry.take m).length = m := by rw [List.length_take]; omega
  obtain ⟨E, hE⟩ : ∃ E, entry.take m = E := ⟨_, rfl⟩
  rw [hE] at he1 hl1
  have HLE : Hid (∀ W, Below w.heap.size w W → Calls Tryd.prog 29 #[.int .i64 c, .slice Ae m ce, .int .i64 a, .int .i64 n, .slice Ap np cp, .agg (arr 32 fun i => bv (y i))] W fun e w' => e = .returned (.bool (leadsV c E a n path y)) ∧ Below W.heap.size W w') := Lib.hid fun W hb => leadsS_any c Ae m ce E a n _ path y W (hT.below hb) ((he1.kept fun a x ha h => (hb.cell (p := a) ha).trans h).mono fun b hb' => Nat.lt_of_lt_of_le hb' hb.size) hl1 (by omega) ((hp.old hb).mono fun b hb' => Nat.lt_of_lt_of_le hb' hb.size) (by omega)
  have hr := HRR.out
  have hv : leadsV c E a n path y = false := by
    unfold leadsV
    by_cases h' : a < 0 ∨ n ≤ a ∨ 1099511627776 < n
    · rw [if_pos h']
    · rw [if_neg h', decide_eq_false (by have := steps_length 41 a.toNat (n.toNat - 1) (by omega); omega), Bool.false_and]
  rw [hv] at HLE
  obtain ⟨cs, hcs⟩ : ∃ cs, wayB a n (.slice Ap np cp) y = cs := ⟨_, rfl⟩
  rw [hcs] at HK0 HB0 HCU ⊢
  have hr' : (a < 0 ∨ n ≤ a ∨ 1099511627776 < n) ∨ 64 < (np : Int) := by omega
  clear hT he hp hb0 hk0 hle hlp hnp hne h he1 hl1 hE hm100 hm1 hr hv
  by_cases h0 : a < 0
  · have d0 : decide (a < 0) = true := decide_eq_true h0
    clear hr'
    have hmin := HMI.out
    go_enter Tryd.func7, Tryd.ntmps7
    go_wp2_with (first
      | (go_at_call 18; refine HCU.out.mono ?_; rintro e W1 ⟨rfl, hb1⟩; have k1 := HK0.out.below hb1 HK0.out.lt; rw [← hcs] at k1; obtain ⟨cA, cN, cP, _⟩ := wayB_cells k1; have HB1 := Lib.hid (HB0.out.trans (hb1.mono HB0.out.size)); have HK1 := Lib.hid k1; clear hb1 HCU k1)
      | (guard_target = wpList _ _ _ (Oper.mk _ (.load 23 (.tmp 29)) _ _ _ _ :: _) _ _; refine wpList_load_runS (by rfl) 23 _ rfl _ _ rfl (wayB_root HK1.out) ?_)
      | (go_at_call 29; refine (HLE.out _ HB1.out).mono ?_; rintro e W2 ⟨rfl, hb2⟩; have k2 := HK1.out.below hb2 HK1.out.lt; clear cA cN cP; obtain ⟨cA, cN, cP, _⟩ := wayB_cells k2; have HB2 := Lib.hid (HB1.out.trans (hb2.mono HB1.out.size)); have HK2 := Lib.hid k2; clear hb2 HLE k2))
    go_ret
    exact ⟨rfl, HB2.out⟩
  · have d0 : decide (a < 0) = false := decide_eq_false h0
    by_cases h1 : n ≤ a
    · have d1 : decide (n ≤ a) = true := decide_eq_true h1
      clear hr'
      have hmin := HMI.out
      go_enter Tryd.func7, Tryd.ntmps7
      go_wp2_with (first
        | (go_at_call 18; refine HCU.out.mono ?_; rintro e W1 ⟨rfl, hb1⟩; have k1 := HK0.out.below hb1 HK0.out.lt; rw [← hcs] at k1; obtain ⟨cA, cN, cP, _⟩ := wayB_cells k1; have HB1 := Lib.hid (HB0.out.trans (hb1.mono HB0.out.size)); have HK1 := Lib.hid k1; clear hb1 HCU k1)
        | (guard_target = wpList _ _ _ (Oper.mk _ (.load 23 (.tmp 29)) _ _ _ _ :: _) _ _; refine wpList_load_runS (by rfl) 23 _ rfl _ _ rfl (wayB_root HK1.out) ?_)
        | (go_at_call 29; refine (HLE.out _ HB1.out).mono ?_; rintro e W2 ⟨rfl, hb2⟩; have k2 := HK1.out.below hb2 HK1.out.lt; clear cA cN cP; obtain ⟨cA, cN, cP, _⟩ := wayB_cells k2; have HB2 := Lib.hid (HB1.out.trans (hb2.mono HB1.out.size)); have HK2 := Lib.hid k2; clear hb2 HLE k2))
      go_ret
      exact ⟨rfl, HB2.out⟩
    · have d1 : decide (n ≤ a) = false := decide_eq_false h1
      by_cases h2 : 1099511627776 < n
      · have d2 : decide (1099511627776 < n) = true := decide_eq_true h2
        clear hr'
        have hmin := HMI.out
        go_enter Tryd.func7, Tryd.ntmps7
        go_wp2_with (first
          | (go_at_call 18; refine HCU.out.mono ?_; rintro e W1 ⟨rfl, hb1⟩; have k1 := HK0.out.below hb1 HK0.out.lt; rw [← hcs] at k1; obtain ⟨cA, cN, cP, _⟩ := wayB_cells k1; have HB1 := Lib.hid (HB0.out.trans (hb1.mono HB0.out.size)); have HK1 := Lib.hid k1; clear hb1 HCU k1)
          | (guard_target = wpList _ _ _ (Oper.mk _ (.load 23 (.tmp 29)) _ _ _ _ :: _) _ _; refine wpList_load_runS (by rfl) 23 _ rfl _ _ rfl (wayB_root HK1.out) ?_)
          | (go_at_call 29; refine (HLE.out _ HB1.out).mono ?_; rintro e W2 ⟨rfl, hb2⟩; have k2 := HK1.out.below hb2 HK1.out.lt; clear cA cN cP; obtain ⟨cA, cN, cP, _⟩ := wayB_cells k2; have HB2 := Lib.hid (HB1.out.trans (hb2.mono HB1.out.size)); have HK2 := Lib.hid k2; clear hb2 HLE k2))
        go_ret
        exact ⟨rfl, HB2.out⟩
      · have d2 : decide (1099511627776 < n) = false := decide_eq_false h2
        have h3 : 64 < (np : Int) := by omega
        have d3 : decide (64 < (np : Int)) = true := decide_eq_true h3
        clear hr'
        have hmin := HMI.out
        go_enter Tryd.func7, Tryd.ntmps7
        go_wp2_with (first
          | (go_at_call 18; refine HCU.out.mono ?_; rintro e W1 ⟨rfl, hb1⟩; have k1 := HK0.out.below hb1 HK0.out.lt; rw [← hcs] at k1; obtain ⟨cA, cN, cP, _⟩ := wayB_cells k1; have HB1 := Lib.hid (HB0.out.trans (hb1.mono HB0.out.size)); have HK1 := Lib.hid k1; clear hb1 HCU k1)
          | (guard_target = wpList _ _ _ (Oper.mk _ (.load 23 (.tmp 29)) _ _ _ _ :: _) _ _; refine wpList_load_runS (by rfl) 23 _ rfl _ _ rfl (wayB_root HK1.out) ?_)
          | (go_at_call 29; refine (HLE.out _ HB1.out).mono ?_; rintro e W2 ⟨rfl, hb2⟩; have k2 := HK1.out.below hb2 HK1.out.lt; clear cA cN cP; obtain ⟨cA, cN, cP, _⟩ := wayB_cells k2; have HB2 := Lib.hid (HB1.out.trans (hb2.mono HB1.out.size)); have HK2 := Lib.hid k2; clear hb2 HLE k2))
        go_ret
        exact ⟨rfl, HB2.out⟩
set_option maxRecDepth 100000 in
set_option maxHeartbeats 4000000 in
theorem leads_in (c : Int) (ve pv : Value) (entry : List UInt8) (a n : Nat) (path : List D) (y : D) (w : World) (hT : Tables w) (he : RdB w (fun b => b < w.heap.size) ve entry) (hp : RdI w (fun b => b < w.heap.size) pv path) (h : path.length ≤ 64) (ha : a < n) (hn : n ≤ 1099511627776) :
    Calls Tryd.prog 7 #[.int .i64 c, ve, .agg (wayB (a : Int) (n : Int) pv y)] w fun e w' => e = .returned (.bool true) ∧ Below w.heap.size w w' := by
  obtain ⟨Ap, cp, rfl, hlp, _⟩ := id hp
  obtain ⟨np, hnp⟩ : ∃ np, path.length = np := ⟨_, rfl⟩
  obtain ⟨Ae, ce, rfl, hle, _⟩ := id he
  obtain ⟨ne, hne⟩ : ∃ ne, entry.length = ne := ⟨_, rfl⟩
  rw [hnp] at hp hlp ⊢
  rw [hne] at he hle ⊢
  have hb0 : Below w.heap.size w (w.alloc (.cells (wayB (a : Int) (n : Int) (.slice Ap np cp) y) 57)) := (Below.refl _ _).alloc (Nat.le_refl _) _
  have hk0 : Blk (w.alloc (.cells (wayB (a : Int) (n : Int) (.slice Ap np cp) y) 57)) w.heap.size 57 (wayB (a : Int) (n : Int) (.slice Ap np cp) y) := Blk.new w _ _
  have HCU := Lib.hid (cuts_any _ (hT.below hb0))
  have HK0 := Lib.hid hk0
  have HB0 := Lib.hid hb0
  have h70 : ¬ 70 < (np : Int) := by omega
  obtain ⟨m, hm⟩ : ∃ m, min ne 100 = m := ⟨_, rfl⟩
  have hm1 : m ≤ ne := by rw [← hm]; exact Nat.min_le_left _ _
  have hm100 : m ≤ 100 := by rw [← hm]; exact Nat.min_le_right _ _
  have HMI : Hid (min (ne : Int) 100 = (m : Int)) := Lib.hid (by omega)
  clear hm
  have hsl : ∀ W, (Instr.sliceAt 50 (.slice Ae ne ce) none (some (.int .i64 (m : Int))) none).run Tryd.prog W = .ok (.slice Ae m ce) W := fun W => run_slice_to (P := Tryd.prog) 50 5 Tryd.underlying50 (by kernel_rfl) Ae ne ce m (by omega) W
  have he1 : RdB w (fun b => b < w.heap.size) (.slice Ae m ce) (entry.take m) := by
    obtain ⟨A', c', e, h1, h2, h3⟩ := he
    injection e with e1 e2 e3
    subst e1; subst e3
    have hl : (entry.take m).length = m := by rw [List.length_take]; omega
    refine ⟨Ae, ce, by rw [hl], by rw [hl]; omega, by rw [hl]; omega, fun h0 => ?_⟩
    obtain ⟨ad, e, hok, hc⟩ := h3 (by omega)
    refine ⟨ad, e, hok, fun j hj => ?_⟩
    rw [hl] at hj
    rw [hc j (by omega), List.getD_eq_getElem?_getD, List.getD_eq_getElem?_getD, List.getElem?_take, if_pos hj]
  have hl1 : (entry.take m).length = m := by rw [List.length_take]; omega
  obtain ⟨E, hE⟩ : ∃ E, entry.take m = E := ⟨_, rfl⟩
  rw [hE] at he1 hl1
  have HLE : Hid (∀ W, Below w.heap.size w W → Calls Tryd.prog 29 #[.int .i64 c, .slice Ae m ce, .int .i64 (a : Int), .int .i64 (n : Int), .slice Ap np cp, .agg (arr 32 fun i => bv (y i))] W fun e w' => e = .returned (.bool (leadsV c E (a : Int) (n : Int) path y)) ∧ Below W.heap.size W w') := Lib.hid fun W hb => leadsS_any c Ae m ce E (a : Int) (n : Int) _ path y W (hT.below hb) ((he1.kept fun a x ha h => (hb.cell (p := a) ha).trans h).mono fun b hb' => Nat.lt_of_lt_of_le hb' hb.size) hl1 (by omega) ((hp.old hb).mono fun b hb' => Nat.lt_of_lt_of_le hb' hb.size) (by omega)
  have HRL : Hid (∀ W, Below w.heap.size w W → Calls Tryd.prog 30 #[.int .i64 c, .string ⟨E.toArray⟩, .int .i64 (a : Int), .int .i64 (n : Int), .slice Ap np cp] W fun e w' => e = .returned (.tuple #[.agg (arr 32 fun i => bv ((leadsR c E path.reverse a n).1 i)), .bool (leadsR c E path.reverse a n).2]) ∧ Below W.heap.size W w') := Lib.hid fun W hb => refLeadsS_any c E (by omega) path.reverse a n _ path W rfl (by simp; omega) ha hn ((hp.old hb).mono fun b hb' => Nat.lt_of_lt_of_le hb' hb.size)
  have hv : leadsV c E (a : Int) (n : Int) path y = ((leadsR c E path.reverse a n).2 && (id32 (leadsR c E path.reverse a n).1 == id32 y)) := by
    have hs := leadsR_steps c E path.reverse a n ha
    rw [List.length_reverse, List.reverse_reverse] at hs
    unfold leadsV
    rw [if_neg (by omega), Int.toNat_natCast, Int.toNat_natCast, hs.1]
    by_cases hl : path.length = (stepsB a (n - 1)).length
    · rw [hs.2 hl]
    · rw [decide_eq_false hl, Bool.false_and, Bool.false_and]
  have HCV : Hid (∀ W, Below w.heap.size w W → (convert 50 9 (.slice Ae m ce)).run Tryd.prog W = .ok (.string ⟨E.toArray⟩) W) := Lib.hid fun W hb => str_rd ((he1.kept fun a x ha h => (hb.cell (p := a) ha).trans h).mono fun b hb' => Nat.lt_of_lt_of_le hb' hb.size)
  rw [hv] at HLE
  obtain ⟨x, hx⟩ : ∃ x, (leadsR c E path.reverse a n).1 = x := ⟨_, rfl⟩
  obtain ⟨ok, hok⟩ : ∃ ok, (leadsR c E path.reverse a n).2 = ok := ⟨_, rfl⟩
  simp only [hx, hok] at HLE HRL
  obtain ⟨β, hβ⟩ : ∃ β, (id32 x == id32 y) = β := ⟨_, rfl⟩
  have hq := fun W => eql_id x y W
  rw [hβ] at hq HLE
  obtain ⟨cs, hcs⟩ : ∃ cs, wayB (a : Int) (n : Int) (.slice Ap np cp) y = cs := ⟨_, rfl⟩
  rw [hcs] at HK0 HB0 HCU ⊢
  have d0 : decide ((a : Int) < 0) = false := decide_eq_false (by omega)
  have d1 : decide ((n : Int) ≤ (a : Int)) = false := decide_eq_false (by omega)
  have hna : ¬ n ≤ a := by omega
  have d2 : decide (1099511627776 < (n : Int)) = false := decide_eq_false (by omega)
  have h64 : ¬ 64 < (np : Int) := by omega
  obtain ⟨S, hS⟩ : ∃ S, (⟨E.toArray⟩ : ByteArray) = S := ⟨_, rfl⟩
  rw [hS] at HCV HRL
  clear hT he hp hb0 hk0 hle hlp hnp hne h he1 hl1 hE hm100 hm1 hv hx hok hβ ha hS
  cases ok with
  | true =>
    rw [Bool.true_and] at HLE
    cases β with
    | true =>
      have hmin := HMI.out
      go_enter Tryd.func7, Tryd.ntmps7
      go_wp2_with (first
        | (go_at_call 18; refine HCU.out.mono ?_; rintro e W1 ⟨rfl, hb1⟩; have k1 := HK0.out.below hb1 HK0.out.lt; rw [← hcs] at k1; obtain ⟨cA, cN, cP, _⟩ := wayB_cells k1; have HB1 := Lib.hid (HB0.out.trans (hb1.mono HB0.out.size)); have HK1 := Lib.hid k1; clear hb1 HCU k1)
        | (guard_target = wpList _ _ _ (Oper.mk _ (.load 23 (.tmp 29)) _ _ _ _ :: _) _ _; refine wpList_load_runS (by rfl) 23 _ rfl _ _ rfl (wayB_root HK1.out) ?_)
        | (go_at_call 29; refine (HLE.out _ HB1.out).mono ?_; rintro e W2 ⟨rfl, hb2⟩; have k2 := HK1.out.below hb2 HK1.out.lt; clear cA cN cP; obtain ⟨cA, cN, cP, _⟩ := wayB_cells k2; have HB2 := Lib.hid (HB1.out.trans (hb2.mono HB1.out.size)); have HK2 := Lib.hid k2; have hcv := HCV.out W2 HB2.out; clear hb2 HLE k2)
        | (go_at_call 30; refine (HRL.out _ HB2.out).mono ?_; rintro e W3 ⟨rfl, hb3⟩; have k3 := HK2.out.below hb3 HK2.out.lt; clear cA cN cP; have HB3 := Lib.hid (HB2.out.trans (hb3.mono HB2.out.size)); have HK3 := Lib.hid (k3.alloc (.cells (arr 32 fun i => bv (x i)) 23)); clear hb3 HRL k3 hcv)
        | (refine wpList_store_row rfl 23 _ _ rfl W3.heap.size (arr 32 fun i => bv (x i)) rfl rfl 23 _ (heap_alloc_new W3 _) (by rw [arr_size]; kernel_rfl) (by rw [arr_size]; rfl) (arr_all_bv _ _) ?_; rw [World.setRow_alloc_new])
        | (guard_target = wpList _ _ _ (Oper.mk _ (.load 23 (.tmp 8)) _ _ _ _ :: _) _ _; refine wpList_load_runS (by rfl) 23 _ rfl _ _ rfl (load_blk (Blk.new W3 23 (arr 32 fun i => bv (x i)))) ?_)
        | (guard_target = wpList _ _ _ (Oper.mk _ (.load 23 (.tmp 72)) _ _ _ _ :: _) _ _; refine wpList_load_runS (by rfl) 23 _ rfl _ _ rfl (wayB_root HK3.out) ?_))
      go_ret
      exact ⟨rfl, HB3.out.alloc HB3.out.size _⟩
    | false =>
      have hmin := HMI.out
      go_enter Tryd.func7, Tryd.ntmps7
      go_wp2_with (first
        | (go_at_call 18; refine HCU.out.mono ?_; rintro e W1 ⟨rfl, hb1⟩; have k1 := HK0.out.below hb1 HK0.out.lt; rw [← hcs] at k1; obtain ⟨cA, cN, cP, _⟩ := wayB_cells k1; have HB1 := Lib.hid (HB0.out.trans (hb1.mono HB0.out.size)); have HK1 := Lib.hid k1; clear hb1 HCU k1)
        | (guard_target = wpList _ _ _ (Oper.mk _ (.load 23 (.tmp 29)) _ _ _ _ :: _) _ _; refine wpList_load_runS (by rfl) 23 _ rfl _ _ rfl (wayB_root HK1.out) ?_)
        | (go_at_call 29; refine (HLE.out _ HB1.out).mono ?_; rintro e W2 ⟨rfl, hb2⟩; have k2 := HK1.out.below hb2 HK1.out.lt; clear cA cN cP; obtain ⟨cA, cN, cP, _⟩ := wayB_cells k2; have HB2 := Lib.hid (HB1.out.trans (hb2.mono HB1.out.size)); have HK2 := Lib.hid k2; have hcv := HCV.out W2 HB2.out; clear hb2 HLE k2)
        | (go_at_call 30; refine (HRL.out _ HB2.out).mono ?_; rintro e W3 ⟨rfl, hb3⟩; have k3 := HK2.out.below hb3 HK2.out.lt; clear cA cN cP; have HB3 := Lib.hid (HB2.out.trans (hb3.mono HB2.out.size)); have HK3 := Lib.hid (k3.alloc (.cells (arr 32 fun i => bv (x i)) 23)); clear hb3 HRL k3 hcv)
        | (refine wpList_store_row rfl 23 _ _ rfl W3.heap.size (arr 32 fun i => bv (x i)) rfl rfl 23 _ (heap_alloc_new W3 _) (by rw [arr_size]; kernel_rfl) (by rw [arr_size]; rfl) (arr_all_bv _ _) ?_; rw [World.setRow_alloc_new])
        | (guard_target = wpList _ _ _ (Oper.mk _ (.load 23 (.tmp 8)) _ _ _ _ :: _) _ _; refine wpList_load_runS (by rfl) 23 _ rfl _ _ rfl (load_blk (Blk.new W3 23 (arr 32 fun i => bv (x i)))) ?_)
        | (guard_target = wpList _ _ _ (Oper.mk _ (.load 23 (.tmp 72)) _ _ _ _ :: _) _ _; refine wpList_load_runS (by rfl) 23 _ rfl _ _ rfl (wayB_root HK3.out) ?_))
      go_ret
      exact ⟨rfl, HB3.out.alloc HB3.out.size _⟩
  | false =>
    rw [Bool.false_and] at HLE
    have hmin := HMI.out
    go_enter Tryd.func7, Tryd.ntmps7
    go_wp2_with (first
      | (go_at_call 18; refine HCU.out.mono ?_; rintro e W1 ⟨rfl, hb1⟩; have k1 := HK0.out.below hb1 HK0.out.lt; rw [← hcs] at k1; obtain ⟨cA, cN, cP, _⟩ := wayB_cells k1; have HB1 := Lib.hid (HB0.out.trans (hb1.mono HB0.out.size)); have HK1 := Lib.hid k1; clear hb1 HCU k1)
      | (guard_target = wpList _ _ _ (Oper.mk _ (.load 23 (.tmp 29)) _ _ _ _ :: _) _ _; refine wpList_load_runS (by rfl) 23 _ rfl _ _ rfl (wayB_root HK1.out) ?_)
      | (go_at_call 29; refine (HLE.out _ HB1.out).mono ?_; rintro e W2 ⟨rfl, hb2⟩; have k2 := HK1.out.below hb2 HK1.out.lt; clear cA cN cP; obtain ⟨cA, cN, cP, _⟩ := wayB_cells k2; have HB2 := Lib.hid (HB1.out.trans (hb2.mono HB1.out.size)); have HK2 := Lib.hid k2; have hcv := HCV.out W2 HB2.out; clear hb2 HLE k2)
      | (go_at_call 30; refine (HRL.out _ HB2.out).mono ?_; rintro e W3 ⟨rfl, hb3⟩; have k3 := HK2.out.below hb3 HK2.out.lt; clear cA cN cP; have HB3 := Lib.hid (HB2.out.trans (hb3.mono HB2.out.size)); have HK3 := Lib.hid (k3.alloc (.cells (arr 32 fun i => bv (x i)) 23)); clear hb3 HRL k3 hcv)
      | (refine wpList_store_row rfl 23 _ _ rfl W3.heap.size (arr 32 fun i => bv (x i)) rfl rfl 23 _ (heap_alloc_new W3 _) (by rw [arr_size]; kernel_rfl) (by rw [arr_size]; rfl) (arr_all_bv _ _) ?_; rw [World.setRow_alloc_new])
      | (guard_target = wpList _ _ _ (Oper.mk _ (.load 23 (.tmp 8)) _ _ _ _ :: _) _ _; refine wpList_load_runS (by rfl) 23 _ rfl _ _ rfl (load_blk (Blk.new W3 23 (arr 32 fun i => bv (x i)))) ?_)
      | (guard_target = wpList _ _ _ (Oper.mk _ (.load 23 (.tmp 72)) _ _ _ _ :: _) _ _; refine wpList_load_runS (by rfl) 23 _ rfl _ _ rfl (wayB_root HK3.out) ?_))
    go_ret
    exact ⟨rfl, HB3.out.alloc HB3.out.size _⟩
theorem leads_law (c : Int) (ve pv : Value) (entry : List UInt8) (a n : Int) (path : List D) (y : D) (w : World) (hT : Tables w) (he : RdB w (fun b => b < w.heap.size) ve entry) (hp : RdI w (fun b => b < w.heap.size) pv path) :
    Calls Tryd.prog 7 #[.int .i64 c, ve, .agg (wayB a n pv y)] w fun e w' => e = .returned (.bool true) ∧ Below w.heap.size w w' := by
  by_cases h : 70 < path.length
  · exact leads_long c ve pv entry a n path y w hT he hp h
  · by_cases h2 : (a < 0 ∨ n ≤ a ∨ 1099511627776 < n) ∨ 64 < path.length
    · exact leads_range c ve pv entry a n path y w hT he hp (by omega) h2
    · obtain ⟨a', rfl⟩ := Int.eq_ofNat_of_zero_le (show 0 ≤ a by omega)
      obtain ⟨n', rfl⟩ := Int.eq_ofNat_of_zero_le (show 0 ≤ n by omega)
      exact leads_in c ve pv entry a' n' path y w hT he hp (by omega) (by omega) (by omega)
theorem leads_law' (c : Int) (ve : Value) (entry : List UInt8) (a n : Int) (pv : Value) (path : List D) (y : D) (w : World) (hT : Tables w) (he : RdB w (fun b => b < w.heap.size) ve entry) (hp : RdI w (fun b => b < w.heap.size) pv path) :
    Calls Tryd.prog 7 #[.int .i64 c, ve, .agg (wayB a n pv y)] w fun e w' => e = .returned (.bool true) ∧ Below w.heap.size w w' := leads_law c ve pv entry a n path y w hT he hp
end Go.Proofs.YtdfgffmefonelaaDoor
