/-
  ProofChecks and ProofLinks: whatever somebody shows, in whatever memory in which the tables lie. No condition.
-/
import Derived.Test.YtdfgffmefonelaaDoorPrfRefK
import Derived.Test.YtdfgffmefonelaaDoorPrfGuard
namespace Go.Proofs.YtdfgffmefonelaaDoor
open Go Go.RowKit Go.Shelf TreeM

/-- A Way's cells. -/
def wayA (a n : Int) (x y : D) (v : Value) : Array Value := arr 67 fun i => if i = 0 then .int .i64 a else if i = 1 then .int .i64 n else if i < 34 then bv (x (i - 2)) else if i < 66 then bv (y (i - 34)) else v
theorem yieldsIf_load_one {P : Program} {ops : Array Oper} {S : World → Prop} {op : Oper} {a : Act} (hw : Region.wanted op (yielded ops a.tmps) = true) (ty : TypeId) (x : Operand) (ho : op.op = .load ty x)
    (ad : Addr) (hx : a.eval x = .pointer (some ad)) (v : Value) (d : TypeDesc) (hS : ∀ w, S w → w.cell? ad = some v)
    (hu : P.underlying ty = some d) (hd : (match d with | .struct _ | .array _ _ => true | _ => false) = false) : YieldsIf P ops S op v a :=
  .inl ⟨hw, fun w hw' => by
    have hl : (Instr.loadAt ty (.pointer (some ad))).run P w = .ok v w := loadVar_one hu hd (hS w hw')
    unfold execOp
    simp only [ho, hx, Sem.run_bind, hl, Sem.run_pure, Result.andThen_ok]⟩
theorem way_cells {W : World} {g : Nat} {a n : Int} {x y : D} {v : Value} (h : Blk W g 26 (wayA a n x y v)) :
    W.cell? ⟨g, 0, none⟩ = some (.int .i64 a) ∧ W.cell? ⟨g, 1, none⟩ = some (.int .i64 n) ∧ (∀ i, i < 32 → W.cell? ((⟨g, 2, none⟩ : Addr).add i) = some (bv (x i))) ∧ (∀ i, i < 32 → W.cell? ((⟨g, 34, none⟩ : Addr).add i) = some (bv (y i))) ∧ W.cell? ⟨g, 66, none⟩ = some v := by
  refine ⟨?_, ?_, fun i hi => ?_, fun i hi => ?_, ?_⟩
  · rw [h.cell, wayA, arr_get, if_pos (by omega)]; rfl
  · rw [h.cell, wayA, arr_get, if_pos (by omega)]; rfl
  · rw [show (⟨g, 2, none⟩ : Addr) = (⟨g, 0, none⟩ : Addr).add 2 from (add_zero_block g 2).symm, add_add, add_zero_block, h.cell, wayA, arr_get, if_pos (by omega), if_neg (by omega), if_neg (by omega), if_pos (by omega), Nat.add_sub_cancel_left]
  · rw [show (⟨g, 34, none⟩ : Addr) = (⟨g, 0, none⟩ : Addr).add 34 from (add_zero_block g 34).symm, add_add, add_zero_block, h.cell, wayA, arr_get, if_pos (by omega), if_neg (by omega), if_neg (by omega), if_neg (by omega), if_pos (by omega), Nat.add_sub_cancel_left]
  · rw [h.cell, wayA, arr_get, if_pos (by omega)]; rfl
set_option maxRecDepth 100000 in
set_option maxHeartbeats 2000000 in
theorem checks_law (a n : Int) (x y : D) (v : Value) (l : List D) (w : World) (hT : Tables w) (hr : RdI w (fun b => b < w.heap.size) v l) :
    Calls Tryd.prog 3 #[.agg (wayA a n x y v)] w fun e w' => e = .returned (.bool true) ∧ Below w.heap.size w w' := by
  obtain ⟨A, c, rfl, hlc, _⟩ := id hr
  obtain ⟨L, hL⟩ : ∃ L, l.length = L := ⟨_, rfl⟩
  rw [hL] at hr hlc ⊢
  have hb0 : Below w.heap.size w (w.alloc (.cells (wayA a n x y (.slice A L c)) 26)) := (Below.refl _ _).alloc (Nat.le_refl _) _
  have hk0 : Blk (w.alloc (.cells (wayA a n x y (.slice A L c)) 26)) w.heap.size 26 (wayA a n x y (.slice A L c)) := Blk.new w _ _
  have HPR := Lib.hid (proves_any _ (hT.below hb0))
  have HC1 : Hid (∀ W, Below w.heap.size w W → Calls Tryd.prog 12 #[.agg (arr 32 fun i => bv (x i)), .int .i64 a, .int .i64 n, .slice A L c, .agg (arr 32 fun i => bv (y i))] W fun e w' => e = .returned (.int .i64 (cincV x a n l y)) ∧ Below W.heap.size W w') := Lib.hid fun W hb => cinc_any x y a n _ l W (hT.below hb) ((hr.old hb).mono fun b hb' => Nat.lt_of_lt_of_le hb' hb.size)
  by_cases h70 : 70 < L
  · have h70i : 70 < (L : Int) := by omega
    have HK0 := Lib.hid hk0
    have HB0 := Lib.hid hb0
    clear HC1 hr hlc hL hT hk0 hb0 h70
    generalize hcs : wayA a n x y (.slice A L c) = cs at *
    go_enter Tryd.func3, Tryd.ntmps3
    go_wp2_with (first
      | (go_at_call 11; refine HPR.out.mono ?_; rintro e W1 ⟨rfl, hb1⟩; have hk1 := HK0.out.below hb1 HK0.out.lt; rw [← hcs] at hk1; have hc66 := (way_cells hk1).2.2.2.2; have HB1 := Lib.hid (HB0.out.trans (hb1.mono HB0.out.size)); clear hb1 HPR hk1)
      | (guard_target = wpList _ _ _ (Oper.mk _ (.load 24 _) _ _ _ _ :: _) _ _; refine wpList_load_run rfl 24 _ rfl _ (.slice A L c) rfl (loadVar_one Tryd.underlying24 rfl hc66) ?_))
    go_ret
    exact ⟨rfl, HB1.out⟩
  · have h70i : ¬ 70 < (L : Int) := by omega
    have HC2 : Hid (∀ W, Below w.heap.size w W → Calls Tryd.prog 13 #[.agg (arr 32 fun i => bv (x i)), .int .i64 a, .int .i64 n, .slice A L c, .agg (arr 32 fun i => bv (y i))] W fun e w' => e = .returned (.int .i64 (cincV x a n l y)) ∧ Below W.heap.size W w') := Lib.hid fun W hb => refCinc_any x y a n _ l W (by omega) ((hr.old hb).mono fun b hb' => Nat.lt_of_lt_of_le hb' hb.size)
    obtain ⟨z, hz⟩ : ∃ z, cincV x a n l y = z := ⟨_, rfl⟩
    rw [hz] at HC1 HC2
    have HK0 := Lib.hid hk0
    have HB0 := Lib.hid hb0
    clear hr hlc hL hT hk0 hb0 hz h70
    obtain ⟨cs, hcs⟩ : ∃ cs, wayA a n x y (.slice A L c) = cs := ⟨_, rfl⟩
    rw [hcs] at HK0 HB0 HPR ⊢
    go_enter Tryd.func3, Tryd.ntmps3
    go_wp2_with (first
      | (go_at_call 11; refine HPR.out.mono ?_; rintro e W1 ⟨rfl, hb1⟩; have hk1 := HK0.out.below hb1 HK0.out.lt; rw [← hcs] at hk1; have hc66 := (way_cells hk1).2.2.2.2; have HK1 := Lib.hid hk1; have HB1 := Lib.hid (HB0.out.trans (hb1.mono HB0.out.size)); clear hb1 HPR hk1)
      | (guard_target = wpList _ _ _ (Oper.mk _ (.load 24 _) _ _ _ _ :: _) _ _; refine wpList_load_run rfl 24 _ rfl _ (.slice A L c) rfl (loadVar_one Tryd.underlying24 rfl hc66) ?_; clear hc66))
    have HK : Hid (∀ W', Below W1.heap.size W1 W' → Blk W' w.heap.size 26 (wayA a n x y (.slice A L c))) := Lib.hid fun W' hb => HK1.out.below hb HK1.out.lt
    have hbX : Below W1.heap.size W1 W1.drew := (Below.refl _ W1).drew
    refine wp_region_held_drew (S := fun W' => Blk W' w.heap.size 26 (wayA a n x y (.slice A L c))) (by kernel_rfl) ?_ (fun hHeld => ?_)
    · exact HK.out _ hbX
    refine wpAnyH_take (i := 0) (oi := ⟨some 9, _, _, _, _, _⟩) (v := ?_) rfl (by kernel_rfl) (by kernel_rfl) (by kernel_rfl) (fun _ _ _ h => h) (Or.inl ⟨by rfl, ?_⟩) (by assumption) ?_
    rotate_left
    · intro w hSw; (try dsimp only at hSw); go_simp; try (with_reducible rfl)
    rotate_left 0
    try simp only [Act.put, List.setIfInBounds_toArray, List.set_cons_zero, List.set_cons_succ]
    refine wpAnyH_take (i := 1) (oi := ⟨some 10, _, _, _, _, _⟩) (v := (.agg (arr 32 fun i => bv (x i)))) rfl (by kernel_rfl) (by kernel_rfl) (by kernel_rfl) (fun _ _ _ h => h) (yieldsIf_load_at (by rfl) 23 _ rfl ⟨w.heap.size, 2, none⟩ rfl 32 (fun i => bv (x i)) 5 (fun _ hS => (way_cells hS).2.2.1) Tryd.underlying23 (by kernel_rfl)) (by assumption) ?_
    try simp only [Act.put, List.setIfInBounds_toArray, List.set_cons_zero, List.set_cons_succ]
    refine wpAnyH_take (i := 2) (oi := ⟨some 11, _, _, _, _, _⟩) (v := ?_) rfl (by kernel_rfl) (by kernel_rfl) (by kernel_rfl) (fun _ _ _ h => h) (Or.inl ⟨by rfl, ?_⟩) (by assumption) ?_
    rotate_left
    · intro w hSw; (try dsimp only at hSw); go_simp; try (with_reducible rfl)
    rotate_left 0
    try simp only [Act.put, List.setIfInBounds_toArray, List.set_cons_zero, List.set_cons_succ]
    refine wpAnyH_take (i := 3) (oi := ⟨some 12, _, _, _, _, _⟩) (v := (.int .i64 a)) rfl (by kernel_rfl) (by kernel_rfl) (by kernel_rfl) (fun _ _ _ h => h) (yieldsIf_load_one (by rfl) 3 _ rfl ⟨w.heap.size, 0, none⟩ rfl _ _ (fun _ hS => (way_cells hS).1) Tryd.underlying3 rfl) (by assumption) ?_
    try simp only [Act.put, List.setIfInBounds_toArray, List.set_cons_zero, List.set_cons_succ]
    refine wpAnyH_take (i := 4) (oi := ⟨some 13, _, _, _, _, _⟩) (v := ?_) rfl (by kernel_rfl) (by kernel_rfl) (by kernel_rfl) (fun _ _ _ h => h) (Or.inl ⟨by rfl, ?_⟩) (by assumption) ?_
    rotate_left
    · intro w hSw; (try dsimp only at hSw); go_simp; try (with_reducible rfl)
    rotate_left 0
    try simp only [Act.put, List.setIfInBounds_toArray, List.set_cons_zero, List.set_cons_succ]
    refine wpAnyH_take (i := 5) (oi := ⟨some 14, _, _, _, _, _⟩) (v := (.int .i64 n)) rfl (by kernel_rfl) (by kernel_rfl) (by kernel_rfl) (fun _ _ _ h => h) (yieldsIf_load_one (by rfl) 3 _ rfl ⟨w.heap.size, 1, none⟩ rfl _ _ (fun _ hS => (way_cells hS).2.1) Tryd.underlying3 rfl) (by assumption) ?_
    try simp only [Act.put, List.setIfInBounds_toArray, List.set_cons_zero, List.set_cons_succ]
    refine wpAnyH_take (i := 6) (oi := ⟨some 15, _, _, _, _, _⟩) (v := ?_) rfl (by kernel_rfl) (by kernel_rfl) (by kernel_rfl) (fun _ _ _ h => h) (Or.inl ⟨by rfl, ?_⟩) (by assumption) ?_
    rotate_left
    · intro w hSw; (try dsimp only at hSw); go_simp; try (with_reducible rfl)
    rotate_left 0
    try simp only [Act.put, List.setIfInBounds_toArray, List.set_cons_zero, List.set_cons_succ]
    refine wpAnyH_take (i := 7) (oi := ⟨some 16, _, _, _, _, _⟩) (v := (.slice A L c)) rfl (by kernel_rfl) (by kernel_rfl) (by kernel_rfl) (fun _ _ _ h => h) (yieldsIf_load_one (by rfl) 24 _ rfl ⟨w.heap.size, 66, none⟩ rfl _ _ (fun _ hS => (way_cells hS).2.2.2.2) Tryd.underlying24 rfl) (by assumption) ?_
    try simp only [Act.put, List.setIfInBounds_toArray, List.set_cons_zero, List.set_cons_succ]
    refine wpAnyH_take (i := 8) (oi := ⟨some 17, _, _, _, _, _⟩) (v := ?_) rfl (by kernel_rfl) (by kernel_rfl) (by kernel_rfl) (fun _ _ _ h => h) (Or.inl ⟨by rfl, ?_⟩) (by assumption) ?_
    rotate_left
    · intro w hSw; (try dsimp only at hSw); go_simp; try (with_reducible rfl)
    rotate_left 0
    try simp only [Act.put, List.setIfInBounds_toArray, List.set_cons_zero, List.set_cons_succ]
    refine wpAnyH_take (i := 9) (oi := ⟨some 18, _, _, _, _, _⟩) (v := (.agg (arr 32 fun i => bv (y i)))) rfl (by kernel_rfl) (by kernel_rfl) (by kernel_rfl) (fun _ _ _ h => h) (yieldsIf_load_at (by rfl) 23 _ rfl ⟨w.heap.size, 34, none⟩ rfl 32 (fun i => bv (y i)) 5 (fun _ hS => (way_cells hS).2.2.2.1) Tryd.underlying23 (by kernel_rfl)) (by assumption) ?_
    try simp only [Act.put, List.setIfInBounds_toArray, List.set_cons_zero, List.set_cons_succ]
    refine wpAnyH_take (i := 11) (oi := ⟨some 20, _, _, _, _, _⟩) (v := ?_) rfl (by kernel_rfl) (by kernel_rfl) (by kernel_rfl) (fun _ _ _ h => h) (Or.inl ⟨by rfl, ?_⟩) (by assumption) ?_
    rotate_left
    · intro w hSw; (try dsimp only at hSw); go_simp; try (with_reducible rfl)
    rotate_left 0
    try simp only [Act.put, List.setIfInBounds_toArray, List.set_cons_zero, List.set_cons_succ]
    refine wpAnyH_take (i := 12) (oi := ⟨some 21, _, _, _, _, _⟩) (v := (.agg (arr 32 fun i => bv (x i)))) rfl (by kernel_rfl) (by kernel_rfl) (by kernel_rfl) (fun _ _ _ h => h) (yieldsIf_load_at (by rfl) 23 _ rfl ⟨w.heap.size, 2, none⟩ rfl 32 (fun i => bv (x i)) 5 (fun _ hS => (way_cells hS).2.2.1) Tryd.underlying23 (by kernel_rfl)) (by assumption) ?_
    try simp only [Act.put, List.setIfInBounds_toArray, List.set_cons_zero, List.set_cons_succ]
    refine wpAnyH_take (i := 13) (oi := ⟨some 22, _, _, _, _, _⟩) (v := ?_) rfl (by kernel_rfl) (by kernel_rfl) (by kernel_rfl) (fun _ _ _ h => h) (Or.inl ⟨by rfl, ?_⟩) (by assumption) ?_
    rotate_left
    · intro w hSw; (try dsimp only at hSw); go_simp; try (with_reducible rfl)
    rotate_left 0
    try simp only [Act.put, List.setIfInBounds_toArray, List.set_cons_zero, List.set_cons_succ]
    refine wpAnyH_take (i := 14) (oi := ⟨some 23, _, _, _, _, _⟩) (v := (.int .i64 a)) rfl (by kernel_rfl) (by kernel_rfl) (by kernel_rfl) (fun _ _ _ h => h) (yieldsIf_load_one (by rfl) 3 _ rfl ⟨w.heap.size, 0, none⟩ rfl _ _ (fun _ hS => (way_cells hS).1) Tryd.underlying3 rfl) (by assumption) ?_
    try simp only [Act.put, List.setIfInBounds_toArray, List.set_cons_zero, List.set_cons_succ]
    refine wpAnyH_take (i := 15) (oi := ⟨some 24, _, _, _, _, _⟩) (v := ?_) rfl (by kernel_rfl) (by kernel_rfl) (by kernel_rfl) (fun _ _ _ h => h) (Or.inl ⟨by rfl, ?_⟩) (by assumption) ?_
    rotate_left
    · intro w hSw; (try dsimp only at hSw); go_simp; try (with_reducible rfl)
    rotate_left 0
    try simp only [Act.put, List.setIfInBounds_toArray, List.set_cons_zero, List.set_cons_succ]
    refine wpAnyH_take (i := 16) (oi := ⟨some 25, _, _, _, _, _⟩) (v := (.int .i64 n)) rfl (by kernel_rfl) (by kernel_rfl) (by kernel_rfl) (fun _ _ _ h => h) (yieldsIf_load_one (by rfl) 3 _ rfl ⟨w.heap.size, 1, none⟩ rfl _ _ (fun _ hS => (way_cells hS).2.1) Tryd.underlying3 rfl) (by assumption) ?_
    try simp only [Act.put, List.setIfInBounds_toArray, List.set_cons_zero, List.set_cons_succ]
    refine wpAnyH_take (i := 17) (oi := ⟨some 26, _, _, _, _, _⟩) (v := ?_) rfl (by kernel_rfl) (by kernel_rfl) (by kernel_rfl) (fun _ _ _ h => h) (Or.inl ⟨by rfl, ?_⟩) (by assumption) ?_
    rotate_left
    · intro w hSw; (try dsimp only at hSw); go_simp; try (with_reducible rfl)
    rotate_left 0
    try simp only [Act.put, List.setIfInBounds_toArray, List.set_cons_zero, List.set_cons_succ]
    refine wpAnyH_take (i := 18) (oi := ⟨some 27, _, _, _, _, _⟩) (v := (.slice A L c)) rfl (by kernel_rfl) (by kernel_rfl) (by kernel_rfl) (fun _ _ _ h => h) (yieldsIf_load_one (by rfl) 24 _ rfl ⟨w.heap.size, 66, none⟩ rfl _ _ (fun _ hS => (way_cells hS).2.2.2.2) Tryd.underlying24 rfl) (by assumption) ?_
    try simp only [Act.put, List.setIfInBounds_toArray, List.set_cons_zero, List.set_cons_succ]
    refine wpAnyH_take (i := 19) (oi := ⟨some 28, _, _, _, _, _⟩) (v := ?_) rfl (by kernel_rfl) (by kernel_rfl) (by kernel_rfl) (fun _ _ _ h => h) (Or.inl ⟨by rfl, ?_⟩) (by assumption) ?_
    rotate_left
    · intro w hSw; (try dsimp only at hSw); go_simp; try (with_reducible rfl)
    rotate_left 0
    try simp only [Act.put, List.setIfInBounds_toArray, List.set_cons_zero, List.set_cons_succ]
    refine wpAnyH_take (i := 20) (oi := ⟨some 29, _, _, _, _, _⟩) (v := (.agg (arr 32 fun i => bv (y i)))) rfl (by kernel_rfl) (by kernel_rfl) (by kernel_rfl) (fun _ _ _ h => h) (yieldsIf_load_at (by rfl) 23 _ rfl ⟨w.heap.size, 34, none⟩ rfl 32 (fun i => bv (y i)) 5 (fun _ hS => (way_cells hS).2.2.2.1) Tryd.underlying23 (by kernel_rfl)) (by assumption) ?_
    try simp only [Act.put, List.setIfInBounds_toArray, List.set_cons_zero, List.set_cons_succ]
    refine wpAnyH_ready (rs := [10]) (by kernel_rfl) (by simp) ?_
    refine (AllReadyH.cons (o := ⟨some 19, _, _, _, _, _⟩) rfl (fun K hK => ?_) AllReadyH.nil)
    (try rw [if_pos (by rfl)])
    go_simp
    refine (HC1.out _ (HB1.out.trans (hbX.mono HB1.out.size))).mono ?_
    rintro e W2 ⟨rfl, hb2⟩
    replace hbX := hbX.trans (hb2.mono hbX.size)
    clear hb2
    try dsimp only
    refine hK.out _ _ (HK.out _ hbX) (fun hHeld => ?_)
    clear hK K
    try simp only [Act.put, List.setIfInBounds_toArray, List.set_cons_zero, List.set_cons_succ]
    refine wpAnyH_ready (rs := [21]) (by kernel_rfl) (by simp) ?_
    refine (AllReadyH.cons (o := ⟨some 30, _, _, _, _, _⟩) rfl (fun K hK => ?_) AllReadyH.nil)
    (try rw [if_pos (by rfl)])
    go_simp
    refine (HC2.out _ (HB1.out.trans (hbX.mono HB1.out.size))).mono ?_
    rintro e W3 ⟨rfl, hb3⟩
    replace hbX := hbX.trans (hb3.mono hbX.size)
    clear hb3
    try dsimp only
    refine hK.out _ _ (HK.out _ hbX) (fun hHeld => ?_)
    clear hK K
    try simp only [Act.put, List.setIfInBounds_toArray, List.set_cons_zero, List.set_cons_succ]
    refine wpAnyH_take (i := 22) (oi := ⟨some 31, _, _, _, _, _⟩) (v := ?_) rfl (by kernel_rfl) (by kernel_rfl) (by kernel_rfl) (fun _ _ _ h => h) (Or.inl ⟨by rfl, ?_⟩) (by assumption) ?_
    rotate_left
    · intro w hSw; (try dsimp only at hSw); go_simp; try (with_reducible rfl)
    rotate_left 0
    try simp only [Act.put, List.setIfInBounds_toArray, List.set_cons_zero, List.set_cons_succ]
    refine wpAnyH_take (i := 23) (oi := ⟨some 2, _, _, _, _, _⟩) (v := ?_) rfl (by kernel_rfl) (by kernel_rfl) (by kernel_rfl) (fun _ _ _ h => h) (Or.inl ⟨by rfl, ?_⟩) (by assumption) ?_
    rotate_left
    · intro w hSw; (try dsimp only at hSw); go_simp; try (with_reducible rfl)
    rotate_left 0
    try simp only [Act.put, List.setIfInBounds_toArray, List.set_cons_zero, List.set_cons_succ]
    refine wpAnyH_done (by kernel_rfl) ?_ _
    go_wp2_with fail
    go_ret
    exact ⟨rfl, HB1.out.trans (hbX.mono HB1.out.size)⟩
set_option maxRecDepth 100000 in
set_option maxHeartbeats 2000000 in
theorem links_law (a n : Int) (x y : D) (v : Value) (l : List D) (w : World) (hT : Tables w) (hr : RdI w (fun b => b < w.heap.size) v l) :
    Calls Tryd.prog 4 #[.agg (wayA a n x y v)] w fun e w' => e = .returned (.bool true) ∧ Below w.heap.size w w' := by
  obtain ⟨A, c, rfl, hlc, _⟩ := id hr
  obtain ⟨L, hL⟩ : ∃ L, l.length = L := ⟨_, rfl⟩
  rw [hL] at hr hlc ⊢
  have hb0 : Below w.heap.size w (w.alloc (.cells (wayA a n x y (.slice A L c)) 26)) := (Below.refl _ _).alloc (Nat.le_refl _) _
  have hk0 : Blk (w.alloc (.cells (wayA a n x y (.slice A L c)) 26)) w.heap.size 26 (wayA a n x y (.slice A L c)) := Blk.new w _ _
  have HPR := Lib.hid (proves_any _ (hT.below hb0))
  have HC1 : Hid (∀ W, Below w.heap.size w W → Calls Tryd.prog 14 #[.int .i64 a, .int .i64 n, .agg (arr 32 fun i => bv (x i)), .agg (arr 32 fun i => bv (y i)), .slice A L c] W fun e w' => e = .returned (.int .i64 (cconV a n x y l)) ∧ Below W.heap.size W w') := Lib.hid fun W hb => ccon_any x y a n _ l W (hT.below hb) ((hr.old hb).mono fun b hb' => Nat.lt_of_lt_of_le hb' hb.size)
  by_cases h70 : 70 < L
  · have h70i : 70 < (L : Int) := by omega
    have HK0 := Lib.hid hk0
    have HB0 := Lib.hid hb0
    clear HC1 hr hlc hL hT hk0 hb0 h70
    generalize hcs : wayA a n x y (.slice A L c) = cs at *
    go_enter Tryd.func4, Tryd.ntmps4
    go_wp2_with (first
      | (go_at_call 11; refine HPR.out.mono ?_; rintro e W1 ⟨rfl, hb1⟩; have hk1 := HK0.out.below hb1 HK0.out.lt; rw [← hcs] at hk1; have hc66 := (way_cells hk1).2.2.2.2; have HB1 := Lib.hid (HB0.out.trans (hb1.mono HB0.out.size)); clear hb1 HPR hk1)
      | (guard_target = wpList _ _ _ (Oper.mk _ (.load 24 _) _ _ _ _ :: _) _ _; refine wpList_load_run rfl 24 _ rfl _ (.slice A L c) rfl (loadVar_one Tryd.underlying24 rfl hc66) ?_))
    go_ret
    exact ⟨rfl, HB1.out⟩
  · have h70i : ¬ 70 < (L : Int) := by omega
    have HC2 : Hid (∀ W, Below w.heap.size w W → Calls Tryd.prog 15 #[.int .i64 a, .int .i64 n, .agg (arr 32 fun i => bv (x i)), .agg (arr 32 fun i => bv (y i)), .slice A L c] W fun e w' => e = .returned (.int .i64 (cconV a n x y l)) ∧ Below W.heap.size W w') := Lib.hid fun W hb => refCcon_any x y a n _ l W (by omega) ((hr.old hb).mono fun b hb' => Nat.lt_of_lt_of_le hb' hb.size)
    obtain ⟨z, hz⟩ : ∃ z, cconV a n x y l = z := ⟨_, rfl⟩
    rw [hz] at HC1 HC2
    have HK0 := Lib.hid hk0
    have HB0 := Lib.hid hb0
    clear hr hlc hL hT hk0 hb0 hz h70
    obtain ⟨cs, hcs⟩ : ∃ cs, wayA a n x y (.slice A L c) = cs := ⟨_, rfl⟩
    rw [hcs] at HK0 HB0 HPR ⊢
    go_enter Tryd.func4, Tryd.ntmps4
    go_wp2_with (first
      | (go_at_call 11; refine HPR.out.mono ?_; rintro e W1 ⟨rfl, hb1⟩; have hk1 := HK0.out.below hb1 HK0.out.lt; rw [← hcs] at hk1; have hc66 := (way_cells hk1).2.2.2.2; have HK1 := Lib.hid hk1; have HB1 := Lib.hid (HB0.out.trans (hb1.mono HB0.out.size)); clear hb1 HPR hk1)
      | (guard_target = wpList _ _ _ (Oper.mk _ (.load 24 _) _ _ _ _ :: _) _ _; refine wpList_load_run rfl 24 _ rfl _ (.slice A L c) rfl (loadVar_one Tryd.underlying24 rfl hc66) ?_; clear hc66))
    have HK : Hid (∀ W', Below W1.heap.size W1 W' → Blk W' w.heap.size 26 (wayA a n x y (.slice A L c))) := Lib.hid fun W' hb => HK1.out.below hb HK1.out.lt
    have hbX : Below W1.heap.size W1 W1.drew := (Below.refl _ W1).drew
    refine wp_region_held_drew (S := fun W' => Blk W' w.heap.size 26 (wayA a n x y (.slice A L c))) (by kernel_rfl) ?_ (fun hHeld => ?_)
    · exact HK.out _ hbX
    refine wpAnyH_take (i := 0) (oi := ⟨some 9, _, _, _, _, _⟩) (v := ?_) rfl (by kernel_rfl) (by kernel_rfl) (by kernel_rfl) (fun _ _ _ h => h) (Or.inl ⟨by rfl, ?_⟩) (by assumption) ?_
    rotate_left
    · intro w hSw; (try dsimp only at hSw); go_simp; try (with_reducible rfl)
    rotate_left 0
    try simp only [Act.put, List.setIfInBounds_toArray, List.set_cons_zero, List.set_cons_succ]
    refine wpAnyH_take (i := 1) (oi := ⟨some 10, _, _, _, _, _⟩) (v := (.int .i64 a)) rfl (by kernel_rfl) (by kernel_rfl) (by kernel_rfl) (fun _ _ _ h => h) (yieldsIf_load_one (by rfl) 3 _ rfl ⟨w.heap.size, 0, none⟩ rfl _ _ (fun _ hS => (way_cells hS).1) Tryd.underlying3 rfl) (by assumption) ?_
    try simp only [Act.put, List.setIfInBounds_toArray, List.set_cons_zero, List.set_cons_succ]
    refine wpAnyH_take (i := 2) (oi := ⟨some 11, _, _, _, _, _⟩) (v := ?_) rfl (by kernel_rfl) (by kernel_rfl) (by kernel_rfl) (fun _ _ _ h => h) (Or.inl ⟨by rfl, ?_⟩) (by assumption) ?_
    rotate_left
    · intro w hSw; (try dsimp only at hSw); go_simp; try (with_reducible rfl)
    rotate_left 0
    try simp only [Act.put, List.setIfInBounds_toArray, List.set_cons_zero, List.set_cons_succ]
    refine wpAnyH_take (i := 3) (oi := ⟨some 12, _, _, _, _, _⟩) (v := (.int .i64 n)) rfl (by kernel_rfl) (by kernel_rfl) (by kernel_rfl) (fun _ _ _ h => h) (yieldsIf_load_one (by rfl) 3 _ rfl ⟨w.heap.size, 1, none⟩ rfl _ _ (fun _ hS => (way_cells hS).2.1) Tryd.underlying3 rfl) (by assumption) ?_
    try simp only [Act.put, List.setIfInBounds_toArray, List.set_cons_zero, List.set_cons_succ]
    refine wpAnyH_take (i := 4) (oi := ⟨some 13, _, _, _, _, _⟩) (v := ?_) rfl (by kernel_rfl) (by kernel_rfl) (by kernel_rfl) (fun _ _ _ h => h) (Or.inl ⟨by rfl, ?_⟩) (by assumption) ?_
    rotate_left
    · intro w hSw; (try dsimp only at hSw); go_simp; try (with_reducible rfl)
    rotate_left 0
    try simp only [Act.put, List.setIfInBounds_toArray, List.set_cons_zero, List.set_cons_succ]
    refine wpAnyH_take (i := 5) (oi := ⟨some 14, _, _, _, _, _⟩) (v := (.agg (arr 32 fun i => bv (x i)))) rfl (by kernel_rfl) (by kernel_rfl) (by kernel_rfl) (fun _ _ _ h => h) (yieldsIf_load_at (by rfl) 23 _ rfl ⟨w.heap.size, 2, none⟩ rfl 32 (fun i => bv (x i)) 5 (fun _ hS => (way_cells hS).2.2.1) Tryd.underlying23 (by kernel_rfl)) (by assumption) ?_
    try simp only [Act.put, List.setIfInBounds_toArray, List.set_cons_zero, List.set_cons_succ]
    refine wpAnyH_take (i := 6) (oi := ⟨some 15, _, _, _, _, _⟩) (v := ?_) rfl (by kernel_rfl) (by kernel_rfl) (by kernel_rfl) (fun _ _ _ h => h) (Or.inl ⟨by rfl, ?_⟩) (by assumption) ?_
    rotate_left
    · intro w hSw; (try dsimp only at hSw); go_simp; try (with_reducible rfl)
    rotate_left 0
    try simp only [Act.put, List.setIfInBounds_toArray, List.set_cons_zero, List.set_cons_succ]
    refine wpAnyH_take (i := 7) (oi := ⟨some 16, _, _, _, _, _⟩) (v := (.agg (arr 32 fun i => bv (y i)))) rfl (by kernel_rfl) (by kernel_rfl) (by kernel_rfl) (fun _ _ _ h => h) (yieldsIf_load_at (by rfl) 23 _ rfl ⟨w.heap.size, 34, none⟩ rfl 32 (fun i => bv (y i)) 5 (fun _ hS => (way_cells hS).2.2.2.1) Tryd.underlying23 (by kernel_rfl)) (by assumption) ?_
    try simp only [Act.put, List.setIfInBounds_toArray, List.set_cons_zero, List.set_cons_succ]
    refine wpAnyH_take (i := 8) (oi := ⟨some 17, _, _, _, _, _⟩) (v := ?_) rfl (by kernel_rfl) (by kernel_rfl) (by kernel_rfl) (fun _ _ _ h => h) (Or.inl ⟨by rfl, ?_⟩) (by assumption) ?_
    rotate_left
    · intro w hSw; (try dsimp only at hSw); go_simp; try (with_reducible rfl)
    rotate_left 0
    try simp only [Act.put, List.setIfInBounds_toArray, List.set_cons_zero, List.set_cons_succ]
    refine wpAnyH_take (i := 9) (oi := ⟨some 18, _, _, _, _, _⟩) (v := (.slice A L c)) rfl (by kernel_rfl) (by kernel_rfl) (by kernel_rfl) (fun _ _ _ h => h) (yieldsIf_load_one (by rfl) 24 _ rfl ⟨w.heap.size, 66, none⟩ rfl _ _ (fun _ hS => (way_cells hS).2.2.2.2) Tryd.underlying24 rfl) (by assumption) ?_
    try simp only [Act.put, List.setIfInBounds_toArray, List.set_cons_zero, List.set_cons_succ]
    refine wpAnyH_take (i := 11) (oi := ⟨some 20, _, _, _, _, _⟩) (v := ?_) rfl (by kernel_rfl) (by kernel_rfl) (by kernel_rfl) (fun _ _ _ h => h) (Or.inl ⟨by rfl, ?_⟩) (by assumption) ?_
    rotate_left
    · intro w hSw; (try dsimp only at hSw); go_simp; try (with_reducible rfl)
    rotate_left 0
    try simp only [Act.put, List.setIfInBounds_toArray, List.set_cons_zero, List.set_cons_succ]
    refine wpAnyH_take (i := 12) (oi := ⟨some 21, _, _, _, _, _⟩) (v := (.int .i64 a)) rfl (by kernel_rfl) (by kernel_rfl) (by kernel_rfl) (fun _ _ _ h => h) (yieldsIf_load_one (by rfl) 3 _ rfl ⟨w.heap.size, 0, none⟩ rfl _ _ (fun _ hS => (way_cells hS).1) Tryd.underlying3 rfl) (by assumption) ?_
    try simp only [Act.put, List.setIfInBounds_toArray, List.set_cons_zero, List.set_cons_succ]
    refine wpAnyH_take (i := 13) (oi := ⟨some 22, _, _, _, _, _⟩) (v := ?_) rfl (by kernel_rfl) (by kernel_rfl) (by kernel_rfl) (fun _ _ _ h => h) (Or.inl ⟨by rfl, ?_⟩) (by assumption) ?_
    rotate_left
    · intro w hSw; (try dsimp only at hSw); go_simp; try (with_reducible rfl)
    rotate_left 0
    try simp only [Act.put, List.setIfInBounds_toArray, List.set_cons_zero, List.set_cons_succ]
    refine wpAnyH_take (i := 14) (oi := ⟨some 23, _, _, _, _, _⟩) (v := (.int .i64 n)) rfl (by kernel_rfl) (by kernel_rfl) (by kernel_rfl) (fun _ _ _ h => h) (yieldsIf_load_one (by rfl) 3 _ rfl ⟨w.heap.size, 1, none⟩ rfl _ _ (fun _ hS => (way_cells hS).2.1) Tryd.underlying3 rfl) (by assumption) ?_
    try simp only [Act.put, List.setIfInBounds_toArray, List.set_cons_zero, List.set_cons_succ]
    refine wpAnyH_take (i := 15) (oi := ⟨some 24, _, _, _, _, _⟩) (v := ?_) rfl (by kernel_rfl) (by kernel_rfl) (by kernel_rfl) (fun _ _ _ h => h) (Or.inl ⟨by rfl, ?_⟩) (by assumption) ?_
    rotate_left
    · intro w hSw; (try dsimp only at hSw); go_simp; try (with_reducible rfl)
    rotate_left 0
    try simp only [Act.put, List.setIfInBounds_toArray, List.set_cons_zero, List.set_cons_succ]
    refine wpAnyH_take (i := 16) (oi := ⟨some 25, _, _, _, _, _⟩) (v := (.agg (arr 32 fun i => bv (x i)))) rfl (by kernel_rfl) (by kernel_rfl) (by kernel_rfl) (fun _ _ _ h => h) (yieldsIf_load_at (by rfl) 23 _ rfl ⟨w.heap.size, 2, none⟩ rfl 32 (fun i => bv (x i)) 5 (fun _ hS => (way_cells hS).2.2.1) Tryd.underlying23 (by kernel_rfl)) (by assumption) ?_
    try simp only [Act.put, List.setIfInBounds_toArray, List.set_cons_zero, List.set_cons_succ]
    refine wpAnyH_take (i := 17) (oi := ⟨some 26, _, _, _, _, _⟩) (v := ?_) rfl (by kernel_rfl) (by kernel_rfl) (by kernel_rfl) (fun _ _ _ h => h) (Or.inl ⟨by rfl, ?_⟩) (by assumption) ?_
    rotate_left
    · intro w hSw; (try dsimp only at hSw); go_simp; try (with_reducible rfl)
    rotate_left 0
    try simp only [Act.put, List.setIfInBounds_toArray, List.set_cons_zero, List.set_cons_succ]
    refine wpAnyH_take (i := 18) (oi := ⟨some 27, _, _, _, _, _⟩) (v := (.agg (arr 32 fun i => bv (y i)))) rfl (by kernel_rfl) (by kernel_rfl) (by kernel_rfl) (fun _ _ _ h => h) (yieldsIf_load_at (by rfl) 23 _ rfl ⟨w.heap.size, 34, none⟩ rfl 32 (fun i => bv (y i)) 5 (fun _ hS => (way_cells hS).2.2.2.1) Tryd.underlying23 (by kernel_rfl)) (by assumption) ?_
    try simp only [Act.put, List.setIfInBounds_toArray, List.set_cons_zero, List.set_cons_succ]
    refine wpAnyH_take (i := 19) (oi := ⟨some 28, _, _, _, _, _⟩) (v := ?_) rfl (by kernel_rfl) (by kernel_rfl) (by kernel_rfl) (fun _ _ _ h => h) (Or.inl ⟨by rfl, ?_⟩) (by assumption) ?_
    rotate_left
    · intro w hSw; (try dsimp only at hSw); go_simp; try (with_reducible rfl)
    rotate_left 0
    try simp only [Act.put, List.setIfInBounds_toArray, List.set_cons_zero, List.set_cons_succ]
    refine wpAnyH_take (i := 20) (oi := ⟨some 29, _, _, _, _, _⟩) (v := (.slice A L c)) rfl (by kernel_rfl) (by kernel_rfl) (by kernel_rfl) (fun _ _ _ h => h) (yieldsIf_load_one (by rfl) 24 _ rfl ⟨w.heap.size, 66, none⟩ rfl _ _ (fun _ hS => (way_cells hS).2.2.2.2) Tryd.underlying24 rfl) (by assumption) ?_
    try simp only [Act.put, List.setIfInBounds_toArray, List.set_cons_zero, List.set_cons_succ]
    refine wpAnyH_ready (rs := [10]) (by kernel_rfl) (by simp) ?_
    refine (AllReadyH.cons (o := ⟨some 19, _, _, _, _, _⟩) rfl (fun K hK => ?_) AllReadyH.nil)
    (try rw [if_pos (by rfl)])
    go_simp
    refine (HC1.out _ (HB1.out.trans (hbX.mono HB1.out.size))).mono ?_
    rintro e W2 ⟨rfl, hb2⟩
    replace hbX := hbX.trans (hb2.mono hbX.size)
    clear hb2
    try dsimp only
    refine hK.out _ _ (HK.out _ hbX) (fun hHeld => ?_)
    clear hK K
    try simp only [Act.put, List.setIfInBounds_toArray, List.set_cons_zero, List.set_cons_succ]
    refine wpAnyH_ready (rs := [21]) (by kernel_rfl) (by simp) ?_
    refine (AllReadyH.cons (o := ⟨some 30, _, _, _, _, _⟩) rfl (fun K hK => ?_) AllReadyH.nil)
    (try rw [if_pos (by rfl)])
    go_simp
    refine (HC2.out _ (HB1.out.trans (hbX.mono HB1.out.size))).mono ?_
    rintro e W3 ⟨rfl, hb3⟩
    replace hbX := hbX.trans (hb3.mono hbX.size)
    clear hb3
    try dsimp only
    refine hK.out _ _ (HK.out _ hbX) (fun hHeld => ?_)
    clear hK K
    try simp only [Act.put, List.setIfInBounds_toArray, List.set_cons_zero, List.set_cons_succ]
    refine wpAnyH_take (i := 22) (oi := ⟨some 31, _, _, _, _, _⟩) (v := ?_) rfl (by kernel_rfl) (by kernel_rfl) (by kernel_rfl) (fun _ _ _ h => h) (Or.inl ⟨by rfl, ?_⟩) (by assumption) ?_
    rotate_left
    · intro w hSw; (try dsimp only at hSw); go_simp; try (with_reducible rfl)
    rotate_left 0
    try simp only [Act.put, List.setIfInBounds_toArray, List.set_cons_zero, List.set_cons_succ]
    refine wpAnyH_take (i := 23) (oi := ⟨some 2, _, _, _, _, _⟩) (v := ?_) rfl (by kernel_rfl) (by kernel_rfl) (by kernel_rfl) (fun _ _ _ h => h) (Or.inl ⟨by rfl, ?_⟩) (by assumption) ?_
    rotate_left
    · intro w hSw; (try dsimp only at hSw); go_simp; try (with_reducible rfl)
    rotate_left 0
    try simp only [Act.put, List.setIfInBounds_toArray, List.set_cons_zero, List.set_cons_succ]
    refine wpAnyH_done (by kernel_rfl) ?_ _
    go_wp2_with fail
    go_ret
    exact ⟨rfl, HB1.out.trans (hbX.mono HB1.out.size)⟩
end Go.Proofs.YtdfgffmefonelaaDoor
