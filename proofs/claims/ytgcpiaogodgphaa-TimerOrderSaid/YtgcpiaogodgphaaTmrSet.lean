/-
  Timers: Set, running, whether one is over. No condition.
-/
import Derived.Test.YtgcpiaogodgphaaTmrFn
import Derived.RangeFuncOwn
namespace Go.Proofs.Ytgcpiaogodgphaa
open Go Go.RowKit

theorem loadVar_oneT {P : Program} {ty : TypeId} {d : TypeDesc} {a : Addr} {v : Value} {w : World} (hu : P.underlying ty = some d) (hd : (match d with | .struct _ | .array _ _ => true | _ => false) = false) (hc : w.cell? a = some v) :
    (Go.loadVar ty a).run P w = .ok v w := by
  have hagg : (isAgg ty).run P w = .ok false w := by
    unfold isAgg
    rw [Sem.run_bind, run_underlying hu w]
    cases d <;> simp_all
  simp [loadVar, Sem.run_bind, hagg, hc, go_sem]
/-- One cell loaded, in a region that draws its order. -/
theorem yields_cell {P : Program} {ops : Array Oper} {S : World → Prop} {op : Oper} {a : Act} (hw : Region.wanted op (yielded ops a.tmps) = true) (ty : TypeId) (x : Operand) (ho : op.op = .load ty x)
    (ad : Addr) (hx : a.eval x = .pointer (some ad)) (v : Value) (d : TypeDesc) (hS : ∀ w, S w → w.cell? ad = some v)
    (hu : P.underlying ty = some d) (hd : (match d with | .struct _ | .array _ _ => true | _ => false) = false) : YieldsIf P ops S op v a :=
  .inl ⟨hw, fun w hw' => by
    have hl : (Instr.loadAt ty (.pointer (some ad))).run P w = .ok v w := loadVar_oneT hu hd (hS w hw')
    unfold execOp
    simp only [ho, hx, Sem.run_bind, hl, Sem.run_pure, Result.andThen_ok]⟩
theorem yields_index {P : Program} {ops : Array Oper} {S : World → Prop} {op : Oper} {a : Act} (hw : Region.wanted op (yielded ops a.tmps) = true) (t : TypeId) (x y : Operand) (ho : op.op = .indexAddr t x y) (vx vy : Value) (hx : a.eval x = vx) (hy : a.eval y = vy) (v : Value)
    (hS : ∀ w, (Instr.indexAt t vx vy).run P w = .ok v w) : YieldsIf P ops S op v a :=
  .inl ⟨hw, fun w _ => by
    have hl := hS w
    unfold execOp
    simp only [ho, hx, hy, Sem.run_bind, hl, Sem.run_pure, Result.andThen_ok]⟩
theorem yields_sl {P : Program} {ops : Array Oper} {S : World → Prop} {op : Oper} {a : Act} (hw : Region.wanted op (yielded ops a.tmps) = true) (t : TypeId) (x : Operand) (lo hi : Option Operand) (ho : op.op = .slice t x lo hi none) (vx : Value) (hx : a.eval x = vx) (vlo vhi : Option Value) (hlo : lo.map a.eval = vlo) (hhi : hi.map a.eval = vhi) (v : Value)
    (hS : ∀ w, (Instr.sliceAt t vx vlo vhi none).run P w = .ok v w) : YieldsIf P ops S op v a :=
  .inl ⟨hw, fun w _ => by
    have hl := hS w
    subst hlo hhi
    unfold execOp
    simp only [ho, hx, Option.map_none, Sem.run_bind, hl, Sem.run_pure, Result.andThen_ok]⟩
theorem yields_bin {P : Program} {ops : Array Oper} {S : World → Prop} {op : Oper} {a : Act} (hw : Region.wanted op (yielded ops a.tmps) = true) (bop : BinOp) (t rt : TypeId) (x y : Operand) (ho : op.op = .binOp bop t x y rt)
    (vx vy : Value) (hx : a.eval x = vx) (hy : a.eval y = vy) (v : Value) (hg : ∀ w, (eqGuard bop t x y vx vy).run P w = .ok () w) (hrun : ∀ w, (binOp bop t vx vy).run P w = .ok v w) : YieldsIf P ops S op v a :=
  .inl ⟨hw, fun w _ => by
    unfold execOp
    simp only [ho, hx, hy, Sem.run_bind, hg, hrun, Sem.run_pure, Result.andThen_ok]⟩
theorem int_sub (m n : Int) (h : 0 ≤ n ∧ n ≤ m ∧ m ≤ 1000000) (w : World) : (binOp .sub 3 (.int .i64 m) (.int .i64 n)).run Try.prog w = .ok (.int .i64 (m - n)) w := by
  obtain ⟨h1, h2, h3⟩ := h
  rw [Go.binOp_sub]
  go_simp
  rw [IntWalk.i64_left, IntWalk.wrap64_in _ (by omega)]
theorem int_geq (m n : Int) (w : World) : (binOp .geq 3 (.int .i64 m) (.int .i64 n)).run Try.prog w = .ok (.bool (decide (n ≤ m))) w := by
  go_simp
theorem alarm_info : (Try.prog.info? 25).map (·.size) = some 3 := by kernel_rfl
theorem alarm_size (w : World) : (sizeOf 25).run Try.prog w = .ok 3 w := by
  cases hq : Try.prog.info? 25 with
  | none => have := alarm_info; simp [hq] at this
  | some i =>
    have hs : i.size = 3 := by have := alarm_info; simpa [hq] using this
    simp [sizeOf, typeInfo, hq, hs]
set_option maxRecDepth 100000 in
set_option maxHeartbeats 4000000 in
theorem set_full {W : World} {B : Nat} {now : Int} {l : List (List Int)} (h : TimerAt W B now l) (r s : Int) (hl : l.length = 40) : Calls Try.prog 9 #[.pointer (some ⟨B, 0, none⟩), .int .i64 r, .int .i64 s] W fun e w' => e = .returned (.bool false) ∧ w' = W := by
  obtain ⟨F, hk, h0, h1, _⟩ := h
  have c1 := intN_cell hk (i := 1) (by omega)
  rw [h1, hl] at c1
  go_enter Try.func9, Try.ntmps9
  go_wp2_with fail
  go_ret
  exact ⟨rfl, rfl⟩
theorem index_alarm (B k : Nat) (hk : k < 40) (w : World) : (Instr.indexAt 26 (.pointer (some ⟨B, 2, none⟩)) (.int .i64 (k : Int))).run Try.prog w = .ok (.pointer (some ⟨B, 2 + 3 * k, none⟩)) w := by
  have hk1 : (k : Int) < 40 := by omega
  have e : (⟨B, 2, none⟩ : Addr).add (k * 3) = ⟨B, 2 + 3 * k, none⟩ := by unfold Addr.add; simp [Nat.mul_comm]
  have hu := Try.underlying26
  simp [Instr.indexAt, run_underlying hu, hk, go_sem]
set_option maxRecDepth 100000 in
set_option maxHeartbeats 4000000 in
theorem set_any {W : World} {B : Nat} {now : Int} {l : List (List Int)} (h : TimerAt W B now l) (r s : Int) (hl : l.length < 40) : Calls Try.prog 9 #[.pointer (some ⟨B, 0, none⟩), .int .i64 r, .int .i64 s] W fun e w' => e = .returned (.bool true) ∧ TimerAt w' B now (l ++ [[r, s, now]]) ∧ W.grownBy w' (some B) := by
  obtain ⟨F, hk, h0, h1, h2, h3, h4⟩ := h
  obtain ⟨k, hlk⟩ : ∃ k, l.length = k := ⟨_, rfl⟩
  rw [hlk] at h1 hl
  have c1 := intN_cell hk (i := 1) (by omega)
  rw [h1] at c1
  have c0 := intN_cell hk (i := 0) (by omega)
  rw [h0] at c0
  have hki : (k : Int) < 40 := by omega
  have hk0 : (0 : Int) ≤ (k : Int) := by omega
  have hk4 : ¬ (k : Int) = 40 := by omega
  have HK := Lib.hid hk
  have H0 := Lib.hid h0
  have H1 := Lib.hid h1
  have HK40 := Lib.hid hl
  have HFIN : Hid (∀ W3, Blk W3 B 28 (intN 122 (putF F (2 + 3 * k) [r, s, now])) → W.grownBy W3 (some B) → TimerAt (W3.setCell ⟨B, 1, none⟩ (.int .i64 ((k : Int) + 1))) B now (l ++ [[r, s, now]]) ∧ W.grownBy (W3.setCell ⟨B, 1, none⟩ (.int .i64 ((k : Int) + 1))) (some B)) := Lib.hid fun W3 hk3 hg3 => by
    refine ⟨⟨_, setCell_intN hk3 (by omega) _, ?_, ?_, ?_, ?_, ?_⟩, grown_trans' hg3 (grown_setCell _ _ _ _)⟩
    · rw [putF_out (by omega), putF_out (by omega)]
      exact h0
    · have := putF_in (F := putF F (2 + 3 * k) [r, s, now]) (off := 1) (xs := [(k : Int) + 1]) (i := 0) (by simp)
      rw [List.length_append, hlk]
      simpa using this
    · rw [List.length_append, hlk]
      simp
      omega
    · intro x hx
      rcases List.mem_append.1 hx with hx | hx
      · exact h3 x hx
      · rw [List.mem_singleton] at hx
        rw [hx]
        rfl
    · intro j x hj i hi
      rw [putF_out (by simp; omega)]
      by_cases hjk : j < k
      · rw [List.getElem?_append_left (by omega)] at hj
        rw [putF_out (.inl (by omega))]
        exact h4 j x hj i hi
      · have hjl := (List.getElem?_eq_some_iff.1 hj).1
        rw [List.length_append, List.length_singleton, hlk] at hjl
        obtain rfl : j = k := by omega
        rw [List.getElem?_append_right (by omega), hlk, Nat.sub_self] at hj
        simp only [List.getElem?_cons_zero, Option.some.injEq] at hj
        rw [putF_in (by simpa using hi), hj]
  clear hk h0 h1 h2 h3 h4 hl hlk
  go_enter Try.func9, Try.ntmps9
  go_upto_region 3 with fail
  refine wp_region_held_drew (S := fun W' => W'.cell? ⟨B, 0, none⟩ = some (.int .i64 now) ∧ W'.cell? ⟨B, 1, none⟩ = some (.int .i64 (k : Int))) (by kernel_rfl) ?_ (fun hHeld => ?_)
  · exact ⟨c0, c1⟩
  refine wpAnyH_take (i := 0) (oi := ⟨some 12, _, _, _, _, _⟩) (v := ?_) rfl (by kernel_rfl) (by kernel_rfl) (by kernel_rfl) (fun _ _ _ h => h) (Or.inl ⟨by rfl, ?_⟩) (by assumption) ?_
  rotate_left
  · intro w hSw; (try dsimp only at hSw); go_simp; try (with_reducible rfl)
  rotate_left 0
  try simp only [Act.put, List.setIfInBounds_toArray, List.set_cons_zero, List.set_cons_succ]
  refine wpAnyH_take (i := 1) (oi := ⟨some 13, _, _, _, _, _⟩) (v := ?_) rfl (by kernel_rfl) (by kernel_rfl) (by kernel_rfl) (fun _ _ _ h => h) (Or.inl ⟨by rfl, ?_⟩) (by assumption) ?_
  rotate_left
  · intro w hSw; (try dsimp only at hSw); go_simp; try (with_reducible rfl)
  rotate_left 0
  try simp only [Act.put, List.setIfInBounds_toArray, List.set_cons_zero, List.set_cons_succ]
  refine wpAnyH_take (i := 2) (oi := ⟨some 14, _, _, _, _, _⟩) (v := ?_) rfl (by kernel_rfl) (by kernel_rfl) (by kernel_rfl) (fun _ _ _ h => h) (Or.inl ⟨by rfl, ?_⟩) (by assumption) ?_
  rotate_left
  · intro w hSw; (try dsimp only at hSw); go_simp; try (with_reducible rfl)
  rotate_left 0
  try simp only [Act.put, List.setIfInBounds_toArray, List.set_cons_zero, List.set_cons_succ]
  refine wpAnyH_take (i := 3) (oi := ⟨some 15, _, _, _, _, _⟩) (v := ?_) rfl (by kernel_rfl) (by kernel_rfl) (by kernel_rfl) (fun _ _ _ h => h) (Or.inl ⟨by rfl, ?_⟩) (by assumption) ?_
  rotate_left
  · intro w hSw; (try dsimp only at hSw); go_simp; try (with_reducible rfl)
  rotate_left 0
  try simp only [Act.put, List.setIfInBounds_toArray, List.set_cons_zero, List.set_cons_succ]
  refine wpAnyH_take (i := 4) (oi := ⟨some 16, _, _, _, _, _⟩) (v := (.int .i64 (k : Int))) rfl (by kernel_rfl) (by kernel_rfl) (by kernel_rfl) (fun _ _ _ h => h) (yields_cell (by rfl) 3 _ rfl ⟨B, 1, none⟩ rfl _ _ (fun W' hS => hS.2) Try.underlying3 rfl) (by assumption) ?_
  try simp only [Act.put, List.setIfInBounds_toArray, List.set_cons_zero, List.set_cons_succ]
  refine wpAnyH_take (i := 5) (oi := ⟨some 17, _, _, _, _, _⟩) (v := ?_) rfl (by kernel_rfl) (by kernel_rfl) (by kernel_rfl) (fun _ _ _ h => h) (Or.inl ⟨by rfl, ?_⟩) (by assumption) ?_
  rotate_left
  · intro w hSw; (try dsimp only at hSw); go_simp; try (with_reducible rfl)
  rotate_left 0
  try simp only [Act.put, List.setIfInBounds_toArray, List.set_cons_zero, List.set_cons_succ]
  refine wpAnyH_take (i := 6) (oi := ⟨some 18, _, _, _, _, _⟩) (v := ?_) rfl (by kernel_rfl) (by kernel_rfl) (by kernel_rfl) (fun _ _ _ h => h) (Or.inl ⟨by rfl, ?_⟩) (by assumption) ?_
  rotate_left
  · intro w hSw; (try dsimp only at hSw); go_simp; try (with_reducible rfl)
  rotate_left 0
  try simp only [Act.put, List.setIfInBounds_toArray, List.set_cons_zero, List.set_cons_succ]
  refine wpAnyH_take (i := 7) (oi := ⟨some 19, _, _, _, _, _⟩) (v := ?_) rfl (by kernel_rfl) (by kernel_rfl) (by kernel_rfl) (fun _ _ _ h => h) (Or.inl ⟨by rfl, ?_⟩) (by assumption) ?_
  rotate_left
  · intro w hSw; (try dsimp only at hSw); go_simp; try (with_reducible rfl)
  rotate_left 0
  try simp only [Act.put, List.setIfInBounds_toArray, List.set_cons_zero, List.set_cons_succ]
  refine wpAnyH_take (i := 8) (oi := ⟨some 20, _, _, _, _, _⟩) (v := ?_) rfl (by kernel_rfl) (by kernel_rfl) (by kernel_rfl) (fun _ _ _ h => h) (Or.inl ⟨by rfl, ?_⟩) (by assumption) ?_
  rotate_left
  · intro w hSw; (try dsimp only at hSw); go_simp; try (with_reducible rfl)
  rotate_left 0
  try simp only [Act.put, List.setIfInBounds_toArray, List.set_cons_zero, List.set_cons_succ]
  refine wpAnyH_take (i := 9) (oi := ⟨some 21, _, _, _, _, _⟩) (v := ?_) rfl (by kernel_rfl) (by kernel_rfl) (by kernel_rfl) (fun _ _ _ h => h) (Or.inl ⟨by rfl, ?_⟩) (by assumption) ?_
  rotate_left
  · intro w hSw; (try dsimp only at hSw); go_simp; try (with_reducible rfl)
  rotate_left 0
  try simp only [Act.put, List.setIfInBounds_toArray, List.set_cons_zero, List.set_cons_succ]
  refine wpAnyH_take (i := 10) (oi := ⟨some 22, _, _, _, _, _⟩) (v := (.int .i64 now)) rfl (by kernel_rfl) (by kernel_rfl) (by kernel_rfl) (fun _ _ _ h => h) (yields_cell (by rfl) 3 _ rfl ⟨B, 0, none⟩ rfl _ _ (fun W' hS => hS.1) Try.underlying3 rfl) (by assumption) ?_
  try simp only [Act.put, List.setIfInBounds_toArray, List.set_cons_zero, List.set_cons_succ]
  refine wpAnyH_take (i := 11) (oi := ⟨some 23, _, _, _, _, _⟩) (v := ?_) rfl (by kernel_rfl) (by kernel_rfl) (by kernel_rfl) (fun _ _ _ h => h) (Or.inl ⟨by rfl, ?_⟩) (by assumption) ?_
  rotate_left
  · intro w hSw; (try dsimp only at hSw); go_simp; try (with_reducible rfl)
  rotate_left 0
  try simp only [Act.put, List.setIfInBounds_toArray, List.set_cons_zero, List.set_cons_succ]
  refine wpAnyH_take (i := 12) (oi := ⟨some 24, _, _, _, _, _⟩) (v := ?_) rfl (by kernel_rfl) (by kernel_rfl) (by kernel_rfl) (fun _ _ _ h => h) (Or.inl ⟨by rfl, ?_⟩) (by assumption) ?_
  rotate_left
  · intro w hSw; (try dsimp only at hSw); go_simp; try (with_reducible rfl)
  rotate_left 0
  try simp only [Act.put, List.setIfInBounds_toArray, List.set_cons_zero, List.set_cons_succ]
  refine wpAnyH_take (i := 13) (oi := ⟨some 25, _, _, _, _, _⟩) (v := ?_) rfl (by kernel_rfl) (by kernel_rfl) (by kernel_rfl) (fun _ _ _ h => h) (Or.inl ⟨by rfl, ?_⟩) (by assumption) ?_
  rotate_left
  · intro w hSw; (try dsimp only at hSw); go_simp; try (with_reducible rfl)
  rotate_left 0
  try simp only [Act.put, List.setIfInBounds_toArray, List.set_cons_zero, List.set_cons_succ]
  refine wpAnyH_take (i := 14) (oi := ⟨some 26, _, _, _, _, _⟩) (v := (.pointer (some ⟨B, 2 + 3 * k, none⟩))) rfl (by kernel_rfl) (by kernel_rfl) (by kernel_rfl) (fun _ _ _ h => h) (yields_index (by rfl) 26 _ _ rfl (.pointer (some ⟨B, 2, none⟩)) (.int .i64 (k : Int)) rfl rfl _ (fun W' => index_alarm B k HK40.out W')) (by assumption) ?_
  try simp only [Act.put, List.setIfInBounds_toArray, List.set_cons_zero, List.set_cons_succ]
  refine wpAnyH_ready (rs := [15]) (by kernel_rfl) (by simp) ?_
  refine (AllReadyH.cons (o := ⟨none, _, _, _, _, _⟩) rfl (fun K hK => ?_) AllReadyH.nil)
  (try rw [if_pos (by rfl)])
  refine oper_store_ic 25 _ _ rfl B (2 + 3 * k) 122 F [r, s, now] rfl rfl 28 HK.out.drew alarm_info (by have := HK40.out; simp; omega) ?_
  intro W3 hw3
  have hk3 : Blk W3 B 28 (intN 122 (putF F (2 + 3 * k) [r, s, now])) := by rw [hw3]; exact HK.out.drew.setRow _
  try dsimp only
  refine hK.out _ _ (⟨(intN_cell hk3 (by omega)).trans (by rw [putF_out (by omega), H0.out]), (intN_cell hk3 (by omega)).trans (by rw [putF_out (by omega), H1.out])⟩) (fun hHeld => ?_)
  clear hK K
  try simp only [Act.put]
  refine wpAnyH_done (by kernel_rfl) ?_ _
  have c1 : W3.cell? ⟨B, 1, none⟩ = some (.int .i64 (k : Int)) := (intN_cell hk3 (by omega)).trans (by rw [putF_out (by omega), H1.out])
  have f1 := hk3.frozen 1
  have HG3 : Hid (W.grownBy W3 (some B)) := Lib.hid (by rw [hw3]; exact grown_trans' (grown_below (Below.refl _ _).drew _) (grown_setRow _ _ _))
  have HK3 := Lib.hid hk3
  clear hk3 hw3
  go_wp2_with fail
  go_ret
  exact ⟨rfl, HFIN.out W3 HK3.out HG3.out⟩
theorem slice_all (B k : Nat) (hk : k ≤ 40) (w : World) : (Instr.sliceAt 26 (.pointer (some ⟨B, 2, none⟩)) none (some (.int .i64 (k : Int))) none).run Try.prog w = .ok (.slice (some ⟨B, 2, none⟩) k 40) w := by
  have hk1 : (k : Int) ≤ 40 := by omega
  have e : (⟨B, 2, none⟩ : Addr).add 0 = ⟨B, 2, none⟩ := by unfold Addr.add; simp
  have hu := Try.underlying26
  simp [Instr.sliceAt, run_underlying hu, Instr.sliceBounds, Instr.sliceBound, asIntOf, Sem.run_bind, hk, go_sem]
set_option maxRecDepth 100000 in
set_option maxHeartbeats 4000000 in
theorem running_any {W : World} {B : Nat} {now : Int} {l : List (List Int)} (h : TimerAt W B now l) : Calls Try.prog 19 #[.pointer (some ⟨B, 0, none⟩)] W fun e w' => e = .returned (.slice (some ⟨B, 2, none⟩) l.length 40) ∧ Below W.heap.size W w' := by
  obtain ⟨F, hk, h0, h1, h2, _⟩ := h
  obtain ⟨k, hlk⟩ : ∃ k, l.length = k := ⟨_, rfl⟩
  rw [hlk] at h1 h2 ⊢
  have c1 := intN_cell hk (i := 1) (by omega)
  rw [h1] at c1
  have HK40 := Lib.hid h2
  go_enter Try.func19, Try.ntmps19
  go_upto_region 1 with fail
  refine wp_region_held_drew (S := fun W' => W'.cell? ⟨B, 1, none⟩ = some (.int .i64 (k : Int))) (by kernel_rfl) ?_ (fun hHeld => ?_)
  · exact c1
  refine wpAnyH_take (i := 0) (oi := ⟨some 3, _, _, _, _, _⟩) (v := ?_) rfl (by kernel_rfl) (by kernel_rfl) (by kernel_rfl) (fun _ _ _ h => h) (Or.inl ⟨by rfl, ?_⟩) (by assumption) ?_
  rotate_left
  · intro w hSw; (try dsimp only at hSw); go_simp; try (with_reducible rfl)
  rotate_left 0
  try simp only [Act.put, List.setIfInBounds_toArray, List.set_cons_zero, List.set_cons_succ]
  refine wpAnyH_take (i := 1) (oi := ⟨some 4, _, _, _, _, _⟩) (v := ?_) rfl (by kernel_rfl) (by kernel_rfl) (by kernel_rfl) (fun _ _ _ h => h) (Or.inl ⟨by rfl, ?_⟩) (by assumption) ?_
  rotate_left
  · intro w hSw; (try dsimp only at hSw); go_simp; try (with_reducible rfl)
  rotate_left 0
  try simp only [Act.put, List.setIfInBounds_toArray, List.set_cons_zero, List.set_cons_succ]
  refine wpAnyH_take (i := 2) (oi := ⟨some 5, _, _, _, _, _⟩) (v := ?_) rfl (by kernel_rfl) (by kernel_rfl) (by kernel_rfl) (fun _ _ _ h => h) (Or.inl ⟨by rfl, ?_⟩) (by assumption) ?_
  rotate_left
  · intro w hSw; (try dsimp only at hSw); go_simp; try (with_reducible rfl)
  rotate_left 0
  try simp only [Act.put, List.setIfInBounds_toArray, List.set_cons_zero, List.set_cons_succ]
  refine wpAnyH_take (i := 3) (oi := ⟨some 6, _, _, _, _, _⟩) (v := ?_) rfl (by kernel_rfl) (by kernel_rfl) (by kernel_rfl) (fun _ _ _ h => h) (Or.inl ⟨by rfl, ?_⟩) (by assumption) ?_
  rotate_left
  · intro w hSw; (try dsimp only at hSw); go_simp; try (with_reducible rfl)
  rotate_left 0
  try simp only [Act.put, List.setIfInBounds_toArray, List.set_cons_zero, List.set_cons_succ]
  refine wpAnyH_take (i := 4) (oi := ⟨some 7, _, _, _, _, _⟩) (v := ?_) rfl (by kernel_rfl) (by kernel_rfl) (by kernel_rfl) (fun _ _ _ h => h) (Or.inl ⟨by rfl, ?_⟩) (by assumption) ?_
  rotate_left
  · intro w hSw; (try dsimp only at hSw); go_simp; try (with_reducible rfl)
  rotate_left 0
  try simp only [Act.put, List.setIfInBounds_toArray, List.set_cons_zero, List.set_cons_succ]
  refine wpAnyH_take (i := 5) (oi := ⟨some 8, _, _, _, _, _⟩) (v := ?_) rfl (by kernel_rfl) (by kernel_rfl) (by kernel_rfl) (fun _ _ _ h => h) (Or.inl ⟨by rfl, ?_⟩) (by assumption) ?_
  rotate_left
  · intro w hSw; (try dsimp only at hSw); go_simp; try (with_reducible rfl)
  rotate_left 0
  try simp only [Act.put, List.setIfInBounds_toArray, List.set_cons_zero, List.set_cons_succ]
  refine wpAnyH_take (i := 6) (oi := ⟨some 9, _, _, _, _, _⟩) (v := (.int .i64 (k : Int))) rfl (by kernel_rfl) (by kernel_rfl) (by kernel_rfl) (fun _ _ _ h => h) (yields_cell (by rfl) 3 _ rfl ⟨B, 1, none⟩ rfl _ _ (fun W' hS => hS) Try.underlying3 rfl) (by assumption) ?_
  try simp only [Act.put, List.setIfInBounds_toArray, List.set_cons_zero, List.set_cons_succ]
  refine wpAnyH_take (i := 7) (oi := ⟨some 10, _, _, _, _, _⟩) (v := (.slice (some ⟨B, 2, none⟩) k 40)) rfl (by kernel_rfl) (by kernel_rfl) (by kernel_rfl) (fun _ _ _ h => h) (yields_sl (by rfl) 26 _ _ _ rfl (.pointer (some ⟨B, 2, none⟩)) rfl none (some (.int .i64 (k : Int))) rfl rfl _ (fun W' => slice_all B k HK40.out W')) (by assumption) ?_
  try simp only [Act.put, List.setIfInBounds_toArray, List.set_cons_zero, List.set_cons_succ]
  refine wpAnyH_take (i := 8) (oi := ⟨some 2, _, _, _, _, _⟩) (v := ?_) rfl (by kernel_rfl) (by kernel_rfl) (by kernel_rfl) (fun _ _ _ h => h) (Or.inl ⟨by rfl, ?_⟩) (by assumption) ?_
  rotate_left
  · intro w hSw; (try dsimp only at hSw); go_simp; try (with_reducible rfl)
  rotate_left 0
  try simp only [Act.put, List.setIfInBounds_toArray, List.set_cons_zero, List.set_cons_succ]
  refine wpAnyH_done (by kernel_rfl) ?_ _
  go_wp2_with fail
  go_ret
  exact ⟨rfl, (Below.refl _ W).drew⟩
set_option maxRecDepth 100000 in
set_option maxHeartbeats 4000000 in
theorem due_any (W : World) (c B : Nat) (now r s t : Int) (hc : Blk W c 40 #[.pointer (some ⟨B, 0, none⟩)]) (hB : W.cell? ⟨B, 0, none⟩ = some (.int .i64 now)) (ht : 0 ≤ t ∧ t ≤ now ∧ now ≤ 1000000) : Calls Try.prog 18 #[.agg #[.int .i64 r, .int .i64 s, .int .i64 t], .pointer (some ⟨c, 0, none⟩)] W fun e w' => e = .returned (.bool (decide (dly r ≤ now - t))) ∧ Below W.heap.size W w' := by
  obtain ⟨W0, hW⟩ : ∃ W0, W.alloc (.cells #[.int .i64 r, .int .i64 s, .int .i64 t] 25) = W0 := ⟨_, rfl⟩
  have hb0 : Below W.heap.size W W0 := by rw [← hW]; exact (Below.refl _ _).alloc (Nat.le_refl _) _
  have HX : Hid (Blk W0 W.heap.size 25 #[.int .i64 r, .int .i64 s, .int .i64 t]) := Lib.hid (by rw [← hW]; exact Blk.new _ _ _)
  have HB0 := Lib.hid hb0
  have HC := Lib.hid (hc.below hb0 hc.lt)
  have HNOW : Hid (∀ W', Below W0.heap.size W0 W' → W'.cell? ⟨B, 0, none⟩ = some (.int .i64 now)) := Lib.hid fun W' hb => by
    obtain ⟨o, ho, _⟩ := cells_of_cell hB
    have hlt : B < W.heap.size := (Array.getElem?_eq_some_iff.1 ho).1
    exact ((hb0.trans (hb.mono hb0.size)).cell (p := ⟨B, 0, none⟩) hlt).trans hB
  have HT := Lib.hid ht
  have hbX : Below W0.heap.size W0 W0.drew := (Below.refl _ _).drew
  clear hc hB ht hb0
  go_enter Try.func18, Try.ntmps18
  go_upto_region 1 with fail
  try rw [hW]
  refine wp_region_held_drew (S := fun W' => Below W0.heap.size W0 W') (by kernel_rfl) ?_ (fun hHeld => ?_)
  · exact hbX
  refine wpAnyH_take (i := 0) (oi := ⟨some 4, _, _, _, _, _⟩) (v := (.pointer (some ⟨B, 0, none⟩))) rfl (by kernel_rfl) (by kernel_rfl) (by kernel_rfl) (fun _ _ _ h => h) (yields_cell (by rfl) 40 _ rfl ⟨c, 0, none⟩ rfl _ _ (fun W' hS => by rw [(HC.out.below hS HC.out.lt).cell]; rfl) Try.underlying40 rfl) (by assumption) ?_
  try simp only [Act.put, List.setIfInBounds_toArray, List.set_cons_zero, List.set_cons_succ]
  refine wpAnyH_take (i := 1) (oi := ⟨some 5, _, _, _, _, _⟩) (v := ?_) rfl (by kernel_rfl) (by kernel_rfl) (by kernel_rfl) (fun _ _ _ h => h) (Or.inl ⟨by rfl, ?_⟩) (by assumption) ?_
  rotate_left
  · intro w hSw; (try dsimp only at hSw); go_simp; try (with_reducible rfl)
  rotate_left 0
  try simp only [Act.put, List.setIfInBounds_toArray, List.set_cons_zero, List.set_cons_succ]
  refine wpAnyH_take (i := 2) (oi := ⟨some 6, _, _, _, _, _⟩) (v := ?_) rfl (by kernel_rfl) (by kernel_rfl) (by kernel_rfl) (fun _ _ _ h => h) (Or.inl ⟨by rfl, ?_⟩) (by assumption) ?_
  rotate_left
  · intro w hSw; (try dsimp only at hSw); go_simp; try (with_reducible rfl)
  rotate_left 0
  try simp only [Act.put, List.setIfInBounds_toArray, List.set_cons_zero, List.set_cons_succ]
  refine wpAnyH_take (i := 3) (oi := ⟨some 7, _, _, _, _, _⟩) (v := (.int .i64 now)) rfl (by kernel_rfl) (by kernel_rfl) (by kernel_rfl) (fun _ _ _ h => h) (yields_cell (by rfl) 3 _ rfl ⟨B, 0, none⟩ rfl _ _ (fun W' hS => HNOW.out W' hS) Try.underlying3 rfl) (by assumption) ?_
  try simp only [Act.put, List.setIfInBounds_toArray, List.set_cons_zero, List.set_cons_succ]
  refine wpAnyH_take (i := 4) (oi := ⟨some 8, _, _, _, _, _⟩) (v := ?_) rfl (by kernel_rfl) (by kernel_rfl) (by kernel_rfl) (fun _ _ _ h => h) (Or.inl ⟨by rfl, ?_⟩) (by assumption) ?_
  rotate_left
  · intro w hSw; (try dsimp only at hSw); go_simp; try (with_reducible rfl)
  rotate_left 0
  try simp only [Act.put, List.setIfInBounds_toArray, List.set_cons_zero, List.set_cons_succ]
  refine wpAnyH_take (i := 5) (oi := ⟨some 9, _, _, _, _, _⟩) (v := (.int .i64 t)) rfl (by kernel_rfl) (by kernel_rfl) (by kernel_rfl) (fun _ _ _ h => h) (yields_cell (by rfl) 3 _ rfl ⟨W.heap.size, 2, none⟩ rfl _ _ (fun W' hS => by rw [(HX.out.below hS HX.out.lt).cell]; rfl) Try.underlying3 rfl) (by assumption) ?_
  try simp only [Act.put, List.setIfInBounds_toArray, List.set_cons_zero, List.set_cons_succ]
  refine wpAnyH_take (i := 6) (oi := ⟨some 10, _, _, _, _, _⟩) (v := (.int .i64 (now - t))) rfl (by kernel_rfl) (by kernel_rfl) (by kernel_rfl) (fun _ _ _ h => h) (yields_bin (by rfl) .sub 3 _ _ _ rfl (.int .i64 now) (.int .i64 t) rfl rfl _ (fun _ => rfl) (int_sub _ _ HT.out)) (by assumption) ?_
  try simp only [Act.put, List.setIfInBounds_toArray, List.set_cons_zero, List.set_cons_succ]
  refine wpAnyH_take (i := 7) (oi := ⟨some 11, _, _, _, _, _⟩) (v := ?_) rfl (by kernel_rfl) (by kernel_rfl) (by kernel_rfl) (fun _ _ _ h => h) (Or.inl ⟨by rfl, ?_⟩) (by assumption) ?_
  rotate_left
  · intro w hSw; (try dsimp only at hSw); go_simp; try (with_reducible rfl)
  rotate_left 0
  try simp only [Act.put, List.setIfInBounds_toArray, List.set_cons_zero, List.set_cons_succ]
  refine wpAnyH_take (i := 8) (oi := ⟨some 12, _, _, _, _, _⟩) (v := (.int .i64 r)) rfl (by kernel_rfl) (by kernel_rfl) (by kernel_rfl) (fun _ _ _ h => h) (yields_cell (by rfl) 3 _ rfl ⟨W.heap.size, 0, none⟩ rfl _ _ (fun W' hS => by rw [(HX.out.below hS HX.out.lt).cell]; rfl) Try.underlying3 rfl) (by assumption) ?_
  try simp only [Act.put, List.setIfInBounds_toArray, List.set_cons_zero, List.set_cons_succ]
  refine wpAnyH_ready (rs := [9]) (by kernel_rfl) (by simp) ?_
  refine (AllReadyH.cons (o := ⟨some 13, _, _, _, _, _⟩) rfl (fun K hK => ?_) AllReadyH.nil)
  (try rw [if_pos (by rfl)])
  go_simp
  refine (delay_any r _).mono ?_
  rintro e Wn ⟨rfl, hbn⟩
  obtain rfl := hbn.symm
  try dsimp only
  refine hK.out _ _ (hbX) (fun hHeld => ?_)
  clear hK K
  try simp only [Act.put, List.setIfInBounds_toArray, List.set_cons_zero, List.set_cons_succ]
  refine wpAnyH_take (i := 10) (oi := ⟨some 14, _, _, _, _, _⟩) (v := (.bool (decide (dly r ≤ now - t)))) rfl (by kernel_rfl) (by kernel_rfl) (by kernel_rfl) (fun _ _ _ h => h) (yields_bin (by rfl) .geq 3 _ _ _ rfl (.int .i64 (now - t)) (.int .i64 (dly r)) rfl rfl _ (fun _ => rfl) (int_geq _ _)) (by assumption) ?_
  try simp only [Act.put, List.setIfInBounds_toArray, List.set_cons_zero, List.set_cons_succ]
  refine wpAnyH_take (i := 11) (oi := ⟨some 3, _, _, _, _, _⟩) (v := ?_) rfl (by kernel_rfl) (by kernel_rfl) (by kernel_rfl) (fun _ _ _ h => h) (Or.inl ⟨by rfl, ?_⟩) (by assumption) ?_
  rotate_left
  · intro w hSw; (try dsimp only at hSw); go_simp; try (with_reducible rfl)
  rotate_left 0
  try simp only [Act.put, List.setIfInBounds_toArray, List.set_cons_zero, List.set_cons_succ]
  refine wpAnyH_done (by kernel_rfl) ?_ _
  go_wp2_with fail
  go_ret
  exact ⟨rfl, HB0.out.trans (hbX.mono HB0.out.size)⟩
end Go.Proofs.Ytgcpiaogodgphaa
