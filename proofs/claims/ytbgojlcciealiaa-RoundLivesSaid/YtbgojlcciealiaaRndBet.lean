/-
  One's way to agreement: what is sure by early votes. No condition.
-/
import Derived.Test.YtbgojlcciealiaaRndPrr
namespace Go.Proofs.Ytbgojlcciealiaa
open Go Go.RowKit Go.Maps

theorem mark_info : (Try.prog.info? 125).map (·.size) = some 33 := by kernel_rfl
set_option maxRecDepth 100000 in
theorem mark_fill (r : Int) (f : Nat → UInt8) : Try.prog.built 125 [(0, .int .i64 r), (1, .agg (idC ((List.range 32).map f)))] = some (markC r ((List.range 32).map f)).toArray := by kernel_rfl
theorem mark_built (r : Int) (id : List UInt8) (h : IdOk id) : Try.prog.built 125 [(0, .int .i64 r), (1, idv id)] = some (markC r id).toArray := by
  rw [id_range h]
  exact mark_fill r _
/-- A mark within the block, loaded. -/
theorem load_mark {W : World} {B off N : Nat} {ty : TypeId} {f : Nat → Value} (h : Blk W B ty (arr N f)) (hfit : off + 33 ≤ N) {r : Int} {l : List UInt8} (hl : IdOk l) (hf : ∀ i, i < 33 → f (off + i) = markF r l i) : (Instr.loadAt 125 (.pointer (some ⟨B, off, none⟩))).run Try.prog W = .ok (.agg (markC r l).toArray) W := by
  have hl2 := run_loadCells_list (P := Try.prog) W ⟨B, off, none⟩ (markC r l) (fun j x hx => by
    have hj : j < 33 := by
      have := (List.getElem?_eq_some_iff.1 hx).1
      rw [markC_length hl] at this
      exact this
    rw [show (⟨B, off, none⟩ : Addr).add j = ⟨B, off + j, none⟩ by simp [Addr.add], h.cell, arr_get, if_pos (by omega), hf j hj, ← markC_get hl hj, List.getD_eq_getElem?_getD, hx]
    rfl)
  rw [markC_length hl] at hl2
  cases hq : Try.prog.info? 125 with
  | none => have := mark_info; simp [hq] at this
  | some i =>
    have hs : i.size = 33 := by have := mark_info; simpa [hq] using this
    have hagg : (isAgg 125).run Try.prog W = .ok true W := by
      unfold isAgg
      rw [Sem.run_bind, run_underlying Try.underlying125 W]
      rfl
    simp [Instr.loadAt, Instr.sureAddr, loadVar, Sem.run_bind, hagg, sizeOf, typeInfo, hq, hs, hl2]
theorem rdF_bestM (s : RdS) (kv cp : Value) {i : Nat} (hi : i < 33) : rdF s kv cp (70 + i) = markF s.bestR s.best i := by
  unfold rdF
  rw [if_neg (by omega), if_neg (by omega), if_neg (by omega), if_pos (by omega), Nat.add_sub_cancel_left]
theorem yields_binR {P : Program} {ops : Array Oper} {S : World → Prop} {op : Oper} {a : Act} (hw : Region.wanted op (yielded ops a.tmps) = true) (bop : BinOp) (t rt : TypeId) (x y : Operand) (ho : op.op = .binOp bop t x y rt)
    (vx vy : Value) (hx : a.eval x = vx) (hy : a.eval y = vy) (v : Value) (hg : ∀ w, (eqGuard bop t x y vx vy).run P w = .ok () w) (hrun : ∀ w, (binOp bop t vx vy).run P w = .ok v w) : YieldsIf P ops S op v a :=
  .inl ⟨hw, fun w _ => by
    unfold execOp
    simp only [ho, hx, hy, Sem.run_bind, hg, hrun, Sem.run_pure, Result.andThen_ok]⟩
theorem int_add1 (m : Int) (h : -1000 ≤ m ∧ m ≤ 1000) (w : World) : (binOp .add 3 (.int .i64 m) (.int .i64 1)).run Try.prog w = .ok (.int .i64 (m + 1)) w := by
  obtain ⟨h1, h2⟩ := h
  rw [Go.binOp_add]
  go_simp
  rw [IntWalk.i64_left, IntWalk.wrap64_in _ (by omega)]
def bestS (s : RdS) (id : List UInt8) : RdS := { s with bestR := s.round + 1, best := id }
def lockS (s : RdS) : RdS := { s with lockR := s.bestR, lock := s.best }
theorem best_ok {s : RdS} (h : RdOk s) {id : List UInt8} (hid : IdOk id) (hr : 0 ≤ s.round) : RdOk (bestS s id) :=
  ⟨h.voters, h.me, h.height, h.round, h.step, h.early, h.fresh, h.lockR, h.lock, ⟨by show 0 ≤ s.round + 1; omega, by show s.round + 1 ≤ 12; have := h.round; omega⟩, hid, h.known, Int.le_refl _, h.offers⟩
theorem lock_ok {s : RdS} (h : RdOk s) : RdOk (lockS s) :=
  ⟨h.voters, h.me, h.height, h.round, h.step, h.early, h.fresh, h.bestR, h.best, h.bestR, h.best, h.known, h.le, h.offers⟩
def betterS (s : RdS) (id : List UInt8) : RdS := if s.step = 1 then castS (lockS (bestS s id)) 1 id else bestS s id
def betterA (s : RdS) (id : List UInt8) : List ActS := if s.step = 1 then castA (lockS (bestS s id)) 1 id else []
set_option maxRecDepth 100000 in
set_option maxHeartbeats 8000000 in
theorem better_no {W : World} {B C M n : Nat} {kv : Value} {s : RdS} (h : RoundAt W B C M n kv s) (id : List UInt8) (hid : IdOk id) (hr : 0 ≤ s.round) (hn : n < maxLen) (hs : ¬ s.step = 1) : Calls Try.prog 79 #[.pointer (some ⟨B, 0, none⟩), .agg (idC id)] W fun e w' => e = .returned (.slice none 0 0) ∧ RoundAt w' B C M n kv (bestS s id) ∧ Chg W w' B M kv kv := by
  obtain ⟨W1, hW⟩ : ∃ W1, W.alloc (.cells (idC id) 24) = W1 := ⟨_, rfl⟩
  have hb1 : Below W.heap.size W W1 := by rw [← hW]; exact (Below.refl _ _).alloc (Nat.le_refl _) _
  have k1 : Blk W1 W.heap.size 24 (idC id) := by rw [← hW]; exact Blk.new _ _ _
  have HB1 := Lib.hid hb1
  have HK1 := Lib.hid k1
  have HID := Lib.hid hid
  have HRD := Lib.hid (h.below (hb1.drew))
  have HRB : Hid (0 ≤ s.round ∧ s.round < 12) := Lib.hid ⟨hr, h.ok.round.2⟩
  have hr2 := h.ok.round.2
  have HL0 : Hid (W.heap.size ≠ B) := Lib.hid (by have := h.lt; omega)
  have HN := Lib.hid hn
  have HS := Lib.hid hs
  clear hid hb1 k1 h hn hs
  go_enter Try.func79, Try.ntmps79
  go_upto_region 1 with fail
  clear hW
  refine wp_region_held_drew (S := fun W' => W'.cell? ⟨B, 3, none⟩ = some (.int .i64 s.round) ∧ (Instr.loadAt 24 (.pointer (some ⟨W.heap.size, 0, none⟩))).run Try.prog W' = .ok (idv id) W') (by kernel_rfl) ?_ (fun hHeld => ?_)
  · exact ⟨HRD.out.cell (i := 3) (by omega), run_loadVar_idv HID.out HK1.out.drew⟩
  refine tkH (v := ?_) 0 ⟨some 5, _, _, _, _, _⟩ rfl (Or.inl ⟨by rfl, ?_⟩) ?_
  rotate_left
  · intro w hSw; (try dsimp only at hSw); go_simp; try (with_reducible rfl)
  try simp only [Act.put, nz1, nz2, nz3]
  refine tkH (v := ?_) 1 ⟨some 6, _, _, _, _, _⟩ rfl (Or.inl ⟨by rfl, ?_⟩) ?_
  rotate_left
  · intro w hSw; (try dsimp only at hSw); go_simp; try (with_reducible rfl)
  try simp only [Act.put, nz1, nz2, nz3]
  refine tkH (v := ?_) 2 ⟨some 7, _, _, _, _, _⟩ rfl (Or.inl ⟨by rfl, ?_⟩) ?_
  rotate_left
  · intro w hSw; (try dsimp only at hSw); go_simp; try (with_reducible rfl)
  try simp only [Act.put, nz1, nz2, nz3]
  refine tkH (v := ?_) 3 ⟨some 8, _, _, _, _, _⟩ rfl (Or.inl ⟨by rfl, ?_⟩) ?_
  rotate_left
  · intro w hSw; (try dsimp only at hSw); go_simp; try (with_reducible rfl)
  try simp only [Act.put, nz1, nz2, nz3]
  refine tkH (v := (.int .i64 s.round)) 4 ⟨some 9, _, _, _, _, _⟩ rfl (yields_one (by rfl) 3 _ rfl ⟨B, 3, none⟩ rfl _ _ (fun W' hS => hS.1) Try.underlying3 rfl) ?_
  try simp only [Act.put, nz1, nz2, nz3]
  refine tkH (v := (.int .i64 (s.round + 1))) 5 ⟨some 10, _, _, _, _, _⟩ rfl (yields_binR (by rfl) .add 3 _ _ _ rfl (.int .i64 s.round) (.int .i64 1) rfl rfl _ (fun w => by rfl) (fun w => int_add1 s.round (by have := HRB.out; omega) w)) ?_
  try simp only [Act.put, nz1, nz2, nz3]
  refine tkH (v := (idv id)) 6 ⟨some 11, _, _, _, _, _⟩ rfl (yields_run (by rfl) 24 _ rfl (.pointer (some ⟨W.heap.size, 0, none⟩)) _ rfl (fun W' hS => hS.2)) ?_
  try simp only [Act.put, nz1, nz2, nz3]
  refine tkH (v := (.agg (markC (s.round + 1) id).toArray)) 7 ⟨some 12, _, _, _, _, _⟩ rfl (yields_build (by rfl) 125 _ rfl [(0, .int .i64 (s.round + 1)), (1, idv id)] rfl _ (mark_built _ id HID.out)) ?_
  try simp only [Act.put, nz1, nz2, nz3]
  refine tkH (v := ?_) 8 ⟨some 13, _, _, _, _, _⟩ rfl (Or.inl ⟨by rfl, ?_⟩) ?_
  rotate_left
  · intro w hSw; (try dsimp only at hSw); go_simp; try (with_reducible rfl)
  try simp only [Act.put, nz1, nz2, nz3]
  refine tkH (v := ?_) 9 ⟨some 14, _, _, _, _, _⟩ rfl (Or.inl ⟨by rfl, ?_⟩) ?_
  rotate_left
  · intro w hSw; (try dsimp only at hSw); go_simp; try (with_reducible rfl)
  try simp only [Act.put, nz1, nz2, nz3]
  refine wpAnyH_ready (rs := [10]) (by kernel_rfl) (by simp) ?_
  refine (AllReadyH.cons (o := ⟨none, _, _, _, _, _⟩) rfl (fun K hK => ?_) AllReadyH.nil)
  (try rw [if_pos (by rfl)])
  refine oper_store_at 125 _ _ rfl B 70 549 _ (markC (s.round + 1) id) (markC_one _ _) rfl rfl 132 HRD.out.blk (by rw [markC_length HID.out]; exact mark_info) (by rw [markC_length HID.out]; omega) ?_
  intro W3 hw3
  have HBK3 : Hid (Blk W3 B 132 (arr 549 (rdF (bestS s id) kv (.pointer (some ⟨C, 0, none⟩))))) := Lib.hid (by rw [hw3]; exact (HRD.out.blk.setRow _).same (rd_best s kv _ _ HID.out))
  have HG3 : Hid (W1.drew.grownBy W3 (some B)) := Lib.hid (by rw [hw3]; exact grown_row _ _ _)
  have HR3 : Hid (RoundAt W3 B C M n kv (bestS s id)) := Lib.hid (HRD.out.put HBK3.out HG3.out rfl rfl rfl (best_ok HRD.out.ok HID.out HRB.out.1))
  have HK3 : Hid (Blk W3 W.heap.size 24 (idC id)) := Lib.hid (HK1.out.drew.grown HG3.out fun e => HL0.out (Option.some.inj e))
  clear hw3
  try dsimp only
  refine hK.out _ _ (⟨HR3.out.cell (i := 3) (by omega), run_loadVar_idv HID.out HK3.out⟩) (fun hHeld => ?_)
  clear hK K
  try simp only [Act.put]
  refine wpAnyH_done (by kernel_rfl) ?_ _
  have c4 : W3.cell? ⟨B, 4, none⟩ = some (.int .i64 s.step) := HR3.out.cell (i := 4) (by omega)
  have hs1 := HS.out
  have hs2 : (s.step == 1) = false := by rw [beq_eq_false_iff_ne]; exact hs1
  go_wp2_with fail
  go_ret
  exact ⟨rfl, HR3.out, ((Chg.ofBelow (HB1.out.drew)).trans (Chg.ofB HG3.out))⟩
set_option maxRecDepth 100000 in
set_option maxHeartbeats 8000000 in
theorem better_yes {W : World} {B C M n : Nat} {kv : Value} {s : RdS} (h : RoundAt W B C M n kv s) (id : List UInt8) (hid : IdOk id) (hr : 0 ≤ s.round) (hn : n < maxLen) (hs : s.step = 1) : Calls Try.prog 79 #[.pointer (some ⟨B, 0, none⟩), .agg (idC id)] W fun e w' => (∃ v, e = .returned v ∧ ActsR W w' v (castA (lockS (bestS s id)) 1 id)) ∧ RoundAt w' B C M (n + 1) kv (castS (lockS (bestS s id)) 1 id) ∧ Chg W w' B M kv kv := by
  obtain ⟨W1, hW⟩ : ∃ W1, W.alloc (.cells (idC id) 24) = W1 := ⟨_, rfl⟩
  have hb1 : Below W.heap.size W W1 := by rw [← hW]; exact (Below.refl _ _).alloc (Nat.le_refl _) _
  have k1 : Blk W1 W.heap.size 24 (idC id) := by rw [← hW]; exact Blk.new _ _ _
  have HB1 := Lib.hid hb1
  have HK1 := Lib.hid k1
  have HID := Lib.hid hid
  have HRD := Lib.hid (h.below (hb1.drew))
  have HRB : Hid (0 ≤ s.round ∧ s.round < 12) := Lib.hid ⟨hr, h.ok.round.2⟩
  have hr2 := h.ok.round.2
  have HL0 : Hid (W.heap.size ≠ B) := Lib.hid (by have := h.lt; omega)
  have HN := Lib.hid hn
  have HS := Lib.hid hs
  clear hid hb1 k1 h hn hs
  go_enter Try.func79, Try.ntmps79
  go_upto_region 1 with fail
  clear hW
  refine wp_region_held_drew (S := fun W' => W'.cell? ⟨B, 3, none⟩ = some (.int .i64 s.round) ∧ (Instr.loadAt 24 (.pointer (some ⟨W.heap.size, 0, none⟩))).run Try.prog W' = .ok (idv id) W') (by kernel_rfl) ?_ (fun hHeld => ?_)
  · exact ⟨HRD.out.cell (i := 3) (by omega), run_loadVar_idv HID.out HK1.out.drew⟩
  refine tkH (v := ?_) 0 ⟨some 5, _, _, _, _, _⟩ rfl (Or.inl ⟨by rfl, ?_⟩) ?_
  rotate_left
  · intro w hSw; (try dsimp only at hSw); go_simp; try (with_reducible rfl)
  try simp only [Act.put, nz1, nz2, nz3]
  refine tkH (v := ?_) 1 ⟨some 6, _, _, _, _, _⟩ rfl (Or.inl ⟨by rfl, ?_⟩) ?_
  rotate_left
  · intro w hSw; (try dsimp only at hSw); go_simp; try (with_reducible rfl)
  try simp only [Act.put, nz1, nz2, nz3]
  refine tkH (v := ?_) 2 ⟨some 7, _, _, _, _, _⟩ rfl (Or.inl ⟨by rfl, ?_⟩) ?_
  rotate_left
  · intro w hSw; (try dsimp only at hSw); go_simp; try (with_reducible rfl)
  try simp only [Act.put, nz1, nz2, nz3]
  refine tkH (v := ?_) 3 ⟨some 8, _, _, _, _, _⟩ rfl (Or.inl ⟨by rfl, ?_⟩) ?_
  rotate_left
  · intro w hSw; (try dsimp only at hSw); go_simp; try (with_reducible rfl)
  try simp only [Act.put, nz1, nz2, nz3]
  refine tkH (v := (.int .i64 s.round)) 4 ⟨some 9, _, _, _, _, _⟩ rfl (yields_one (by rfl) 3 _ rfl ⟨B, 3, none⟩ rfl _ _ (fun W' hS => hS.1) Try.underlying3 rfl) ?_
  try simp only [Act.put, nz1, nz2, nz3]
  refine tkH (v := (.int .i64 (s.round + 1))) 5 ⟨some 10, _, _, _, _, _⟩ rfl (yields_binR (by rfl) .add 3 _ _ _ rfl (.int .i64 s.round) (.int .i64 1) rfl rfl _ (fun w => by rfl) (fun w => int_add1 s.round (by have := HRB.out; omega) w)) ?_
  try simp only [Act.put, nz1, nz2, nz3]
  refine tkH (v := (idv id)) 6 ⟨some 11, _, _, _, _, _⟩ rfl (yields_run (by rfl) 24 _ rfl (.pointer (some ⟨W.heap.size, 0, none⟩)) _ rfl (fun W' hS => hS.2)) ?_
  try simp only [Act.put, nz1, nz2, nz3]
  refine tkH (v := (.agg (markC (s.round + 1) id).toArray)) 7 ⟨some 12, _, _, _, _, _⟩ rfl (yields_build (by rfl) 125 _ rfl [(0, .int .i64 (s.round + 1)), (1, idv id)] rfl _ (mark_built _ id HID.out)) ?_
  try simp only [Act.put, nz1, nz2, nz3]
  refine tkH (v := ?_) 8 ⟨some 13, _, _, _, _, _⟩ rfl (Or.inl ⟨by rfl, ?_⟩) ?_
  rotate_left
  · intro w hSw; (try dsimp only at hSw); go_simp; try (with_reducible rfl)
  try simp only [Act.put, nz1, nz2, nz3]
  refine tkH (v := ?_) 9 ⟨some 14, _, _, _, _, _⟩ rfl (Or.inl ⟨by rfl, ?_⟩) ?_
  rotate_left
  · intro w hSw; (try dsimp only at hSw); go_simp; try (with_reducible rfl)
  try simp only [Act.put, nz1, nz2, nz3]
  refine wpAnyH_ready (rs := [10]) (by kernel_rfl) (by simp) ?_
  refine (AllReadyH.cons (o := ⟨none, _, _, _, _, _⟩) rfl (fun K hK => ?_) AllReadyH.nil)
  (try rw [if_pos (by rfl)])
  refine oper_store_at 125 _ _ rfl B 70 549 _ (markC (s.round + 1) id) (markC_one _ _) rfl rfl 132 HRD.out.blk (by rw [markC_length HID.out]; exact mark_info) (by rw [markC_length HID.out]; omega) ?_
  intro W3 hw3
  have HBK3 : Hid (Blk W3 B 132 (arr 549 (rdF (bestS s id) kv (.pointer (some ⟨C, 0, none⟩))))) := Lib.hid (by rw [hw3]; exact (HRD.out.blk.setRow _).same (rd_best s kv _ _ HID.out))
  have HG3 : Hid (W1.drew.grownBy W3 (some B)) := Lib.hid (by rw [hw3]; exact grown_row _ _ _)
  have HR3 : Hid (RoundAt W3 B C M n kv (bestS s id)) := Lib.hid (HRD.out.put HBK3.out HG3.out rfl rfl rfl (best_ok HRD.out.ok HID.out HRB.out.1))
  have HK3 : Hid (Blk W3 W.heap.size 24 (idC id)) := Lib.hid (HK1.out.drew.grown HG3.out fun e => HL0.out (Option.some.inj e))
  clear hw3
  try dsimp only
  refine hK.out _ _ (⟨HR3.out.cell (i := 3) (by omega), run_loadVar_idv HID.out HK3.out⟩) (fun hHeld => ?_)
  clear hK K
  try simp only [Act.put]
  refine wpAnyH_done (by kernel_rfl) ?_ _
  have c4 : W3.cell? ⟨B, 4, none⟩ = some (.int .i64 1) := by rw [← HS.out]; exact HR3.out.cell (i := 4) (by omega)
  have HLM : Hid ((Instr.loadAt 125 (.pointer (some ⟨B, 70, none⟩))).run Try.prog W3 = .ok (.agg (markC (bestS s id).bestR (bestS s id).best).toArray) W3) := Lib.hid (load_mark HR3.out.blk (by omega) HR3.out.ok.best fun i hi => rdF_bestM _ _ _ hi)
  go_upto_region 5 with (first
    | (guard_target = wpList _ _ _ (Oper.mk _ (.load 125 _) _ _ _ _ :: _) _ _; refine wpList_load_runS (by rfl) 125 _ rfl _ _ rfl HLM.out ?_)
    | (guard_target = wpList _ _ _ (Oper.mk _ (.store 125 _ _) _ _ _ _ :: _) _ _; refine wpList_store_at rfl 125 _ _ rfl B 37 549 _ (markC (bestS s id).bestR (bestS s id).best) (markC_one _ _) rfl rfl 132 HR3.out.blk (by rw [markC_length HR3.out.ok.best]; exact mark_info) (by rw [markC_length HR3.out.ok.best]; omega) ?_; intro W4 hw4))
  have HBK4 : Hid (Blk W4 B 132 (arr 549 (rdF (lockS (bestS s id)) kv (.pointer (some ⟨C, 0, none⟩))))) := Lib.hid (by rw [hw4]; exact (HR3.out.blk.setRow _).same (rd_lock (bestS s id) kv _ _ HID.out))
  have HG4 : Hid (W3.grownBy W4 (some B)) := Lib.hid (by rw [hw4]; exact grown_row _ _ _)
  have HR4 : Hid (RoundAt W4 B C M n kv (lockS (bestS s id))) := Lib.hid (HR3.out.put HBK4.out HG4.out rfl rfl rfl (lock_ok HR3.out.ok))
  have HLI : Hid ((Instr.loadAt 24 (.pointer (some ⟨W.heap.size, 0, none⟩))).run Try.prog W4 = .ok (idv id) W4) := Lib.hid (run_loadVar_idv HID.out (HK3.out.grown HG4.out fun e => HL0.out (Option.some.inj e)))
  have HCA := Lib.hid (castR_any HR4.out 1 (.inr rfl) id HID.out HRB.out.1 HN.out)
  clear hw4 c4
  go_wp2_with (first
    | (guard_target = wpList _ _ _ (Oper.mk _ (.load 24 _) _ _ _ _ :: _) _ _; refine wpList_load_runS (by rfl) 24 _ rfl _ _ rfl HLI.out ?_)
    | (go_at_call 62; refine HCA.out.mono ?_; rintro e W5 ⟨⟨v5, rfl, ha5⟩, hr5, hc5⟩; have HA5 := Lib.hid ha5; have HR5 := Lib.hid hr5; have HC5 := Lib.hid hc5; clear ha5 hr5 hc5))
  go_ret
  exact ⟨⟨_, rfl, HA5.out.mono (Nat.le_trans (Nat.le_trans HB1.out.size HG3.out.size) HG4.out.size)⟩, HR5.out, ((((Chg.ofBelow (HB1.out.drew)).trans (Chg.ofB HG3.out))).trans (Chg.ofB HG4.out)).trans HC5.out⟩
theorem RoundAt.mono {W : World} {B C M n m : Nat} {kv : Value} {s : RdS} (h : RoundAt W B C M n kv s) (hm : n ≤ m) : RoundAt W B C M m kv s := ⟨h.blk, h.cnt.mono hm, h.own, h.ok⟩
theorem better_any {W : World} {B C M n : Nat} {kv : Value} {s : RdS} (h : RoundAt W B C M n kv s) (id : List UInt8) (hid : IdOk id) (hr : 0 ≤ s.round) (hn : n < maxLen) : Calls Try.prog 79 #[.pointer (some ⟨B, 0, none⟩), .agg (idC id)] W fun e w' => (∃ v, e = .returned v ∧ ActsR W w' v (betterA s id)) ∧ RoundAt w' B C M (n + 1) kv (betterS s id) ∧ Chg W w' B M kv kv := by
  unfold betterA betterS
  by_cases hs : s.step = 1
  · rw [if_pos hs, if_pos hs]
    exact better_yes h id hid hr hn hs
  · rw [if_neg hs, if_neg hs]
    exact (better_no h id hid hr hn hs).mono fun e w' ⟨h1, h2, h3⟩ => ⟨⟨_, h1, actsR_nil _ _⟩, h2.mono (by omega), h3⟩
end Go.Proofs.Ytbgojlcciealiaa
