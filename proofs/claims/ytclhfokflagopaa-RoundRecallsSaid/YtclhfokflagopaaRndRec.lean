/-
  One's way to agreement: what one did before, recalled. No condition.
-/
import Derived.Test.YtclhfokflagopaaRndCall
import Derived.Test.YtclhfokflagopaaRndLaw
namespace Go.Proofs.Ytclhfokflagopaa
open Go Go.RowKit Go.Maps

theorem int_lss (a b : Int) (v : Bool) (h : decide (a < b) = v) (w : World) : (binOp .lss 3 (.int .i64 a) (.int .i64 b)).run Try.prog w = .ok (.bool v) w := by
  subst h
  go_simp
theorem errno_neq (a b : Int) (h : (a == b) = false) (w : World) : (binOp .neq 29 (.int .i64 a) (.int .i64 b)).run Try.prog w = .ok (.bool true) w := by
  go_simp
  simpa using h
/-- The round and the step stored. -/
theorem RoundAt.setTo {W : World} {B C M n : Nat} {kv : Value} {s : RdS} (h : RoundAt W B C M n kv s) {r t : Int} (hok : RdOk { s with round := r, step := t }) : RoundAt ((W.setCell ⟨B, 3, none⟩ (.int .i64 r)).setCell ⟨B, 4, none⟩ (.int .i64 t)) B C M n kv { s with round := r, step := t } := by
  have h1 : Blk (W.setCell ⟨B, 3, none⟩ (.int .i64 r)) B 132 (arr 549 (rdF { s with round := r } kv (.pointer (some ⟨C, 0, none⟩)))) := (setCell_arr h.blk (i := 3) (by omega) _).same (rd_round s kv _ _)
  have h2 := (setCell_arr h1 (i := 4) (by omega) (.int .i64 t)).same (rd_step { s with round := r } kv _ t)
  exact h.put h2 ((grown_cell W B 3 _).trans (grown_cell _ B 4 _)) rfl rfl rfl hok
set_option maxRecDepth 100000 in
set_option maxHeartbeats 8000000 in
theorem res_bad {W : World} {B C M n : Nat} {kv : Value} {s : RdS} (h : RoundAt W B C M n kv s) (r k : Int) (hr : 0 ≤ r ∧ r < 12) (hk : wfi k) (id : List UInt8) (hid : IdOk id) (hn : n < maxLen) (cd : Int) (hcd : putCode s.voters s.votes r k s.me id = cd) (hc0 : (cd == 0) = false) : Calls Try.prog 65 #[.pointer (some ⟨B, 0, none⟩), .int .i64 r, .int .i64 k, .agg (idC id)] W fun e w' => (∃ v, e = .returned v) ∧ RoundAt w' B C M (n + 1) kv ({ s with votes := putT s.voters s.votes r k s.me id }) ∧ Chg W w' B M kv kv := by
  obtain ⟨W1, hW⟩ : ∃ W1, W.alloc (.cells (idC id) 24) = W1 := ⟨_, rfl⟩
  have hb1 : Below W.heap.size W W1.drew := by rw [← hW]; exact ((Below.refl _ _).alloc (Nat.le_refl _) _).drew
  have k1 : Blk W1.drew W.heap.size 24 (idC id) := by rw [← hW]; exact (Blk.new _ _ _).drew
  have HB1 := Lib.hid hb1
  have HK1 := Lib.hid k1
  have HID := Lib.hid hid
  have HR1 := Lib.hid (h.below hb1)
  have HN := Lib.hid hn
  have HCD := Lib.hid hcd
  have HBE : Hid (∀ w, Calls Try.prog 74 #[.int .i64 k] w fun e w' => e = .returned (.int .i64 (behS k)) ∧ w' = w) := Lib.hid fun w => behind_any k w
  have HL0 : Hid (W.heap.size ≠ B) := Lib.hid (by have := h.lt; omega)
  have HNM : Hid (some W.heap.size ≠ some M) := Lib.hid fun e => by have := h.cnt.ltM; injection e with e; omega
  have HWF : Hid (wfi r ∧ wfi k ∧ wfi s.me) := Lib.hid ⟨wfi_small (by omega) (by omega), hk, wfi_small (by have := h.ok.me; omega) (by have := h.ok.me; have := h.ok.voters; omega)⟩
  have HRB := Lib.hid hr
  have HC0 := Lib.hid hc0
  clear hid hb1 k1 h hk hcd hn
  go_enter Try.func65, Try.ntmps65
  go_upto_region 1 with fail
  clear hW
  refine wp_region_held_drew (S := fun W' => (W'.cell? ⟨B, 548, none⟩ = some (.pointer (some ⟨C, 0, none⟩)) ∧ W'.cell? ⟨B, 3, none⟩ = some (.int .i64 s.round) ∧ W'.cell? ⟨B, 1, none⟩ = some (.int .i64 s.me)) ∧ (Instr.loadAt 24 (.pointer (some ⟨W.heap.size, 0, none⟩))).run Try.prog W' = .ok (idv id) W') (by kernel_rfl) ?_ (fun hHeld => ?_)
  · exact ⟨⟨HR1.out.cell (i := 548) (by omega), HR1.out.cell (i := 3) (by omega), HR1.out.cell (i := 1) (by omega)⟩, run_loadVar_idv HID.out HK1.out⟩
  refine wpAnyH_take (i := 0) (oi := ⟨some 8, _, _, _, _, _⟩) (v := ?_) rfl (by kernel_rfl) (by kernel_rfl) (by kernel_rfl) (fun _ _ _ h => h) (Or.inl ⟨by rfl, ?_⟩) (by assumption) ?_
  rotate_left
  · intro w hSw; (try dsimp only at hSw); go_simp; try (with_reducible rfl)
  rotate_left 0
  try simp only [Act.put, List.setIfInBounds_toArray, List.set_cons_zero, List.set_cons_succ]
  refine wpAnyH_take (i := 1) (oi := ⟨some 9, _, _, _, _, _⟩) (v := ?_) rfl (by kernel_rfl) (by kernel_rfl) (by kernel_rfl) (fun _ _ _ h => h) (Or.inl ⟨by rfl, ?_⟩) (by assumption) ?_
  rotate_left
  · intro w hSw; (try dsimp only at hSw); go_simp; try (with_reducible rfl)
  rotate_left 0
  try simp only [Act.put, List.setIfInBounds_toArray, List.set_cons_zero, List.set_cons_succ]
  refine wpAnyH_take (i := 2) (oi := ⟨some 10, _, _, _, _, _⟩) (v := ?_) rfl (by kernel_rfl) (by kernel_rfl) (by kernel_rfl) (fun _ _ _ h => h) (Or.inl ⟨by rfl, ?_⟩) (by assumption) ?_
  rotate_left
  · intro w hSw; (try dsimp only at hSw); go_simp; try (with_reducible rfl)
  rotate_left 0
  try simp only [Act.put, List.setIfInBounds_toArray, List.set_cons_zero, List.set_cons_succ]
  refine wpAnyH_take (i := 3) (oi := ⟨some 11, _, _, _, _, _⟩) (v := (.pointer (some ⟨C, 0, none⟩))) rfl (by kernel_rfl) (by kernel_rfl) (by kernel_rfl) (fun _ _ _ h => h) (yields_one (by rfl) 28 _ rfl ⟨B, 548, none⟩ rfl _ _ (fun W' hS => hS.1.1) Try.underlying28 rfl) (by assumption) ?_
  try simp only [Act.put, List.setIfInBounds_toArray, List.set_cons_zero, List.set_cons_succ]
  refine wpAnyH_take (i := 4) (oi := ⟨some 12, _, _, _, _, _⟩) (v := ?_) rfl (by kernel_rfl) (by kernel_rfl) (by kernel_rfl) (fun _ _ _ h => h) (Or.inl ⟨by rfl, ?_⟩) (by assumption) ?_
  rotate_left
  · intro w hSw; (try dsimp only at hSw); go_simp; try (with_reducible rfl)
  rotate_left 0
  try simp only [Act.put, List.setIfInBounds_toArray, List.set_cons_zero, List.set_cons_succ]
  refine wpAnyH_take (i := 5) (oi := ⟨some 13, _, _, _, _, _⟩) (v := ?_) rfl (by kernel_rfl) (by kernel_rfl) (by kernel_rfl) (fun _ _ _ h => h) (Or.inl ⟨by rfl, ?_⟩) (by assumption) ?_
  rotate_left
  · intro w hSw; (try dsimp only at hSw); go_simp; try (with_reducible rfl)
  rotate_left 0
  try simp only [Act.put, List.setIfInBounds_toArray, List.set_cons_zero, List.set_cons_succ]
  refine wpAnyH_take (i := 6) (oi := ⟨some 14, _, _, _, _, _⟩) (v := ?_) rfl (by kernel_rfl) (by kernel_rfl) (by kernel_rfl) (fun _ _ _ h => h) (Or.inl ⟨by rfl, ?_⟩) (by assumption) ?_
  rotate_left
  · intro w hSw; (try dsimp only at hSw); go_simp; try (with_reducible rfl)
  rotate_left 0
  try simp only [Act.put, List.setIfInBounds_toArray, List.set_cons_zero, List.set_cons_succ]
  refine wpAnyH_take (i := 7) (oi := ⟨some 15, _, _, _, _, _⟩) (v := ?_) rfl (by kernel_rfl) (by kernel_rfl) (by kernel_rfl) (fun _ _ _ h => h) (Or.inl ⟨by rfl, ?_⟩) (by assumption) ?_
  rotate_left
  · intro w hSw; (try dsimp only at hSw); go_simp; try (with_reducible rfl)
  rotate_left 0
  try simp only [Act.put, List.setIfInBounds_toArray, List.set_cons_zero, List.set_cons_succ]
  refine wpAnyH_take (i := 8) (oi := ⟨some 16, _, _, _, _, _⟩) (v := ?_) rfl (by kernel_rfl) (by kernel_rfl) (by kernel_rfl) (fun _ _ _ h => h) (Or.inl ⟨by rfl, ?_⟩) (by assumption) ?_
  rotate_left
  · intro w hSw; (try dsimp only at hSw); go_simp; try (with_reducible rfl)
  rotate_left 0
  try simp only [Act.put, List.setIfInBounds_toArray, List.set_cons_zero, List.set_cons_succ]
  refine wpAnyH_take (i := 9) (oi := ⟨some 17, _, _, _, _, _⟩) (v := (.int .i64 s.me)) rfl (by kernel_rfl) (by kernel_rfl) (by kernel_rfl) (fun _ _ _ h => h) (yields_one (by rfl) 3 _ rfl ⟨B, 1, none⟩ rfl _ _ (fun W' hS => hS.1.2.2) Try.underlying3 rfl) (by assumption) ?_
  try simp only [Act.put, List.setIfInBounds_toArray, List.set_cons_zero, List.set_cons_succ]
  refine wpAnyH_take (i := 10) (oi := ⟨some 18, _, _, _, _, _⟩) (v := (idv id)) rfl (by kernel_rfl) (by kernel_rfl) (by kernel_rfl) (fun _ _ _ h => h) (yields_run (by rfl) 24 _ rfl (.pointer (some ⟨W.heap.size, 0, none⟩)) _ rfl (fun W' hS => hS.2)) (by assumption) ?_
  try simp only [Act.put, List.setIfInBounds_toArray, List.set_cons_zero, List.set_cons_succ]
  refine wpAnyH_ready (rs := [11]) (by kernel_rfl) (by simp) ?_
  refine (AllReadyH.cons (o := ⟨some 19, _, _, _, _, _⟩) rfl (fun K hK => ?_) AllReadyH.nil)
  (try rw [if_pos (by rfl)])
  go_simp
  refine (put_any HR1.out.cnt r k s.me id HID.out HWF.out.1 HWF.out.2.1 HWF.out.2.2 HN.out).mono ?_
  rintro e W3 ⟨rfl, hc3, hg3⟩
  have HR3 := Lib.hid (HR1.out.putM hc3 hg3)
  have HG3 := Lib.hid hg3
  have HK3 : Hid (Blk W3 W.heap.size 24 (idC id)) := Lib.hid (HK1.out.grown hg3 HNM.out)
  rw [HCD.out]
  clear hc3 hg3
  try dsimp only
  refine hK.out _ _ (⟨⟨HR3.out.cell (i := 548) (by omega), HR3.out.cell (i := 3) (by omega), HR3.out.cell (i := 1) (by omega)⟩, run_loadVar_idv HID.out HK3.out⟩) (fun hHeld => ?_)
  clear hK K
  try simp only [Act.put, List.setIfInBounds_toArray, List.set_cons_zero, List.set_cons_succ]
  refine wpAnyH_take (i := 12) (oi := ⟨some 20, _, _, _, _, _⟩) (v := (.bool true)) rfl (by kernel_rfl) (by kernel_rfl) (by kernel_rfl) (fun _ _ _ h => h) (yields_binR (by rfl) .neq 29 _ _ _ rfl (.int .i64 cd) (.int .i64 0) rfl rfl _ (fun w => by rfl) (fun w => errno_neq cd 0 HC0.out w)) (by assumption) ?_
  try simp only [Act.put, List.setIfInBounds_toArray, List.set_cons_zero, List.set_cons_succ]
  refine wpAnyH_take (i := 13) (oi := ⟨some 21, _, _, _, _, _⟩) (v := ?_) rfl (by kernel_rfl) (by kernel_rfl) (by kernel_rfl) (fun _ _ _ h => h) (Or.inl ⟨by rfl, ?_⟩) (by assumption) ?_
  rotate_left
  · intro w hSw; (try dsimp only at hSw); go_simp; try (with_reducible rfl)
  rotate_left 0
  try simp only [Act.put, List.setIfInBounds_toArray, List.set_cons_zero, List.set_cons_succ]
  refine wpAnyH_take (i := 14) (oi := ⟨some 22, _, _, _, _, _⟩) (v := undef) rfl (by kernel_rfl) (by kernel_rfl) (by kernel_rfl) (fun _ _ _ h => h) (Or.inr ⟨by rfl, rfl⟩) (by assumption) ?_
  try simp only [Act.put, List.setIfInBounds_toArray, List.set_cons_zero, List.set_cons_succ]
  refine wpAnyH_take (i := 15) (oi := ⟨some 23, _, _, _, _, _⟩) (v := undef) rfl (by kernel_rfl) (by kernel_rfl) (by kernel_rfl) (fun _ _ _ h => h) (Or.inr ⟨by rfl, rfl⟩) (by assumption) ?_
  try simp only [Act.put, List.setIfInBounds_toArray, List.set_cons_zero, List.set_cons_succ]
  refine wpAnyH_take (i := 16) (oi := ⟨some 24, _, _, _, _, _⟩) (v := undef) rfl (by kernel_rfl) (by kernel_rfl) (by kernel_rfl) (fun _ _ _ h => h) (Or.inr ⟨by rfl, rfl⟩) (by assumption) ?_
  try simp only [Act.put, List.setIfInBounds_toArray, List.set_cons_zero, List.set_cons_succ]
  refine wpAnyH_take (i := 17) (oi := ⟨some 25, _, _, _, _, _⟩) (v := undef) rfl (by kernel_rfl) (by kernel_rfl) (by kernel_rfl) (fun _ _ _ h => h) (Or.inr ⟨by rfl, rfl⟩) (by assumption) ?_
  try simp only [Act.put, List.setIfInBounds_toArray, List.set_cons_zero, List.set_cons_succ]
  refine wpAnyH_take (i := 18) (oi := ⟨some 26, _, _, _, _, _⟩) (v := undef) rfl (by kernel_rfl) (by kernel_rfl) (by kernel_rfl) (fun _ _ _ h => h) (Or.inr ⟨by rfl, rfl⟩) (by assumption) ?_
  try simp only [Act.put, List.setIfInBounds_toArray, List.set_cons_zero, List.set_cons_succ]
  refine wpAnyH_take (i := 19) (oi := ⟨some 27, _, _, _, _, _⟩) (v := undef) rfl (by kernel_rfl) (by kernel_rfl) (by kernel_rfl) (fun _ _ _ h => h) (Or.inr ⟨by rfl, rfl⟩) (by assumption) ?_
  try simp only [Act.put, List.setIfInBounds_toArray, List.set_cons_zero, List.set_cons_succ]
  refine wpAnyH_take (i := 20) (oi := ⟨some 28, _, _, _, _, _⟩) (v := ?_) rfl (by kernel_rfl) (by kernel_rfl) (by kernel_rfl) (fun _ _ _ h => h) (Or.inl ⟨by rfl, ?_⟩) (by assumption) ?_
  rotate_left
  · intro w hSw; (try dsimp only at hSw); go_simp; try (with_reducible rfl)
  rotate_left 0
  try simp only [Act.put, List.setIfInBounds_toArray, List.set_cons_zero, List.set_cons_succ]
  refine wpAnyH_done (by kernel_rfl) ?_ _
  go_wp2_with fail
  first | go_end0 | ((try simp only [Exit.inBlock, Exit.then]); refine bodyPost_ret (results_none rfl _ _ _) rfl ?_)
  exact ⟨⟨_, rfl⟩, HR3.out, (Chg.ofBelow HB1.out).trans (Chg.ofM HG3.out)⟩
set_option maxRecDepth 100000 in
set_option maxHeartbeats 8000000 in
theorem res_old {W : World} {B C M n : Nat} {kv : Value} {s : RdS} (h : RoundAt W B C M n kv s) (r k : Int) (hr : 0 ≤ r ∧ r < 12) (hk : wfi k) (id : List UInt8) (hid : IdOk id) (hn : n < maxLen) (hcd : putCode s.voters s.votes r k s.me id = 0) (hlt : r < s.round) : Calls Try.prog 65 #[.pointer (some ⟨B, 0, none⟩), .int .i64 r, .int .i64 k, .agg (idC id)] W fun e w' => (∃ v, e = .returned v) ∧ RoundAt w' B C M (n + 1) kv ({ s with votes := putT s.voters s.votes r k s.me id }) ∧ Chg W w' B M kv kv := by
  obtain ⟨W1, hW⟩ : ∃ W1, W.alloc (.cells (idC id) 24) = W1 := ⟨_, rfl⟩
  have hb1 : Below W.heap.size W W1.drew := by rw [← hW]; exact ((Below.refl _ _).alloc (Nat.le_refl _) _).drew
  have k1 : Blk W1.drew W.heap.size 24 (idC id) := by rw [← hW]; exact (Blk.new _ _ _).drew
  have HB1 := Lib.hid hb1
  have HK1 := Lib.hid k1
  have HID := Lib.hid hid
  have HR1 := Lib.hid (h.below hb1)
  have HN := Lib.hid hn
  have HCD := Lib.hid hcd
  have HBE : Hid (∀ w, Calls Try.prog 74 #[.int .i64 k] w fun e w' => e = .returned (.int .i64 (behS k)) ∧ w' = w) := Lib.hid fun w => behind_any k w
  have HL0 : Hid (W.heap.size ≠ B) := Lib.hid (by have := h.lt; omega)
  have HNM : Hid (some W.heap.size ≠ some M) := Lib.hid fun e => by have := h.cnt.ltM; injection e with e; omega
  have HWF : Hid (wfi r ∧ wfi k ∧ wfi s.me) := Lib.hid ⟨wfi_small (by omega) (by omega), hk, wfi_small (by have := h.ok.me; omega) (by have := h.ok.me; have := h.ok.voters; omega)⟩
  have HRB := Lib.hid hr
  have HLT : Hid (decide (r < s.round) = true) := Lib.hid (by rw [decide_eq_true hlt])
  clear hlt
  clear hid hb1 k1 h hk hcd hn
  go_enter Try.func65, Try.ntmps65
  go_upto_region 1 with fail
  clear hW
  refine wp_region_held_drew (S := fun W' => (W'.cell? ⟨B, 548, none⟩ = some (.pointer (some ⟨C, 0, none⟩)) ∧ W'.cell? ⟨B, 3, none⟩ = some (.int .i64 s.round) ∧ W'.cell? ⟨B, 1, none⟩ = some (.int .i64 s.me)) ∧ (Instr.loadAt 24 (.pointer (some ⟨W.heap.size, 0, none⟩))).run Try.prog W' = .ok (idv id) W') (by kernel_rfl) ?_ (fun hHeld => ?_)
  · exact ⟨⟨HR1.out.cell (i := 548) (by omega), HR1.out.cell (i := 3) (by omega), HR1.out.cell (i := 1) (by omega)⟩, run_loadVar_idv HID.out HK1.out⟩
  refine wpAnyH_take (i := 0) (oi := ⟨some 8, _, _, _, _, _⟩) (v := ?_) rfl (by kernel_rfl) (by kernel_rfl) (by kernel_rfl) (fun _ _ _ h => h) (Or.inl ⟨by rfl, ?_⟩) (by assumption) ?_
  rotate_left
  · intro w hSw; (try dsimp only at hSw); go_simp; try (with_reducible rfl)
  rotate_left 0
  try simp only [Act.put, List.setIfInBounds_toArray, List.set_cons_zero, List.set_cons_succ]
  refine wpAnyH_take (i := 1) (oi := ⟨some 9, _, _, _, _, _⟩) (v := ?_) rfl (by kernel_rfl) (by kernel_rfl) (by kernel_rfl) (fun _ _ _ h => h) (Or.inl ⟨by rfl, ?_⟩) (by assumption) ?_
  rotate_left
  · intro w hSw; (try dsimp only at hSw); go_simp; try (with_reducible rfl)
  rotate_left 0
  try simp only [Act.put, List.setIfInBounds_toArray, List.set_cons_zero, List.set_cons_succ]
  refine wpAnyH_take (i := 2) (oi := ⟨some 10, _, _, _, _, _⟩) (v := ?_) rfl (by kernel_rfl) (by kernel_rfl) (by kernel_rfl) (fun _ _ _ h => h) (Or.inl ⟨by rfl, ?_⟩) (by assumption) ?_
  rotate_left
  · intro w hSw; (try dsimp only at hSw); go_simp; try (with_reducible rfl)
  rotate_left 0
  try simp only [Act.put, List.setIfInBounds_toArray, List.set_cons_zero, List.set_cons_succ]
  refine wpAnyH_take (i := 3) (oi := ⟨some 11, _, _, _, _, _⟩) (v := (.pointer (some ⟨C, 0, none⟩))) rfl (by kernel_rfl) (by kernel_rfl) (by kernel_rfl) (fun _ _ _ h => h) (yields_one (by rfl) 28 _ rfl ⟨B, 548, none⟩ rfl _ _ (fun W' hS => hS.1.1) Try.underlying28 rfl) (by assumption) ?_
  try simp only [Act.put, List.setIfInBounds_toArray, List.set_cons_zero, List.set_cons_succ]
  refine wpAnyH_take (i := 4) (oi := ⟨some 12, _, _, _, _, _⟩) (v := ?_) rfl (by kernel_rfl) (by kernel_rfl) (by kernel_rfl) (fun _ _ _ h => h) (Or.inl ⟨by rfl, ?_⟩) (by assumption) ?_
  rotate_left
  · intro w hSw; (try dsimp only at hSw); go_simp; try (with_reducible rfl)
  rotate_left 0
  try simp only [Act.put, List.setIfInBounds_toArray, List.set_cons_zero, List.set_cons_succ]
  refine wpAnyH_take (i := 5) (oi := ⟨some 13, _, _, _, _, _⟩) (v := ?_) rfl (by kernel_rfl) (by kernel_rfl) (by kernel_rfl) (fun _ _ _ h => h) (Or.inl ⟨by rfl, ?_⟩) (by assumption) ?_
  rotate_left
  · intro w hSw; (try dsimp only at hSw); go_simp; try (with_reducible rfl)
  rotate_left 0
  try simp only [Act.put, List.setIfInBounds_toArray, List.set_cons_zero, List.set_cons_succ]
  refine wpAnyH_take (i := 6) (oi := ⟨some 14, _, _, _, _, _⟩) (v := ?_) rfl (by kernel_rfl) (by kernel_rfl) (by kernel_rfl) (fun _ _ _ h => h) (Or.inl ⟨by rfl, ?_⟩) (by assumption) ?_
  rotate_left
  · intro w hSw; (try dsimp only at hSw); go_simp; try (with_reducible rfl)
  rotate_left 0
  try simp only [Act.put, List.setIfInBounds_toArray, List.set_cons_zero, List.set_cons_succ]
  refine wpAnyH_take (i := 7) (oi := ⟨some 15, _, _, _, _, _⟩) (v := ?_) rfl (by kernel_rfl) (by kernel_rfl) (by kernel_rfl) (fun _ _ _ h => h) (Or.inl ⟨by rfl, ?_⟩) (by assumption) ?_
  rotate_left
  · intro w hSw; (try dsimp only at hSw); go_simp; try (with_reducible rfl)
  rotate_left 0
  try simp only [Act.put, List.setIfInBounds_toArray, List.set_cons_zero, List.set_cons_succ]
  refine wpAnyH_take (i := 8) (oi := ⟨some 16, _, _, _, _, _⟩) (v := ?_) rfl (by kernel_rfl) (by kernel_rfl) (by kernel_rfl) (fun _ _ _ h => h) (Or.inl ⟨by rfl, ?_⟩) (by assumption) ?_
  rotate_left
  · intro w hSw; (try dsimp only at hSw); go_simp; try (with_reducible rfl)
  rotate_left 0
  try simp only [Act.put, List.setIfInBounds_toArray, List.set_cons_zero, List.set_cons_succ]
  refine wpAnyH_take (i := 9) (oi := ⟨some 17, _, _, _, _, _⟩) (v := (.int .i64 s.me)) rfl (by kernel_rfl) (by kernel_rfl) (by kernel_rfl) (fun _ _ _ h => h) (yields_one (by rfl) 3 _ rfl ⟨B, 1, none⟩ rfl _ _ (fun W' hS => hS.1.2.2) Try.underlying3 rfl) (by assumption) ?_
  try simp only [Act.put, List.setIfInBounds_toArray, List.set_cons_zero, List.set_cons_succ]
  refine wpAnyH_take (i := 10) (oi := ⟨some 18, _, _, _, _, _⟩) (v := (idv id)) rfl (by kernel_rfl) (by kernel_rfl) (by kernel_rfl) (fun _ _ _ h => h) (yields_run (by rfl) 24 _ rfl (.pointer (some ⟨W.heap.size, 0, none⟩)) _ rfl (fun W' hS => hS.2)) (by assumption) ?_
  try simp only [Act.put, List.setIfInBounds_toArray, List.set_cons_zero, List.set_cons_succ]
  refine wpAnyH_ready (rs := [11]) (by kernel_rfl) (by simp) ?_
  refine (AllReadyH.cons (o := ⟨some 19, _, _, _, _, _⟩) rfl (fun K hK => ?_) AllReadyH.nil)
  (try rw [if_pos (by rfl)])
  go_simp
  refine (put_any HR1.out.cnt r k s.me id HID.out HWF.out.1 HWF.out.2.1 HWF.out.2.2 HN.out).mono ?_
  rintro e W3 ⟨rfl, hc3, hg3⟩
  have HR3 := Lib.hid (HR1.out.putM hc3 hg3)
  have HG3 := Lib.hid hg3
  have HK3 : Hid (Blk W3 W.heap.size 24 (idC id)) := Lib.hid (HK1.out.grown hg3 HNM.out)
  rw [HCD.out]
  clear hc3 hg3
  try dsimp only
  refine hK.out _ _ (⟨⟨HR3.out.cell (i := 548) (by omega), HR3.out.cell (i := 3) (by omega), HR3.out.cell (i := 1) (by omega)⟩, run_loadVar_idv HID.out HK3.out⟩) (fun hHeld => ?_)
  clear hK K
  try simp only [Act.put, List.setIfInBounds_toArray, List.set_cons_zero, List.set_cons_succ]
  refine wpAnyH_take (i := 12) (oi := ⟨some 20, _, _, _, _, _⟩) (v := ?_) rfl (by kernel_rfl) (by kernel_rfl) (by kernel_rfl) (fun _ _ _ h => h) (Or.inl ⟨by rfl, ?_⟩) (by assumption) ?_
  rotate_left
  · intro w hSw; (try dsimp only at hSw); go_simp; try (with_reducible rfl)
  rotate_left 0
  try simp only [Act.put, List.setIfInBounds_toArray, List.set_cons_zero, List.set_cons_succ]
  refine wpAnyH_take (i := 13) (oi := ⟨some 21, _, _, _, _, _⟩) (v := ?_) rfl (by kernel_rfl) (by kernel_rfl) (by kernel_rfl) (fun _ _ _ h => h) (Or.inl ⟨by rfl, ?_⟩) (by assumption) ?_
  rotate_left
  · intro w hSw; (try dsimp only at hSw); go_simp; try (with_reducible rfl)
  rotate_left 0
  try simp only [Act.put, List.setIfInBounds_toArray, List.set_cons_zero, List.set_cons_succ]
  refine wpAnyH_take (i := 14) (oi := ⟨some 22, _, _, _, _, _⟩) (v := ?_) rfl (by kernel_rfl) (by kernel_rfl) (by kernel_rfl) (fun _ _ _ h => h) (Or.inl ⟨by rfl, ?_⟩) (by assumption) ?_
  rotate_left
  · intro w hSw; (try dsimp only at hSw); go_simp; try (with_reducible rfl)
  rotate_left 0
  try simp only [Act.put, List.setIfInBounds_toArray, List.set_cons_zero, List.set_cons_succ]
  refine wpAnyH_take (i := 15) (oi := ⟨some 23, _, _, _, _, _⟩) (v := ?_) rfl (by kernel_rfl) (by kernel_rfl) (by kernel_rfl) (fun _ _ _ h => h) (Or.inl ⟨by rfl, ?_⟩) (by assumption) ?_
  rotate_left
  · intro w hSw; (try dsimp only at hSw); go_simp; try (with_reducible rfl)
  rotate_left 0
  try simp only [Act.put, List.setIfInBounds_toArray, List.set_cons_zero, List.set_cons_succ]
  refine wpAnyH_take (i := 16) (oi := ⟨some 24, _, _, _, _, _⟩) (v := ?_) rfl (by kernel_rfl) (by kernel_rfl) (by kernel_rfl) (fun _ _ _ h => h) (Or.inl ⟨by rfl, ?_⟩) (by assumption) ?_
  rotate_left
  · intro w hSw; (try dsimp only at hSw); go_simp; try (with_reducible rfl)
  rotate_left 0
  try simp only [Act.put, List.setIfInBounds_toArray, List.set_cons_zero, List.set_cons_succ]
  refine wpAnyH_take (i := 17) (oi := ⟨some 25, _, _, _, _, _⟩) (v := ?_) rfl (by kernel_rfl) (by kernel_rfl) (by kernel_rfl) (fun _ _ _ h => h) (Or.inl ⟨by rfl, ?_⟩) (by assumption) ?_
  rotate_left
  · intro w hSw; (try dsimp only at hSw); go_simp; try (with_reducible rfl)
  rotate_left 0
  try simp only [Act.put, List.setIfInBounds_toArray, List.set_cons_zero, List.set_cons_succ]
  refine wpAnyH_take (i := 18) (oi := ⟨some 26, _, _, _, _, _⟩) (v := (.int .i64 s.round)) rfl (by kernel_rfl) (by kernel_rfl) (by kernel_rfl) (fun _ _ _ h => h) (yields_one (by rfl) 3 _ rfl ⟨B, 3, none⟩ rfl _ _ (fun W' hS => hS.1.2.1) Try.underlying3 rfl) (by assumption) ?_
  try simp only [Act.put, List.setIfInBounds_toArray, List.set_cons_zero, List.set_cons_succ]
  refine wpAnyH_take (i := 19) (oi := ⟨some 27, _, _, _, _, _⟩) (v := (.bool true)) rfl (by kernel_rfl) (by kernel_rfl) (by kernel_rfl) (fun _ _ _ h => h) (yields_binR (by rfl) .lss 3 _ _ _ rfl (.int .i64 r) (.int .i64 s.round) rfl rfl _ (fun w => by rfl) (fun w => int_lss _ _ true HLT.out w)) (by assumption) ?_
  try simp only [Act.put, List.setIfInBounds_toArray, List.set_cons_zero, List.set_cons_succ]
  refine wpAnyH_take (i := 20) (oi := ⟨some 28, _, _, _, _, _⟩) (v := ?_) rfl (by kernel_rfl) (by kernel_rfl) (by kernel_rfl) (fun _ _ _ h => h) (Or.inl ⟨by rfl, ?_⟩) (by assumption) ?_
  rotate_left
  · intro w hSw; (try dsimp only at hSw); go_simp; try (with_reducible rfl)
  rotate_left 0
  try simp only [Act.put, List.setIfInBounds_toArray, List.set_cons_zero, List.set_cons_succ]
  refine wpAnyH_done (by kernel_rfl) ?_ _
  go_wp2_with fail
  first | go_end0 | ((try simp only [Exit.inBlock, Exit.then]); refine bodyPost_ret (results_none rfl _ _ _) rfl ?_)
  exact ⟨⟨_, rfl⟩, HR3.out, (Chg.ofBelow HB1.out).trans (Chg.ofM HG3.out)⟩
set_option maxRecDepth 100000 in
set_option maxHeartbeats 8000000 in
theorem res_early {W : World} {B C M n : Nat} {kv : Value} {s : RdS} (h : RoundAt W B C M n kv s) (r k : Int) (hr : 0 ≤ r ∧ r < 12) (hk : wfi k) (id : List UInt8) (hid : IdOk id) (hn : n < maxLen) (hcd : putCode s.voters s.votes r k s.me id = 0) (hlt : ¬ r < s.round) (hk1 : (k == 1) = false) : Calls Try.prog 65 #[.pointer (some ⟨B, 0, none⟩), .int .i64 r, .int .i64 k, .agg (idC id)] W fun e w' => (∃ v, e = .returned v) ∧ RoundAt w' B C M (n + 1) kv ({ s with votes := putT s.voters s.votes r k s.me id, round := r, step := behS k }) ∧ Chg W w' B M kv kv := by
  obtain ⟨W1, hW⟩ : ∃ W1, W.alloc (.cells (idC id) 24) = W1 := ⟨_, rfl⟩
  have hb1 : Below W.heap.size W W1.drew := by rw [← hW]; exact ((Below.refl _ _).alloc (Nat.le_refl _) _).drew
  have k1 : Blk W1.drew W.heap.size 24 (idC id) := by rw [← hW]; exact (Blk.new _ _ _).drew
  have HB1 := Lib.hid hb1
  have HK1 := Lib.hid k1
  have HID := Lib.hid hid
  have HR1 := Lib.hid (h.below hb1)
  have HN := Lib.hid hn
  have HCD := Lib.hid hcd
  have HBE : Hid (∀ w, Calls Try.prog 74 #[.int .i64 k] w fun e w' => e = .returned (.int .i64 (behS k)) ∧ w' = w) := Lib.hid fun w => behind_any k w
  have HL0 : Hid (W.heap.size ≠ B) := Lib.hid (by have := h.lt; omega)
  have HNM : Hid (some W.heap.size ≠ some M) := Lib.hid fun e => by have := h.cnt.ltM; injection e with e; omega
  have HWF : Hid (wfi r ∧ wfi k ∧ wfi s.me) := Lib.hid ⟨wfi_small (by omega) (by omega), hk, wfi_small (by have := h.ok.me; omega) (by have := h.ok.me; have := h.ok.voters; omega)⟩
  have HRB := Lib.hid hr
  have HOK : Hid (RdOk { s with votes := putT s.voters s.votes r k s.me id, round := r, step := behS k }) := Lib.hid ⟨h.ok.voters, h.ok.me, h.ok.height, ⟨by show -1 ≤ r; omega, hr.2⟩, ⟨(behS_le k).1, (behS_le k).2.1⟩, fun e => by have : r = -1 := e; omega, h.ok.fresh, h.ok.lockR, h.ok.lock, h.ok.bestR, h.ok.best, h.ok.known, by show s.bestR ≤ r + 1; have := h.ok.le; omega, h.ok.offers⟩
  have HLT : Hid (decide (r < s.round) = false) := Lib.hid (by rw [decide_eq_false hlt])
  clear hlt
  clear hid hb1 k1 h hk hcd hn
  go_enter Try.func65, Try.ntmps65
  go_upto_region 1 with fail
  clear hW
  refine wp_region_held_drew (S := fun W' => (W'.cell? ⟨B, 548, none⟩ = some (.pointer (some ⟨C, 0, none⟩)) ∧ W'.cell? ⟨B, 3, none⟩ = some (.int .i64 s.round) ∧ W'.cell? ⟨B, 1, none⟩ = some (.int .i64 s.me)) ∧ (Instr.loadAt 24 (.pointer (some ⟨W.heap.size, 0, none⟩))).run Try.prog W' = .ok (idv id) W') (by kernel_rfl) ?_ (fun hHeld => ?_)
  · exact ⟨⟨HR1.out.cell (i := 548) (by omega), HR1.out.cell (i := 3) (by omega), HR1.out.cell (i := 1) (by omega)⟩, run_loadVar_idv HID.out HK1.out⟩
  refine wpAnyH_take (i := 0) (oi := ⟨some 8, _, _, _, _, _⟩) (v := ?_) rfl (by kernel_rfl) (by kernel_rfl) (by kernel_rfl) (fun _ _ _ h => h) (Or.inl ⟨by rfl, ?_⟩) (by assumption) ?_
  rotate_left
  · intro w hSw; (try dsimp only at hSw); go_simp; try (with_reducible rfl)
  rotate_left 0
  try simp only [Act.put, List.setIfInBounds_toArray, List.set_cons_zero, List.set_cons_succ]
  refine wpAnyH_take (i := 1) (oi := ⟨some 9, _, _, _, _, _⟩) (v := ?_) rfl (by kernel_rfl) (by kernel_rfl) (by kernel_rfl) (fun _ _ _ h => h) (Or.inl ⟨by rfl, ?_⟩) (by assumption) ?_
  rotate_left
  · intro w hSw; (try dsimp only at hSw); go_simp; try (with_reducible rfl)
  rotate_left 0
  try simp only [Act.put, List.setIfInBounds_toArray, List.set_cons_zero, List.set_cons_succ]
  refine wpAnyH_take (i := 2) (oi := ⟨some 10, _, _, _, _, _⟩) (v := ?_) rfl (by kernel_rfl) (by kernel_rfl) (by kernel_rfl) (fun _ _ _ h => h) (Or.inl ⟨by rfl, ?_⟩) (by assumption) ?_
  rotate_left
  · intro w hSw; (try dsimp only at hSw); go_simp; try (with_reducible rfl)
  rotate_left 0
  try simp only [Act.put, List.setIfInBounds_toArray, List.set_cons_zero, List.set_cons_succ]
  refine wpAnyH_take (i := 3) (oi := ⟨some 11, _, _, _, _, _⟩) (v := (.pointer (some ⟨C, 0, none⟩))) rfl (by kernel_rfl) (by kernel_rfl) (by kernel_rfl) (fun _ _ _ h => h) (yields_one (by rfl) 28 _ rfl ⟨B, 548, none⟩ rfl _ _ (fun W' hS => hS.1.1) Try.underlying28 rfl) (by assumption) ?_
  try simp only [Act.put, List.setIfInBounds_toArray, List.set_cons_zero, List.set_cons_succ]
  refine wpAnyH_take (i := 4) (oi := ⟨some 12, _, _, _, _, _⟩) (v := ?_) rfl (by kernel_rfl) (by kernel_rfl) (by kernel_rfl) (fun _ _ _ h => h) (Or.inl ⟨by rfl, ?_⟩) (by assumption) ?_
  rotate_left
  · intro w hSw; (try dsimp only at hSw); go_simp; try (with_reducible rfl)
  rotate_left 0
  try simp only [Act.put, List.setIfInBounds_toArray, List.set_cons_zero, List.set_cons_succ]
  refine wpAnyH_take (i := 5) (oi := ⟨some 13, _, _, _, _, _⟩) (v := ?_) rfl (by kernel_rfl) (by kernel_rfl) (by kernel_rfl) (fun _ _ _ h => h) (Or.inl ⟨by rfl, ?_⟩) (by assumption) ?_
  rotate_left
  · intro w hSw; (try dsimp only at hSw); go_simp; try (with_reducible rfl)
  rotate_left 0
  try simp only [Act.put, List.setIfInBounds_toArray, List.set_cons_zero, List.set_cons_succ]
  refine wpAnyH_take (i := 6) (oi := ⟨some 14, _, _, _, _, _⟩) (v := ?_) rfl (by kernel_rfl) (by kernel_rfl) (by kernel_rfl) (fun _ _ _ h => h) (Or.inl ⟨by rfl, ?_⟩) (by assumption) ?_
  rotate_left
  · intro w hSw; (try dsimp only at hSw); go_simp; try (with_reducible rfl)
  rotate_left 0
  try simp only [Act.put, List.setIfInBounds_toArray, List.set_cons_zero, List.set_cons_succ]
  refine wpAnyH_take (i := 7) (oi := ⟨some 15, _, _, _, _, _⟩) (v := ?_) rfl (by kernel_rfl) (by kernel_rfl) (by kernel_rfl) (fun _ _ _ h => h) (Or.inl ⟨by rfl, ?_⟩) (by assumption) ?_
  rotate_left
  · intro w hSw; (try dsimp only at hSw); go_simp; try (with_reducible rfl)
  rotate_left 0
  try simp only [Act.put, List.setIfInBounds_toArray, List.set_cons_zero, List.set_cons_succ]
  refine wpAnyH_take (i := 8) (oi := ⟨some 16, _, _, _, _, _⟩) (v := ?_) rfl (by kernel_rfl) (by kernel_rfl) (by kernel_rfl) (fun _ _ _ h => h) (Or.inl ⟨by rfl, ?_⟩) (by assumption) ?_
  rotate_left
  · intro w hSw; (try dsimp only at hSw); go_simp; try (with_reducible rfl)
  rotate_left 0
  try simp only [Act.put, List.setIfInBounds_toArray, List.set_cons_zero, List.set_cons_succ]
  refine wpAnyH_take (i := 9) (oi := ⟨some 17, _, _, _, _, _⟩) (v := (.int .i64 s.me)) rfl (by kernel_rfl) (by kernel_rfl) (by kernel_rfl) (fun _ _ _ h => h) (yields_one (by rfl) 3 _ rfl ⟨B, 1, none⟩ rfl _ _ (fun W' hS => hS.1.2.2) Try.underlying3 rfl) (by assumption) ?_
  try simp only [Act.put, List.setIfInBounds_toArray, List.set_cons_zero, List.set_cons_succ]
  refine wpAnyH_take (i := 10) (oi := ⟨some 18, _, _, _, _, _⟩) (v := (idv id)) rfl (by kernel_rfl) (by kernel_rfl) (by kernel_rfl) (fun _ _ _ h => h) (yields_run (by rfl) 24 _ rfl (.pointer (some ⟨W.heap.size, 0, none⟩)) _ rfl (fun W' hS => hS.2)) (by assumption) ?_
  try simp only [Act.put, List.setIfInBounds_toArray, List.set_cons_zero, List.set_cons_succ]
  refine wpAnyH_ready (rs := [11]) (by kernel_rfl) (by simp) ?_
  refine (AllReadyH.cons (o := ⟨some 19, _, _, _, _, _⟩) rfl (fun K hK => ?_) AllReadyH.nil)
  (try rw [if_pos (by rfl)])
  go_simp
  refine (put_any HR1.out.cnt r k s.me id HID.out HWF.out.1 HWF.out.2.1 HWF.out.2.2 HN.out).mono ?_
  rintro e W3 ⟨rfl, hc3, hg3⟩
  have HR3 := Lib.hid (HR1.out.putM hc3 hg3)
  have HG3 := Lib.hid hg3
  have HK3 : Hid (Blk W3 W.heap.size 24 (idC id)) := Lib.hid (HK1.out.grown hg3 HNM.out)
  rw [HCD.out]
  clear hc3 hg3
  try dsimp only
  refine hK.out _ _ (⟨⟨HR3.out.cell (i := 548) (by omega), HR3.out.cell (i := 3) (by omega), HR3.out.cell (i := 1) (by omega)⟩, run_loadVar_idv HID.out HK3.out⟩) (fun hHeld => ?_)
  clear hK K
  try simp only [Act.put, List.setIfInBounds_toArray, List.set_cons_zero, List.set_cons_succ]
  refine wpAnyH_take (i := 12) (oi := ⟨some 20, _, _, _, _, _⟩) (v := ?_) rfl (by kernel_rfl) (by kernel_rfl) (by kernel_rfl) (fun _ _ _ h => h) (Or.inl ⟨by rfl, ?_⟩) (by assumption) ?_
  rotate_left
  · intro w hSw; (try dsimp only at hSw); go_simp; try (with_reducible rfl)
  rotate_left 0
  try simp only [Act.put, List.setIfInBounds_toArray, List.set_cons_zero, List.set_cons_succ]
  refine wpAnyH_take (i := 13) (oi := ⟨some 21, _, _, _, _, _⟩) (v := ?_) rfl (by kernel_rfl) (by kernel_rfl) (by kernel_rfl) (fun _ _ _ h => h) (Or.inl ⟨by rfl, ?_⟩) (by assumption) ?_
  rotate_left
  · intro w hSw; (try dsimp only at hSw); go_simp; try (with_reducible rfl)
  rotate_left 0
  try simp only [Act.put, List.setIfInBounds_toArray, List.set_cons_zero, List.set_cons_succ]
  refine wpAnyH_take (i := 14) (oi := ⟨some 22, _, _, _, _, _⟩) (v := ?_) rfl (by kernel_rfl) (by kernel_rfl) (by kernel_rfl) (fun _ _ _ h => h) (Or.inl ⟨by rfl, ?_⟩) (by assumption) ?_
  rotate_left
  · intro w hSw; (try dsimp only at hSw); go_simp; try (with_reducible rfl)
  rotate_left 0
  try simp only [Act.put, List.setIfInBounds_toArray, List.set_cons_zero, List.set_cons_succ]
  refine wpAnyH_take (i := 15) (oi := ⟨some 23, _, _, _, _, _⟩) (v := ?_) rfl (by kernel_rfl) (by kernel_rfl) (by kernel_rfl) (fun _ _ _ h => h) (Or.inl ⟨by rfl, ?_⟩) (by assumption) ?_
  rotate_left
  · intro w hSw; (try dsimp only at hSw); go_simp; try (with_reducible rfl)
  rotate_left 0
  try simp only [Act.put, List.setIfInBounds_toArray, List.set_cons_zero, List.set_cons_succ]
  refine wpAnyH_take (i := 16) (oi := ⟨some 24, _, _, _, _, _⟩) (v := ?_) rfl (by kernel_rfl) (by kernel_rfl) (by kernel_rfl) (fun _ _ _ h => h) (Or.inl ⟨by rfl, ?_⟩) (by assumption) ?_
  rotate_left
  · intro w hSw; (try dsimp only at hSw); go_simp; try (with_reducible rfl)
  rotate_left 0
  try simp only [Act.put, List.setIfInBounds_toArray, List.set_cons_zero, List.set_cons_succ]
  refine wpAnyH_take (i := 17) (oi := ⟨some 25, _, _, _, _, _⟩) (v := ?_) rfl (by kernel_rfl) (by kernel_rfl) (by kernel_rfl) (fun _ _ _ h => h) (Or.inl ⟨by rfl, ?_⟩) (by assumption) ?_
  rotate_left
  · intro w hSw; (try dsimp only at hSw); go_simp; try (with_reducible rfl)
  rotate_left 0
  try simp only [Act.put, List.setIfInBounds_toArray, List.set_cons_zero, List.set_cons_succ]
  refine wpAnyH_take (i := 18) (oi := ⟨some 26, _, _, _, _, _⟩) (v := (.int .i64 s.round)) rfl (by kernel_rfl) (by kernel_rfl) (by kernel_rfl) (fun _ _ _ h => h) (yields_one (by rfl) 3 _ rfl ⟨B, 3, none⟩ rfl _ _ (fun W' hS => hS.1.2.1) Try.underlying3 rfl) (by assumption) ?_
  try simp only [Act.put, List.setIfInBounds_toArray, List.set_cons_zero, List.set_cons_succ]
  refine wpAnyH_take (i := 19) (oi := ⟨some 27, _, _, _, _, _⟩) (v := (.bool false)) rfl (by kernel_rfl) (by kernel_rfl) (by kernel_rfl) (fun _ _ _ h => h) (yields_binR (by rfl) .lss 3 _ _ _ rfl (.int .i64 r) (.int .i64 s.round) rfl rfl _ (fun w => by rfl) (fun w => int_lss _ _ false HLT.out w)) (by assumption) ?_
  try simp only [Act.put, List.setIfInBounds_toArray, List.set_cons_zero, List.set_cons_succ]
  refine wpAnyH_take (i := 20) (oi := ⟨some 28, _, _, _, _, _⟩) (v := ?_) rfl (by kernel_rfl) (by kernel_rfl) (by kernel_rfl) (fun _ _ _ h => h) (Or.inl ⟨by rfl, ?_⟩) (by assumption) ?_
  rotate_left
  · intro w hSw; (try dsimp only at hSw); go_simp; try (with_reducible rfl)
  rotate_left 0
  try simp only [Act.put, List.setIfInBounds_toArray, List.set_cons_zero, List.set_cons_succ]
  refine wpAnyH_done (by kernel_rfl) ?_ _
  have f4 : W3.frozen? ⟨B, 4, none⟩ = false := HR3.out.blk.frozen 4
  have c4 : W3.cell? ⟨B, 4, none⟩ = some (.int .i64 s.step) := HR3.out.cell (i := 4) (by omega)
  have f3 : W3.frozen? ⟨B, 3, none⟩ = false := HR3.out.blk.frozen 3
  have c3 : W3.cell? ⟨B, 3, none⟩ = some (.int .i64 s.round) := HR3.out.cell (i := 3) (by omega)
  go_upto_region 3 with (go_at_call 74; refine (HBE.out _).mono ?_; rintro e W4' ⟨rfl, h1⟩; obtain rfl := h1.symm)
  generalize hW4 : World.setCell (World.setCell W3 _ _) _ _ = W4
  have HR4 : Hid (RoundAt W4 B C M (n + 1) kv { s with votes := putT s.voters s.votes r k s.me id, round := r, step := behS k }) := Lib.hid (by rw [← hW4]; exact HR3.out.setTo HOK.out)
  have HG4 : Hid (W3.grownBy W4 (some B)) := Lib.hid (by rw [← hW4]; exact (grown_cell _ _ _ _).trans (grown_cell _ _ _ _))
  have HK4 : Hid (Blk W4 W.heap.size 24 (idC id)) := Lib.hid (HK3.out.grown HG4.out fun e => HL0.out (Option.some.inj e))
  have HRD := Lib.hid (HR4.out.below (Below.refl _ W4).drew)
  clear hW4 f4 c4 f3 c3
  refine wp_region_held_drew (S := fun W' => (Instr.loadAt 24 (.pointer (some ⟨W.heap.size, 0, none⟩))).run Try.prog W' = .ok (idv id) W') (by kernel_rfl) ?_ (fun hHeld => ?_)
  · exact run_loadVar_idv HID.out HK4.out.drew
  refine wpAnyH_take (i := 0) (oi := ⟨some 38, _, _, _, _, _⟩) (v := ?_) rfl (by kernel_rfl) (by kernel_rfl) (by kernel_rfl) (fun _ _ _ h => h) (Or.inl ⟨by rfl, ?_⟩) (by assumption) ?_
  rotate_left
  · intro w hSw; (try dsimp only at hSw); go_simp; try (with_reducible rfl)
  rotate_left 0
  try simp only [Act.put, List.setIfInBounds_toArray, List.set_cons_zero, List.set_cons_succ]
  refine wpAnyH_take (i := 1) (oi := ⟨some 39, _, _, _, _, _⟩) (v := ?_) rfl (by kernel_rfl) (by kernel_rfl) (by kernel_rfl) (fun _ _ _ h => h) (Or.inl ⟨by rfl, ?_⟩) (by assumption) ?_
  rotate_left
  · intro w hSw; (try dsimp only at hSw); go_simp; try (with_reducible rfl)
  rotate_left 0
  try simp only [Act.put, List.setIfInBounds_toArray, List.set_cons_zero, List.set_cons_succ]
  refine wpAnyH_take (i := 2) (oi := ⟨some 40, _, _, _, _, _⟩) (v := ?_) rfl (by kernel_rfl) (by kernel_rfl) (by kernel_rfl) (fun _ _ _ h => h) (Or.inl ⟨by rfl, ?_⟩) (by assumption) ?_
  rotate_left
  · intro w hSw; (try dsimp only at hSw); go_simp; try (with_reducible rfl)
  rotate_left 0
  try simp only [Act.put, List.setIfInBounds_toArray, List.set_cons_zero, List.set_cons_succ]
  refine wpAnyH_take (i := 3) (oi := ⟨some 41, _, _, _, _, _⟩) (v := undef) rfl (by kernel_rfl) (by kernel_rfl) (by kernel_rfl) (fun _ _ _ h => h) (Or.inr ⟨by rfl, rfl⟩) (by assumption) ?_
  try simp only [Act.put, List.setIfInBounds_toArray, List.set_cons_zero, List.set_cons_succ]
  refine wpAnyH_take (i := 4) (oi := ⟨some 42, _, _, _, _, _⟩) (v := undef) rfl (by kernel_rfl) (by kernel_rfl) (by kernel_rfl) (fun _ _ _ h => h) (Or.inr ⟨by rfl, rfl⟩) (by assumption) ?_
  try simp only [Act.put, List.setIfInBounds_toArray, List.set_cons_zero, List.set_cons_succ]
  refine wpAnyH_take (i := 5) (oi := ⟨some 43, _, _, _, _, _⟩) (v := undef) rfl (by kernel_rfl) (by kernel_rfl) (by kernel_rfl) (fun _ _ _ h => h) (Or.inr ⟨by rfl, rfl⟩) (by assumption) ?_
  try simp only [Act.put, List.setIfInBounds_toArray, List.set_cons_zero, List.set_cons_succ]
  refine wpAnyH_take (i := 6) (oi := ⟨some 44, _, _, _, _, _⟩) (v := ?_) rfl (by kernel_rfl) (by kernel_rfl) (by kernel_rfl) (fun _ _ _ h => h) (Or.inl ⟨by rfl, ?_⟩) (by assumption) ?_
  rotate_left
  · intro w hSw; (try dsimp only at hSw); go_simp; try (with_reducible rfl)
  rotate_left 0
  try simp only [Act.put, List.setIfInBounds_toArray, List.set_cons_zero, List.set_cons_succ]
  refine wpAnyH_done (by kernel_rfl) ?_ _
  go_wp2_with fail
  first | go_end0 | ((try simp only [Exit.inBlock, Exit.then]); refine bodyPost_ret (results_none rfl _ _ _) rfl ?_)
  exact ⟨⟨_, rfl⟩, HRD.out, (((Chg.ofBelow HB1.out).trans (Chg.ofM HG3.out)).trans (Chg.ofB HG4.out)).trans (Chg.ofBelow (Below.refl _ W4).drew)⟩
set_option maxRecDepth 100000 in
set_option maxHeartbeats 8000000 in
theorem res_nil {W : World} {B C M n : Nat} {kv : Value} {s : RdS} (h : RoundAt W B C M n kv s) (r : Int) (hr : 0 ≤ r ∧ r < 12) (id : List UInt8) (hid : IdOk id) (hn : n < maxLen) (hcd : putCode s.voters s.votes r 1 s.me id = 0) (hlt : ¬ r < s.round) (hnl : (id == nilId) = true) : Calls Try.prog 65 #[.pointer (some ⟨B, 0, none⟩), .int .i64 r, .int .i64 1, .agg (idC id)] W fun e w' => (∃ v, e = .returned v) ∧ RoundAt w' B C M (n + 1) kv ({ s with votes := putT s.voters s.votes r 1 s.me id, round := r, step := behS 1 }) ∧ Chg W w' B M kv kv := by
  obtain ⟨W1, hW⟩ : ∃ W1, W.alloc (.cells (idC id) 24) = W1 := ⟨_, rfl⟩
  have hb1 : Below W.heap.size W W1.drew := by rw [← hW]; exact ((Below.refl _ _).alloc (Nat.le_refl _) _).drew
  have k1 : Blk W1.drew W.heap.size 24 (idC id) := by rw [← hW]; exact (Blk.new _ _ _).drew
  have HB1 := Lib.hid hb1
  have HK1 := Lib.hid k1
  have HID := Lib.hid hid
  have HR1 := Lib.hid (h.below hb1)
  have HN := Lib.hid hn
  have HCD := Lib.hid hcd
  have HBE : Hid (∀ w, Calls Try.prog 74 #[.int .i64 1] w fun e w' => e = .returned (.int .i64 (behS 1)) ∧ w' = w) := Lib.hid fun w => behind_any 1 w
  have HL0 : Hid (W.heap.size ≠ B) := Lib.hid (by have := h.lt; omega)
  have HNM : Hid (some W.heap.size ≠ some M) := Lib.hid fun e => by have := h.cnt.ltM; injection e with e; omega
  have HWF : Hid (wfi r ∧ wfi 1 ∧ wfi s.me) := Lib.hid ⟨wfi_small (by omega) (by omega), by unfold wfi; decide, wfi_small (by have := h.ok.me; omega) (by have := h.ok.me; have := h.ok.voters; omega)⟩
  have HRB := Lib.hid hr
  have HOK : Hid (RdOk { s with votes := putT s.voters s.votes r 1 s.me id, round := r, step := behS 1 }) := Lib.hid ⟨h.ok.voters, h.ok.me, h.ok.height, ⟨by show -1 ≤ r; omega, hr.2⟩, ⟨(behS_le 1).1, (behS_le 1).2.1⟩, fun e => by have : r = -1 := e; omega, h.ok.fresh, h.ok.lockR, h.ok.lock, h.ok.bestR, h.ok.best, h.ok.known, by show s.bestR ≤ r + 1; have := h.ok.le; omega, h.ok.offers⟩
  have HLT : Hid (decide (r < s.round) = false) := Lib.hid (by rw [decide_eq_false hlt])
  clear hlt
  clear hid hb1 k1 h hcd hn
  go_enter Try.func65, Try.ntmps65
  go_upto_region 1 with fail
  clear hW
  refine wp_region_held_drew (S := fun W' => (W'.cell? ⟨B, 548, none⟩ = some (.pointer (some ⟨C, 0, none⟩)) ∧ W'.cell? ⟨B, 3, none⟩ = some (.int .i64 s.round) ∧ W'.cell? ⟨B, 1, none⟩ = some (.int .i64 s.me)) ∧ (Instr.loadAt 24 (.pointer (some ⟨W.heap.size, 0, none⟩))).run Try.prog W' = .ok (idv id) W') (by kernel_rfl) ?_ (fun hHeld => ?_)
  · exact ⟨⟨HR1.out.cell (i := 548) (by omega), HR1.out.cell (i := 3) (by omega), HR1.out.cell (i := 1) (by omega)⟩, run_loadVar_idv HID.out HK1.out⟩
  refine wpAnyH_take (i := 0) (oi := ⟨some 8, _, _, _, _, _⟩) (v := ?_) rfl (by kernel_rfl) (by kernel_rfl) (by kernel_rfl) (fun _ _ _ h => h) (Or.inl ⟨by rfl, ?_⟩) (by assumption) ?_
  rotate_left
  · intro w hSw; (try dsimp only at hSw); go_simp; try (with_reducible rfl)
  rotate_left 0
  try simp only [Act.put, List.setIfInBounds_toArray, List.set_cons_zero, List.set_cons_succ]
  refine wpAnyH_take (i := 1) (oi := ⟨some 9, _, _, _, _, _⟩) (v := ?_) rfl (by kernel_rfl) (by kernel_rfl) (by kernel_rfl) (fun _ _ _ h => h) (Or.inl ⟨by rfl, ?_⟩) (by assumption) ?_
  rotate_left
  · intro w hSw; (try dsimp only at hSw); go_simp; try (with_reducible rfl)
  rotate_left 0
  try simp only [Act.put, List.setIfInBounds_toArray, List.set_cons_zero, List.set_cons_succ]
  refine wpAnyH_take (i := 2) (oi := ⟨some 10, _, _, _, _, _⟩) (v := ?_) rfl (by kernel_rfl) (by kernel_rfl) (by kernel_rfl) (fun _ _ _ h => h) (Or.inl ⟨by rfl, ?_⟩) (by assumption) ?_
  rotate_left
  · intro w hSw; (try dsimp only at hSw); go_simp; try (with_reducible rfl)
  rotate_left 0
  try simp only [Act.put, List.setIfInBounds_toArray, List.set_cons_zero, List.set_cons_succ]
  refine wpAnyH_take (i := 3) (oi := ⟨some 11, _, _, _, _, _⟩) (v := (.pointer (some ⟨C, 0, none⟩))) rfl (by kernel_rfl) (by kernel_rfl) (by kernel_rfl) (fun _ _ _ h => h) (yields_one (by rfl) 28 _ rfl ⟨B, 548, none⟩ rfl _ _ (fun W' hS => hS.1.1) Try.underlying28 rfl) (by assumption) ?_
  try simp only [Act.put, List.setIfInBounds_toArray, List.set_cons_zero, List.set_cons_succ]
  refine wpAnyH_take (i := 4) (oi := ⟨some 12, _, _, _, _, _⟩) (v := ?_) rfl (by kernel_rfl) (by kernel_rfl) (by kernel_rfl) (fun _ _ _ h => h) (Or.inl ⟨by rfl, ?_⟩) (by assumption) ?_
  rotate_left
  · intro w hSw; (try dsimp only at hSw); go_simp; try (with_reducible rfl)
  rotate_left 0
  try simp only [Act.put, List.setIfInBounds_toArray, List.set_cons_zero, List.set_cons_succ]
  refine wpAnyH_take (i := 5) (oi := ⟨some 13, _, _, _, _, _⟩) (v := ?_) rfl (by kernel_rfl) (by kernel_rfl) (by kernel_rfl) (fun _ _ _ h => h) (Or.inl ⟨by rfl, ?_⟩) (by assumption) ?_
  rotate_left
  · intro w hSw; (try dsimp only at hSw); go_simp; try (with_reducible rfl)
  rotate_left 0
  try simp only [Act.put, List.setIfInBounds_toArray, List.set_cons_zero, List.set_cons_succ]
  refine wpAnyH_take (i := 6) (oi := ⟨some 14, _, _, _, _, _⟩) (v := ?_) rfl (by kernel_rfl) (by kernel_rfl) (by kernel_rfl) (fun _ _ _ h => h) (Or.inl ⟨by rfl, ?_⟩) (by assumption) ?_
  rotate_left
  · intro w hSw; (try dsimp only at hSw); go_simp; try (with_reducible rfl)
  rotate_left 0
  try simp only [Act.put, List.setIfInBounds_toArray, List.set_cons_zero, List.set_cons_succ]
  refine wpAnyH_take (i := 7) (oi := ⟨some 15, _, _, _, _, _⟩) (v := ?_) rfl (by kernel_rfl) (by kernel_rfl) (by kernel_rfl) (fun _ _ _ h => h) (Or.inl ⟨by rfl, ?_⟩) (by assumption) ?_
  rotate_left
  · intro w hSw; (try dsimp only at hSw); go_simp; try (with_reducible rfl)
  rotate_left 0
  try simp only [Act.put, List.setIfInBounds_toArray, List.set_cons_zero, List.set_cons_succ]
  refine wpAnyH_take (i := 8) (oi := ⟨some 16, _, _, _, _, _⟩) (v := ?_) rfl (by kernel_rfl) (by kernel_rfl) (by kernel_rfl) (fun _ _ _ h => h) (Or.inl ⟨by rfl, ?_⟩) (by assumption) ?_
  rotate_left
  · intro w hSw; (try dsimp only at hSw); go_simp; try (with_reducible rfl)
  rotate_left 0
  try simp only [Act.put, List.setIfInBounds_toArray, List.set_cons_zero, List.set_cons_succ]
  refine wpAnyH_take (i := 9) (oi := ⟨some 17, _, _, _, _, _⟩) (v := (.int .i64 s.me)) rfl (by kernel_rfl) (by kernel_rfl) (by kernel_rfl) (fun _ _ _ h => h) (yields_one (by rfl) 3 _ rfl ⟨B, 1, none⟩ rfl _ _ (fun W' hS => hS.1.2.2) Try.underlying3 rfl) (by assumption) ?_
  try simp only [Act.put, List.setIfInBounds_toArray, List.set_cons_zero, List.set_cons_succ]
  refine wpAnyH_take (i := 10) (oi := ⟨some 18, _, _, _, _, _⟩) (v := (idv id)) rfl (by kernel_rfl) (by kernel_rfl) (by kernel_rfl) (fun _ _ _ h => h) (yields_run (by rfl) 24 _ rfl (.pointer (some ⟨W.heap.size, 0, none⟩)) _ rfl (fun W' hS => hS.2)) (by assumption) ?_
  try simp only [Act.put, List.setIfInBounds_toArray, List.set_cons_zero, List.set_cons_succ]
  refine wpAnyH_ready (rs := [11]) (by kernel_rfl) (by simp) ?_
  refine (AllReadyH.cons (o := ⟨some 19, _, _, _, _, _⟩) rfl (fun K hK => ?_) AllReadyH.nil)
  (try rw [if_pos (by rfl)])
  go_simp
  refine (put_any HR1.out.cnt r 1 s.me id HID.out HWF.out.1 HWF.out.2.1 HWF.out.2.2 HN.out).mono ?_
  rintro e W3 ⟨rfl, hc3, hg3⟩
  have HR3 := Lib.hid (HR1.out.putM hc3 hg3)
  have HG3 := Lib.hid hg3
  have HK3 : Hid (Blk W3 W.heap.size 24 (idC id)) := Lib.hid (HK1.out.grown hg3 HNM.out)
  rw [HCD.out]
  clear hc3 hg3
  try dsimp only
  refine hK.out _ _ (⟨⟨HR3.out.cell (i := 548) (by omega), HR3.out.cell (i := 3) (by omega), HR3.out.cell (i := 1) (by omega)⟩, run_loadVar_idv HID.out HK3.out⟩) (fun hHeld => ?_)
  clear hK K
  try simp only [Act.put, List.setIfInBounds_toArray, List.set_cons_zero, List.set_cons_succ]
  refine wpAnyH_take (i := 12) (oi := ⟨some 20, _, _, _, _, _⟩) (v := ?_) rfl (by kernel_rfl) (by kernel_rfl) (by kernel_rfl) (fun _ _ _ h => h) (Or.inl ⟨by rfl, ?_⟩) (by assumption) ?_
  rotate_left
  · intro w hSw; (try dsimp only at hSw); go_simp; try (with_reducible rfl)
  rotate_left 0
  try simp only [Act.put, List.setIfInBounds_toArray, List.set_cons_zero, List.set_cons_succ]
  refine wpAnyH_take (i := 13) (oi := ⟨some 21, _, _, _, _, _⟩) (v := ?_) rfl (by kernel_rfl) (by kernel_rfl) (by kernel_rfl) (fun _ _ _ h => h) (Or.inl ⟨by rfl, ?_⟩) (by assumption) ?_
  rotate_left
  · intro w hSw; (try dsimp only at hSw); go_simp; try (with_reducible rfl)
  rotate_left 0
  try simp only [Act.put, List.setIfInBounds_toArray, List.set_cons_zero, List.set_cons_succ]
  refine wpAnyH_take (i := 14) (oi := ⟨some 22, _, _, _, _, _⟩) (v := ?_) rfl (by kernel_rfl) (by kernel_rfl) (by kernel_rfl) (fun _ _ _ h => h) (Or.inl ⟨by rfl, ?_⟩) (by assumption) ?_
  rotate_left
  · intro w hSw; (try dsimp only at hSw); go_simp; try (with_reducible rfl)
  rotate_left 0
  try simp only [Act.put, List.setIfInBounds_toArray, List.set_cons_zero, List.set_cons_succ]
  refine wpAnyH_take (i := 15) (oi := ⟨some 23, _, _, _, _, _⟩) (v := ?_) rfl (by kernel_rfl) (by kernel_rfl) (by kernel_rfl) (fun _ _ _ h => h) (Or.inl ⟨by rfl, ?_⟩) (by assumption) ?_
  rotate_left
  · intro w hSw; (try dsimp only at hSw); go_simp; try (with_reducible rfl)
  rotate_left 0
  try simp only [Act.put, List.setIfInBounds_toArray, List.set_cons_zero, List.set_cons_succ]
  refine wpAnyH_take (i := 16) (oi := ⟨some 24, _, _, _, _, _⟩) (v := ?_) rfl (by kernel_rfl) (by kernel_rfl) (by kernel_rfl) (fun _ _ _ h => h) (Or.inl ⟨by rfl, ?_⟩) (by assumption) ?_
  rotate_left
  · intro w hSw; (try dsimp only at hSw); go_simp; try (with_reducible rfl)
  rotate_left 0
  try simp only [Act.put, List.setIfInBounds_toArray, List.set_cons_zero, List.set_cons_succ]
  refine wpAnyH_take (i := 17) (oi := ⟨some 25, _, _, _, _, _⟩) (v := ?_) rfl (by kernel_rfl) (by kernel_rfl) (by kernel_rfl) (fun _ _ _ h => h) (Or.inl ⟨by rfl, ?_⟩) (by assumption) ?_
  rotate_left
  · intro w hSw; (try dsimp only at hSw); go_simp; try (with_reducible rfl)
  rotate_left 0
  try simp only [Act.put, List.setIfInBounds_toArray, List.set_cons_zero, List.set_cons_succ]
  refine wpAnyH_take (i := 18) (oi := ⟨some 26, _, _, _, _, _⟩) (v := (.int .i64 s.round)) rfl (by kernel_rfl) (by kernel_rfl) (by kernel_rfl) (fun _ _ _ h => h) (yields_one (by rfl) 3 _ rfl ⟨B, 3, none⟩ rfl _ _ (fun W' hS => hS.1.2.1) Try.underlying3 rfl) (by assumption) ?_
  try simp only [Act.put, List.setIfInBounds_toArray, List.set_cons_zero, List.set_cons_succ]
  refine wpAnyH_take (i := 19) (oi := ⟨some 27, _, _, _, _, _⟩) (v := (.bool false)) rfl (by kernel_rfl) (by kernel_rfl) (by kernel_rfl) (fun _ _ _ h => h) (yields_binR (by rfl) .lss 3 _ _ _ rfl (.int .i64 r) (.int .i64 s.round) rfl rfl _ (fun w => by rfl) (fun w => int_lss _ _ false HLT.out w)) (by assumption) ?_
  try simp only [Act.put, List.setIfInBounds_toArray, List.set_cons_zero, List.set_cons_succ]
  refine wpAnyH_take (i := 20) (oi := ⟨some 28, _, _, _, _, _⟩) (v := ?_) rfl (by kernel_rfl) (by kernel_rfl) (by kernel_rfl) (fun _ _ _ h => h) (Or.inl ⟨by rfl, ?_⟩) (by assumption) ?_
  rotate_left
  · intro w hSw; (try dsimp only at hSw); go_simp; try (with_reducible rfl)
  rotate_left 0
  try simp only [Act.put, List.setIfInBounds_toArray, List.set_cons_zero, List.set_cons_succ]
  refine wpAnyH_done (by kernel_rfl) ?_ _
  have f4 : W3.frozen? ⟨B, 4, none⟩ = false := HR3.out.blk.frozen 4
  have c4 : W3.cell? ⟨B, 4, none⟩ = some (.int .i64 s.step) := HR3.out.cell (i := 4) (by omega)
  have f3 : W3.frozen? ⟨B, 3, none⟩ = false := HR3.out.blk.frozen 3
  have c3 : W3.cell? ⟨B, 3, none⟩ = some (.int .i64 s.round) := HR3.out.cell (i := 3) (by omega)
  go_upto_region 3 with (go_at_call 74; refine (HBE.out _).mono ?_; rintro e W4' ⟨rfl, h1⟩; obtain rfl := h1.symm)
  generalize hW4 : World.setCell (World.setCell W3 _ _) _ _ = W4
  have HR4 : Hid (RoundAt W4 B C M (n + 1) kv { s with votes := putT s.voters s.votes r 1 s.me id, round := r, step := behS 1 }) := Lib.hid (by rw [← hW4]; exact HR3.out.setTo HOK.out)
  have HG4 : Hid (W3.grownBy W4 (some B)) := Lib.hid (by rw [← hW4]; exact (grown_cell _ _ _ _).trans (grown_cell _ _ _ _))
  have HK4 : Hid (Blk W4 W.heap.size 24 (idC id)) := Lib.hid (HK3.out.grown HG4.out fun e => HL0.out (Option.some.inj e))
  have HRD := Lib.hid (HR4.out.below (Below.refl _ W4).drew)
  clear hW4 f4 c4 f3 c3
  refine wp_region_held_drew (S := fun W' => (Instr.loadAt 24 (.pointer (some ⟨W.heap.size, 0, none⟩))).run Try.prog W' = .ok (idv id) W') (by kernel_rfl) ?_ (fun hHeld => ?_)
  · exact run_loadVar_idv HID.out HK4.out.drew
  refine wpAnyH_take (i := 0) (oi := ⟨some 38, _, _, _, _, _⟩) (v := ?_) rfl (by kernel_rfl) (by kernel_rfl) (by kernel_rfl) (fun _ _ _ h => h) (Or.inl ⟨by rfl, ?_⟩) (by assumption) ?_
  rotate_left
  · intro w hSw; (try dsimp only at hSw); go_simp; try (with_reducible rfl)
  rotate_left 0
  try simp only [Act.put, List.setIfInBounds_toArray, List.set_cons_zero, List.set_cons_succ]
  refine wpAnyH_take (i := 1) (oi := ⟨some 39, _, _, _, _, _⟩) (v := ?_) rfl (by kernel_rfl) (by kernel_rfl) (by kernel_rfl) (fun _ _ _ h => h) (Or.inl ⟨by rfl, ?_⟩) (by assumption) ?_
  rotate_left
  · intro w hSw; (try dsimp only at hSw); go_simp; try (with_reducible rfl)
  rotate_left 0
  try simp only [Act.put, List.setIfInBounds_toArray, List.set_cons_zero, List.set_cons_succ]
  refine wpAnyH_take (i := 2) (oi := ⟨some 40, _, _, _, _, _⟩) (v := ?_) rfl (by kernel_rfl) (by kernel_rfl) (by kernel_rfl) (fun _ _ _ h => h) (Or.inl ⟨by rfl, ?_⟩) (by assumption) ?_
  rotate_left
  · intro w hSw; (try dsimp only at hSw); go_simp; try (with_reducible rfl)
  rotate_left 0
  try simp only [Act.put, List.setIfInBounds_toArray, List.set_cons_zero, List.set_cons_succ]
  refine wpAnyH_take (i := 3) (oi := ⟨some 41, _, _, _, _, _⟩) (v := (idv id)) rfl (by kernel_rfl) (by kernel_rfl) (by kernel_rfl) (fun _ _ _ h => h) (yields_run (by rfl) 24 _ rfl (.pointer (some ⟨W.heap.size, 0, none⟩)) _ rfl (fun W' hS => hS)) (by assumption) ?_
  try simp only [Act.put, List.setIfInBounds_toArray, List.set_cons_zero, List.set_cons_succ]
  refine wpAnyH_ready (rs := [4]) (by kernel_rfl) (by simp) ?_
  refine (AllReadyH.cons (o := ⟨some 42, _, _, _, _, _⟩) rfl (fun K hK => ?_) AllReadyH.nil)
  (try rw [if_pos (by rfl)])
  go_simp
  refine (nil_any _).mono ?_
  rintro e W5 ⟨rfl, hbn⟩
  have HR5 := Lib.hid (HRD.out.below hbn)
  have HK5 : Hid (Blk W5 W.heap.size 24 (idC id)) := Lib.hid (HK4.out.drew.below hbn HK4.out.drew.lt)
  have HB5 := Lib.hid hbn
  clear hbn
  try dsimp only
  refine hK.out _ _ (run_loadVar_idv HID.out HK5.out) (fun hHeld => ?_)
  clear hK K
  try simp only [Act.put, List.setIfInBounds_toArray, List.set_cons_zero, List.set_cons_succ]
  refine wpAnyH_take (i := 5) (oi := ⟨some 43, _, _, _, _, _⟩) (v := (.bool (!(id == nilId)))) rfl (by kernel_rfl) (by kernel_rfl) (by kernel_rfl) (fun _ _ _ h => h) (yields_neI (by rfl) _ _ rfl id nilId rfl rfl HID.out nilId_ok) (by assumption) ?_
  try simp only [Act.put, List.setIfInBounds_toArray, List.set_cons_zero, List.set_cons_succ]
  refine wpAnyH_take (i := 6) (oi := ⟨some 44, _, _, _, _, _⟩) (v := ?_) rfl (by kernel_rfl) (by kernel_rfl) (by kernel_rfl) (fun _ _ _ h => h) (Or.inl ⟨by rfl, ?_⟩) (by assumption) ?_
  rotate_left
  · intro w hSw; (try dsimp only at hSw); go_simp; try (with_reducible rfl)
  rotate_left 0
  try simp only [Act.put, List.setIfInBounds_toArray, List.set_cons_zero, List.set_cons_succ]
  refine wpAnyH_done (by kernel_rfl) ?_ _
  rw [hnl]
  go_wp2_with fail
  first | go_end0 | ((try simp only [Exit.inBlock, Exit.then]); refine bodyPost_ret (results_none rfl _ _ _) rfl ?_)
  exact ⟨⟨_, rfl⟩, HR5.out, ((((Chg.ofBelow HB1.out).trans (Chg.ofM HG3.out)).trans (Chg.ofB HG4.out)).trans (Chg.ofBelow (Below.refl _ W4).drew)).trans (Chg.ofBelow HB5.out)⟩
set_option maxRecDepth 100000 in
set_option maxHeartbeats 8000000 in
theorem res_late {W : World} {B C M n : Nat} {kv : Value} {s : RdS} (h : RoundAt W B C M n kv s) (r : Int) (hr : 0 ≤ r ∧ r < 12) (id : List UInt8) (hid : IdOk id) (hn : n < maxLen) (hcd : putCode s.voters s.votes r 1 s.me id = 0) (hlt : ¬ r < s.round) (hnl : (id == nilId) = false) : Calls Try.prog 65 #[.pointer (some ⟨B, 0, none⟩), .int .i64 r, .int .i64 1, .agg (idC id)] W fun e w' => (∃ v, e = .returned v) ∧ RoundAt w' B C M (n + 1) kv (lockS (bestS { s with votes := putT s.voters s.votes r 1 s.me id, round := r, step := behS 1 } id)) ∧ Chg W w' B M kv kv := by
  obtain ⟨W1, hW⟩ : ∃ W1, W.alloc (.cells (idC id) 24) = W1 := ⟨_, rfl⟩
  have hb1 : Below W.heap.size W W1.drew := by rw [← hW]; exact ((Below.refl _ _).alloc (Nat.le_refl _) _).drew
  have k1 : Blk W1.drew W.heap.size 24 (idC id) := by rw [← hW]; exact (Blk.new _ _ _).drew
  have HB1 := Lib.hid hb1
  have HK1 := Lib.hid k1
  have HID := Lib.hid hid
  have HR1 := Lib.hid (h.below hb1)
  have HN := Lib.hid hn
  have HCD := Lib.hid hcd
  have HBE : Hid (∀ w, Calls Try.prog 74 #[.int .i64 1] w fun e w' => e = .returned (.int .i64 (behS 1)) ∧ w' = w) := Lib.hid fun w => behind_any 1 w
  have HL0 : Hid (W.heap.size ≠ B) := Lib.hid (by have := h.lt; omega)
  have HNM : Hid (some W.heap.size ≠ some M) := Lib.hid fun e => by have := h.cnt.ltM; injection e with e; omega
  have HWF : Hid (wfi r ∧ wfi 1 ∧ wfi s.me) := Lib.hid ⟨wfi_small (by omega) (by omega), by unfold wfi; decide, wfi_small (by have := h.ok.me; omega) (by have := h.ok.me; have := h.ok.voters; omega)⟩
  have HRB := Lib.hid hr
  have HOK : Hid (RdOk { s with votes := putT s.voters s.votes r 1 s.me id, round := r, step := behS 1 }) := Lib.hid ⟨h.ok.voters, h.ok.me, h.ok.height, ⟨by show -1 ≤ r; omega, hr.2⟩, ⟨(behS_le 1).1, (behS_le 1).2.1⟩, fun e => by have : r = -1 := e; omega, h.ok.fresh, h.ok.lockR, h.ok.lock, h.ok.bestR, h.ok.best, h.ok.known, by show s.bestR ≤ r + 1; have := h.ok.le; omega, h.ok.offers⟩
  have HLT : Hid (decide (r < s.round) = false) := Lib.hid (by rw [decide_eq_false hlt])
  clear hlt
  clear hid hb1 k1 h hcd hn
  go_enter Try.func65, Try.ntmps65
  go_upto_region 1 with fail
  clear hW
  refine wp_region_held_drew (S := fun W' => (W'.cell? ⟨B, 548, none⟩ = some (.pointer (some ⟨C, 0, none⟩)) ∧ W'.cell? ⟨B, 3, none⟩ = some (.int .i64 s.round) ∧ W'.cell? ⟨B, 1, none⟩ = some (.int .i64 s.me)) ∧ (Instr.loadAt 24 (.pointer (some ⟨W.heap.size, 0, none⟩))).run Try.prog W' = .ok (idv id) W') (by kernel_rfl) ?_ (fun hHeld => ?_)
  · exact ⟨⟨HR1.out.cell (i := 548) (by omega), HR1.out.cell (i := 3) (by omega), HR1.out.cell (i := 1) (by omega)⟩, run_loadVar_idv HID.out HK1.out⟩
  refine wpAnyH_take (i := 0) (oi := ⟨some 8, _, _, _, _, _⟩) (v := ?_) rfl (by kernel_rfl) (by kernel_rfl) (by kernel_rfl) (fun _ _ _ h => h) (Or.inl ⟨by rfl, ?_⟩) (by assumption) ?_
  rotate_left
  · intro w hSw; (try dsimp only at hSw); go_simp; try (with_reducible rfl)
  rotate_left 0
  try simp only [Act.put, List.setIfInBounds_toArray, List.set_cons_zero, List.set_cons_succ]
  refine wpAnyH_take (i := 1) (oi := ⟨some 9, _, _, _, _, _⟩) (v := ?_) rfl (by kernel_rfl) (by kernel_rfl) (by kernel_rfl) (fun _ _ _ h => h) (Or.inl ⟨by rfl, ?_⟩) (by assumption) ?_
  rotate_left
  · intro w hSw; (try dsimp only at hSw); go_simp; try (with_reducible rfl)
  rotate_left 0
  try simp only [Act.put, List.setIfInBounds_toArray, List.set_cons_zero, List.set_cons_succ]
  refine wpAnyH_take (i := 2) (oi := ⟨some 10, _, _, _, _, _⟩) (v := ?_) rfl (by kernel_rfl) (by kernel_rfl) (by kernel_rfl) (fun _ _ _ h => h) (Or.inl ⟨by rfl, ?_⟩) (by assumption) ?_
  rotate_left
  · intro w hSw; (try dsimp only at hSw); go_simp; try (with_reducible rfl)
  rotate_left 0
  try simp only [Act.put, List.setIfInBounds_toArray, List.set_cons_zero, List.set_cons_succ]
  refine wpAnyH_take (i := 3) (oi := ⟨some 11, _, _, _, _, _⟩) (v := (.pointer (some ⟨C, 0, none⟩))) rfl (by kernel_rfl) (by kernel_rfl) (by kernel_rfl) (fun _ _ _ h => h) (yields_one (by rfl) 28 _ rfl ⟨B, 548, none⟩ rfl _ _ (fun W' hS => hS.1.1) Try.underlying28 rfl) (by assumption) ?_
  try simp only [Act.put, List.setIfInBounds_toArray, List.set_cons_zero, List.set_cons_succ]
  refine wpAnyH_take (i := 4) (oi := ⟨some 12, _, _, _, _, _⟩) (v := ?_) rfl (by kernel_rfl) (by kernel_rfl) (by kernel_rfl) (fun _ _ _ h => h) (Or.inl ⟨by rfl, ?_⟩) (by assumption) ?_
  rotate_left
  · intro w hSw; (try dsimp only at hSw); go_simp; try (with_reducible rfl)
  rotate_left 0
  try simp only [Act.put, List.setIfInBounds_toArray, List.set_cons_zero, List.set_cons_succ]
  refine wpAnyH_take (i := 5) (oi := ⟨some 13, _, _, _, _, _⟩) (v := ?_) rfl (by kernel_rfl) (by kernel_rfl) (by kernel_rfl) (fun _ _ _ h => h) (Or.inl ⟨by rfl, ?_⟩) (by assumption) ?_
  rotate_left
  · intro w hSw; (try dsimp only at hSw); go_simp; try (with_reducible rfl)
  rotate_left 0
  try simp only [Act.put, List.setIfInBounds_toArray, List.set_cons_zero, List.set_cons_succ]
  refine wpAnyH_take (i := 6) (oi := ⟨some 14, _, _, _, _, _⟩) (v := ?_) rfl (by kernel_rfl) (by kernel_rfl) (by kernel_rfl) (fun _ _ _ h => h) (Or.inl ⟨by rfl, ?_⟩) (by assumption) ?_
  rotate_left
  · intro w hSw; (try dsimp only at hSw); go_simp; try (with_reducible rfl)
  rotate_left 0
  try simp only [Act.put, List.setIfInBounds_toArray, List.set_cons_zero, List.set_cons_succ]
  refine wpAnyH_take (i := 7) (oi := ⟨some 15, _, _, _, _, _⟩) (v := ?_) rfl (by kernel_rfl) (by kernel_rfl) (by kernel_rfl) (fun _ _ _ h => h) (Or.inl ⟨by rfl, ?_⟩) (by assumption) ?_
  rotate_left
  · intro w hSw; (try dsimp only at hSw); go_simp; try (with_reducible rfl)
  rotate_left 0
  try simp only [Act.put, List.setIfInBounds_toArray, List.set_cons_zero, List.set_cons_succ]
  refine wpAnyH_take (i := 8) (oi := ⟨some 16, _, _, _, _, _⟩) (v := ?_) rfl (by kernel_rfl) (by kernel_rfl) (by kernel_rfl) (fun _ _ _ h => h) (Or.inl ⟨by rfl, ?_⟩) (by assumption) ?_
  rotate_left
  · intro w hSw; (try dsimp only at hSw); go_simp; try (with_reducible rfl)
  rotate_left 0
  try simp only [Act.put, List.setIfInBounds_toArray, List.set_cons_zero, List.set_cons_succ]
  refine wpAnyH_take (i := 9) (oi := ⟨some 17, _, _, _, _, _⟩) (v := (.int .i64 s.me)) rfl (by kernel_rfl) (by kernel_rfl) (by kernel_rfl) (fun _ _ _ h => h) (yields_one (by rfl) 3 _ rfl ⟨B, 1, none⟩ rfl _ _ (fun W' hS => hS.1.2.2) Try.underlying3 rfl) (by assumption) ?_
  try simp only [Act.put, List.setIfInBounds_toArray, List.set_cons_zero, List.set_cons_succ]
  refine wpAnyH_take (i := 10) (oi := ⟨some 18, _, _, _, _, _⟩) (v := (idv id)) rfl (by kernel_rfl) (by kernel_rfl) (by kernel_rfl) (fun _ _ _ h => h) (yields_run (by rfl) 24 _ rfl (.pointer (some ⟨W.heap.size, 0, none⟩)) _ rfl (fun W' hS => hS.2)) (by assumption) ?_
  try simp only [Act.put, List.setIfInBounds_toArray, List.set_cons_zero, List.set_cons_succ]
  refine wpAnyH_ready (rs := [11]) (by kernel_rfl) (by simp) ?_
  refine (AllReadyH.cons (o := ⟨some 19, _, _, _, _, _⟩) rfl (fun K hK => ?_) AllReadyH.nil)
  (try rw [if_pos (by rfl)])
  go_simp
  refine (put_any HR1.out.cnt r 1 s.me id HID.out HWF.out.1 HWF.out.2.1 HWF.out.2.2 HN.out).mono ?_
  rintro e W3 ⟨rfl, hc3, hg3⟩
  have HR3 := Lib.hid (HR1.out.putM hc3 hg3)
  have HG3 := Lib.hid hg3
  have HK3 : Hid (Blk W3 W.heap.size 24 (idC id)) := Lib.hid (HK1.out.grown hg3 HNM.out)
  rw [HCD.out]
  clear hc3 hg3
  try dsimp only
  refine hK.out _ _ (⟨⟨HR3.out.cell (i := 548) (by omega), HR3.out.cell (i := 3) (by omega), HR3.out.cell (i := 1) (by omega)⟩, run_loadVar_idv HID.out HK3.out⟩) (fun hHeld => ?_)
  clear hK K
  try simp only [Act.put, List.setIfInBounds_toArray, List.set_cons_zero, List.set_cons_succ]
  refine wpAnyH_take (i := 12) (oi := ⟨some 20, _, _, _, _, _⟩) (v := ?_) rfl (by kernel_rfl) (by kernel_rfl) (by kernel_rfl) (fun _ _ _ h => h) (Or.inl ⟨by rfl, ?_⟩) (by assumption) ?_
  rotate_left
  · intro w hSw; (try dsimp only at hSw); go_simp; try (with_reducible rfl)
  rotate_left 0
  try simp only [Act.put, List.setIfInBounds_toArray, List.set_cons_zero, List.set_cons_succ]
  refine wpAnyH_take (i := 13) (oi := ⟨some 21, _, _, _, _, _⟩) (v := ?_) rfl (by kernel_rfl) (by kernel_rfl) (by kernel_rfl) (fun _ _ _ h => h) (Or.inl ⟨by rfl, ?_⟩) (by assumption) ?_
  rotate_left
  · intro w hSw; (try dsimp only at hSw); go_simp; try (with_reducible rfl)
  rotate_left 0
  try simp only [Act.put, List.setIfInBounds_toArray, List.set_cons_zero, List.set_cons_succ]
  refine wpAnyH_take (i := 14) (oi := ⟨some 22, _, _, _, _, _⟩) (v := ?_) rfl (by kernel_rfl) (by kernel_rfl) (by kernel_rfl) (fun _ _ _ h => h) (Or.inl ⟨by rfl, ?_⟩) (by assumption) ?_
  rotate_left
  · intro w hSw; (try dsimp only at hSw); go_simp; try (with_reducible rfl)
  rotate_left 0
  try simp only [Act.put, List.setIfInBounds_toArray, List.set_cons_zero, List.set_cons_succ]
  refine wpAnyH_take (i := 15) (oi := ⟨some 23, _, _, _, _, _⟩) (v := ?_) rfl (by kernel_rfl) (by kernel_rfl) (by kernel_rfl) (fun _ _ _ h => h) (Or.inl ⟨by rfl, ?_⟩) (by assumption) ?_
  rotate_left
  · intro w hSw; (try dsimp only at hSw); go_simp; try (with_reducible rfl)
  rotate_left 0
  try simp only [Act.put, List.setIfInBounds_toArray, List.set_cons_zero, List.set_cons_succ]
  refine wpAnyH_take (i := 16) (oi := ⟨some 24, _, _, _, _, _⟩) (v := ?_) rfl (by kernel_rfl) (by kernel_rfl) (by kernel_rfl) (fun _ _ _ h => h) (Or.inl ⟨by rfl, ?_⟩) (by assumption) ?_
  rotate_left
  · intro w hSw; (try dsimp only at hSw); go_simp; try (with_reducible rfl)
  rotate_left 0
  try simp only [Act.put, List.setIfInBounds_toArray, List.set_cons_zero, List.set_cons_succ]
  refine wpAnyH_take (i := 17) (oi := ⟨some 25, _, _, _, _, _⟩) (v := ?_) rfl (by kernel_rfl) (by kernel_rfl) (by kernel_rfl) (fun _ _ _ h => h) (Or.inl ⟨by rfl, ?_⟩) (by assumption) ?_
  rotate_left
  · intro w hSw; (try dsimp only at hSw); go_simp; try (with_reducible rfl)
  rotate_left 0
  try simp only [Act.put, List.setIfInBounds_toArray, List.set_cons_zero, List.set_cons_succ]
  refine wpAnyH_take (i := 18) (oi := ⟨some 26, _, _, _, _, _⟩) (v := (.int .i64 s.round)) rfl (by kernel_rfl) (by kernel_rfl) (by kernel_rfl) (fun _ _ _ h => h) (yields_one (by rfl) 3 _ rfl ⟨B, 3, none⟩ rfl _ _ (fun W' hS => hS.1.2.1) Try.underlying3 rfl) (by assumption) ?_
  try simp only [Act.put, List.setIfInBounds_toArray, List.set_cons_zero, List.set_cons_succ]
  refine wpAnyH_take (i := 19) (oi := ⟨some 27, _, _, _, _, _⟩) (v := (.bool false)) rfl (by kernel_rfl) (by kernel_rfl) (by kernel_rfl) (fun _ _ _ h => h) (yields_binR (by rfl) .lss 3 _ _ _ rfl (.int .i64 r) (.int .i64 s.round) rfl rfl _ (fun w => by rfl) (fun w => int_lss _ _ false HLT.out w)) (by assumption) ?_
  try simp only [Act.put, List.setIfInBounds_toArray, List.set_cons_zero, List.set_cons_succ]
  refine wpAnyH_take (i := 20) (oi := ⟨some 28, _, _, _, _, _⟩) (v := ?_) rfl (by kernel_rfl) (by kernel_rfl) (by kernel_rfl) (fun _ _ _ h => h) (Or.inl ⟨by rfl, ?_⟩) (by assumption) ?_
  rotate_left
  · intro w hSw; (try dsimp only at hSw); go_simp; try (with_reducible rfl)
  rotate_left 0
  try simp only [Act.put, List.setIfInBounds_toArray, List.set_cons_zero, List.set_cons_succ]
  refine wpAnyH_done (by kernel_rfl) ?_ _
  have f4 : W3.frozen? ⟨B, 4, none⟩ = false := HR3.out.blk.frozen 4
  have c4 : W3.cell? ⟨B, 4, none⟩ = some (.int .i64 s.step) := HR3.out.cell (i := 4) (by omega)
  have f3 : W3.frozen? ⟨B, 3, none⟩ = false := HR3.out.blk.frozen 3
  have c3 : W3.cell? ⟨B, 3, none⟩ = some (.int .i64 s.round) := HR3.out.cell (i := 3) (by omega)
  go_upto_region 3 with (go_at_call 74; refine (HBE.out _).mono ?_; rintro e W4' ⟨rfl, h1⟩; obtain rfl := h1.symm)
  generalize hW4 : World.setCell (World.setCell W3 _ _) _ _ = W4
  have HR4 : Hid (RoundAt W4 B C M (n + 1) kv { s with votes := putT s.voters s.votes r 1 s.me id, round := r, step := behS 1 }) := Lib.hid (by rw [← hW4]; exact HR3.out.setTo HOK.out)
  have HG4 : Hid (W3.grownBy W4 (some B)) := Lib.hid (by rw [← hW4]; exact (grown_cell _ _ _ _).trans (grown_cell _ _ _ _))
  have HK4 : Hid (Blk W4 W.heap.size 24 (idC id)) := Lib.hid (HK3.out.grown HG4.out fun e => HL0.out (Option.some.inj e))
  have HRD := Lib.hid (HR4.out.below (Below.refl _ W4).drew)
  clear hW4 f4 c4 f3 c3
  refine wp_region_held_drew (S := fun W' => (Instr.loadAt 24 (.pointer (some ⟨W.heap.size, 0, none⟩))).run Try.prog W' = .ok (idv id) W') (by kernel_rfl) ?_ (fun hHeld => ?_)
  · exact run_loadVar_idv HID.out HK4.out.drew
  refine wpAnyH_take (i := 0) (oi := ⟨some 38, _, _, _, _, _⟩) (v := ?_) rfl (by kernel_rfl) (by kernel_rfl) (by kernel_rfl) (fun _ _ _ h => h) (Or.inl ⟨by rfl, ?_⟩) (by assumption) ?_
  rotate_left
  · intro w hSw; (try dsimp only at hSw); go_simp; try (with_reducible rfl)
  rotate_left 0
  try simp only [Act.put, List.setIfInBounds_toArray, List.set_cons_zero, List.set_cons_succ]
  refine wpAnyH_take (i := 1) (oi := ⟨some 39, _, _, _, _, _⟩) (v := ?_) rfl (by kernel_rfl) (by kernel_rfl) (by kernel_rfl) (fun _ _ _ h => h) (Or.inl ⟨by rfl, ?_⟩) (by assumption) ?_
  rotate_left
  · intro w hSw; (try dsimp only at hSw); go_simp; try (with_reducible rfl)
  rotate_left 0
  try simp only [Act.put, List.setIfInBounds_toArray, List.set_cons_zero, List.set_cons_succ]
  refine wpAnyH_take (i := 2) (oi := ⟨some 40, _, _, _, _, _⟩) (v := ?_) rfl (by kernel_rfl) (by kernel_rfl) (by kernel_rfl) (fun _ _ _ h => h) (Or.inl ⟨by rfl, ?_⟩) (by assumption) ?_
  rotate_left
  · intro w hSw; (try dsimp only at hSw); go_simp; try (with_reducible rfl)
  rotate_left 0
  try simp only [Act.put, List.setIfInBounds_toArray, List.set_cons_zero, List.set_cons_succ]
  refine wpAnyH_take (i := 3) (oi := ⟨some 41, _, _, _, _, _⟩) (v := (idv id)) rfl (by kernel_rfl) (by kernel_rfl) (by kernel_rfl) (fun _ _ _ h => h) (yields_run (by rfl) 24 _ rfl (.pointer (some ⟨W.heap.size, 0, none⟩)) _ rfl (fun W' hS => hS)) (by assumption) ?_
  try simp only [Act.put, List.setIfInBounds_toArray, List.set_cons_zero, List.set_cons_succ]
  refine wpAnyH_ready (rs := [4]) (by kernel_rfl) (by simp) ?_
  refine (AllReadyH.cons (o := ⟨some 42, _, _, _, _, _⟩) rfl (fun K hK => ?_) AllReadyH.nil)
  (try rw [if_pos (by rfl)])
  go_simp
  refine (nil_any _).mono ?_
  rintro e W5 ⟨rfl, hbn⟩
  have HR5 := Lib.hid (HRD.out.below hbn)
  have HK5 : Hid (Blk W5 W.heap.size 24 (idC id)) := Lib.hid (HK4.out.drew.below hbn HK4.out.drew.lt)
  have HB5 := Lib.hid hbn
  clear hbn
  try dsimp only
  refine hK.out _ _ (run_loadVar_idv HID.out HK5.out) (fun hHeld => ?_)
  clear hK K
  try simp only [Act.put, List.setIfInBounds_toArray, List.set_cons_zero, List.set_cons_succ]
  refine wpAnyH_take (i := 5) (oi := ⟨some 43, _, _, _, _, _⟩) (v := (.bool (!(id == nilId)))) rfl (by kernel_rfl) (by kernel_rfl) (by kernel_rfl) (fun _ _ _ h => h) (yields_neI (by rfl) _ _ rfl id nilId rfl rfl HID.out nilId_ok) (by assumption) ?_
  try simp only [Act.put, List.setIfInBounds_toArray, List.set_cons_zero, List.set_cons_succ]
  refine wpAnyH_take (i := 6) (oi := ⟨some 44, _, _, _, _, _⟩) (v := ?_) rfl (by kernel_rfl) (by kernel_rfl) (by kernel_rfl) (fun _ _ _ h => h) (Or.inl ⟨by rfl, ?_⟩) (by assumption) ?_
  rotate_left
  · intro w hSw; (try dsimp only at hSw); go_simp; try (with_reducible rfl)
  rotate_left 0
  try simp only [Act.put, List.setIfInBounds_toArray, List.set_cons_zero, List.set_cons_succ]
  refine wpAnyH_done (by kernel_rfl) ?_ _
  rw [hnl]
  have HRX : Hid (RoundAt W5 B C M (n + 1) kv { s with votes := putT s.voters s.votes r 1 s.me id, round := r, step := behS 1 }) := HR5
  go_upto_region 4 with fail
  refine wp_region_list ?_
  refine wpList_yields (S := fun W' => W' = W5) (rfl) (v := ?_) (Or.inl ⟨by rfl, ?_⟩) (by rfl) ?_
  rotate_left
  · intro w hSw; (try dsimp only at hSw); go_simp; try (with_reducible rfl)
  rotate_left 0
  try simp only [Act.put, List.setIfInBounds_toArray, List.set_cons_zero, List.set_cons_succ]
  refine wpList_yields (S := fun W' => W' = W5) (rfl) (v := ?_) (Or.inl ⟨by rfl, ?_⟩) (by rfl) ?_
  rotate_left
  · intro w hSw; (try dsimp only at hSw); go_simp; try (with_reducible rfl)
  rotate_left 0
  try simp only [Act.put, List.setIfInBounds_toArray, List.set_cons_zero, List.set_cons_succ]
  refine wpList_yields (S := fun W' => W' = W5) (rfl) (v := (.int .i64 (r + 1))) (yields_binR (by rfl) .add 3 _ _ _ rfl (.int .i64 r) (.int .i64 1) rfl rfl _ (fun w => by rfl) (fun w => int_add1 r (by have := HRB.out; omega) w)) (by rfl) ?_
  try simp only [Act.put, List.setIfInBounds_toArray, List.set_cons_zero, List.set_cons_succ]
  refine wpList_yields (S := fun W' => W' = W5) (rfl) (v := (idv id)) (yields_run (by rfl) 24 _ rfl (.pointer (some ⟨W.heap.size, 0, none⟩)) _ rfl (fun W' hS => hS ▸ run_loadVar_idv HID.out HK5.out)) (by rfl) ?_
  try simp only [Act.put, List.setIfInBounds_toArray, List.set_cons_zero, List.set_cons_succ]
  refine wpList_yields (S := fun W' => W' = W5) (rfl) (v := (.agg (markC (r + 1) id).toArray)) (yields_build (by rfl) 125 _ rfl [(0, .int .i64 (r + 1)), (1, idv id)] rfl _ (mark_built _ id HID.out)) (by rfl) ?_
  try simp only [Act.put, List.setIfInBounds_toArray, List.set_cons_zero, List.set_cons_succ]
  go_upto_region 5 with (first
    | (guard_target = wpList _ _ _ (Oper.mk _ (.store 125 _ _) _ _ _ _ :: _) _ _; refine wpList_store_at rfl 125 _ _ rfl B 70 549 _ (markC (r + 1) id) (markC_one _ _) rfl rfl 132 HRX.out.blk (by rw [markC_length HID.out]; exact mark_info) (by rw [markC_length HID.out]; omega) ?_; intro W6 hw6; have HW6 := Lib.hid hw6; clear hw6))
  have HBK6 : Hid (Blk W6 B 132 (arr 549 (rdF (bestS { s with votes := putT s.voters s.votes r 1 s.me id, round := r, step := behS 1 } id) kv (.pointer (some ⟨C, 0, none⟩))))) := Lib.hid (by rw [HW6.out]; exact (HRX.out.blk.setRow _).same (rd_best { s with votes := putT s.voters s.votes r 1 s.me id, round := r, step := behS 1 } kv _ _ HID.out))
  have HG6 : Hid (W5.grownBy W6 (some B)) := Lib.hid (by rw [HW6.out]; exact grown_row _ _ _)
  have HR6 : Hid (RoundAt W6 B C M (n + 1) kv (bestS { s with votes := putT s.voters s.votes r 1 s.me id, round := r, step := behS 1 } id)) := Lib.hid (HRX.out.put HBK6.out HG6.out rfl rfl rfl (best_ok HRX.out.ok HID.out HRB.out.1))
  have HLM : Hid ((Instr.loadAt 125 (.pointer (some ⟨B, 70, none⟩))).run Try.prog W6 = .ok (.agg (markC (bestS { s with votes := putT s.voters s.votes r 1 s.me id, round := r, step := behS 1 } id).bestR (bestS { s with votes := putT s.voters s.votes r 1 s.me id, round := r, step := behS 1 } id).best).toArray) W6) := Lib.hid (load_mark HR6.out.blk (by omega) HR6.out.ok.best fun i hi => rdF_bestM _ _ _ hi)
  go_wp2_with (first
    | (guard_target = wpList _ _ _ (Oper.mk _ (.load 125 _) _ _ _ _ :: _) _ _; refine wpList_load_runS (by rfl) 125 _ rfl _ _ rfl HLM.out ?_)
    | (guard_target = wpList _ _ _ (Oper.mk _ (.store 125 _ _) _ _ _ _ :: _) _ _; refine wpList_store_at rfl 125 _ _ rfl B 37 549 _ (markC (bestS { s with votes := putT s.voters s.votes r 1 s.me id, round := r, step := behS 1 } id).bestR (bestS { s with votes := putT s.voters s.votes r 1 s.me id, round := r, step := behS 1 } id).best) (markC_one _ _) rfl rfl 132 HR6.out.blk (by rw [markC_length HR6.out.ok.best]; exact mark_info) (by rw [markC_length HR6.out.ok.best]; omega) ?_; intro W7 hw7; have HW7 := Lib.hid hw7; clear hw7))
  have HBK7 : Hid (Blk W7 B 132 (arr 549 (rdF (lockS (bestS { s with votes := putT s.voters s.votes r 1 s.me id, round := r, step := behS 1 } id)) kv (.pointer (some ⟨C, 0, none⟩))))) := Lib.hid (by rw [HW7.out]; exact (HR6.out.blk.setRow _).same (rd_lock (bestS { s with votes := putT s.voters s.votes r 1 s.me id, round := r, step := behS 1 } id) kv _ _ HID.out))
  have HG7 : Hid (W6.grownBy W7 (some B)) := Lib.hid (by rw [HW7.out]; exact grown_row _ _ _)
  have HR7 : Hid (RoundAt W7 B C M (n + 1) kv (lockS (bestS { s with votes := putT s.voters s.votes r 1 s.me id, round := r, step := behS 1 } id))) := Lib.hid (HR6.out.put HBK7.out HG7.out rfl rfl rfl (lock_ok HR6.out.ok))
  first | go_end0 | ((try simp only [Exit.inBlock, Exit.then]); refine bodyPost_ret (results_none rfl _ _ _) rfl ?_)
  exact ⟨⟨_, rfl⟩, HR7.out, ((((((Chg.ofBelow HB1.out).trans (Chg.ofM HG3.out)).trans (Chg.ofB HG4.out)).trans (Chg.ofBelow (Below.refl _ W4).drew)).trans (Chg.ofBelow HB5.out)).trans (Chg.ofB HG6.out)).trans (Chg.ofB HG7.out)⟩
theorem resume_any {W : World} {B C M n : Nat} {kv : Value} {s : RdS} (h : RoundAt W B C M n kv s) (r k : Int) (hr : 0 ≤ r ∧ r < 12) (hk : wfi k) (id : List UInt8) (hid : IdOk id) (hn : n < maxLen) : Calls Try.prog 65 #[.pointer (some ⟨B, 0, none⟩), .int .i64 r, .int .i64 k, .agg (idC id)] W fun e w' => (∃ v, e = .returned v) ∧ RoundAt w' B C M (n + 1) kv (resS s r k id) ∧ Chg W w' B M kv kv := by
  unfold resS
  dsimp only
  by_cases hcd : putCode s.voters s.votes r k s.me id = 0
  · by_cases hlt : r < s.round
    · rw [if_pos (.inr hlt)]
      exact res_old h r k hr hk id hid hn hcd hlt
    · rw [if_neg (fun e => e.elim (fun e => e hcd) (fun e => hlt e))]
      by_cases hk1 : k = 1
      · subst hk1
        cases hnl : id == nilId with
        | true =>
          rw [if_neg (fun e => e.2 (by simpa using hnl))]
          exact res_nil h r hr id hid hn hcd hlt hnl
        | false =>
          rw [if_pos ⟨rfl, by simpa using hnl⟩]
          exact res_late h r hr id hid hn hcd hlt hnl
      · rw [if_neg (fun e => hk1 e.1)]
        exact res_early h r k hr hk id hid hn hcd hlt (by rw [beq_eq_false_iff_ne]; exact hk1)
  · rw [if_pos (.inl hcd)]
    exact res_bad h r k hr hk id hid hn _ rfl (by rw [beq_eq_false_iff_ne]; exact hcd)
theorem act_id_ {W : World} {g t : Nat} {v : ActS} (h : Blk W g t (actA v)) (hv : ActOk v) : (Instr.loadAt 24 (.pointer (some ⟨g, 4, none⟩))).run Try.prog W = .ok (idv v.id) W :=
  run_load_id W _ _ hv.id fun j hj => by
    rw [show (⟨g, 4, none⟩ : Addr).add j = ⟨g, 4 + j, none⟩ by simp [Addr.add], h.cell]
    have hid := hv.id
    unfold IdOk at hid
    unfold actA actC
    rw [List.getElem?_toArray, show 4 + j = j + 1 + 1 + 1 + 1 by omega, List.getElem?_cons_succ, List.getElem?_cons_succ, List.getElem?_cons_succ, List.getElem?_cons_succ, List.getElem?_map, List.getElem?_eq_getElem (by omega), List.getD_eq_getElem?_getD, List.getElem?_eq_getElem (by omega)]
    rfl
set_option maxRecDepth 100000 in
set_option maxHeartbeats 8000000 in
theorem rec_far {W : World} {B C M n : Nat} {kv : Value} {s : RdS} (h : RoundAt W B C M n kv s) (x : ActS) (hx : ActOk x) (hn : n < maxLen) (hf : decide (0 ≤ x.round ∧ x.round < 12) = false) : Calls Try.prog 46 #[.pointer (some ⟨B, 0, none⟩), .agg (actA x)] W fun e w' => (∃ v, e = .returned v) ∧ RoundAt w' B C M (n + 1) kv (recS s x) ∧ Chg W w' B M kv kv := by
  obtain ⟨W1, hW⟩ : ∃ W1, W.alloc (.cells (actA x) 71) = W1 := ⟨_, rfl⟩
  have hb1 : Below W.heap.size W W1 := by rw [← hW]; exact (Below.refl _ _).alloc (Nat.le_refl _) _
  have k1 : Blk W1 W.heap.size 71 (actA x) := by rw [← hW]; exact Blk.new _ _ _
  have hR := h.below hb1
  have hC : Chg W W1 B M kv kv := Chg.ofBelow hb1
  have HX := Lib.hid hx
  have HN := Lib.hid hn
  have c0 : W1.cell? ⟨W.heap.size, 0, none⟩ = some (.int .i64 x.kind) := by rw [k1.cell]; rfl
  have c1 : W1.cell? ⟨W.heap.size, 1, none⟩ = some (.int .i64 x.round) := by rw [k1.cell]; rfl
  have c2 : W1.cell? ⟨W.heap.size, 2, none⟩ = some (.int .i64 x.num) := by rw [k1.cell]; rfl
  have c3 : W1.cell? ⟨W.heap.size, 3, none⟩ = some (.int .i64 x.valid) := by rw [k1.cell]; rfl
  have HIN : Hid (∀ w, Calls Try.prog 63 #[.int .i64 x.round] w fun e w' => e = .returned (.bool (decide (0 ≤ x.round ∧ x.round < 12))) ∧ w' = w) := Lib.hid fun w => inside_any x.round w
  have e : recS s x = s := by unfold recS; rw [if_pos (.inl (by simpa using hf))]
  rw [e]
  rw [hf] at HIN
  clear e hf
  clear h hb1 hn
  go_enter Try.func46, Try.ntmps46
  go_upto_region 1 with fail
  clear hW
  go_wp2_with (go_at_call 63; refine (HIN.out _).mono ?_; rintro e Wi ⟨rfl, h1⟩; obtain rfl := h1.symm)
  first | go_end0 | ((try simp only [Exit.inBlock, Exit.then]); refine bodyPost_ret (results_none rfl _ _ _) rfl ?_)
  exact ⟨⟨_, rfl⟩, hR.mono (by omega), hC⟩
set_option maxRecDepth 100000 in
set_option maxHeartbeats 8000000 in
theorem rec_zero {W : World} {B C M n : Nat} {kv : Value} {s : RdS} (h : RoundAt W B C M n kv s) (x : ActS) (hx : ActOk x) (hn : n < maxLen) (hf : decide (0 ≤ x.round ∧ x.round < 12) = true) (hz : x.id = zeroId) : Calls Try.prog 46 #[.pointer (some ⟨B, 0, none⟩), .agg (actA x)] W fun e w' => (∃ v, e = .returned v) ∧ RoundAt w' B C M (n + 1) kv (recS s x) ∧ Chg W w' B M kv kv := by
  obtain ⟨W1, hW⟩ : ∃ W1, W.alloc (.cells (actA x) 71) = W1 := ⟨_, rfl⟩
  have hb1 : Below W.heap.size W W1 := by rw [← hW]; exact (Below.refl _ _).alloc (Nat.le_refl _) _
  have k1 : Blk W1 W.heap.size 71 (actA x) := by rw [← hW]; exact Blk.new _ _ _
  have hR := h.below hb1
  have hC : Chg W W1 B M kv kv := Chg.ofBelow hb1
  have HX := Lib.hid hx
  have HN := Lib.hid hn
  have c0 : W1.cell? ⟨W.heap.size, 0, none⟩ = some (.int .i64 x.kind) := by rw [k1.cell]; rfl
  have c1 : W1.cell? ⟨W.heap.size, 1, none⟩ = some (.int .i64 x.round) := by rw [k1.cell]; rfl
  have c2 : W1.cell? ⟨W.heap.size, 2, none⟩ = some (.int .i64 x.num) := by rw [k1.cell]; rfl
  have c3 : W1.cell? ⟨W.heap.size, 3, none⟩ = some (.int .i64 x.valid) := by rw [k1.cell]; rfl
  have HIN : Hid (∀ w, Calls Try.prog 63 #[.int .i64 x.round] w fun e w' => e = .returned (.bool (decide (0 ≤ x.round ∧ x.round < 12))) ∧ w' = w) := Lib.hid fun w => inside_any x.round w
  have e : recS s x = s := by unfold recS; rw [if_pos (.inr hz)]
  rw [e]
  rw [hf] at HIN
  have heq := fun W => eql_idv hx.id zeroId_ok W
  have hgu := fun W a b => guard_idv a b x.id zeroId W
  have hzb : (x.id == zeroId) = true := by rw [hz]; exact beq_self_eq_true _
  clear e hf hz
  clear h hb1 hn
  go_enter Try.func46, Try.ntmps46
  go_upto_region 1 with fail
  clear hW
  go_upto_region 2 with (first
    | (go_at_call 63; refine (HIN.out _).mono ?_; rintro e Wi ⟨rfl, h1⟩; obtain rfl := h1.symm)
    | (guard_target = wpList _ _ _ (Oper.mk _ (.load 24 _) _ _ _ _ :: _) _ _; refine wpList_load_runS (by rfl) 24 _ rfl _ _ rfl (act_id_ k1 HX.out) ?_)
    | (guard_target = wpList _ _ _ (Oper.mk _ (.build 24 _) _ _ _ _ :: _) _ _; refine wpList_yields (S := fun _ => True) trivial (v := idv zeroId) (yields_build (by rfl) 24 _ rfl [] rfl _ zero_built') (by rfl) ?_))
  try rw [hzb]
  go_wp2_with fail
  first | go_end0 | ((try simp only [Exit.inBlock, Exit.then]); refine bodyPost_ret (results_none rfl _ _ _) rfl ?_)
  exact ⟨⟨_, rfl⟩, hR.mono (by omega), hC⟩
set_option maxRecDepth 100000 in
set_option maxHeartbeats 8000000 in
theorem rec_lay {W : World} {B C M n : Nat} {kv : Value} {s : RdS} (h : RoundAt W B C M n kv s) (x : ActS) (hx : ActOk x) (hn : n < maxLen) (hf : decide (0 ≤ x.round ∧ x.round < 12) = true) (hz : x.id ≠ zeroId) (h1 : x.kind = 1) : Calls Try.prog 46 #[.pointer (some ⟨B, 0, none⟩), .agg (actA x)] W fun e w' => (∃ v, e = .returned v) ∧ RoundAt w' B C M (n + 1) kv (recS s x) ∧ Chg W w' B M kv kv := by
  obtain ⟨W1, hW⟩ : ∃ W1, W.alloc (.cells (actA x) 71) = W1 := ⟨_, rfl⟩
  have hb1 : Below W.heap.size W W1 := by rw [← hW]; exact (Below.refl _ _).alloc (Nat.le_refl _) _
  have k1 : Blk W1 W.heap.size 71 (actA x) := by rw [← hW]; exact Blk.new _ _ _
  have hR := h.below hb1
  have hC : Chg W W1 B M kv kv := Chg.ofBelow hb1
  have HX := Lib.hid hx
  have HN := Lib.hid hn
  have c0 : W1.cell? ⟨W.heap.size, 0, none⟩ = some (.int .i64 x.kind) := by rw [k1.cell]; rfl
  have c1 : W1.cell? ⟨W.heap.size, 1, none⟩ = some (.int .i64 x.round) := by rw [k1.cell]; rfl
  have c2 : W1.cell? ⟨W.heap.size, 2, none⟩ = some (.int .i64 x.num) := by rw [k1.cell]; rfl
  have c3 : W1.cell? ⟨W.heap.size, 3, none⟩ = some (.int .i64 x.valid) := by rw [k1.cell]; rfl
  have HIN : Hid (∀ w, Calls Try.prog 63 #[.int .i64 x.round] w fun e w' => e = .returned (.bool (decide (0 ≤ x.round ∧ x.round < 12))) ∧ w' = w) := Lib.hid fun w => inside_any x.round w
  have hin : 0 ≤ x.round ∧ x.round < 12 := by simpa using hf
  rw [hf] at HIN
  have e0 : recS s x = if x.kind = 1 then layS s x.round.toNat x.valid x.id else if x.kind = 2 then resS s x.round x.num x.id else s := by unfold recS; rw [if_neg (fun e => e.elim (fun e => e hin) (fun e => hz e))]
  rw [e0]
  have heq := fun W => eql_idv hx.id zeroId_ok W
  have hgu := fun W a b => guard_idv a b x.id zeroId W
  have hzb : (x.id == zeroId) = false := by rw [beq_eq_false_iff_ne]; exact hz
  rw [if_pos h1]
  obtain ⟨rn, hrn⟩ : ∃ rn : Nat, x.round = (rn : Int) := ⟨x.round.toNat, by omega⟩
  have HRN : Hid (rn < 12) := Lib.hid (by omega)
  rw [hrn] at c1 HIN ⊢
  rw [Int.toNat_natCast]
  rw [h1] at c0
  clear hrn hin h1
  clear hf hz e0
  clear h hb1 hn
  go_enter Try.func46, Try.ntmps46
  go_upto_region 1 with fail
  clear hW
  go_upto_region 2 with (first
    | (go_at_call 63; refine (HIN.out _).mono ?_; rintro e Wi ⟨rfl, h1⟩; obtain rfl := h1.symm)
    | (guard_target = wpList _ _ _ (Oper.mk _ (.load 24 _) _ _ _ _ :: _) _ _; refine wpList_load_runS (by rfl) 24 _ rfl _ _ rfl (act_id_ k1 HX.out) ?_)
    | (guard_target = wpList _ _ _ (Oper.mk _ (.build 24 _) _ _ _ _ :: _) _ _; refine wpList_yields (S := fun _ => True) trivial (v := idv zeroId) (yields_build (by rfl) 24 _ rfl [] rfl _ zero_built') (by rfl) ?_))
  try rw [hzb]
  clear heq hgu
  go_wp2_with (first
    | (guard_target = wpList _ _ _ (Oper.mk _ (.load 24 _) _ _ _ _ :: _) _ _; refine wpList_load_runS (by rfl) 24 _ rfl _ _ rfl (act_id_ k1 HX.out) ?_)
    | (go_at_call 64; refine (lay_any hR rn HRN.out x.valid x.id HX.out.id).mono ?_; rintro e Wl ⟨⟨vl, rfl⟩, hrl, hgl⟩; replace hC := hC.trans (Chg.ofB hgl); clear hR hgl; have hR := hrl; clear hrl))
  first | go_end0 | ((try simp only [Exit.inBlock, Exit.then]); refine bodyPost_ret (results_none rfl _ _ _) rfl ?_)
  exact ⟨⟨_, rfl⟩, hR.mono (by omega), hC⟩
set_option maxRecDepth 100000 in
set_option maxHeartbeats 8000000 in
theorem rec_vote {W : World} {B C M n : Nat} {kv : Value} {s : RdS} (h : RoundAt W B C M n kv s) (x : ActS) (hx : ActOk x) (hn : n < maxLen) (hf : decide (0 ≤ x.round ∧ x.round < 12) = true) (hz : x.id ≠ zeroId) (h1 : x.kind = 2) : Calls Try.prog 46 #[.pointer (some ⟨B, 0, none⟩), .agg (actA x)] W fun e w' => (∃ v, e = .returned v) ∧ RoundAt w' B C M (n + 1) kv (recS s x) ∧ Chg W w' B M kv kv := by
  obtain ⟨W1, hW⟩ : ∃ W1, W.alloc (.cells (actA x) 71) = W1 := ⟨_, rfl⟩
  have hb1 : Below W.heap.size W W1 := by rw [← hW]; exact (Below.refl _ _).alloc (Nat.le_refl _) _
  have k1 : Blk W1 W.heap.size 71 (actA x) := by rw [← hW]; exact Blk.new _ _ _
  have hR := h.below hb1
  have hC : Chg W W1 B M kv kv := Chg.ofBelow hb1
  have HX := Lib.hid hx
  have HN := Lib.hid hn
  have c0 : W1.cell? ⟨W.heap.size, 0, none⟩ = some (.int .i64 x.kind) := by rw [k1.cell]; rfl
  have c1 : W1.cell? ⟨W.heap.size, 1, none⟩ = some (.int .i64 x.round) := by rw [k1.cell]; rfl
  have c2 : W1.cell? ⟨W.heap.size, 2, none⟩ = some (.int .i64 x.num) := by rw [k1.cell]; rfl
  have c3 : W1.cell? ⟨W.heap.size, 3, none⟩ = some (.int .i64 x.valid) := by rw [k1.cell]; rfl
  have HIN : Hid (∀ w, Calls Try.prog 63 #[.int .i64 x.round] w fun e w' => e = .returned (.bool (decide (0 ≤ x.round ∧ x.round < 12))) ∧ w' = w) := Lib.hid fun w => inside_any x.round w
  have hin : 0 ≤ x.round ∧ x.round < 12 := by simpa using hf
  rw [hf] at HIN
  have e0 : recS s x = if x.kind = 1 then layS s x.round.toNat x.valid x.id else if x.kind = 2 then resS s x.round x.num x.id else s := by unfold recS; rw [if_neg (fun e => e.elim (fun e => e hin) (fun e => hz e))]
  rw [e0]
  have heq := fun W => eql_idv hx.id zeroId_ok W
  have hgu := fun W a b => guard_idv a b x.id zeroId W
  have hzb : (x.id == zeroId) = false := by rw [beq_eq_false_iff_ne]; exact hz
  rw [if_neg (by omega), if_pos h1]
  have HIB := Lib.hid hin
  rw [h1] at c0
  clear hin h1
  clear hf hz e0
  clear h hb1 hn
  go_enter Try.func46, Try.ntmps46
  go_upto_region 1 with fail
  clear hW
  go_upto_region 2 with (first
    | (go_at_call 63; refine (HIN.out _).mono ?_; rintro e Wi ⟨rfl, h1⟩; obtain rfl := h1.symm)
    | (guard_target = wpList _ _ _ (Oper.mk _ (.load 24 _) _ _ _ _ :: _) _ _; refine wpList_load_runS (by rfl) 24 _ rfl _ _ rfl (act_id_ k1 HX.out) ?_)
    | (guard_target = wpList _ _ _ (Oper.mk _ (.build 24 _) _ _ _ _ :: _) _ _; refine wpList_yields (S := fun _ => True) trivial (v := idv zeroId) (yields_build (by rfl) 24 _ rfl [] rfl _ zero_built') (by rfl) ?_))
  try rw [hzb]
  clear heq hgu
  go_wp2_with (first
    | (guard_target = wpList _ _ _ (Oper.mk _ (.load 24 _) _ _ _ _ :: _) _ _; refine wpList_load_runS (by rfl) 24 _ rfl _ _ rfl (act_id_ k1 HX.out) ?_)
    | (go_at_call 65; refine (resume_any hR x.round x.num HIB.out HX.out.num x.id HX.out.id HN.out).mono ?_; rintro e Wl ⟨⟨vl, rfl⟩, hrl, hgl⟩))
  first | go_end0 | ((try simp only [Exit.inBlock, Exit.then]); refine bodyPost_ret (results_none rfl _ _ _) rfl ?_)
  exact ⟨⟨_, rfl⟩, hrl, hC.trans hgl⟩
set_option maxRecDepth 100000 in
set_option maxHeartbeats 8000000 in
theorem rec_none {W : World} {B C M n : Nat} {kv : Value} {s : RdS} (h : RoundAt W B C M n kv s) (x : ActS) (hx : ActOk x) (hn : n < maxLen) (hf : decide (0 ≤ x.round ∧ x.round < 12) = true) (hz : x.id ≠ zeroId) (h1 : x.kind ≠ 1) (h2 : x.kind ≠ 2) : Calls Try.prog 46 #[.pointer (some ⟨B, 0, none⟩), .agg (actA x)] W fun e w' => (∃ v, e = .returned v) ∧ RoundAt w' B C M (n + 1) kv (recS s x) ∧ Chg W w' B M kv kv := by
  obtain ⟨W1, hW⟩ : ∃ W1, W.alloc (.cells (actA x) 71) = W1 := ⟨_, rfl⟩
  have hb1 : Below W.heap.size W W1 := by rw [← hW]; exact (Below.refl _ _).alloc (Nat.le_refl _) _
  have k1 : Blk W1 W.heap.size 71 (actA x) := by rw [← hW]; exact Blk.new _ _ _
  have hR := h.below hb1
  have hC : Chg W W1 B M kv kv := Chg.ofBelow hb1
  have HX := Lib.hid hx
  have HN := Lib.hid hn
  have c0 : W1.cell? ⟨W.heap.size, 0, none⟩ = some (.int .i64 x.kind) := by rw [k1.cell]; rfl
  have c1 : W1.cell? ⟨W.heap.size, 1, none⟩ = some (.int .i64 x.round) := by rw [k1.cell]; rfl
  have c2 : W1.cell? ⟨W.heap.size, 2, none⟩ = some (.int .i64 x.num) := by rw [k1.cell]; rfl
  have c3 : W1.cell? ⟨W.heap.size, 3, none⟩ = some (.int .i64 x.valid) := by rw [k1.cell]; rfl
  have HIN : Hid (∀ w, Calls Try.prog 63 #[.int .i64 x.round] w fun e w' => e = .returned (.bool (decide (0 ≤ x.round ∧ x.round < 12))) ∧ w' = w) := Lib.hid fun w => inside_any x.round w
  have hin : 0 ≤ x.round ∧ x.round < 12 := by simpa using hf
  rw [hf] at HIN
  have e0 : recS s x = if x.kind = 1 then layS s x.round.toNat x.valid x.id else if x.kind = 2 then resS s x.round x.num x.id else s := by unfold recS; rw [if_neg (fun e => e.elim (fun e => e hin) (fun e => hz e))]
  rw [e0]
  have heq := fun W => eql_idv hx.id zeroId_ok W
  have hgu := fun W a b => guard_idv a b x.id zeroId W
  have hzb : (x.id == zeroId) = false := by rw [beq_eq_false_iff_ne]; exact hz
  rw [if_neg h1, if_neg h2]
  have h1b : (x.kind == 1) = false := by rw [beq_eq_false_iff_ne]; exact h1
  have h2b : (x.kind == 2) = false := by rw [beq_eq_false_iff_ne]; exact h2
  clear hin h1 h2
  clear hf hz e0
  clear h hb1 hn
  go_enter Try.func46, Try.ntmps46
  go_upto_region 1 with fail
  clear hW
  go_upto_region 2 with (first
    | (go_at_call 63; refine (HIN.out _).mono ?_; rintro e Wi ⟨rfl, h1⟩; obtain rfl := h1.symm)
    | (guard_target = wpList _ _ _ (Oper.mk _ (.load 24 _) _ _ _ _ :: _) _ _; refine wpList_load_runS (by rfl) 24 _ rfl _ _ rfl (act_id_ k1 HX.out) ?_)
    | (guard_target = wpList _ _ _ (Oper.mk _ (.build 24 _) _ _ _ _ :: _) _ _; refine wpList_yields (S := fun _ => True) trivial (v := idv zeroId) (yields_build (by rfl) 24 _ rfl [] rfl _ zero_built') (by rfl) ?_))
  try rw [hzb]
  clear heq hgu
  go_wp2_with fail
  first | go_end0 | ((try simp only [Exit.inBlock, Exit.then]); refine bodyPost_ret (results_none rfl _ _ _) rfl ?_)
  exact ⟨⟨_, rfl⟩, hR.mono (by omega), hC⟩
theorem recall_any {W : World} {B C M n : Nat} {kv : Value} {s : RdS} (h : RoundAt W B C M n kv s) (x : ActS) (hx : ActOk x) (hn : n < maxLen) : Calls Try.prog 46 #[.pointer (some ⟨B, 0, none⟩), .agg (actA x)] W fun e w' => (∃ v, e = .returned v) ∧ RoundAt w' B C M (n + 1) kv (recS s x) ∧ Chg W w' B M kv kv := by
  cases hf : decide (0 ≤ x.round ∧ x.round < 12) with
  | false => exact rec_far h x hx hn hf
  | true =>
    by_cases hz : x.id = zeroId
    · exact rec_zero h x hx hn hf hz
    · by_cases h1 : x.kind = 1
      · exact rec_lay h x hx hn hf hz h1
      · by_cases h2 : x.kind = 2
        · exact rec_vote h x hx hn hf hz h2
        · exact rec_none h x hx hn hf hz h1 h2
end Go.Proofs.Ytclhfokflagopaa
