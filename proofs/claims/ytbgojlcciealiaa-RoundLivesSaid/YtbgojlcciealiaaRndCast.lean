/-
  One's way to agreement: one's own vote. No condition.
-/
import Derived.Test.YtbgojlcciealiaaRndPro
namespace Go.Proofs.Ytbgojlcciealiaa
open Go Go.RowKit Go.Maps

theorem RoundAt.neKM {W : World} {B C M n : Nat} {kv : Value} {s : RdS} (h : RoundAt W B C M n kv s) : kv.ownBlock ≠ some M := fun e => by
  obtain ⟨T, ⟨D, ⟨es, c, h2, _⟩, _⟩, _⟩ := h.cnt.votes
  rcases h.own.2 with ⟨rfl, _⟩ | ⟨g, cap, cur, rfl, _, hg, _⟩
  · cases e
  · injection e with e
    rw [show g = M from e] at hg
    rw [hg] at h2
    cases h2
/-- Another count of votes. -/
theorem RoundAt.putM {W W' : World} {B C M n m : Nat} {kv : Value} {s : RdS} {V : Vt} (h : RoundAt W B C M n kv s) (hc : CountAt W' C M m s.voters V) (hg : W.grownBy W' (some M)) : RoundAt W' B C M m kv { s with votes := V } :=
  ⟨h.blk.grown hg fun e => h.neM (Option.some.inj e), hc, h.own.kept hg (.inr h.neKM), ⟨h.ok.voters, h.ok.me, h.ok.height, h.ok.round, h.ok.step, h.ok.early, h.ok.fresh, h.ok.lockR, h.ok.lock, h.ok.bestR, h.ok.best, h.ok.known, h.ok.le, h.ok.offers⟩⟩
/-- The step behind a vote of a kind. -/
def behS (k : Int) : Int := if k = 0 then 1 else 2
theorem behS_le (k : Int) : 0 ≤ behS k ∧ behS k ≤ 3 ∧ behS k ≠ 3 := by
  unfold behS
  split <;> omega
/-- One's own vote. -/
def castS (s : RdS) (k : Int) (id : List UInt8) : RdS := { s with step := behS k, votes := putT s.voters s.votes s.round k s.me id }
def castA (s : RdS) (k : Int) (id : List UInt8) : List ActS := if putCode s.voters s.votes s.round k s.me id = 0 then [⟨2, s.round, k, 0, id⟩] else []
theorem step_ok {s : RdS} (h : RdOk s) {n : Int} (hn : 0 ≤ n ∧ n ≤ 3) (he : s.round ≠ -1) : RdOk { s with step := n } :=
  ⟨h.voters, h.me, h.height, h.round, hn, fun e => absurd e he, h.fresh, h.lockR, h.lock, h.bestR, h.best, h.known, h.le, h.offers⟩
/-- A step stored. -/
theorem RoundAt.setStep {W : World} {B C M n : Nat} {kv : Value} {s : RdS} (h : RoundAt W B C M n kv s) {k : Int} (hok : RdOk { s with step := k }) : RoundAt (W.setCell ⟨B, 4, none⟩ (.int .i64 k)) B C M n kv { s with step := k } :=
  h.put ((setCell_arr h.blk (by omega) _).same (rd_step s kv _ k)) (grown_cell _ _ _ _) rfl rfl rfl hok
set_option maxRecDepth 100000 in
theorem act_fill2 (r k : Int) (f : Nat → UInt8) : Try.prog.built 71 [(0, .int .i64 2), (1, .int .i64 r), (2, .int .i64 k), (4, .agg (idC ((List.range 32).map f)))] = some (actA ⟨2, r, k, 0, (List.range 32).map f⟩) := by kernel_rfl
theorem act_built2 (r k : Int) (id : List UInt8) (h : IdOk id) : Try.prog.built 71 [(0, .int .i64 2), (1, .int .i64 r), (2, .int .i64 k), (4, idv id)] = some (actA ⟨2, r, k, 0, id⟩) := by
  rw [id_range h]
  exact act_fill2 r k _
theorem run_build_act (v : ActS) (hv : ActOk v) (w : World) : (Instr.buildSlice 68 1 #[(0, .agg (actA v))]).run Try.prog w = .ok (.slice (some ⟨w.heap.size, 0, none⟩) 1 1) (w.alloc (.cells (actA v) 71)) := by
  have hf := act_built v hv
  unfold Program.builtSlice at hf
  cases hie : Try.prog.info? 71 with
  | none => simp [hie] at hf
  | some ie =>
    simp only [hie] at hf
    cases hz : ie.zero with
    | none => simp [hz] at hf
    | some z =>
      simp only [hz] at hf
      by_cases hc : 1 * ie.size > 2 ^ 24 ∨ 1 * ie.size = 0
      · rw [if_pos hc] at hf
        cases hf
      · rw [if_neg hc] at hf
        exact run_buildSlice w 68 71 1 #[(0, .agg (actA v))] _ ie z Try.underlying68 hie hz (fun h' => hc (Or.inl h')) (fun h' => hc (Or.inr h')) hf
theorem oper_build_act {o : Oper} {a : Act} {w : World} {K : Act → World → Prop} {Q : Exit → Act → World → Prop} (x : Operand) (ho : o.op = .buildSlice 68 1 #[(0, x)]) (v : ActS) (hv : ActOk v) (hx : a.eval x = .agg (actA v))
    (h : K (a.put o.dst (.slice (some ⟨w.heap.size, 0, none⟩) 1 1)) (w.alloc (.cells (actA v) 71))) : Oper.wp Try.prog o a w K Q := by
  have hr := run_build_act v hv w
  have hp : (#[(0, x)] : Array (Nat × Operand)).map (fun (i, x) => (i, a.eval x)) = #[(0, .agg (actA v))] := by simp [hx]
  unfold Oper.wp execOp
  simp only [ho, hp, Sem.run_bind, hr, Result.andThen_ok]
  exact h
set_option maxRecDepth 100000 in
set_option maxHeartbeats 8000000 in
theorem cast_bad {W : World} {B C M n : Nat} {kv : Value} {s : RdS} (h : RoundAt W B C M n kv s) (k : Int) (hk : k = 0 ∨ k = 1) (id : List UInt8) (hid : IdOk id) (hr : 0 ≤ s.round) (hn : n < maxLen) (cd : Int) (hcd : putCode s.voters s.votes s.round k s.me id = cd) (hc0 : ¬ cd = 0) : Calls Try.prog 62 #[.pointer (some ⟨B, 0, none⟩), .int .i64 k, .agg (idC id)] W fun e w' => e = .returned (.slice none 0 0) ∧ RoundAt w' B C M (n + 1) kv (castS s k id) ∧ Chg W w' B M kv kv := by
  have HID := Lib.hid hid
  obtain ⟨W1, hW⟩ : ∃ W1, W.alloc (.cells (idC id) 24) = W1 := ⟨_, rfl⟩
  have hb1 : Below W.heap.size W W1 := by rw [← hW]; exact (Below.refl _ _).alloc (Nat.le_refl _) _
  have k1 : Blk W1 W.heap.size 24 (idC id) := by rw [← hW]; exact Blk.new _ _ _
  have HB1 := Lib.hid hb1
  have HK1 := Lib.hid k1
  have HR1 := Lib.hid (h.below hb1)
  have HB : Hid (∀ w, Calls Try.prog 74 #[.int .i64 k] w fun e w' => e = .returned (.int .i64 (behS k)) ∧ w' = w) := Lib.hid fun w => behind_any k w
  have f4 : W1.frozen? ⟨B, 4, none⟩ = false := HR1.out.blk.frozen 4
  have c4 : W1.cell? ⟨B, 4, none⟩ = some (.int .i64 s.step) := HR1.out.cell (i := 4) (by omega)
  have HN := Lib.hid hn
  have HCD := Lib.hid hcd
  have HL0 : Hid (W.heap.size ≠ B) := Lib.hid (by have := h.lt; omega)
  have HNM : Hid (some W.heap.size ≠ some M) := Lib.hid fun e => by have := h.cnt.ltM; injection e with e; omega
  have HWF : Hid (wfi s.round ∧ wfi k ∧ wfi s.me) := Lib.hid ⟨wfi_small (by omega) (by have := h.ok.round; omega), wfi_small (by omega) (by omega), wfi_small (by have := h.ok.me; omega) (by have := h.ok.me; have := h.ok.voters; omega)⟩
  have HOK : Hid (RdOk { s with step := behS k }) := Lib.hid (step_ok h.ok ⟨(behS_le k).1, (behS_le k).2.1⟩ (by omega))
  have HRB : Hid (0 ≤ s.round ∧ s.round < 12) := Lib.hid ⟨hr, h.ok.round.2⟩
  have HKB := Lib.hid hk
  clear hid hb1 k1 h hk hcd hr
  go_enter Try.func62, Try.ntmps62
  go_upto_region 1 with fail
  clear hW
  go_upto_region 2 with (first
    | (go_at_call 74; refine (HB.out _).mono ?_; rintro e W2 ⟨rfl, h1⟩; obtain rfl := h1.symm))
  generalize hW2 : World.setCell W1 _ _ = W2
  have HR2 : Hid (RoundAt W2 B C M n kv { s with step := behS k }) := Lib.hid (by rw [← hW2]; exact HR1.out.setStep HOK.out)
  have HG2 : Hid (W1.grownBy W2 (some B)) := Lib.hid (by rw [← hW2]; exact grown_cell _ _ _ _)
  have HK2 : Hid (Blk W2 W.heap.size 24 (idC id)) := Lib.hid (HK1.out.grown HG2.out fun e => HL0.out (Option.some.inj e))
  have HRD : Hid (RoundAt W2.drew B C M n kv { s with step := behS k }) := Lib.hid (HR2.out.below (Below.refl _ W2).drew)
  clear hW2 f4 c4
  have hcb : (cd == 0) = false := by rw [beq_eq_false_iff_ne]; exact hc0
  refine wp_region_held_drew (S := fun W' => (W'.cell? ⟨B, 548, none⟩ = some (.pointer (some ⟨C, 0, none⟩)) ∧ W'.cell? ⟨B, 3, none⟩ = some (.int .i64 s.round) ∧ W'.cell? ⟨B, 1, none⟩ = some (.int .i64 s.me)) ∧ (Instr.loadAt 24 (.pointer (some ⟨W.heap.size, 0, none⟩))).run Try.prog W' = .ok (idv id) W') (by kernel_rfl) ?_ (fun hHeld => ?_)
  · exact ⟨⟨HRD.out.cell (i := 548) (by omega), HRD.out.cell (i := 3) (by omega), HRD.out.cell (i := 1) (by omega)⟩, run_loadVar_idv HID.out HK2.out.drew⟩
  refine tkH (v := ?_) 0 ⟨some 12, _, _, _, _, _⟩ rfl (Or.inl ⟨by rfl, ?_⟩) ?_
  rotate_left
  · intro w hSw; (try dsimp only at hSw); go_simp; try (with_reducible rfl)
  try simp only [Act.put, nz1, nz2, nz3]
  refine tkH (v := ?_) 1 ⟨some 13, _, _, _, _, _⟩ rfl (Or.inl ⟨by rfl, ?_⟩) ?_
  rotate_left
  · intro w hSw; (try dsimp only at hSw); go_simp; try (with_reducible rfl)
  try simp only [Act.put, nz1, nz2, nz3]
  refine tkH (v := ?_) 2 ⟨some 14, _, _, _, _, _⟩ rfl (Or.inl ⟨by rfl, ?_⟩) ?_
  rotate_left
  · intro w hSw; (try dsimp only at hSw); go_simp; try (with_reducible rfl)
  try simp only [Act.put, nz1, nz2, nz3]
  refine tkH (v := (.pointer (some ⟨C, 0, none⟩))) 3 ⟨some 15, _, _, _, _, _⟩ rfl (yields_one (by rfl) 28 _ rfl ⟨B, 548, none⟩ rfl _ _ (fun W' hS => hS.1.1) Try.underlying28 rfl) ?_
  try simp only [Act.put, nz1, nz2, nz3]
  refine tkH (v := ?_) 4 ⟨some 16, _, _, _, _, _⟩ rfl (Or.inl ⟨by rfl, ?_⟩) ?_
  rotate_left
  · intro w hSw; (try dsimp only at hSw); go_simp; try (with_reducible rfl)
  try simp only [Act.put, nz1, nz2, nz3]
  refine tkH (v := ?_) 5 ⟨some 17, _, _, _, _, _⟩ rfl (Or.inl ⟨by rfl, ?_⟩) ?_
  rotate_left
  · intro w hSw; (try dsimp only at hSw); go_simp; try (with_reducible rfl)
  try simp only [Act.put, nz1, nz2, nz3]
  refine tkH (v := ?_) 6 ⟨some 18, _, _, _, _, _⟩ rfl (Or.inl ⟨by rfl, ?_⟩) ?_
  rotate_left
  · intro w hSw; (try dsimp only at hSw); go_simp; try (with_reducible rfl)
  try simp only [Act.put, nz1, nz2, nz3]
  refine tkH (v := (.int .i64 s.round)) 7 ⟨some 19, _, _, _, _, _⟩ rfl (yields_one (by rfl) 3 _ rfl ⟨B, 3, none⟩ rfl _ _ (fun W' hS => hS.1.2.1) Try.underlying3 rfl) ?_
  try simp only [Act.put, nz1, nz2, nz3]
  refine tkH (v := ?_) 8 ⟨some 20, _, _, _, _, _⟩ rfl (Or.inl ⟨by rfl, ?_⟩) ?_
  rotate_left
  · intro w hSw; (try dsimp only at hSw); go_simp; try (with_reducible rfl)
  try simp only [Act.put, nz1, nz2, nz3]
  refine tkH (v := ?_) 9 ⟨some 21, _, _, _, _, _⟩ rfl (Or.inl ⟨by rfl, ?_⟩) ?_
  rotate_left
  · intro w hSw; (try dsimp only at hSw); go_simp; try (with_reducible rfl)
  try simp only [Act.put, nz1, nz2, nz3]
  refine tkH (v := ?_) 10 ⟨some 22, _, _, _, _, _⟩ rfl (Or.inl ⟨by rfl, ?_⟩) ?_
  rotate_left
  · intro w hSw; (try dsimp only at hSw); go_simp; try (with_reducible rfl)
  try simp only [Act.put, nz1, nz2, nz3]
  refine tkH (v := ?_) 11 ⟨some 23, _, _, _, _, _⟩ rfl (Or.inl ⟨by rfl, ?_⟩) ?_
  rotate_left
  · intro w hSw; (try dsimp only at hSw); go_simp; try (with_reducible rfl)
  try simp only [Act.put, nz1, nz2, nz3]
  refine tkH (v := (.int .i64 s.me)) 12 ⟨some 24, _, _, _, _, _⟩ rfl (yields_one (by rfl) 3 _ rfl ⟨B, 1, none⟩ rfl _ _ (fun W' hS => hS.1.2.2) Try.underlying3 rfl) ?_
  try simp only [Act.put, nz1, nz2, nz3]
  refine tkH (v := (idv id)) 13 ⟨some 25, _, _, _, _, _⟩ rfl (yields_run (by rfl) 24 _ rfl (.pointer (some ⟨W.heap.size, 0, none⟩)) _ rfl (fun W' hS => hS.2)) ?_
  try simp only [Act.put, nz1, nz2, nz3]
  refine wpAnyH_ready (rs := [14]) (by kernel_rfl) (by simp) ?_
  refine (AllReadyH.cons (o := ⟨some 26, _, _, _, _, _⟩) rfl (fun K hK => ?_) AllReadyH.nil)
  (try rw [if_pos (by rfl)])
  go_simp
  refine (put_any HRD.out.cnt s.round k s.me id HID.out HWF.out.1 HWF.out.2.1 HWF.out.2.2 HN.out).mono ?_
  rintro e W3 ⟨rfl, hc3, hg3⟩
  have HR3 := Lib.hid (HRD.out.putM hc3 hg3)
  have HG3 := Lib.hid hg3
  have HK3 : Hid (Blk W3 W.heap.size 24 (idC id)) := Lib.hid (HK2.out.drew.grown hg3 HNM.out)
  rw [HCD.out]
  clear hc3 hg3
  try dsimp only
  refine hK.out _ _ (⟨⟨HR3.out.cell (i := 548) (by omega), HR3.out.cell (i := 3) (by omega), HR3.out.cell (i := 1) (by omega)⟩, run_loadVar_idv HID.out HK3.out⟩) (fun hHeld => ?_)
  clear hK K
  try simp only [Act.put, nz1, nz2, nz3]
  refine tkH (v := ?_) 15 ⟨some 27, _, _, _, _, _⟩ rfl (Or.inl ⟨by rfl, ?_⟩) ?_
  rotate_left
  · intro w hSw; (try dsimp only at hSw); go_simp; try (with_reducible rfl)
  try simp only [Act.put, nz1, nz2, nz3]
  refine wpAnyH_done (by kernel_rfl) ?_ _
  go_wp2_with fail
  go_ret
  exact ⟨rfl, HR3.out, ((Chg.ofBelow HB1.out).trans (Chg.ofB HG2.out)).trans ((Chg.ofBelow (Below.refl _ W2).drew).trans (Chg.ofM HG3.out))⟩
set_option maxRecDepth 100000 in
set_option maxHeartbeats 8000000 in
theorem cast_good {W : World} {B C M n : Nat} {kv : Value} {s : RdS} (h : RoundAt W B C M n kv s) (k : Int) (hk : k = 0 ∨ k = 1) (id : List UInt8) (hid : IdOk id) (hr : 0 ≤ s.round) (hn : n < maxLen) (hcd : putCode s.voters s.votes s.round k s.me id = 0) : Calls Try.prog 62 #[.pointer (some ⟨B, 0, none⟩), .int .i64 k, .agg (idC id)] W fun e w' => (∃ v, e = .returned v ∧ ActsR W w' v [⟨2, s.round, k, 0, id⟩]) ∧ RoundAt w' B C M (n + 1) kv (castS s k id) ∧ Chg W w' B M kv kv := by
  have HID := Lib.hid hid
  obtain ⟨W1, hW⟩ : ∃ W1, W.alloc (.cells (idC id) 24) = W1 := ⟨_, rfl⟩
  have hb1 : Below W.heap.size W W1 := by rw [← hW]; exact (Below.refl _ _).alloc (Nat.le_refl _) _
  have k1 : Blk W1 W.heap.size 24 (idC id) := by rw [← hW]; exact Blk.new _ _ _
  have HB1 := Lib.hid hb1
  have HK1 := Lib.hid k1
  have HR1 := Lib.hid (h.below hb1)
  have HB : Hid (∀ w, Calls Try.prog 74 #[.int .i64 k] w fun e w' => e = .returned (.int .i64 (behS k)) ∧ w' = w) := Lib.hid fun w => behind_any k w
  have f4 : W1.frozen? ⟨B, 4, none⟩ = false := HR1.out.blk.frozen 4
  have c4 : W1.cell? ⟨B, 4, none⟩ = some (.int .i64 s.step) := HR1.out.cell (i := 4) (by omega)
  have HN := Lib.hid hn
  have HCD := Lib.hid hcd
  have HL0 : Hid (W.heap.size ≠ B) := Lib.hid (by have := h.lt; omega)
  have HNM : Hid (some W.heap.size ≠ some M) := Lib.hid fun e => by have := h.cnt.ltM; injection e with e; omega
  have HWF : Hid (wfi s.round ∧ wfi k ∧ wfi s.me) := Lib.hid ⟨wfi_small (by omega) (by have := h.ok.round; omega), wfi_small (by omega) (by omega), wfi_small (by have := h.ok.me; omega) (by have := h.ok.me; have := h.ok.voters; omega)⟩
  have HOK : Hid (RdOk { s with step := behS k }) := Lib.hid (step_ok h.ok ⟨(behS_le k).1, (behS_le k).2.1⟩ (by omega))
  have HRB : Hid (0 ≤ s.round ∧ s.round < 12) := Lib.hid ⟨hr, h.ok.round.2⟩
  have HKB := Lib.hid hk
  clear hid hb1 k1 h hk hcd hr
  go_enter Try.func62, Try.ntmps62
  go_upto_region 1 with fail
  clear hW
  go_upto_region 2 with (first
    | (go_at_call 74; refine (HB.out _).mono ?_; rintro e W2 ⟨rfl, h1⟩; obtain rfl := h1.symm))
  generalize hW2 : World.setCell W1 _ _ = W2
  have HR2 : Hid (RoundAt W2 B C M n kv { s with step := behS k }) := Lib.hid (by rw [← hW2]; exact HR1.out.setStep HOK.out)
  have HG2 : Hid (W1.grownBy W2 (some B)) := Lib.hid (by rw [← hW2]; exact grown_cell _ _ _ _)
  have HK2 : Hid (Blk W2 W.heap.size 24 (idC id)) := Lib.hid (HK1.out.grown HG2.out fun e => HL0.out (Option.some.inj e))
  have HRD : Hid (RoundAt W2.drew B C M n kv { s with step := behS k }) := Lib.hid (HR2.out.below (Below.refl _ W2).drew)
  clear hW2 f4 c4
  refine wp_region_held_drew (S := fun W' => (W'.cell? ⟨B, 548, none⟩ = some (.pointer (some ⟨C, 0, none⟩)) ∧ W'.cell? ⟨B, 3, none⟩ = some (.int .i64 s.round) ∧ W'.cell? ⟨B, 1, none⟩ = some (.int .i64 s.me)) ∧ (Instr.loadAt 24 (.pointer (some ⟨W.heap.size, 0, none⟩))).run Try.prog W' = .ok (idv id) W') (by kernel_rfl) ?_ (fun hHeld => ?_)
  · exact ⟨⟨HRD.out.cell (i := 548) (by omega), HRD.out.cell (i := 3) (by omega), HRD.out.cell (i := 1) (by omega)⟩, run_loadVar_idv HID.out HK2.out.drew⟩
  refine tkH (v := ?_) 0 ⟨some 12, _, _, _, _, _⟩ rfl (Or.inl ⟨by rfl, ?_⟩) ?_
  rotate_left
  · intro w hSw; (try dsimp only at hSw); go_simp; try (with_reducible rfl)
  try simp only [Act.put, nz1, nz2, nz3]
  refine tkH (v := ?_) 1 ⟨some 13, _, _, _, _, _⟩ rfl (Or.inl ⟨by rfl, ?_⟩) ?_
  rotate_left
  · intro w hSw; (try dsimp only at hSw); go_simp; try (with_reducible rfl)
  try simp only [Act.put, nz1, nz2, nz3]
  refine tkH (v := ?_) 2 ⟨some 14, _, _, _, _, _⟩ rfl (Or.inl ⟨by rfl, ?_⟩) ?_
  rotate_left
  · intro w hSw; (try dsimp only at hSw); go_simp; try (with_reducible rfl)
  try simp only [Act.put, nz1, nz2, nz3]
  refine tkH (v := (.pointer (some ⟨C, 0, none⟩))) 3 ⟨some 15, _, _, _, _, _⟩ rfl (yields_one (by rfl) 28 _ rfl ⟨B, 548, none⟩ rfl _ _ (fun W' hS => hS.1.1) Try.underlying28 rfl) ?_
  try simp only [Act.put, nz1, nz2, nz3]
  refine tkH (v := ?_) 4 ⟨some 16, _, _, _, _, _⟩ rfl (Or.inl ⟨by rfl, ?_⟩) ?_
  rotate_left
  · intro w hSw; (try dsimp only at hSw); go_simp; try (with_reducible rfl)
  try simp only [Act.put, nz1, nz2, nz3]
  refine tkH (v := ?_) 5 ⟨some 17, _, _, _, _, _⟩ rfl (Or.inl ⟨by rfl, ?_⟩) ?_
  rotate_left
  · intro w hSw; (try dsimp only at hSw); go_simp; try (with_reducible rfl)
  try simp only [Act.put, nz1, nz2, nz3]
  refine tkH (v := ?_) 6 ⟨some 18, _, _, _, _, _⟩ rfl (Or.inl ⟨by rfl, ?_⟩) ?_
  rotate_left
  · intro w hSw; (try dsimp only at hSw); go_simp; try (with_reducible rfl)
  try simp only [Act.put, nz1, nz2, nz3]
  refine tkH (v := (.int .i64 s.round)) 7 ⟨some 19, _, _, _, _, _⟩ rfl (yields_one (by rfl) 3 _ rfl ⟨B, 3, none⟩ rfl _ _ (fun W' hS => hS.1.2.1) Try.underlying3 rfl) ?_
  try simp only [Act.put, nz1, nz2, nz3]
  refine tkH (v := ?_) 8 ⟨some 20, _, _, _, _, _⟩ rfl (Or.inl ⟨by rfl, ?_⟩) ?_
  rotate_left
  · intro w hSw; (try dsimp only at hSw); go_simp; try (with_reducible rfl)
  try simp only [Act.put, nz1, nz2, nz3]
  refine tkH (v := ?_) 9 ⟨some 21, _, _, _, _, _⟩ rfl (Or.inl ⟨by rfl, ?_⟩) ?_
  rotate_left
  · intro w hSw; (try dsimp only at hSw); go_simp; try (with_reducible rfl)
  try simp only [Act.put, nz1, nz2, nz3]
  refine tkH (v := ?_) 10 ⟨some 22, _, _, _, _, _⟩ rfl (Or.inl ⟨by rfl, ?_⟩) ?_
  rotate_left
  · intro w hSw; (try dsimp only at hSw); go_simp; try (with_reducible rfl)
  try simp only [Act.put, nz1, nz2, nz3]
  refine tkH (v := ?_) 11 ⟨some 23, _, _, _, _, _⟩ rfl (Or.inl ⟨by rfl, ?_⟩) ?_
  rotate_left
  · intro w hSw; (try dsimp only at hSw); go_simp; try (with_reducible rfl)
  try simp only [Act.put, nz1, nz2, nz3]
  refine tkH (v := (.int .i64 s.me)) 12 ⟨some 24, _, _, _, _, _⟩ rfl (yields_one (by rfl) 3 _ rfl ⟨B, 1, none⟩ rfl _ _ (fun W' hS => hS.1.2.2) Try.underlying3 rfl) ?_
  try simp only [Act.put, nz1, nz2, nz3]
  refine tkH (v := (idv id)) 13 ⟨some 25, _, _, _, _, _⟩ rfl (yields_run (by rfl) 24 _ rfl (.pointer (some ⟨W.heap.size, 0, none⟩)) _ rfl (fun W' hS => hS.2)) ?_
  try simp only [Act.put, nz1, nz2, nz3]
  refine wpAnyH_ready (rs := [14]) (by kernel_rfl) (by simp) ?_
  refine (AllReadyH.cons (o := ⟨some 26, _, _, _, _, _⟩) rfl (fun K hK => ?_) AllReadyH.nil)
  (try rw [if_pos (by rfl)])
  go_simp
  refine (put_any HRD.out.cnt s.round k s.me id HID.out HWF.out.1 HWF.out.2.1 HWF.out.2.2 HN.out).mono ?_
  rintro e W3 ⟨rfl, hc3, hg3⟩
  have HR3 := Lib.hid (HRD.out.putM hc3 hg3)
  have HG3 := Lib.hid hg3
  have HK3 : Hid (Blk W3 W.heap.size 24 (idC id)) := Lib.hid (HK2.out.drew.grown hg3 HNM.out)
  rw [HCD.out]
  clear hc3 hg3
  try dsimp only
  refine hK.out _ _ (⟨⟨HR3.out.cell (i := 548) (by omega), HR3.out.cell (i := 3) (by omega), HR3.out.cell (i := 1) (by omega)⟩, run_loadVar_idv HID.out HK3.out⟩) (fun hHeld => ?_)
  clear hK K
  try simp only [Act.put, nz1, nz2, nz3]
  refine tkH (v := ?_) 15 ⟨some 27, _, _, _, _, _⟩ rfl (Or.inl ⟨by rfl, ?_⟩) ?_
  rotate_left
  · intro w hSw; (try dsimp only at hSw); go_simp; try (with_reducible rfl)
  try simp only [Act.put, nz1, nz2, nz3]
  refine wpAnyH_done (by kernel_rfl) ?_ _
  have HACT : Hid (ActOk ⟨2, s.round, k, 0, id⟩) := Lib.hid (actOk_mk HID.out (by omega) (by have := HRB.out; omega) (by have := HKB.out; omega) (by omega))
  go_upto_region 4 with fail
  refine wp_region_held_drew (S := fun W' => W'.cell? ⟨B, 3, none⟩ = some (.int .i64 s.round) ∧ (Instr.loadAt 24 (.pointer (some ⟨W.heap.size, 0, none⟩))).run Try.prog W' = .ok (idv id) W') (by kernel_rfl) ?_ (fun hHeld => ?_)
  · exact ⟨(HR3.out.below (Below.refl _ W3).drew).cell (i := 3) (by omega), run_loadVar_idv HID.out HK3.out.drew⟩
  refine tkH (v := ?_) 0 ⟨some 28, _, _, _, _, _⟩ rfl (Or.inl ⟨by rfl, ?_⟩) ?_
  rotate_left
  · intro w hSw; (try dsimp only at hSw); go_simp; try (with_reducible rfl)
  try simp only [Act.put, nz1, nz2, nz3]
  refine tkH (v := ?_) 1 ⟨some 29, _, _, _, _, _⟩ rfl (Or.inl ⟨by rfl, ?_⟩) ?_
  rotate_left
  · intro w hSw; (try dsimp only at hSw); go_simp; try (with_reducible rfl)
  try simp only [Act.put, nz1, nz2, nz3]
  refine tkH (v := ?_) 2 ⟨some 30, _, _, _, _, _⟩ rfl (Or.inl ⟨by rfl, ?_⟩) ?_
  rotate_left
  · intro w hSw; (try dsimp only at hSw); go_simp; try (with_reducible rfl)
  try simp only [Act.put, nz1, nz2, nz3]
  refine tkH (v := (.int .i64 s.round)) 3 ⟨some 31, _, _, _, _, _⟩ rfl (yields_one (by rfl) 3 _ rfl ⟨B, 3, none⟩ rfl _ _ (fun W' hS => hS.1) Try.underlying3 rfl) ?_
  try simp only [Act.put, nz1, nz2, nz3]
  refine tkH (v := ?_) 4 ⟨some 32, _, _, _, _, _⟩ rfl (Or.inl ⟨by rfl, ?_⟩) ?_
  rotate_left
  · intro w hSw; (try dsimp only at hSw); go_simp; try (with_reducible rfl)
  try simp only [Act.put, nz1, nz2, nz3]
  refine tkH (v := (idv id)) 5 ⟨some 33, _, _, _, _, _⟩ rfl (yields_run (by rfl) 24 _ rfl (.pointer (some ⟨W.heap.size, 0, none⟩)) _ rfl (fun W' hS => hS.2)) ?_
  try simp only [Act.put, nz1, nz2, nz3]
  refine tkH (v := (.agg (actA ⟨2, s.round, k, 0, id⟩))) 6 ⟨some 34, _, _, _, _, _⟩ rfl (yields_build (by rfl) 71 _ rfl [(0, .int .i64 2), (1, .int .i64 s.round), (2, .int .i64 k), (4, idv id)] rfl _ (act_built2 s.round k id HID.out)) ?_
  try simp only [Act.put, nz1, nz2, nz3]
  refine wpAnyH_ready (rs := [7]) (by kernel_rfl) (by simp) ?_
  refine (AllReadyH.cons (o := ⟨some 35, _, _, _, _, _⟩) rfl (fun K hK => ?_) AllReadyH.nil)
  (try rw [if_pos (by rfl)])
  refine oper_build_act _ rfl ⟨2, s.round, k, 0, id⟩ HACT.out rfl ?_
  have HB4 : Hid (Below W3.heap.size W3 (W3.drew.alloc (.cells (actA ⟨2, s.round, k, 0, id⟩) 71))) := Lib.hid ((Below.refl _ W3).drew.alloc (Nat.le_refl _) _)
  try dsimp only
  refine hK.out _ _ (⟨(HR3.out.below HB4.out).cell (i := 3) (by omega), run_loadVar_idv HID.out (HK3.out.below HB4.out HK3.out.lt)⟩) (fun hHeld => ?_)
  clear hK K
  try simp only [Act.put, nz1, nz2, nz3]
  refine tkH (v := ?_) 8 ⟨some 6, _, _, _, _, _⟩ rfl (Or.inl ⟨by rfl, ?_⟩) ?_
  rotate_left
  · intro w hSw; (try dsimp only at hSw); go_simp; try (with_reducible rfl)
  try simp only [Act.put, nz1, nz2, nz3]
  refine wpAnyH_done (by kernel_rfl) ?_ _
  go_wp2_with fail
  go_ret
  exact ⟨⟨_, rfl, actsR_one HACT.out (Nat.le_trans (Nat.le_trans HB1.out.size HG2.out.size) HG3.out.size)⟩, HR3.out.below HB4.out, (((Chg.ofBelow HB1.out).trans (Chg.ofB HG2.out)).trans ((Chg.ofBelow (Below.refl _ W2).drew).trans (Chg.ofM HG3.out))).trans (Chg.ofBelow HB4.out)⟩
theorem castR_any {W : World} {B C M n : Nat} {kv : Value} {s : RdS} (h : RoundAt W B C M n kv s) (k : Int) (hk : k = 0 ∨ k = 1) (id : List UInt8) (hid : IdOk id) (hr : 0 ≤ s.round) (hn : n < maxLen) : Calls Try.prog 62 #[.pointer (some ⟨B, 0, none⟩), .int .i64 k, .agg (idC id)] W fun e w' => (∃ v, e = .returned v ∧ ActsR W w' v (castA s k id)) ∧ RoundAt w' B C M (n + 1) kv (castS s k id) ∧ Chg W w' B M kv kv := by
  by_cases hc : putCode s.voters s.votes s.round k s.me id = 0
  · have e : castA s k id = [⟨2, s.round, k, 0, id⟩] := by unfold castA; rw [if_pos hc]
    rw [e]
    exact cast_good h k hk id hid hr hn hc
  · have e : castA s k id = [] := by unfold castA; rw [if_neg hc]
    rw [e]
    refine (cast_bad h k hk id hid hr hn _ rfl hc).mono ?_
    rintro e w' ⟨rfl, h1, h2⟩
    exact ⟨⟨_, rfl, actsR_nil _ _⟩, h1, h2⟩
end Go.Proofs.Ytbgojlcciealiaa
