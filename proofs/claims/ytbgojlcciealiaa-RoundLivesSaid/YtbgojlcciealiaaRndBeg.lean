/-
  One's way to agreement: a round begins. No condition.
-/
import Derived.Test.YtbgojlcciealiaaRndCho
namespace Go.Proofs.Ytbgojlcciealiaa
open Go Go.RowKit Go.Maps

theorem over_ok {s : RdS} (h : RdOk s) : RdOk (overS s) :=
  ⟨h.voters, h.me, h.height, h.round, ⟨by show (0 : Int) ≤ 3; omega, by show (3 : Int) ≤ 3; omega⟩, fun _ => rfl, h.fresh, h.lockR, h.lock, h.bestR, h.best, h.known, h.le, h.offers⟩
theorem in_ok {s : RdS} (h : RdOk s) {k : Nat} (h1 : k < 12) (h2 : s.round < (k : Int)) : RdOk (inS s (k : Int)) :=
  ⟨h.voters, h.me, h.height, ⟨by show -1 ≤ (k : Int); omega, by show (k : Int) < 12; omega⟩, ⟨by show (0 : Int) ≤ 0; omega, by show (0 : Int) ≤ 3; omega⟩, fun e => by have : (k : Int) = -1 := e; omega, h.fresh, h.lockR, h.lock, h.bestR, h.best, h.known, by show s.bestR ≤ (k : Int) + 1; have := h.le; omega, h.offers⟩
theorem off_ok {s : RdS} (h : RdOk s) {k : Nat} {o : OfferS} (ho : IdOk o.id) (h0 : 0 ≤ o.valid) (h1 : o.valid ≤ (k : Int)) : RdOk (offS s k o) :=
  ⟨h.voters, h.me, h.height, h.round, h.step, h.early, h.fresh, h.lockR, h.lock, h.bestR, h.best, h.known, h.le, fun j hj => by
    show IdOk (if j = k then o else s.offers j).id ∧ 0 ≤ (if j = k then o else s.offers j).valid ∧ (if j = k then o else s.offers j).valid ≤ j
    by_cases e : j = k
    · rw [if_pos e]
      subst e
      exact ⟨ho, h0, h1⟩
    · rw [if_neg e]
      exact h.offers j hj⟩
theorem prop_valid {s : RdS} (h : RdOk s) : 0 ≤ (propS s).valid ∧ (propS s).valid ≤ s.round + 1 := by
  have h1 := h.bestR
  have h2 := h.le
  have h3 := h.round
  unfold propS
  split
  · exact ⟨h1.1, h2⟩
  · exact ⟨by show (0 : Int) ≤ 0; omega, by show (0 : Int) ≤ s.round + 1; omega⟩
/-- The round stored. -/
theorem RoundAt.setIn {W : World} {B C M n : Nat} {kv : Value} {s : RdS} (h : RoundAt W B C M n kv s) {k : Nat} (hok : RdOk (inS s (k : Int))) : RoundAt ((W.setCell ⟨B, 3, none⟩ (.int .i64 (k : Int))).setCell ⟨B, 4, none⟩ (.int .i64 0)) B C M n kv (inS s (k : Int)) := by
  have h1 : Blk (W.setCell ⟨B, 3, none⟩ (.int .i64 (k : Int))) B 132 (arr 549 (rdF { s with round := (k : Int) } kv (.pointer (some ⟨C, 0, none⟩)))) := (setCell_arr h.blk (i := 3) (by omega) _).same (rd_round s kv _ _)
  have h2 := (setCell_arr h1 (i := 4) (by omega) (.int .i64 0)).same (rd_step { s with round := (k : Int) } kv _ 0)
  exact h.put h2 ((grown_cell W B 3 _).trans (grown_cell _ B 4 _)) rfl rfl rfl hok
theorem prop_in (s : RdS) (m : Int) : propS (inS s m) = propS s := rfl
theorem offC_all (o : OfferS) : (offC o).toArray.all (·.oneCell') = true := by
  rw [Array.all_eq_true_iff_forall_mem]
  intro x hx
  exact offC_one _ x (by simpa using hx)
theorem wpList_store_off {ops : Array Oper} {rest : List Oper} {o : Oper} {a : Act} {w : World} {Q : Exit → Act → World → Prop} (hgd : o.guard = none) (x y : Operand) (ho : o.op = .store 127 x y) (g : Nat) (l : OfferS) (hx : a.eval x = .pointer (some ⟨g, 0, none⟩)) (hy : a.eval y = .agg (offC l).toArray) (hl : IdOk l.id)
    (t : TypeId) (old : Array Value) (hg : Blk w g t old) (hold : old.size = 34)
    (h : ∀ w', Blk w' g t (offC l).toArray → w'.heap.size = w.heap.size → Below g w w' → (∀ b, b ≠ g → w'.heap[b]? = w.heap[b]?) → wpList Try.prog ops Q rest (a.put o.dst undef) w') : wpList Try.prog ops Q (o :: rest) a w :=
  wpList_store_arrW hgd 127 x y ho g (offC l).toArray hx hy t old hg (by rw [List.size_toArray, offC_length hl]; exact offer_info) (by rw [hold, List.size_toArray, offC_length hl]) (offC_all l) h
theorem wfi_lt {n : Int} (h : wfi n) : n < 9223372036854775808 := by
  unfold wfi at h
  simp [Lit.wf] at h
  omega
theorem wpList_yields {P : Program} {ops : Array Oper} {rest : List Oper} {o : Oper} {a : Act} {w : World} {Q : Exit → Act → World → Prop} {S : World → Prop} (hS : S w) {v : Value} (hy : YieldsIf P ops S o v a) (hw : Region.wanted o (yielded ops a.tmps) = true)
    (h : wpList P ops Q rest (a.put o.dst v) w) : wpList P ops Q (o :: rest) a w :=
  wpList_step fun K hK => by
    rw [if_pos hw]
    rcases hy with ⟨_, he⟩ | ⟨h0, _⟩
    · unfold Oper.wp
      rw [he w hS]
      exact hK _ _ h
    · rw [hw] at h0
      cases h0
set_option maxRecDepth 100000 in
set_option maxHeartbeats 8000000 in
theorem begin_out {W : World} {B C M n : Nat} {kv : Value} {s : RdS} (h : RoundAt W B C M n kv s) (m : Int) (hm : ¬ (0 ≤ m ∧ m < 12)) : Calls Try.prog 61 #[.pointer (some ⟨B, 0, none⟩), .int .i64 m] W fun e w' => (∃ v, e = .returned v ∧ ActsR W w' v (beginA s m)) ∧ RoundAt w' B C M n kv (beginS s m) ∧ W.grownBy w' (some B) := by
  have e1 : beginA s m = [] := by unfold beginA; rw [if_neg hm]
  have e2 : beginS s m = overS s := by unfold beginS; rw [if_neg hm]
  rw [e1, e2]
  have HIN : Hid (∀ w, Calls Try.prog 63 #[.int .i64 m] w fun e w' => e = .returned (.bool false) ∧ w' = w) := Lib.hid fun w => by have := inside_any m w; rwa [decide_eq_false hm] at this
  have HR := Lib.hid h
  have f4 : W.frozen? ⟨B, 4, none⟩ = false := h.blk.frozen 4
  have c4 : W.cell? ⟨B, 4, none⟩ = some (.int .i64 s.step) := h.cell (i := 4) (by omega)
  clear h hm e1 e2
  go_enter Try.func61, Try.ntmps61
  go_upto_region 3 with (first
    | (go_at_call 63; refine (HIN.out _).mono ?_; rintro e Wn ⟨rfl, h1⟩; obtain rfl := h1.symm))
  generalize hW2 : World.setCell W _ _ = W2
  have HR2 : Hid (RoundAt W2 B C M n kv (overS s)) := Lib.hid (by rw [← hW2]; exact HR.out.setStep (over_ok HR.out.ok))
  have HG2 : Hid (W.grownBy W2 (some B)) := Lib.hid (by rw [← hW2]; exact grown_cell _ _ _ _)
  clear hW2 f4 c4
  go_wp2_with fail
  go_ret
  exact ⟨⟨_, rfl, actsR_nil _ _⟩, HR2.out, HG2.out⟩
set_option maxRecDepth 100000 in
set_option maxHeartbeats 8000000 in
theorem begin_other {W : World} {B C M n : Nat} {kv : Value} {s : RdS} (h : RoundAt W B C M n kv s) (k : Nat) (hk12 : k < 12) (hk : s.round < (k : Int)) (hp : proposer s.voters s.height (k : Int) ≠ s.me) : Calls Try.prog 61 #[.pointer (some ⟨B, 0, none⟩), .int .i64 (k : Int)] W fun e w' => (∃ v, e = .returned v ∧ ActsR W w' v (timerA (inS s (k : Int)) k 0)) ∧ RoundAt w' B C M n kv (timerS (inS s (k : Int)) k 0) ∧ W.grownBy w' (some B) := by
  have HR := Lib.hid h
  have HOK := Lib.hid (in_ok h.ok hk12 hk)
  have HK12 := Lib.hid hk12
  have HKR := Lib.hid hk
  have hin : decide (0 ≤ (k : Int) ∧ (k : Int) < 12) = true := decide_eq_true (by omega)
  have HIN : Hid (∀ w, Calls Try.prog 63 #[.int .i64 (k : Int)] w fun e w' => e = .returned (.bool true) ∧ w' = w) := Lib.hid fun w => by have := inside_any (k : Int) w; rwa [hin] at this
  have HPR : Hid (∀ w, Calls Try.prog 43 #[.int .i64 (s.voters : Int), .int .i64 s.height, .int .i64 (k : Int)] w fun e w' => e = .returned (.int .i64 (proposer s.voters s.height (k : Int))) ∧ w' = w) := Lib.hid fun w => proposer_any _ _ _ (by have := h.ok.voters; omega) h.ok.height.1 (wfi_lt h.ok.height.2) (by omega) w
  generalize hpp : proposer s.voters s.height (k : Int) = pp at HPR hp
  clear hpp hin
  have hbq : (pp == s.me) = false := by rw [beq_eq_false_iff_ne]; exact hp
  have f4 : W.frozen? ⟨B, 4, none⟩ = false := h.blk.frozen 4
  have f3 : W.frozen? ⟨B, 3, none⟩ = false := h.blk.frozen 3
  have c4 : W.cell? ⟨B, 4, none⟩ = some (.int .i64 s.step) := h.cell (i := 4) (by omega)
  have c3 : W.cell? ⟨B, 3, none⟩ = some (.int .i64 s.round) := h.cell (i := 3) (by omega)
  have hkn : (k : Int) < 12 := by omega
  clear h hk12 hk
  go_enter Try.func61, Try.ntmps61
  go_upto_region 5 with (first
    | (go_at_call 63; refine (HIN.out _).mono ?_; rintro e Wn ⟨rfl, h1⟩; obtain rfl := h1.symm))
  generalize hW2 : World.setCell (World.setCell W _ _) _ _ = W2
  have HR2 : Hid (RoundAt W2 B C M n kv (inS s (k : Int))) := Lib.hid (by rw [← hW2]; exact HR.out.setIn HOK.out)
  have HG2 : Hid (W.grownBy W2 (some B)) := Lib.hid (by rw [← hW2]; exact (grown_cell _ _ _ _).trans (grown_cell _ _ _ _))
  clear hW2 f4 c4 f3 c3
  have HPO : Hid (Calls Try.prog 72 #[.pointer (some ⟨B, 0, none⟩)] W2 fun e w' => e = .returned (.agg (offC (propS s)).toArray) ∧ Below W2.heap.size W2 w') := Lib.hid (by have := prop_any HR2.out; rwa [prop_in] at this)
  have HIP : Hid (IdOk (propS s).id) := Lib.hid (propS_ok HR.out.ok)
  go_upto_region 8 with (first
    | (go_at_call 72; refine HPO.out.mono ?_; rintro e Wp ⟨rfl, hbp⟩; have HBP := Lib.hid hbp; clear hbp)
    | (guard_target = wpList _ _ _ (Oper.mk _ (.store 127 _ _) _ _ _ _ :: _) _ _; refine wpList_store_off rfl _ _ rfl Wp.heap.size (propS s) rfl rfl HIP.out 127 _ (Blk.newAt _ _ rfl rfl) rfl ?_; intro W3 hS3 hz3 hb3 hk3; have HK3 := Lib.hid hS3; have HB3 := Lib.hid (((Below.refl _ Wp).alloc (Nat.le_refl _) _).trans hb3); clear hS3 hz3 hb3 hk3))
  have HBW : Hid (Below W2.heap.size W2 W3) := Lib.hid (HBP.out.trans (HB3.out.mono HBP.out.size))
  have HR3 := Lib.hid (HR2.out.below HBW.out)
  have hbX : Below W3.heap.size W3 W3.drew := (Below.refl _ W3).drew
  refine wp_region_held_drew (S := fun W' => Below W3.heap.size W3 W') (by kernel_rfl) ?_ (fun hHeld => ?_)
  · exact hbX
  refine tkH (v := ?_) 0 ⟨some 35, _, _, _, _, _⟩ rfl (Or.inl ⟨by rfl, ?_⟩) ?_
  rotate_left
  · intro w hSw; (try dsimp only at hSw); go_simp; try (with_reducible rfl)
  try simp only [Act.put, nz1, nz2, nz3]
  refine tkH (v := ?_) 1 ⟨some 36, _, _, _, _, _⟩ rfl (Or.inl ⟨by rfl, ?_⟩) ?_
  rotate_left
  · intro w hSw; (try dsimp only at hSw); go_simp; try (with_reducible rfl)
  try simp only [Act.put, nz1, nz2, nz3]
  refine tkH (v := ?_) 2 ⟨some 37, _, _, _, _, _⟩ rfl (Or.inl ⟨by rfl, ?_⟩) ?_
  rotate_left
  · intro w hSw; (try dsimp only at hSw); go_simp; try (with_reducible rfl)
  try simp only [Act.put, nz1, nz2, nz3]
  refine tkH (v := (.int .i64 (s.voters : Int))) 3 ⟨some 38, _, _, _, _, _⟩ rfl (yields_one (by rfl) 3 _ rfl ⟨B, 0, none⟩ rfl _ _ (fun W' hS => (HR3.out.below hS).cell (i := 0) (by omega)) Try.underlying3 rfl) ?_
  try simp only [Act.put, nz1, nz2, nz3]
  refine tkH (v := ?_) 4 ⟨some 39, _, _, _, _, _⟩ rfl (Or.inl ⟨by rfl, ?_⟩) ?_
  rotate_left
  · intro w hSw; (try dsimp only at hSw); go_simp; try (with_reducible rfl)
  try simp only [Act.put, nz1, nz2, nz3]
  refine tkH (v := ?_) 5 ⟨some 40, _, _, _, _, _⟩ rfl (Or.inl ⟨by rfl, ?_⟩) ?_
  rotate_left
  · intro w hSw; (try dsimp only at hSw); go_simp; try (with_reducible rfl)
  try simp only [Act.put, nz1, nz2, nz3]
  refine tkH (v := ?_) 6 ⟨some 41, _, _, _, _, _⟩ rfl (Or.inl ⟨by rfl, ?_⟩) ?_
  rotate_left
  · intro w hSw; (try dsimp only at hSw); go_simp; try (with_reducible rfl)
  try simp only [Act.put, nz1, nz2, nz3]
  refine tkH (v := (.int .i64 s.height)) 7 ⟨some 42, _, _, _, _, _⟩ rfl (yields_one (by rfl) 3 _ rfl ⟨B, 2, none⟩ rfl _ _ (fun W' hS => (HR3.out.below hS).cell (i := 2) (by omega)) Try.underlying3 rfl) ?_
  try simp only [Act.put, nz1, nz2, nz3]
  refine tkH (v := ?_) 8 ⟨some 43, _, _, _, _, _⟩ rfl (Or.inl ⟨by rfl, ?_⟩) ?_
  rotate_left
  · intro w hSw; (try dsimp only at hSw); go_simp; try (with_reducible rfl)
  try simp only [Act.put, nz1, nz2, nz3]
  refine tkH (v := ?_) 10 ⟨some 45, _, _, _, _, _⟩ rfl (Or.inl ⟨by rfl, ?_⟩) ?_
  rotate_left
  · intro w hSw; (try dsimp only at hSw); go_simp; try (with_reducible rfl)
  try simp only [Act.put, nz1, nz2, nz3]
  refine tkH (v := ?_) 11 ⟨some 46, _, _, _, _, _⟩ rfl (Or.inl ⟨by rfl, ?_⟩) ?_
  rotate_left
  · intro w hSw; (try dsimp only at hSw); go_simp; try (with_reducible rfl)
  try simp only [Act.put, nz1, nz2, nz3]
  refine tkH (v := ?_) 12 ⟨some 47, _, _, _, _, _⟩ rfl (Or.inl ⟨by rfl, ?_⟩) ?_
  rotate_left
  · intro w hSw; (try dsimp only at hSw); go_simp; try (with_reducible rfl)
  try simp only [Act.put, nz1, nz2, nz3]
  refine tkH (v := (.int .i64 s.me)) 13 ⟨some 48, _, _, _, _, _⟩ rfl (yields_one (by rfl) 3 _ rfl ⟨B, 1, none⟩ rfl _ _ (fun W' hS => (HR3.out.below hS).cell (i := 1) (by omega)) Try.underlying3 rfl) ?_
  try simp only [Act.put, nz1, nz2, nz3]
  refine wpAnyH_ready (rs := [9]) (by kernel_rfl) (by simp) ?_
  refine (AllReadyH.cons (o := ⟨some 44, _, _, _, _, _⟩) rfl (fun K hK => ?_) AllReadyH.nil)
  (try rw [if_pos (by rfl)])
  go_simp
  refine (HPR.out _).mono ?_
  rintro e Wn ⟨rfl, h1⟩
  obtain rfl := h1.symm
  try dsimp only
  refine hK.out _ _ (hbX) (fun hHeld => ?_)
  clear hK K
  try simp only [Act.put, nz1, nz2, nz3]
  refine tkH (v := ?_) 14 ⟨some 49, _, _, _, _, _⟩ rfl (Or.inl ⟨by rfl, ?_⟩) ?_
  rotate_left
  · intro w hSw; (try dsimp only at hSw); go_simp; try (with_reducible rfl)
  try simp only [Act.put, nz1, nz2, nz3]
  refine tkH (v := ?_) 15 ⟨some 34, _, _, _, _, _⟩ rfl (Or.inl ⟨by rfl, ?_⟩) ?_
  rotate_left
  · intro w hSw; (try dsimp only at hSw); go_simp; try (with_reducible rfl)
  try simp only [Act.put, nz1, nz2, nz3]
  refine wpAnyH_done (by kernel_rfl) ?_ _
  have hb : (pp == s.me) = false := by rw [beq_eq_false_iff_ne]; exact hp
  go_wp2_with (go_at_call 73; refine (timer_any (HR3.out.below hbX) k 0 rfl (by omega)).mono ?_; rintro e W9 ⟨⟨v9, rfl, ha9⟩, hr9, hg9⟩; have HA9 := Lib.hid ha9; have HR9 := Lib.hid hr9; have HG9 := Lib.hid hg9; clear ha9 hr9 hg9)
  go_ret
  exact ⟨⟨_, rfl, HA9.out.mono (Nat.le_trans HG2.out.size (Nat.le_trans HBW.out.size hbX.size))⟩, HR9.out, (HG2.out.trans (grown_of_below (HBW.out.trans (hbX.mono HBW.out.size)) _)).trans HG9.out⟩
set_option maxRecDepth 100000 in
theorem act_fill1 (r v : Int) (g : Nat → UInt8) : Try.prog.built 71 [(0, .int .i64 1), (1, .int .i64 r), (3, .int .i64 v), (4, .agg (idC ((List.range 32).map g)))] = some (actA ⟨1, r, 0, v, (List.range 32).map g⟩) := by kernel_rfl
theorem act_built1 (r v : Int) (id : List UInt8) (h : IdOk id) : Try.prog.built 71 [(0, .int .i64 1), (1, .int .i64 r), (3, .int .i64 v), (4, idv id)] = some (actA ⟨1, r, 0, v, id⟩) := by
  rw [id_range h]
  exact act_fill1 r v _
set_option maxRecDepth 100000 in
set_option maxHeartbeats 8000000 in
theorem begin_had {W : World} {B C M n : Nat} {kv : Value} {s : RdS} (h : RoundAt W B C M n kv s) (k : Nat) (hk12 : k < 12) (hk : s.round < (k : Int)) (hp : proposer s.voters s.height (k : Int) = s.me) (ht : (s.offers k).there = true) : Calls Try.prog 61 #[.pointer (some ⟨B, 0, none⟩), .int .i64 (k : Int)] W fun e w' => (∃ v, e = .returned v ∧ ActsR W w' v ([])) ∧ RoundAt w' B C M n kv (inS s (k : Int)) ∧ W.grownBy w' (some B) := by
  have HR := Lib.hid h
  have HOK := Lib.hid (in_ok h.ok hk12 hk)
  have HK12 := Lib.hid hk12
  have HKR := Lib.hid hk
  have hin : decide (0 ≤ (k : Int) ∧ (k : Int) < 12) = true := decide_eq_true (by omega)
  have HIN : Hid (∀ w, Calls Try.prog 63 #[.int .i64 (k : Int)] w fun e w' => e = .returned (.bool true) ∧ w' = w) := Lib.hid fun w => by have := inside_any (k : Int) w; rwa [hin] at this
  have HPR : Hid (∀ w, Calls Try.prog 43 #[.int .i64 (s.voters : Int), .int .i64 s.height, .int .i64 (k : Int)] w fun e w' => e = .returned (.int .i64 (proposer s.voters s.height (k : Int))) ∧ w' = w) := Lib.hid fun w => proposer_any _ _ _ (by have := h.ok.voters; omega) h.ok.height.1 (wfi_lt h.ok.height.2) (by omega) w
  generalize hpp : proposer s.voters s.height (k : Int) = pp at HPR hp
  clear hpp hin
  have hbq : (pp == s.me) = true := by rw [hp]; simp
  have HT := Lib.hid ht
  clear ht
  have f4 : W.frozen? ⟨B, 4, none⟩ = false := h.blk.frozen 4
  have f3 : W.frozen? ⟨B, 3, none⟩ = false := h.blk.frozen 3
  have c4 : W.cell? ⟨B, 4, none⟩ = some (.int .i64 s.step) := h.cell (i := 4) (by omega)
  have c3 : W.cell? ⟨B, 3, none⟩ = some (.int .i64 s.round) := h.cell (i := 3) (by omega)
  have hkn : (k : Int) < 12 := by omega
  clear h hk12 hk
  go_enter Try.func61, Try.ntmps61
  go_upto_region 5 with (first
    | (go_at_call 63; refine (HIN.out _).mono ?_; rintro e Wn ⟨rfl, h1⟩; obtain rfl := h1.symm))
  generalize hW2 : World.setCell (World.setCell W _ _) _ _ = W2
  have HR2 : Hid (RoundAt W2 B C M n kv (inS s (k : Int))) := Lib.hid (by rw [← hW2]; exact HR.out.setIn HOK.out)
  have HG2 : Hid (W.grownBy W2 (some B)) := Lib.hid (by rw [← hW2]; exact (grown_cell _ _ _ _).trans (grown_cell _ _ _ _))
  clear hW2 f4 c4 f3 c3
  have HPO : Hid (Calls Try.prog 72 #[.pointer (some ⟨B, 0, none⟩)] W2 fun e w' => e = .returned (.agg (offC (propS s)).toArray) ∧ Below W2.heap.size W2 w') := Lib.hid (by have := prop_any HR2.out; rwa [prop_in] at this)
  have HIP : Hid (IdOk (propS s).id) := Lib.hid (propS_ok HR.out.ok)
  go_upto_region 8 with (first
    | (go_at_call 72; refine HPO.out.mono ?_; rintro e Wp ⟨rfl, hbp⟩; have HBP := Lib.hid hbp; clear hbp)
    | (guard_target = wpList _ _ _ (Oper.mk _ (.store 127 _ _) _ _ _ _ :: _) _ _; refine wpList_store_off rfl _ _ rfl Wp.heap.size (propS s) rfl rfl HIP.out 127 _ (Blk.newAt _ _ rfl rfl) rfl ?_; intro W3 hS3 hz3 hb3 hk3; have HK3 := Lib.hid hS3; have HB3 := Lib.hid (((Below.refl _ Wp).alloc (Nat.le_refl _) _).trans hb3); clear hS3 hz3 hb3 hk3))
  have HBW : Hid (Below W2.heap.size W2 W3) := Lib.hid (HBP.out.trans (HB3.out.mono HBP.out.size))
  have HR3 := Lib.hid (HR2.out.below HBW.out)
  have hbX : Below W3.heap.size W3 W3.drew := (Below.refl _ W3).drew
  refine wp_region_held_drew (S := fun W' => Below W3.heap.size W3 W') (by kernel_rfl) ?_ (fun hHeld => ?_)
  · exact hbX
  refine tkH (v := ?_) 0 ⟨some 35, _, _, _, _, _⟩ rfl (Or.inl ⟨by rfl, ?_⟩) ?_
  rotate_left
  · intro w hSw; (try dsimp only at hSw); go_simp; try (with_reducible rfl)
  try simp only [Act.put, nz1, nz2, nz3]
  refine tkH (v := ?_) 1 ⟨some 36, _, _, _, _, _⟩ rfl (Or.inl ⟨by rfl, ?_⟩) ?_
  rotate_left
  · intro w hSw; (try dsimp only at hSw); go_simp; try (with_reducible rfl)
  try simp only [Act.put, nz1, nz2, nz3]
  refine tkH (v := ?_) 2 ⟨some 37, _, _, _, _, _⟩ rfl (Or.inl ⟨by rfl, ?_⟩) ?_
  rotate_left
  · intro w hSw; (try dsimp only at hSw); go_simp; try (with_reducible rfl)
  try simp only [Act.put, nz1, nz2, nz3]
  refine tkH (v := (.int .i64 (s.voters : Int))) 3 ⟨some 38, _, _, _, _, _⟩ rfl (yields_one (by rfl) 3 _ rfl ⟨B, 0, none⟩ rfl _ _ (fun W' hS => (HR3.out.below hS).cell (i := 0) (by omega)) Try.underlying3 rfl) ?_
  try simp only [Act.put, nz1, nz2, nz3]
  refine tkH (v := ?_) 4 ⟨some 39, _, _, _, _, _⟩ rfl (Or.inl ⟨by rfl, ?_⟩) ?_
  rotate_left
  · intro w hSw; (try dsimp only at hSw); go_simp; try (with_reducible rfl)
  try simp only [Act.put, nz1, nz2, nz3]
  refine tkH (v := ?_) 5 ⟨some 40, _, _, _, _, _⟩ rfl (Or.inl ⟨by rfl, ?_⟩) ?_
  rotate_left
  · intro w hSw; (try dsimp only at hSw); go_simp; try (with_reducible rfl)
  try simp only [Act.put, nz1, nz2, nz3]
  refine tkH (v := ?_) 6 ⟨some 41, _, _, _, _, _⟩ rfl (Or.inl ⟨by rfl, ?_⟩) ?_
  rotate_left
  · intro w hSw; (try dsimp only at hSw); go_simp; try (with_reducible rfl)
  try simp only [Act.put, nz1, nz2, nz3]
  refine tkH (v := (.int .i64 s.height)) 7 ⟨some 42, _, _, _, _, _⟩ rfl (yields_one (by rfl) 3 _ rfl ⟨B, 2, none⟩ rfl _ _ (fun W' hS => (HR3.out.below hS).cell (i := 2) (by omega)) Try.underlying3 rfl) ?_
  try simp only [Act.put, nz1, nz2, nz3]
  refine tkH (v := ?_) 8 ⟨some 43, _, _, _, _, _⟩ rfl (Or.inl ⟨by rfl, ?_⟩) ?_
  rotate_left
  · intro w hSw; (try dsimp only at hSw); go_simp; try (with_reducible rfl)
  try simp only [Act.put, nz1, nz2, nz3]
  refine tkH (v := ?_) 10 ⟨some 45, _, _, _, _, _⟩ rfl (Or.inl ⟨by rfl, ?_⟩) ?_
  rotate_left
  · intro w hSw; (try dsimp only at hSw); go_simp; try (with_reducible rfl)
  try simp only [Act.put, nz1, nz2, nz3]
  refine tkH (v := ?_) 11 ⟨some 46, _, _, _, _, _⟩ rfl (Or.inl ⟨by rfl, ?_⟩) ?_
  rotate_left
  · intro w hSw; (try dsimp only at hSw); go_simp; try (with_reducible rfl)
  try simp only [Act.put, nz1, nz2, nz3]
  refine tkH (v := ?_) 12 ⟨some 47, _, _, _, _, _⟩ rfl (Or.inl ⟨by rfl, ?_⟩) ?_
  rotate_left
  · intro w hSw; (try dsimp only at hSw); go_simp; try (with_reducible rfl)
  try simp only [Act.put, nz1, nz2, nz3]
  refine tkH (v := (.int .i64 s.me)) 13 ⟨some 48, _, _, _, _, _⟩ rfl (yields_one (by rfl) 3 _ rfl ⟨B, 1, none⟩ rfl _ _ (fun W' hS => (HR3.out.below hS).cell (i := 1) (by omega)) Try.underlying3 rfl) ?_
  try simp only [Act.put, nz1, nz2, nz3]
  refine wpAnyH_ready (rs := [9]) (by kernel_rfl) (by simp) ?_
  refine (AllReadyH.cons (o := ⟨some 44, _, _, _, _, _⟩) rfl (fun K hK => ?_) AllReadyH.nil)
  (try rw [if_pos (by rfl)])
  go_simp
  refine (HPR.out _).mono ?_
  rintro e Wn ⟨rfl, h1⟩
  obtain rfl := h1.symm
  try dsimp only
  refine hK.out _ _ (hbX) (fun hHeld => ?_)
  clear hK K
  try simp only [Act.put, nz1, nz2, nz3]
  refine tkH (v := ?_) 14 ⟨some 49, _, _, _, _, _⟩ rfl (Or.inl ⟨by rfl, ?_⟩) ?_
  rotate_left
  · intro w hSw; (try dsimp only at hSw); go_simp; try (with_reducible rfl)
  try simp only [Act.put, nz1, nz2, nz3]
  refine tkH (v := ?_) 15 ⟨some 34, _, _, _, _, _⟩ rfl (Or.inl ⟨by rfl, ?_⟩) ?_
  rotate_left
  · intro w hSw; (try dsimp only at hSw); go_simp; try (with_reducible rfl)
  try simp only [Act.put, nz1, nz2, nz3]
  refine wpAnyH_done (by kernel_rfl) ?_ _
  have cO : _ = some (Value.bool true) := (HR3.out.below hbX).cell (i := 104 + k * 34) (by omega) |>.trans (by rw [show 104 + k * 34 = 104 + 34 * k + 0 by omega, rdF_offer _ _ _ HK12.out (by omega)]; unfold offF; rw [if_pos rfl]; show some (Value.bool (s.offers k).there) = _; rw [HT.out])
  go_wp2_with fail
  go_ret
  exact ⟨⟨_, rfl, actsR_nil _ _⟩, HR3.out.below hbX, HG2.out.trans (grown_of_below (HBW.out.trans (hbX.mono HBW.out.size)) _)⟩
set_option maxRecDepth 100000 in
set_option maxHeartbeats 8000000 in
theorem begin_none {W : World} {B C M n : Nat} {kv : Value} {s : RdS} (h : RoundAt W B C M n kv s) (k : Nat) (hk12 : k < 12) (hk : s.round < (k : Int)) (hp : proposer s.voters s.height (k : Int) = s.me) (ht : (s.offers k).there = false) (hpt : (propS s).there = false) : Calls Try.prog 61 #[.pointer (some ⟨B, 0, none⟩), .int .i64 (k : Int)] W fun e w' => (∃ v, e = .returned v ∧ ActsR W w' v (timerA (inS s (k : Int)) k 0)) ∧ RoundAt w' B C M n kv (timerS (inS s (k : Int)) k 0) ∧ W.grownBy w' (some B) := by
  have HR := Lib.hid h
  have HOK := Lib.hid (in_ok h.ok hk12 hk)
  have HK12 := Lib.hid hk12
  have HKR := Lib.hid hk
  have hin : decide (0 ≤ (k : Int) ∧ (k : Int) < 12) = true := decide_eq_true (by omega)
  have HIN : Hid (∀ w, Calls Try.prog 63 #[.int .i64 (k : Int)] w fun e w' => e = .returned (.bool true) ∧ w' = w) := Lib.hid fun w => by have := inside_any (k : Int) w; rwa [hin] at this
  have HPR : Hid (∀ w, Calls Try.prog 43 #[.int .i64 (s.voters : Int), .int .i64 s.height, .int .i64 (k : Int)] w fun e w' => e = .returned (.int .i64 (proposer s.voters s.height (k : Int))) ∧ w' = w) := Lib.hid fun w => proposer_any _ _ _ (by have := h.ok.voters; omega) h.ok.height.1 (wfi_lt h.ok.height.2) (by omega) w
  generalize hpp : proposer s.voters s.height (k : Int) = pp at HPR hp
  clear hpp hin
  have hbq : (pp == s.me) = true := by rw [hp]; simp
  have HT := Lib.hid ht
  clear ht
  have HP := Lib.hid hpt
  clear hpt
  have f4 : W.frozen? ⟨B, 4, none⟩ = false := h.blk.frozen 4
  have f3 : W.frozen? ⟨B, 3, none⟩ = false := h.blk.frozen 3
  have c4 : W.cell? ⟨B, 4, none⟩ = some (.int .i64 s.step) := h.cell (i := 4) (by omega)
  have c3 : W.cell? ⟨B, 3, none⟩ = some (.int .i64 s.round) := h.cell (i := 3) (by omega)
  have hkn : (k : Int) < 12 := by omega
  clear h hk12 hk
  go_enter Try.func61, Try.ntmps61
  go_upto_region 5 with (first
    | (go_at_call 63; refine (HIN.out _).mono ?_; rintro e Wn ⟨rfl, h1⟩; obtain rfl := h1.symm))
  generalize hW2 : World.setCell (World.setCell W _ _) _ _ = W2
  have HR2 : Hid (RoundAt W2 B C M n kv (inS s (k : Int))) := Lib.hid (by rw [← hW2]; exact HR.out.setIn HOK.out)
  have HG2 : Hid (W.grownBy W2 (some B)) := Lib.hid (by rw [← hW2]; exact (grown_cell _ _ _ _).trans (grown_cell _ _ _ _))
  clear hW2 f4 c4 f3 c3
  have HPO : Hid (Calls Try.prog 72 #[.pointer (some ⟨B, 0, none⟩)] W2 fun e w' => e = .returned (.agg (offC (propS s)).toArray) ∧ Below W2.heap.size W2 w') := Lib.hid (by have := prop_any HR2.out; rwa [prop_in] at this)
  have HIP : Hid (IdOk (propS s).id) := Lib.hid (propS_ok HR.out.ok)
  go_upto_region 8 with (first
    | (go_at_call 72; refine HPO.out.mono ?_; rintro e Wp ⟨rfl, hbp⟩; have HBP := Lib.hid hbp; clear hbp)
    | (guard_target = wpList _ _ _ (Oper.mk _ (.store 127 _ _) _ _ _ _ :: _) _ _; refine wpList_store_off rfl _ _ rfl Wp.heap.size (propS s) rfl rfl HIP.out 127 _ (Blk.newAt _ _ rfl rfl) rfl ?_; intro W3 hS3 hz3 hb3 hk3; have HK3 := Lib.hid hS3; have HB3 := Lib.hid (((Below.refl _ Wp).alloc (Nat.le_refl _) _).trans hb3); clear hS3 hz3 hb3 hk3))
  have HBW : Hid (Below W2.heap.size W2 W3) := Lib.hid (HBP.out.trans (HB3.out.mono HBP.out.size))
  have HR3 := Lib.hid (HR2.out.below HBW.out)
  have hbX : Below W3.heap.size W3 W3.drew := (Below.refl _ W3).drew
  refine wp_region_held_drew (S := fun W' => Below W3.heap.size W3 W') (by kernel_rfl) ?_ (fun hHeld => ?_)
  · exact hbX
  refine tkH (v := ?_) 0 ⟨some 35, _, _, _, _, _⟩ rfl (Or.inl ⟨by rfl, ?_⟩) ?_
  rotate_left
  · intro w hSw; (try dsimp only at hSw); go_simp; try (with_reducible rfl)
  try simp only [Act.put, nz1, nz2, nz3]
  refine tkH (v := ?_) 1 ⟨some 36, _, _, _, _, _⟩ rfl (Or.inl ⟨by rfl, ?_⟩) ?_
  rotate_left
  · intro w hSw; (try dsimp only at hSw); go_simp; try (with_reducible rfl)
  try simp only [Act.put, nz1, nz2, nz3]
  refine tkH (v := ?_) 2 ⟨some 37, _, _, _, _, _⟩ rfl (Or.inl ⟨by rfl, ?_⟩) ?_
  rotate_left
  · intro w hSw; (try dsimp only at hSw); go_simp; try (with_reducible rfl)
  try simp only [Act.put, nz1, nz2, nz3]
  refine tkH (v := (.int .i64 (s.voters : Int))) 3 ⟨some 38, _, _, _, _, _⟩ rfl (yields_one (by rfl) 3 _ rfl ⟨B, 0, none⟩ rfl _ _ (fun W' hS => (HR3.out.below hS).cell (i := 0) (by omega)) Try.underlying3 rfl) ?_
  try simp only [Act.put, nz1, nz2, nz3]
  refine tkH (v := ?_) 4 ⟨some 39, _, _, _, _, _⟩ rfl (Or.inl ⟨by rfl, ?_⟩) ?_
  rotate_left
  · intro w hSw; (try dsimp only at hSw); go_simp; try (with_reducible rfl)
  try simp only [Act.put, nz1, nz2, nz3]
  refine tkH (v := ?_) 5 ⟨some 40, _, _, _, _, _⟩ rfl (Or.inl ⟨by rfl, ?_⟩) ?_
  rotate_left
  · intro w hSw; (try dsimp only at hSw); go_simp; try (with_reducible rfl)
  try simp only [Act.put, nz1, nz2, nz3]
  refine tkH (v := ?_) 6 ⟨some 41, _, _, _, _, _⟩ rfl (Or.inl ⟨by rfl, ?_⟩) ?_
  rotate_left
  · intro w hSw; (try dsimp only at hSw); go_simp; try (with_reducible rfl)
  try simp only [Act.put, nz1, nz2, nz3]
  refine tkH (v := (.int .i64 s.height)) 7 ⟨some 42, _, _, _, _, _⟩ rfl (yields_one (by rfl) 3 _ rfl ⟨B, 2, none⟩ rfl _ _ (fun W' hS => (HR3.out.below hS).cell (i := 2) (by omega)) Try.underlying3 rfl) ?_
  try simp only [Act.put, nz1, nz2, nz3]
  refine tkH (v := ?_) 8 ⟨some 43, _, _, _, _, _⟩ rfl (Or.inl ⟨by rfl, ?_⟩) ?_
  rotate_left
  · intro w hSw; (try dsimp only at hSw); go_simp; try (with_reducible rfl)
  try simp only [Act.put, nz1, nz2, nz3]
  refine tkH (v := ?_) 10 ⟨some 45, _, _, _, _, _⟩ rfl (Or.inl ⟨by rfl, ?_⟩) ?_
  rotate_left
  · intro w hSw; (try dsimp only at hSw); go_simp; try (with_reducible rfl)
  try simp only [Act.put, nz1, nz2, nz3]
  refine tkH (v := ?_) 11 ⟨some 46, _, _, _, _, _⟩ rfl (Or.inl ⟨by rfl, ?_⟩) ?_
  rotate_left
  · intro w hSw; (try dsimp only at hSw); go_simp; try (with_reducible rfl)
  try simp only [Act.put, nz1, nz2, nz3]
  refine tkH (v := ?_) 12 ⟨some 47, _, _, _, _, _⟩ rfl (Or.inl ⟨by rfl, ?_⟩) ?_
  rotate_left
  · intro w hSw; (try dsimp only at hSw); go_simp; try (with_reducible rfl)
  try simp only [Act.put, nz1, nz2, nz3]
  refine tkH (v := (.int .i64 s.me)) 13 ⟨some 48, _, _, _, _, _⟩ rfl (yields_one (by rfl) 3 _ rfl ⟨B, 1, none⟩ rfl _ _ (fun W' hS => (HR3.out.below hS).cell (i := 1) (by omega)) Try.underlying3 rfl) ?_
  try simp only [Act.put, nz1, nz2, nz3]
  refine wpAnyH_ready (rs := [9]) (by kernel_rfl) (by simp) ?_
  refine (AllReadyH.cons (o := ⟨some 44, _, _, _, _, _⟩) rfl (fun K hK => ?_) AllReadyH.nil)
  (try rw [if_pos (by rfl)])
  go_simp
  refine (HPR.out _).mono ?_
  rintro e Wn ⟨rfl, h1⟩
  obtain rfl := h1.symm
  try dsimp only
  refine hK.out _ _ (hbX) (fun hHeld => ?_)
  clear hK K
  try simp only [Act.put, nz1, nz2, nz3]
  refine tkH (v := ?_) 14 ⟨some 49, _, _, _, _, _⟩ rfl (Or.inl ⟨by rfl, ?_⟩) ?_
  rotate_left
  · intro w hSw; (try dsimp only at hSw); go_simp; try (with_reducible rfl)
  try simp only [Act.put, nz1, nz2, nz3]
  refine tkH (v := ?_) 15 ⟨some 34, _, _, _, _, _⟩ rfl (Or.inl ⟨by rfl, ?_⟩) ?_
  rotate_left
  · intro w hSw; (try dsimp only at hSw); go_simp; try (with_reducible rfl)
  try simp only [Act.put, nz1, nz2, nz3]
  refine wpAnyH_done (by kernel_rfl) ?_ _
  have cO : _ = some (Value.bool false) := (HR3.out.below hbX).cell (i := 104 + k * 34) (by omega) |>.trans (by rw [show 104 + k * 34 = 104 + 34 * k + 0 by omega, rdF_offer _ _ _ HK12.out (by omega)]; unfold offF; rw [if_pos rfl]; show some (Value.bool (s.offers k).there) = _; rw [HT.out])
  have cP : _ = some (Value.bool false) := (HK3.out.below hbX HK3.out.lt).cell 0 |>.trans (by rw [List.getElem?_toArray]; show some (Value.bool (propS s).there) = _; rw [HP.out])
  go_wp2_with (go_at_call 73; refine (timer_any (HR3.out.below hbX) k 0 rfl (by omega)).mono ?_; rintro e W9 ⟨⟨v9, rfl, ha9⟩, hr9, hg9⟩; have HA9 := Lib.hid ha9; have HR9 := Lib.hid hr9; have HG9 := Lib.hid hg9; clear ha9 hr9 hg9)
  go_ret
  exact ⟨⟨_, rfl, HA9.out.mono (Nat.le_trans HG2.out.size (Nat.le_trans HBW.out.size hbX.size))⟩, HR9.out, (HG2.out.trans (grown_of_below (HBW.out.trans (hbX.mono HBW.out.size)) _)).trans HG9.out⟩
set_option maxRecDepth 100000 in
set_option maxHeartbeats 8000000 in
theorem begin_send {W : World} {B C M n : Nat} {kv : Value} {s : RdS} (h : RoundAt W B C M n kv s) (k : Nat) (hk12 : k < 12) (hk : s.round < (k : Int)) (hp : proposer s.voters s.height (k : Int) = s.me) (ht : (s.offers k).there = false) (hpt : (propS s).there = true) : Calls Try.prog 61 #[.pointer (some ⟨B, 0, none⟩), .int .i64 (k : Int)] W fun e w' => (∃ v, e = .returned v ∧ ActsR W w' v ([⟨1, (k : Int), 0, (propS s).valid, (propS s).id⟩])) ∧ RoundAt w' B C M n kv (offS (inS s (k : Int)) k (propS s)) ∧ W.grownBy w' (some B) := by
  have HR := Lib.hid h
  have HOK := Lib.hid (in_ok h.ok hk12 hk)
  have HK12 := Lib.hid hk12
  have HKR := Lib.hid hk
  have hin : decide (0 ≤ (k : Int) ∧ (k : Int) < 12) = true := decide_eq_true (by omega)
  have HIN : Hid (∀ w, Calls Try.prog 63 #[.int .i64 (k : Int)] w fun e w' => e = .returned (.bool true) ∧ w' = w) := Lib.hid fun w => by have := inside_any (k : Int) w; rwa [hin] at this
  have HPR : Hid (∀ w, Calls Try.prog 43 #[.int .i64 (s.voters : Int), .int .i64 s.height, .int .i64 (k : Int)] w fun e w' => e = .returned (.int .i64 (proposer s.voters s.height (k : Int))) ∧ w' = w) := Lib.hid fun w => proposer_any _ _ _ (by have := h.ok.voters; omega) h.ok.height.1 (wfi_lt h.ok.height.2) (by omega) w
  generalize hpp : proposer s.voters s.height (k : Int) = pp at HPR hp
  clear hpp hin
  have hbq : (pp == s.me) = true := by rw [hp]; simp
  have HT := Lib.hid ht
  clear ht
  have HP := Lib.hid hpt
  clear hpt
  have f4 : W.frozen? ⟨B, 4, none⟩ = false := h.blk.frozen 4
  have f3 : W.frozen? ⟨B, 3, none⟩ = false := h.blk.frozen 3
  have c4 : W.cell? ⟨B, 4, none⟩ = some (.int .i64 s.step) := h.cell (i := 4) (by omega)
  have c3 : W.cell? ⟨B, 3, none⟩ = some (.int .i64 s.round) := h.cell (i := 3) (by omega)
  have hkn : (k : Int) < 12 := by omega
  clear h hk12 hk
  go_enter Try.func61, Try.ntmps61
  go_upto_region 5 with (first
    | (go_at_call 63; refine (HIN.out _).mono ?_; rintro e Wn ⟨rfl, h1⟩; obtain rfl := h1.symm))
  generalize hW2 : World.setCell (World.setCell W _ _) _ _ = W2
  have HR2 : Hid (RoundAt W2 B C M n kv (inS s (k : Int))) := Lib.hid (by rw [← hW2]; exact HR.out.setIn HOK.out)
  have HG2 : Hid (W.grownBy W2 (some B)) := Lib.hid (by rw [← hW2]; exact (grown_cell _ _ _ _).trans (grown_cell _ _ _ _))
  clear hW2 f4 c4 f3 c3
  have HPO : Hid (Calls Try.prog 72 #[.pointer (some ⟨B, 0, none⟩)] W2 fun e w' => e = .returned (.agg (offC (propS s)).toArray) ∧ Below W2.heap.size W2 w') := Lib.hid (by have := prop_any HR2.out; rwa [prop_in] at this)
  have HIP : Hid (IdOk (propS s).id) := Lib.hid (propS_ok HR.out.ok)
  go_upto_region 8 with (first
    | (go_at_call 72; refine HPO.out.mono ?_; rintro e Wp ⟨rfl, hbp⟩; have HBP := Lib.hid hbp; clear hbp)
    | (guard_target = wpList _ _ _ (Oper.mk _ (.store 127 _ _) _ _ _ _ :: _) _ _; refine wpList_store_off rfl _ _ rfl Wp.heap.size (propS s) rfl rfl HIP.out 127 _ (Blk.newAt _ _ rfl rfl) rfl ?_; intro W3 hS3 hz3 hb3 hk3; have HK3 := Lib.hid hS3; have HB3 := Lib.hid (((Below.refl _ Wp).alloc (Nat.le_refl _) _).trans hb3); clear hS3 hz3 hb3 hk3))
  have HBW : Hid (Below W2.heap.size W2 W3) := Lib.hid (HBP.out.trans (HB3.out.mono HBP.out.size))
  have HR3 := Lib.hid (HR2.out.below HBW.out)
  have hbX : Below W3.heap.size W3 W3.drew := (Below.refl _ W3).drew
  refine wp_region_held_drew (S := fun W' => Below W3.heap.size W3 W') (by kernel_rfl) ?_ (fun hHeld => ?_)
  · exact hbX
  refine tkH (v := ?_) 0 ⟨some 35, _, _, _, _, _⟩ rfl (Or.inl ⟨by rfl, ?_⟩) ?_
  rotate_left
  · intro w hSw; (try dsimp only at hSw); go_simp; try (with_reducible rfl)
  try simp only [Act.put, nz1, nz2, nz3]
  refine tkH (v := ?_) 1 ⟨some 36, _, _, _, _, _⟩ rfl (Or.inl ⟨by rfl, ?_⟩) ?_
  rotate_left
  · intro w hSw; (try dsimp only at hSw); go_simp; try (with_reducible rfl)
  try simp only [Act.put, nz1, nz2, nz3]
  refine tkH (v := ?_) 2 ⟨some 37, _, _, _, _, _⟩ rfl (Or.inl ⟨by rfl, ?_⟩) ?_
  rotate_left
  · intro w hSw; (try dsimp only at hSw); go_simp; try (with_reducible rfl)
  try simp only [Act.put, nz1, nz2, nz3]
  refine tkH (v := (.int .i64 (s.voters : Int))) 3 ⟨some 38, _, _, _, _, _⟩ rfl (yields_one (by rfl) 3 _ rfl ⟨B, 0, none⟩ rfl _ _ (fun W' hS => (HR3.out.below hS).cell (i := 0) (by omega)) Try.underlying3 rfl) ?_
  try simp only [Act.put, nz1, nz2, nz3]
  refine tkH (v := ?_) 4 ⟨some 39, _, _, _, _, _⟩ rfl (Or.inl ⟨by rfl, ?_⟩) ?_
  rotate_left
  · intro w hSw; (try dsimp only at hSw); go_simp; try (with_reducible rfl)
  try simp only [Act.put, nz1, nz2, nz3]
  refine tkH (v := ?_) 5 ⟨some 40, _, _, _, _, _⟩ rfl (Or.inl ⟨by rfl, ?_⟩) ?_
  rotate_left
  · intro w hSw; (try dsimp only at hSw); go_simp; try (with_reducible rfl)
  try simp only [Act.put, nz1, nz2, nz3]
  refine tkH (v := ?_) 6 ⟨some 41, _, _, _, _, _⟩ rfl (Or.inl ⟨by rfl, ?_⟩) ?_
  rotate_left
  · intro w hSw; (try dsimp only at hSw); go_simp; try (with_reducible rfl)
  try simp only [Act.put, nz1, nz2, nz3]
  refine tkH (v := (.int .i64 s.height)) 7 ⟨some 42, _, _, _, _, _⟩ rfl (yields_one (by rfl) 3 _ rfl ⟨B, 2, none⟩ rfl _ _ (fun W' hS => (HR3.out.below hS).cell (i := 2) (by omega)) Try.underlying3 rfl) ?_
  try simp only [Act.put, nz1, nz2, nz3]
  refine tkH (v := ?_) 8 ⟨some 43, _, _, _, _, _⟩ rfl (Or.inl ⟨by rfl, ?_⟩) ?_
  rotate_left
  · intro w hSw; (try dsimp only at hSw); go_simp; try (with_reducible rfl)
  try simp only [Act.put, nz1, nz2, nz3]
  refine tkH (v := ?_) 10 ⟨some 45, _, _, _, _, _⟩ rfl (Or.inl ⟨by rfl, ?_⟩) ?_
  rotate_left
  · intro w hSw; (try dsimp only at hSw); go_simp; try (with_reducible rfl)
  try simp only [Act.put, nz1, nz2, nz3]
  refine tkH (v := ?_) 11 ⟨some 46, _, _, _, _, _⟩ rfl (Or.inl ⟨by rfl, ?_⟩) ?_
  rotate_left
  · intro w hSw; (try dsimp only at hSw); go_simp; try (with_reducible rfl)
  try simp only [Act.put, nz1, nz2, nz3]
  refine tkH (v := ?_) 12 ⟨some 47, _, _, _, _, _⟩ rfl (Or.inl ⟨by rfl, ?_⟩) ?_
  rotate_left
  · intro w hSw; (try dsimp only at hSw); go_simp; try (with_reducible rfl)
  try simp only [Act.put, nz1, nz2, nz3]
  refine tkH (v := (.int .i64 s.me)) 13 ⟨some 48, _, _, _, _, _⟩ rfl (yields_one (by rfl) 3 _ rfl ⟨B, 1, none⟩ rfl _ _ (fun W' hS => (HR3.out.below hS).cell (i := 1) (by omega)) Try.underlying3 rfl) ?_
  try simp only [Act.put, nz1, nz2, nz3]
  refine wpAnyH_ready (rs := [9]) (by kernel_rfl) (by simp) ?_
  refine (AllReadyH.cons (o := ⟨some 44, _, _, _, _, _⟩) rfl (fun K hK => ?_) AllReadyH.nil)
  (try rw [if_pos (by rfl)])
  go_simp
  refine (HPR.out _).mono ?_
  rintro e Wn ⟨rfl, h1⟩
  obtain rfl := h1.symm
  try dsimp only
  refine hK.out _ _ (hbX) (fun hHeld => ?_)
  clear hK K
  try simp only [Act.put, nz1, nz2, nz3]
  refine tkH (v := ?_) 14 ⟨some 49, _, _, _, _, _⟩ rfl (Or.inl ⟨by rfl, ?_⟩) ?_
  rotate_left
  · intro w hSw; (try dsimp only at hSw); go_simp; try (with_reducible rfl)
  try simp only [Act.put, nz1, nz2, nz3]
  refine tkH (v := ?_) 15 ⟨some 34, _, _, _, _, _⟩ rfl (Or.inl ⟨by rfl, ?_⟩) ?_
  rotate_left
  · intro w hSw; (try dsimp only at hSw); go_simp; try (with_reducible rfl)
  try simp only [Act.put, nz1, nz2, nz3]
  refine wpAnyH_done (by kernel_rfl) ?_ _
  have cO : _ = some (Value.bool false) := (HR3.out.below hbX).cell (i := 104 + k * 34) (by omega) |>.trans (by rw [show 104 + k * 34 = 104 + 34 * k + 0 by omega, rdF_offer _ _ _ HK12.out (by omega)]; unfold offF; rw [if_pos rfl]; show some (Value.bool (s.offers k).there) = _; rw [HT.out])
  have cP : _ = some (Value.bool true) := (HK3.out.below hbX HK3.out.lt).cell 0 |>.trans (by rw [List.getElem?_toArray]; show some (Value.bool (propS s).there) = _; rw [HP.out])
  have HNB : Hid (B ≠ Wp.heap.size) := Lib.hid (by have := HR2.out.lt; have := HBP.out.size; omega)
  have HVV := Lib.hid (prop_valid HR.out.ok)
  have HOF : Hid (RdOk (offS (inS s (k : Int)) k (propS s))) := Lib.hid (off_ok HOK.out HIP.out HVV.out.1 (by have := HVV.out.2; have := HKR.out; omega))
  have HACT : Hid (ActOk ⟨1, (k : Int), 0, (propS s).valid, (propS s).id⟩) := Lib.hid (actOk_mk HIP.out (by omega) (by have := HK12.out; omega) (by omega) (by have := HVV.out; have := HKR.out; have := HK12.out; omega))
  go_upto_region 6 with fail
  replace hbX := hbX.drew
  clear cO cP
  refine wp_region_held_drew (S := fun W' => (Instr.loadAt 127 (.pointer (some ⟨Wp.heap.size, 0, none⟩))).run Try.prog W' = .ok (.agg (offC (propS s)).toArray) W') (by kernel_rfl) ?_ (fun hHeld => ?_)
  · exact (load_off (HK3.out.below hbX HK3.out.lt) HIP.out)
  refine tkH (v := ?_) 0 ⟨some 21, _, _, _, _, _⟩ rfl (Or.inl ⟨by rfl, ?_⟩) ?_
  rotate_left
  · intro w hSw; (try dsimp only at hSw); go_simp; try (with_reducible rfl)
  try simp only [Act.put, nz1, nz2, nz3]
  refine tkH (v := ?_) 1 ⟨some 22, _, _, _, _, _⟩ rfl (Or.inl ⟨by rfl, ?_⟩) ?_
  rotate_left
  · intro w hSw; (try dsimp only at hSw); go_simp; try (with_reducible rfl)
  try simp only [Act.put, nz1, nz2, nz3]
  refine tkH (v := (.agg (offC (propS s)).toArray)) 2 ⟨some 23, _, _, _, _, _⟩ rfl (yields_run (by rfl) 127 _ rfl (.pointer (some ⟨Wp.heap.size, 0, none⟩)) _ rfl (fun W' hS => hS)) ?_
  try simp only [Act.put, nz1, nz2, nz3]
  refine tkH (v := ?_) 3 ⟨some 24, _, _, _, _, _⟩ rfl (Or.inl ⟨by rfl, ?_⟩) ?_
  rotate_left
  · intro w hSw; (try dsimp only at hSw); go_simp; try (with_reducible rfl)
  try simp only [Act.put, nz1, nz2, nz3]
  refine tkH (v := ?_) 4 ⟨some 25, _, _, _, _, _⟩ rfl (Or.inl ⟨by rfl, ?_⟩) ?_
  rotate_left
  · intro w hSw; (try dsimp only at hSw); go_simp; try (with_reducible rfl)
  try simp only [Act.put, nz1, nz2, nz3]
  refine tkH (v := ?_) 5 ⟨some 26, _, _, _, _, _⟩ rfl (Or.inl ⟨by rfl, ?_⟩) ?_
  rotate_left
  · intro w hSw; (try dsimp only at hSw); go_simp; try (with_reducible rfl)
  try simp only [Act.put, nz1, nz2, nz3]
  refine wpAnyH_ready (rs := [6]) (by kernel_rfl) (by simp) ?_
  refine (AllReadyH.cons (o := ⟨none, _, _, _, _, _⟩) rfl (fun K hK => ?_) AllReadyH.nil)
  (try rw [if_pos (by rfl)])
  refine oper_store_at 127 _ _ rfl B (104 + k * 34) 549 _ (offC (propS s)) (offC_one _) rfl rfl 132 (HR3.out.below hbX).blk (by rw [offC_length HIP.out]; exact offer_info) (by rw [offC_length HIP.out]; have := HK12.out; omega) ?_
  intro W6 hw6
  have HR5 := Lib.hid (HR3.out.below hbX)
  have HBK6 : Hid (Blk W6 B 132 (arr 549 (rdF (offS (inS s (k : Int)) k (propS s)) kv (.pointer (some ⟨C, 0, none⟩))))) := Lib.hid (by rw [hw6]; exact (HR5.out.blk.setRow _).same (by rw [show 104 + k * 34 = 104 + 34 * k by omega]; exact rd_offer (inS s (k : Int)) kv _ HK12.out HIP.out))
  have hg6 : World.grownBy _ W6 (some B) := hw6 ▸ grown_row _ _ _
  have HG6 : Hid (W3.grownBy W6 (some B)) := Lib.hid ((grown_of_below hbX _).trans hg6)
  have HR6 : Hid (RoundAt W6 B C M n kv (offS (inS s (k : Int)) k (propS s))) := Lib.hid (HR5.out.put HBK6.out hg6 rfl rfl rfl HOF.out)
  have HK6 : Hid (Blk W6 Wp.heap.size 127 (offC (propS s)).toArray) := Lib.hid ((HK3.out.below hbX HK3.out.lt).grown hg6 fun e => HNB.out (Option.some.inj e).symm)
  clear hw6 hg6
  try dsimp only
  refine hK.out _ _ (load_off HK6.out HIP.out) (fun hHeld => ?_)
  clear hK K
  try simp only [Act.put]
  refine wpAnyH_done (by kernel_rfl) ?_ _
  have HC1 : Hid (W6.cell? ⟨Wp.heap.size, 1, none⟩ = some (.int .i64 (propS s).valid)) := Lib.hid (by rw [HK6.out.cell, List.getElem?_toArray]; rfl)
  have HLI : Hid ((Instr.loadAt 24 (.pointer (some ⟨Wp.heap.size, 2, none⟩))).run Try.prog W6 = .ok (idv (propS s).id) W6) := Lib.hid (load_offid HK6.out HIP.out)
  go_upto_region 7 with fail
  refine wp_region_list ?_
  refine wpList_yields (S := fun W' => W' = W6) (rfl) (v := ?_) (Or.inl ⟨by rfl, ?_⟩) (by rfl) ?_
  rotate_left
  · intro w hSw; (try dsimp only at hSw); go_simp; try (with_reducible rfl)
  try simp only [Act.put, nz1, nz2, nz3]
  refine wpList_yields (S := fun W' => W' = W6) (rfl) (v := ?_) (Or.inl ⟨by rfl, ?_⟩) (by rfl) ?_
  rotate_left
  · intro w hSw; (try dsimp only at hSw); go_simp; try (with_reducible rfl)
  try simp only [Act.put, nz1, nz2, nz3]
  refine wpList_yields (S := fun W' => W' = W6) (rfl) (v := (.int .i64 (propS s).valid)) (yields_one (by rfl) 3 _ rfl ⟨Wp.heap.size, 1, none⟩ rfl _ _ (fun W' hS => by rw [hS]; exact HC1.out) Try.underlying3 rfl) (by rfl) ?_
  try simp only [Act.put, nz1, nz2, nz3]
  refine wpList_yields (S := fun W' => W' = W6) (rfl) (v := ?_) (Or.inl ⟨by rfl, ?_⟩) (by rfl) ?_
  rotate_left
  · intro w hSw; (try dsimp only at hSw); go_simp; try (with_reducible rfl)
  try simp only [Act.put, nz1, nz2, nz3]
  refine wpList_yields (S := fun W' => W' = W6) (rfl) (v := (idv (propS s).id)) (yields_run (by rfl) 24 _ rfl (.pointer (some ⟨Wp.heap.size, 2, none⟩)) _ rfl (fun W' hS => by rw [hS]; exact HLI.out)) (by rfl) ?_
  try simp only [Act.put, nz1, nz2, nz3]
  refine wpList_yields (S := fun W' => W' = W6) (rfl) (v := (.agg (actA ⟨1, (k : Int), 0, (propS s).valid, (propS s).id⟩))) (yields_build (by rfl) 71 _ rfl [(0, .int .i64 1), (1, .int .i64 (k : Int)), (3, .int .i64 (propS s).valid), (4, idv (propS s).id)] rfl _ (act_built1 _ _ _ HIP.out)) (by rfl) ?_
  try simp only [Act.put, nz1, nz2, nz3]
  refine wpList_build_actL rfl _ rfl ⟨1, (k : Int), 0, (propS s).valid, (propS s).id⟩ HACT.out rfl ?_
  go_wp2_with fail
  go_ret
  exact ⟨⟨_, rfl, actsR_one HACT.out (Nat.le_trans HG2.out.size (Nat.le_trans HBW.out.size HG6.out.size))⟩, HR6.out.below ((Below.refl _ W6).alloc (Nat.le_refl _) _), ((HG2.out.trans (grown_of_below HBW.out _)).trans HG6.out).trans (grown_of_below ((Below.refl _ W6).alloc (Nat.le_refl _) _) _)⟩
theorem begin_any {W : World} {B C M n : Nat} {kv : Value} {s : RdS} (h : RoundAt W B C M n kv s) (m : Int) (hm : s.round < m) : Calls Try.prog 61 #[.pointer (some ⟨B, 0, none⟩), .int .i64 m] W fun e w' => (∃ v, e = .returned v ∧ ActsR W w' v (beginA s m)) ∧ RoundAt w' B C M n kv (beginS s m) ∧ W.grownBy w' (some B) := by
  by_cases hin : 0 ≤ m ∧ m < 12
  · obtain ⟨k, rfl⟩ : ∃ k : Nat, m = (k : Int) := ⟨m.toNat, by omega⟩
    have hk12 : k < 12 := by omega
    by_cases hp : proposer s.voters s.height (k : Int) = s.me
    · cases ht : (s.offers k).there with
      | true =>
        have e1 : beginA s (k : Int) = [] := by unfold beginA; rw [if_pos hin, if_neg (fun e => e hp), if_pos (by rw [Int.toNat_natCast]; exact ht)]
        have e2 : beginS s (k : Int) = inS s (k : Int) := by unfold beginS; rw [if_pos hin, if_neg (fun e => e hp), if_pos (by rw [Int.toNat_natCast]; exact ht)]
        rw [e1, e2]
        exact begin_had h k hk12 hm hp ht
      | false =>
        have hn : ¬ (s.offers (Int.toNat (k : Int))).there = true := by rw [Int.toNat_natCast, ht]; simp
        cases hpt : (propS s).there with
        | false =>
          have e1 : beginA s (k : Int) = timerA (inS s (k : Int)) k 0 := by unfold beginA; rw [if_pos hin, if_neg (fun e => e hp), if_neg hn, if_pos hpt, Int.toNat_natCast]
          have e2 : beginS s (k : Int) = timerS (inS s (k : Int)) k 0 := by unfold beginS; rw [if_pos hin, if_neg (fun e => e hp), if_neg hn, if_pos hpt, Int.toNat_natCast]
          rw [e1, e2]
          exact begin_none h k hk12 hm hp ht hpt
        | true =>
          have hpn : ¬ (propS s).there = false := by rw [hpt]; simp
          have e1 : beginA s (k : Int) = [⟨1, (k : Int), 0, (propS s).valid, (propS s).id⟩] := by unfold beginA; rw [if_pos hin, if_neg (fun e => e hp), if_neg hn, if_neg hpn]
          have e2 : beginS s (k : Int) = offS (inS s (k : Int)) k (propS s) := by unfold beginS; rw [if_pos hin, if_neg (fun e => e hp), if_neg hn, if_neg hpn, Int.toNat_natCast]
          rw [e1, e2]
          exact begin_send h k hk12 hm hp ht hpt
    · have e1 : beginA s (k : Int) = timerA (inS s (k : Int)) k 0 := by unfold beginA; rw [if_pos hin, if_pos hp, Int.toNat_natCast]
      have e2 : beginS s (k : Int) = timerS (inS s (k : Int)) k 0 := by unfold beginS; rw [if_pos hin, if_pos hp, Int.toNat_natCast]
      rw [e1, e2]
      exact begin_other h k hk12 hm hp
  · exact begin_out h m hin
end Go.Proofs.Ytbgojlcciealiaa
