/-
  One's way to agreement: what comes. No condition.
-/
import Derived.Test.YtbgojlcciealiaaRndSettle
import Derived.Test.YtbgojlcciealiaaRndGive
namespace Go.Proofs.Ytbgojlcciealiaa
open Go Go.RowKit Go.Maps

/-- What a call comes to: its acts, in a row of their own; the state; what may change. -/
def Done (W w' : World) (e : Ending) (B C M n : Nat) (kv : Value) (s' : RdS) (l : List ActS) : Prop :=
  ∃ kv', (∃ v, e = .returned v ∧ OwnA W.heap.size w' v l) ∧ RoundAt w' B C M (n + 202) kv' s' ∧ Chg W w' B M kv kv'
theorem settle_nil {W : World} {B C M n : Nat} {kv : Value} {s : RdS} (h : RoundAt W B C M n kv s) (hn : n + 200 < maxLen) : Calls Try.prog 60 #[.pointer (some ⟨B, 0, none⟩), .slice none 0 0] W fun e w' => (∃ v', e = .returned v' ∧ OwnA W.heap.size w' v' (settleA s)) ∧ RoundAt w' B C M (n + 200) kv (settleS s) ∧ Chg W w' B M kv kv :=
  (settle_any h W.heap.size (Nat.le_refl _) h.low _ [] (ownA_nil _ _) (by simp) hn).mono fun e w' ⟨⟨v', h1, h2⟩, h3, h4⟩ => ⟨⟨v', h1, by simpa using h2⟩, h3, h4.chg⟩
theorem settle_acts {W0 W : World} {B C M n : Nat} {kv : Value} {s : RdS} (h : RoundAt W B C M n kv s) (hl : LowR W0.heap.size B C M kv) (hc : Chg W0 W B M kv kv) (v : Value) (l0 : List ActS) (ho : OwnA W0.heap.size W v l0) (hlen : l0.length ≤ 1000) (hn : n + 200 < maxLen) : Calls Try.prog 60 #[.pointer (some ⟨B, 0, none⟩), v] W fun e w' => (∃ v', e = .returned v' ∧ OwnA W0.heap.size w' v' (l0 ++ settleA s)) ∧ RoundAt w' B C M (n + 200) kv (settleS s) ∧ Chg W0 w' B M kv kv :=
  (settle_any h W0.heap.size hc.size hl v l0 ho hlen hn).mono fun _ _ ⟨h1, h3, h4⟩ => ⟨h1, h3, ((hc.o (Nat.le_refl _)).trans h4).chg⟩
set_option maxRecDepth 100000 in
set_option maxHeartbeats 8000000 in
theorem know_any {W : World} {B C M n : Nat} {kv : Value} {s : RdS} (h : RoundAt W B C M n kv s) (id : List UInt8) (hid : IdOk id) (hn : n + 202 < maxLen) : Calls Try.prog 45 #[.pointer (some ⟨B, 0, none⟩), .agg (idC id)] W fun e w' => Done W w' e B C M n kv (settleS (remS s id)) (settleA (remS s id)) := by
  obtain ⟨W1, hW⟩ : ∃ W1, W.alloc (.cells (idC id) 24) = W1 := ⟨_, rfl⟩
  have hb1 : Below W.heap.size W W1 := by rw [← hW]; exact (Below.refl _ _).alloc (Nat.le_refl _) _
  have hK1 : Blk W1 W.heap.size 24 (idC id) := by rw [← hW]; exact Blk.new _ _ _
  have hR := h.below hb1
  have hC : Chg W W1 B M kv kv := Chg.ofBelow hb1
  have HID := Lib.hid hid
  have HN := Lib.hid hn
  have HLW := Lib.hid h.low
  have HN2 : Hid (n + 200 < maxLen) := Lib.hid (by omega)
  clear h hid hb1 hn
  go_enter Try.func45, Try.ntmps45
  go_upto_region 1 with fail
  clear hW
  go_wp2_with (first
    | (guard_target = wpList _ _ _ (Oper.mk _ (.load 24 _) _ _ _ _ :: _) _ _; refine wpList_load_runS (by rfl) 24 _ rfl _ _ rfl (run_loadVar_idv HID.out hK1) ?_)
    | (go_at_call 59; refine (remember_any hR id HID.out).mono ?_; rintro e Wr ⟨⟨vr, rfl⟩, kv2, hr2, hc2⟩; replace hC := hC.trans hc2; clear hR hc2; have hR := hr2; clear hr2)
    | (go_at_call 60; refine (settle_nil hR HN2.out).mono ?_; rintro e Ws ⟨⟨vs, rfl, hos⟩, hrs, hcs⟩))
  go_ret
  exact ⟨_, ⟨_, rfl, hos.low hC.size⟩, hrs.mono (by omega), hC.trans hcs⟩
set_option maxRecDepth 100000 in
set_option maxHeartbeats 8000000 in
theorem voted_other {W : World} {B C M n : Nat} {kv : Value} {s : RdS} (h : RoundAt W B C M n kv s) (r k q : Int) (hr : wfi r) (hk : wfi k) (hq : wfi q) (id : List UInt8) (hid : IdOk id) (hn : n + 202 < maxLen) (hme : q ≠ s.me) : Calls Try.prog 42 #[.pointer (some ⟨B, 0, none⟩), .int .i64 r, .int .i64 k, .int .i64 q, .agg (idC id)] W fun e w' => Done W w' e B C M n kv (settleS { s with votes := putT s.voters s.votes r k q id }) (settleA { s with votes := putT s.voters s.votes r k q id }) := by
  obtain ⟨W1, hW⟩ : ∃ W1, W.alloc (.cells (idC id) 24) = W1 := ⟨_, rfl⟩
  have hb1 : Below W.heap.size W W1 := by rw [← hW]; exact (Below.refl _ _).alloc (Nat.le_refl _) _
  have hK1 : Blk W1 W.heap.size 24 (idC id) := by rw [← hW]; exact Blk.new _ _ _
  have hR := h.below hb1
  have hC : Chg W W1 B M kv kv := Chg.ofBelow hb1
  have HID := Lib.hid hid
  have HN := Lib.hid hn
  have HLW := Lib.hid h.low
  have HN2 : Hid (n + 1 + 200 < maxLen) := Lib.hid (by omega)
  have HN1 : Hid (n < maxLen) := Lib.hid (by omega)
  have HWF := Lib.hid (And.intro hr (And.intro hk hq))
  have HNM : Hid (some W.heap.size ≠ some M) := Lib.hid fun e => by have := h.cnt.ltM; injection e with e; omega
  have hqm : (q == s.me) = false := by rw [beq_eq_false_iff_ne]; exact hme
  have c1 : W1.cell? ⟨B, 1, none⟩ = some (.int .i64 s.me) := hR.cell (i := 1) (by omega)
  clear h hid hb1 hn hr hk hq
  go_enter Try.func42, Try.ntmps42
  go_upto_region 1 with fail
  clear hW
  go_upto_region 2 with fail
  clear c1
  replace hR := hR.drew
  replace hC := hC.trans (Chg.ofBelow (Below.refl _ _).drew)
  replace hK1 := hK1.drew
  refine wp_region_held_drew (S := fun W' => W'.cell? ⟨B, 548, none⟩ = some (.pointer (some ⟨C, 0, none⟩)) ∧ (Instr.loadAt 24 (.pointer (some ⟨W.heap.size, 0, none⟩))).run Try.prog W' = .ok (idv id) W') (by kernel_rfl) ?_ (fun hHeld => ?_)
  · exact ⟨hR.cell (i := 548) (by omega), run_loadVar_idv HID.out hK1⟩
  refine tkH (v := ?_) 0 ⟨some 17, _, _, _, _, _⟩ rfl (Or.inl ⟨by rfl, ?_⟩) ?_
  rotate_left
  · intro w hSw; (try dsimp only at hSw); go_simp; try (with_reducible rfl)
  try simp only [Act.put, nz1, nz2, nz3]
  refine tkH (v := ?_) 1 ⟨some 18, _, _, _, _, _⟩ rfl (Or.inl ⟨by rfl, ?_⟩) ?_
  rotate_left
  · intro w hSw; (try dsimp only at hSw); go_simp; try (with_reducible rfl)
  try simp only [Act.put, nz1, nz2, nz3]
  refine tkH (v := ?_) 2 ⟨some 19, _, _, _, _, _⟩ rfl (Or.inl ⟨by rfl, ?_⟩) ?_
  rotate_left
  · intro w hSw; (try dsimp only at hSw); go_simp; try (with_reducible rfl)
  try simp only [Act.put, nz1, nz2, nz3]
  refine tkH (v := (.pointer (some ⟨C, 0, none⟩))) 3 ⟨some 20, _, _, _, _, _⟩ rfl (yields_one (by rfl) 28 _ rfl ⟨B, 548, none⟩ rfl _ _ (fun W' hS => hS.1) Try.underlying28 rfl) ?_
  try simp only [Act.put, nz1, nz2, nz3]
  refine tkH (v := ?_) 4 ⟨some 21, _, _, _, _, _⟩ rfl (Or.inl ⟨by rfl, ?_⟩) ?_
  rotate_left
  · intro w hSw; (try dsimp only at hSw); go_simp; try (with_reducible rfl)
  try simp only [Act.put, nz1, nz2, nz3]
  refine tkH (v := ?_) 5 ⟨some 22, _, _, _, _, _⟩ rfl (Or.inl ⟨by rfl, ?_⟩) ?_
  rotate_left
  · intro w hSw; (try dsimp only at hSw); go_simp; try (with_reducible rfl)
  try simp only [Act.put, nz1, nz2, nz3]
  refine tkH (v := ?_) 6 ⟨some 23, _, _, _, _, _⟩ rfl (Or.inl ⟨by rfl, ?_⟩) ?_
  rotate_left
  · intro w hSw; (try dsimp only at hSw); go_simp; try (with_reducible rfl)
  try simp only [Act.put, nz1, nz2, nz3]
  refine tkH (v := (idv id)) 7 ⟨some 24, _, _, _, _, _⟩ rfl (yields_run (by rfl) 24 _ rfl (.pointer (some ⟨W.heap.size, 0, none⟩)) _ rfl (fun W' hS => hS.2)) ?_
  try simp only [Act.put, nz1, nz2, nz3]
  refine wpAnyH_ready (rs := [8]) (by kernel_rfl) (by simp) ?_
  refine (AllReadyH.cons (o := ⟨some 25, _, _, _, _, _⟩) rfl (fun K hK => ?_) AllReadyH.nil)
  (try rw [if_pos (by rfl)])
  go_simp
  refine (put_any hR.cnt r k q id HID.out HWF.out.1 HWF.out.2.1 HWF.out.2.2 HN1.out).mono ?_
  rintro e W3 ⟨rfl, hc3, hg3⟩
  replace hR := hR.putM hc3 hg3
  replace hC := hC.trans (Chg.ofM hg3)
  replace hK1 := hK1.grown hg3 HNM.out
  clear hc3 hg3
  try dsimp only
  refine hK.out _ _ (⟨hR.cell (i := 548) (by omega), run_loadVar_idv HID.out hK1⟩) (fun hHeld => ?_)
  clear hK K
  try simp only [Act.put, nz1, nz2, nz3]
  refine wpAnyH_done (by kernel_rfl) ?_ _
  go_wp2_with (go_at_call 60; refine (settle_nil hR HN2.out).mono ?_; rintro e Ws ⟨⟨vs, rfl, hos⟩, hrs, hcs⟩)
  go_ret
  exact ⟨_, ⟨_, rfl, hos.low hC.size⟩, hrs.mono (by omega), hC.trans hcs⟩
set_option maxRecDepth 100000 in
set_option maxHeartbeats 8000000 in
theorem voted_own {W : World} {B C M n : Nat} {kv : Value} {s : RdS} (h : RoundAt W B C M n kv s) (r k q : Int) (_hr : wfi r) (_hk : wfi k) (_hq : wfi q) (id : List UInt8) (hid : IdOk id) (hn : n + 202 < maxLen) (hme : q = s.me) : Calls Try.prog 42 #[.pointer (some ⟨B, 0, none⟩), .int .i64 r, .int .i64 k, .int .i64 q, .agg (idC id)] W fun e w' => Done W w' e B C M n kv (settleS s) (settleA s) := by
  obtain ⟨W1, hW⟩ : ∃ W1, W.alloc (.cells (idC id) 24) = W1 := ⟨_, rfl⟩
  have hb1 : Below W.heap.size W W1 := by rw [← hW]; exact (Below.refl _ _).alloc (Nat.le_refl _) _
  have hK1 : Blk W1 W.heap.size 24 (idC id) := by rw [← hW]; exact Blk.new _ _ _
  have hR := h.below hb1
  have hC : Chg W W1 B M kv kv := Chg.ofBelow hb1
  have HID := Lib.hid hid
  have HN := Lib.hid hn
  have HLW := Lib.hid h.low
  have HN2 : Hid (n + 200 < maxLen) := Lib.hid (by omega)
  have c1 : W1.cell? ⟨B, 1, none⟩ = some (.int .i64 q) := by rw [hR.cell (i := 1) (by omega), hme]; rfl
  clear h hid hb1 hn _hr _hk _hq hme
  go_enter Try.func42, Try.ntmps42
  go_upto_region 1 with fail
  clear hW
  go_wp2_with (go_at_call 60; refine (settle_nil hR HN2.out).mono ?_; rintro e Ws ⟨⟨vs, rfl, hos⟩, hrs, hcs⟩)
  go_ret
  exact ⟨_, ⟨_, rfl, hos.low hC.size⟩, hrs.mono (by omega), hC.trans hcs⟩
theorem voted_any {W : World} {B C M n : Nat} {kv : Value} {s : RdS} (h : RoundAt W B C M n kv s) (r k q : Int) (hr : wfi r) (hk : wfi k) (hq : wfi q) (id : List UInt8) (hid : IdOk id) (hn : n + 202 < maxLen) : Calls Try.prog 42 #[.pointer (some ⟨B, 0, none⟩), .int .i64 r, .int .i64 k, .int .i64 q, .agg (idC id)] W fun e w' => Done W w' e B C M n kv (settleS (votS s r k q id)) (settleA (votS s r k q id)) := by
  unfold votS
  by_cases hme : q = s.me
  · rw [if_neg (fun e => e hme)]
    exact voted_own h r k q hr hk hq id hid hn hme
  · rw [if_pos hme]
    exact voted_other h r k q hr hk hq id hid hn hme
set_option maxRecDepth 100000 in
set_option maxHeartbeats 8000000 in
theorem offered_out {W : World} {B C M n : Nat} {kv : Value} {s : RdS} (h : RoundAt W B C M n kv s) (r v : Int) (id : List UInt8) (hid : IdOk id) (hn : n + 202 < maxLen) (hin : ¬ (0 ≤ r ∧ r < 12)) : Calls Try.prog 44 #[.pointer (some ⟨B, 0, none⟩), .int .i64 r, .int .i64 v, .agg (idC id)] W fun e w' => Done W w' e B C M n kv (settleS (s)) (settleA (s)) := by
  obtain ⟨W1, hW⟩ : ∃ W1, W.alloc (.cells (idC id) 24) = W1 := ⟨_, rfl⟩
  have hb1 : Below W.heap.size W W1 := by rw [← hW]; exact (Below.refl _ _).alloc (Nat.le_refl _) _
  have hK1 : Blk W1 W.heap.size 24 (idC id) := by rw [← hW]; exact Blk.new _ _ _
  have hR := h.below hb1
  have hC : Chg W W1 B M kv kv := Chg.ofBelow hb1
  have HID := Lib.hid hid
  have HN := Lib.hid hn
  have HLW := Lib.hid h.low
  have HN2 : Hid (n + 200 < maxLen) := Lib.hid (by omega)
  have HIN : Hid (∀ w, Calls Try.prog 63 #[.int .i64 r] w fun e w' => e = .returned (.bool false) ∧ w' = w) := Lib.hid fun w => by have := inside_any r w; rwa [decide_eq_false hin] at this
  skip
  clear h hid hb1 hn hin
  go_enter Try.func44, Try.ntmps44
  go_upto_region 1 with fail
  clear hW
  replace hR := hR.drew
  replace hC := hC.trans (Chg.ofBelow (Below.refl _ _).drew)
  replace hK1 := hK1.drew
  refine wp_region_held_drew (S := fun W' => (Instr.loadAt 24 (.pointer (some ⟨W.heap.size, 0, none⟩))).run Try.prog W' = .ok (idv id) W') (by kernel_rfl) ?_ (fun hHeld => ?_)
  · exact run_loadVar_idv HID.out hK1
  refine tkH (v := ?_) 0 ⟨some 9, _, _, _, _, _⟩ rfl (Or.inl ⟨by rfl, ?_⟩) ?_
  rotate_left
  · intro w hSw; (try dsimp only at hSw); go_simp; try (with_reducible rfl)
  try simp only [Act.put, nz1, nz2, nz3]
  refine wpAnyH_ready (rs := [1]) (by kernel_rfl) (by simp) ?_
  refine (AllReadyH.cons (o := ⟨some 10, _, _, _, _, _⟩) rfl (fun K hK => ?_) AllReadyH.nil)
  (try rw [if_pos (by rfl)])
  go_simp
  refine (HIN.out _).mono ?_
  rintro e Wn ⟨rfl, h1⟩
  obtain rfl := h1.symm
  try dsimp only
  refine hK.out _ _ (run_loadVar_idv HID.out hK1) (fun hHeld => ?_)
  clear hK K
  try simp only [Act.put, nz1, nz2, nz3]
  refine tkH (v := ?_) 2 ⟨some 11, _, _, _, _, _⟩ rfl (Or.inl ⟨by rfl, ?_⟩) ?_
  rotate_left
  · intro w hSw; (try dsimp only at hSw); go_simp; try (with_reducible rfl)
  try simp only [Act.put, nz1, nz2, nz3]
  refine tkH (v := undef) 3 ⟨some 12, _, _, _, _, _⟩ rfl (Or.inr ⟨by rfl, rfl⟩) ?_
  try simp only [Act.put, nz1, nz2, nz3]
  refine tkH (v := undef) 4 ⟨some 13, _, _, _, _, _⟩ rfl (Or.inr ⟨by rfl, rfl⟩) ?_
  try simp only [Act.put, nz1, nz2, nz3]
  refine tkH (v := undef) 5 ⟨some 14, _, _, _, _, _⟩ rfl (Or.inr ⟨by rfl, rfl⟩) ?_
  try simp only [Act.put, nz1, nz2, nz3]
  refine tkH (v := ?_) 6 ⟨some 15, _, _, _, _, _⟩ rfl (Or.inl ⟨by rfl, ?_⟩) ?_
  rotate_left
  · intro w hSw; (try dsimp only at hSw); go_simp; try (with_reducible rfl)
  try simp only [Act.put, nz1, nz2, nz3]
  refine tkH (v := ?_) 7 ⟨some 16, _, _, _, _, _⟩ rfl (Or.inl ⟨by rfl, ?_⟩) ?_
  rotate_left
  · intro w hSw; (try dsimp only at hSw); go_simp; try (with_reducible rfl)
  try simp only [Act.put, nz1, nz2, nz3]
  refine tkH (v := undef) 8 ⟨some 17, _, _, _, _, _⟩ rfl (Or.inr ⟨by rfl, rfl⟩) ?_
  try simp only [Act.put, nz1, nz2, nz3]
  refine tkH (v := undef) 9 ⟨some 18, _, _, _, _, _⟩ rfl (Or.inr ⟨by rfl, rfl⟩) ?_
  try simp only [Act.put, nz1, nz2, nz3]
  refine tkH (v := undef) 10 ⟨some 19, _, _, _, _, _⟩ rfl (Or.inr ⟨by rfl, rfl⟩) ?_
  try simp only [Act.put, nz1, nz2, nz3]
  refine tkH (v := ?_) 11 ⟨some 20, _, _, _, _, _⟩ rfl (Or.inl ⟨by rfl, ?_⟩) ?_
  rotate_left
  · intro w hSw; (try dsimp only at hSw); go_simp; try (with_reducible rfl)
  try simp only [Act.put, nz1, nz2, nz3]
  refine wpAnyH_done (by kernel_rfl) ?_ _
  go_wp2_with (first
    | (go_at_call 60; refine (settle_nil hR HN2.out).mono ?_; rintro e Ws ⟨⟨vs, rfl, hos⟩, hrs, hcs⟩))
  go_ret
  exact ⟨_, ⟨_, rfl, hos.low hC.size⟩, hrs.mono (by omega), hC.trans hcs⟩
set_option maxRecDepth 100000 in
set_option maxHeartbeats 8000000 in
theorem offered_zero {W : World} {B C M n : Nat} {kv : Value} {s : RdS} (h : RoundAt W B C M n kv s) (k : Nat) (hk12 : k < 12) (v : Int) (id : List UInt8) (hid : IdOk id) (hn : n + 202 < maxLen) (hz : (id == zeroId) = true) : Calls Try.prog 44 #[.pointer (some ⟨B, 0, none⟩), .int .i64 (k : Int), .int .i64 v, .agg (idC id)] W fun e w' => Done W w' e B C M n kv (settleS (s)) (settleA (s)) := by
  obtain ⟨W1, hW⟩ : ∃ W1, W.alloc (.cells (idC id) 24) = W1 := ⟨_, rfl⟩
  have hb1 : Below W.heap.size W W1 := by rw [← hW]; exact (Below.refl _ _).alloc (Nat.le_refl _) _
  have hK1 : Blk W1 W.heap.size 24 (idC id) := by rw [← hW]; exact Blk.new _ _ _
  have hR := h.below hb1
  have hC : Chg W W1 B M kv kv := Chg.ofBelow hb1
  have HID := Lib.hid hid
  have HN := Lib.hid hn
  have HLW := Lib.hid h.low
  have HN2 : Hid (n + 200 < maxLen) := Lib.hid (by omega)
  have HIN : Hid (∀ w, Calls Try.prog 63 #[.int .i64 (k : Int)] w fun e w' => e = .returned (.bool true) ∧ w' = w) := Lib.hid fun w => by have := inside_any (k : Int) w; rwa [decide_eq_true (by omega)] at this
  have HK12 := Lib.hid hk12
  clear h hid hb1 hn hk12
  go_enter Try.func44, Try.ntmps44
  go_upto_region 1 with fail
  clear hW
  replace hR := hR.drew
  replace hC := hC.trans (Chg.ofBelow (Below.refl _ _).drew)
  replace hK1 := hK1.drew
  refine wp_region_held_drew (S := fun W' => (Instr.loadAt 24 (.pointer (some ⟨W.heap.size, 0, none⟩))).run Try.prog W' = .ok (idv id) W') (by kernel_rfl) ?_ (fun hHeld => ?_)
  · exact run_loadVar_idv HID.out hK1
  refine tkH (v := ?_) 0 ⟨some 9, _, _, _, _, _⟩ rfl (Or.inl ⟨by rfl, ?_⟩) ?_
  rotate_left
  · intro w hSw; (try dsimp only at hSw); go_simp; try (with_reducible rfl)
  try simp only [Act.put, nz1, nz2, nz3]
  refine wpAnyH_ready (rs := [1]) (by kernel_rfl) (by simp) ?_
  refine (AllReadyH.cons (o := ⟨some 10, _, _, _, _, _⟩) rfl (fun K hK => ?_) AllReadyH.nil)
  (try rw [if_pos (by rfl)])
  go_simp
  refine (HIN.out _).mono ?_
  rintro e Wn ⟨rfl, h1⟩
  obtain rfl := h1.symm
  try dsimp only
  refine hK.out _ _ (run_loadVar_idv HID.out hK1) (fun hHeld => ?_)
  clear hK K
  try simp only [Act.put, nz1, nz2, nz3]
  refine tkH (v := ?_) 2 ⟨some 11, _, _, _, _, _⟩ rfl (Or.inl ⟨by rfl, ?_⟩) ?_
  rotate_left
  · intro w hSw; (try dsimp only at hSw); go_simp; try (with_reducible rfl)
  try simp only [Act.put, nz1, nz2, nz3]
  refine tkH (v := (idv id)) 3 ⟨some 12, _, _, _, _, _⟩ rfl (yields_run (by rfl) 24 _ rfl (.pointer (some ⟨W.heap.size, 0, none⟩)) _ rfl (fun W' hS => hS)) ?_
  try simp only [Act.put, nz1, nz2, nz3]
  refine tkH (v := (idv zeroId)) 4 ⟨some 13, _, _, _, _, _⟩ rfl (yields_build (by rfl) 24 _ rfl [] rfl _ zero_built') ?_
  try simp only [Act.put, nz1, nz2, nz3]
  refine tkH (v := (.bool (!(id == zeroId)))) 5 ⟨some 14, _, _, _, _, _⟩ rfl (yields_neI (by rfl) _ _ rfl id zeroId rfl rfl HID.out zeroId_ok) ?_
  try simp only [Act.put, nz1, nz2, nz3]
  refine tkH (v := ?_) 6 ⟨some 15, _, _, _, _, _⟩ rfl (Or.inl ⟨by rfl, ?_⟩) ?_
  rotate_left
  · intro w hSw; (try dsimp only at hSw); go_simp; try (with_reducible rfl)
  try simp only [Act.put, nz1, nz2, nz3]
  refine tkH (v := ?_) 7 ⟨some 16, _, _, _, _, _⟩ rfl (Or.inl ⟨by rfl, ?_⟩) ?_
  rotate_left
  · intro w hSw; (try dsimp only at hSw); go_simp; try (with_reducible rfl)
  try simp only [Act.put, nz1, nz2, nz3]
  refine tkH (v := undef) 8 ⟨some 17, _, _, _, _, _⟩ rfl (Or.inr ⟨by rfl, rfl⟩) ?_
  try simp only [Act.put, nz1, nz2, nz3]
  refine tkH (v := undef) 9 ⟨some 18, _, _, _, _, _⟩ rfl (Or.inr ⟨by rfl, rfl⟩) ?_
  try simp only [Act.put, nz1, nz2, nz3]
  refine tkH (v := undef) 10 ⟨some 19, _, _, _, _, _⟩ rfl (Or.inr ⟨by rfl, rfl⟩) ?_
  try simp only [Act.put, nz1, nz2, nz3]
  refine tkH (v := ?_) 11 ⟨some 20, _, _, _, _, _⟩ rfl (Or.inl ⟨by rfl, ?_⟩) ?_
  rotate_left
  · intro w hSw; (try dsimp only at hSw); go_simp; try (with_reducible rfl)
  try simp only [Act.put, nz1, nz2, nz3]
  refine wpAnyH_done (by kernel_rfl) ?_ _
  go_wp2_with (first
    | (go_at_call 60; refine (settle_nil hR HN2.out).mono ?_; rintro e Ws ⟨⟨vs, rfl, hos⟩, hrs, hcs⟩))
  go_ret
  exact ⟨_, ⟨_, rfl, hos.low hC.size⟩, hrs.mono (by omega), hC.trans hcs⟩
set_option maxRecDepth 100000 in
set_option maxHeartbeats 8000000 in
theorem offered_nil {W : World} {B C M n : Nat} {kv : Value} {s : RdS} (h : RoundAt W B C M n kv s) (k : Nat) (hk12 : k < 12) (v : Int) (id : List UInt8) (hid : IdOk id) (hn : n + 202 < maxLen) (hz : (id == zeroId) = false) (hnl : (id == nilId) = true) : Calls Try.prog 44 #[.pointer (some ⟨B, 0, none⟩), .int .i64 (k : Int), .int .i64 v, .agg (idC id)] W fun e w' => Done W w' e B C M n kv (settleS (s)) (settleA (s)) := by
  obtain ⟨W1, hW⟩ : ∃ W1, W.alloc (.cells (idC id) 24) = W1 := ⟨_, rfl⟩
  have hb1 : Below W.heap.size W W1 := by rw [← hW]; exact (Below.refl _ _).alloc (Nat.le_refl _) _
  have hK1 : Blk W1 W.heap.size 24 (idC id) := by rw [← hW]; exact Blk.new _ _ _
  have hR := h.below hb1
  have hC : Chg W W1 B M kv kv := Chg.ofBelow hb1
  have HID := Lib.hid hid
  have HN := Lib.hid hn
  have HLW := Lib.hid h.low
  have HN2 : Hid (n + 200 < maxLen) := Lib.hid (by omega)
  have HIN : Hid (∀ w, Calls Try.prog 63 #[.int .i64 (k : Int)] w fun e w' => e = .returned (.bool true) ∧ w' = w) := Lib.hid fun w => by have := inside_any (k : Int) w; rwa [decide_eq_true (by omega)] at this
  have HK12 := Lib.hid hk12
  clear h hid hb1 hn hk12
  go_enter Try.func44, Try.ntmps44
  go_upto_region 1 with fail
  clear hW
  replace hR := hR.drew
  replace hC := hC.trans (Chg.ofBelow (Below.refl _ _).drew)
  replace hK1 := hK1.drew
  refine wp_region_held_drew (S := fun W' => (Instr.loadAt 24 (.pointer (some ⟨W.heap.size, 0, none⟩))).run Try.prog W' = .ok (idv id) W') (by kernel_rfl) ?_ (fun hHeld => ?_)
  · exact run_loadVar_idv HID.out hK1
  refine tkH (v := ?_) 0 ⟨some 9, _, _, _, _, _⟩ rfl (Or.inl ⟨by rfl, ?_⟩) ?_
  rotate_left
  · intro w hSw; (try dsimp only at hSw); go_simp; try (with_reducible rfl)
  try simp only [Act.put, nz1, nz2, nz3]
  refine wpAnyH_ready (rs := [1]) (by kernel_rfl) (by simp) ?_
  refine (AllReadyH.cons (o := ⟨some 10, _, _, _, _, _⟩) rfl (fun K hK => ?_) AllReadyH.nil)
  (try rw [if_pos (by rfl)])
  go_simp
  refine (HIN.out _).mono ?_
  rintro e Wn ⟨rfl, h1⟩
  obtain rfl := h1.symm
  try dsimp only
  refine hK.out _ _ (run_loadVar_idv HID.out hK1) (fun hHeld => ?_)
  clear hK K
  try simp only [Act.put, nz1, nz2, nz3]
  refine tkH (v := ?_) 2 ⟨some 11, _, _, _, _, _⟩ rfl (Or.inl ⟨by rfl, ?_⟩) ?_
  rotate_left
  · intro w hSw; (try dsimp only at hSw); go_simp; try (with_reducible rfl)
  try simp only [Act.put, nz1, nz2, nz3]
  refine tkH (v := (idv id)) 3 ⟨some 12, _, _, _, _, _⟩ rfl (yields_run (by rfl) 24 _ rfl (.pointer (some ⟨W.heap.size, 0, none⟩)) _ rfl (fun W' hS => hS)) ?_
  try simp only [Act.put, nz1, nz2, nz3]
  refine tkH (v := (idv zeroId)) 4 ⟨some 13, _, _, _, _, _⟩ rfl (yields_build (by rfl) 24 _ rfl [] rfl _ zero_built') ?_
  try simp only [Act.put, nz1, nz2, nz3]
  refine tkH (v := (.bool (!(id == zeroId)))) 5 ⟨some 14, _, _, _, _, _⟩ rfl (yields_neI (by rfl) _ _ rfl id zeroId rfl rfl HID.out zeroId_ok) ?_
  try simp only [Act.put, nz1, nz2, nz3]
  refine tkH (v := ?_) 6 ⟨some 15, _, _, _, _, _⟩ rfl (Or.inl ⟨by rfl, ?_⟩) ?_
  rotate_left
  · intro w hSw; (try dsimp only at hSw); go_simp; try (with_reducible rfl)
  try simp only [Act.put, nz1, nz2, nz3]
  refine tkH (v := ?_) 7 ⟨some 16, _, _, _, _, _⟩ rfl (Or.inl ⟨by rfl, ?_⟩) ?_
  rotate_left
  · intro w hSw; (try dsimp only at hSw); go_simp; try (with_reducible rfl)
  try simp only [Act.put, nz1, nz2, nz3]
  refine tkH (v := (idv id)) 8 ⟨some 17, _, _, _, _, _⟩ rfl (yields_run (by rfl) 24 _ rfl (.pointer (some ⟨W.heap.size, 0, none⟩)) _ rfl (fun W' hS => hS)) ?_
  try simp only [Act.put, nz1, nz2, nz3]
  refine wpAnyH_ready (rs := [9]) (by kernel_rfl) (by simp) ?_
  refine (AllReadyH.cons (o := ⟨some 18, _, _, _, _, _⟩) rfl (fun K hK => ?_) AllReadyH.nil)
  (try rw [if_pos (by rfl)])
  go_simp
  refine (nil_any _).mono ?_
  rintro e Wn ⟨rfl, hbn⟩
  replace hR := hR.below hbn
  replace hC := hC.trans (Chg.ofBelow hbn)
  replace hK1 := hK1.below hbn hK1.lt
  clear hbn
  try dsimp only
  refine hK.out _ _ (run_loadVar_idv HID.out hK1) (fun hHeld => ?_)
  clear hK K
  try simp only [Act.put, nz1, nz2, nz3]
  refine tkH (v := (.bool (!(id == nilId)))) 10 ⟨some 19, _, _, _, _, _⟩ rfl (yields_neI (by rfl) _ _ rfl id nilId rfl rfl HID.out nilId_ok) ?_
  try simp only [Act.put, nz1, nz2, nz3]
  refine tkH (v := ?_) 11 ⟨some 20, _, _, _, _, _⟩ rfl (Or.inl ⟨by rfl, ?_⟩) ?_
  rotate_left
  · intro w hSw; (try dsimp only at hSw); go_simp; try (with_reducible rfl)
  try simp only [Act.put, nz1, nz2, nz3]
  refine wpAnyH_done (by kernel_rfl) ?_ _
  go_wp2_with (first
    | (go_at_call 60; refine (settle_nil hR HN2.out).mono ?_; rintro e Ws ⟨⟨vs, rfl, hos⟩, hrs, hcs⟩))
  go_ret
  exact ⟨_, ⟨_, rfl, hos.low hC.size⟩, hrs.mono (by omega), hC.trans hcs⟩
set_option maxRecDepth 100000 in
set_option maxHeartbeats 8000000 in
theorem offered_lay {W : World} {B C M n : Nat} {kv : Value} {s : RdS} (h : RoundAt W B C M n kv s) (k : Nat) (hk12 : k < 12) (v : Int) (id : List UInt8) (hid : IdOk id) (hn : n + 202 < maxLen) (hz : (id == zeroId) = false) (hnl : (id == nilId) = false) : Calls Try.prog 44 #[.pointer (some ⟨B, 0, none⟩), .int .i64 (k : Int), .int .i64 v, .agg (idC id)] W fun e w' => Done W w' e B C M n kv (settleS (layS s k v id)) (settleA (layS s k v id)) := by
  obtain ⟨W1, hW⟩ : ∃ W1, W.alloc (.cells (idC id) 24) = W1 := ⟨_, rfl⟩
  have hb1 : Below W.heap.size W W1 := by rw [← hW]; exact (Below.refl _ _).alloc (Nat.le_refl _) _
  have hK1 : Blk W1 W.heap.size 24 (idC id) := by rw [← hW]; exact Blk.new _ _ _
  have hR := h.below hb1
  have hC : Chg W W1 B M kv kv := Chg.ofBelow hb1
  have HID := Lib.hid hid
  have HN := Lib.hid hn
  have HLW := Lib.hid h.low
  have HN2 : Hid (n + 200 < maxLen) := Lib.hid (by omega)
  have HIN : Hid (∀ w, Calls Try.prog 63 #[.int .i64 (k : Int)] w fun e w' => e = .returned (.bool true) ∧ w' = w) := Lib.hid fun w => by have := inside_any (k : Int) w; rwa [decide_eq_true (by omega)] at this
  have HK12 := Lib.hid hk12
  clear h hid hb1 hn hk12
  go_enter Try.func44, Try.ntmps44
  go_upto_region 1 with fail
  clear hW
  replace hR := hR.drew
  replace hC := hC.trans (Chg.ofBelow (Below.refl _ _).drew)
  replace hK1 := hK1.drew
  refine wp_region_held_drew (S := fun W' => (Instr.loadAt 24 (.pointer (some ⟨W.heap.size, 0, none⟩))).run Try.prog W' = .ok (idv id) W') (by kernel_rfl) ?_ (fun hHeld => ?_)
  · exact run_loadVar_idv HID.out hK1
  refine tkH (v := ?_) 0 ⟨some 9, _, _, _, _, _⟩ rfl (Or.inl ⟨by rfl, ?_⟩) ?_
  rotate_left
  · intro w hSw; (try dsimp only at hSw); go_simp; try (with_reducible rfl)
  try simp only [Act.put, nz1, nz2, nz3]
  refine wpAnyH_ready (rs := [1]) (by kernel_rfl) (by simp) ?_
  refine (AllReadyH.cons (o := ⟨some 10, _, _, _, _, _⟩) rfl (fun K hK => ?_) AllReadyH.nil)
  (try rw [if_pos (by rfl)])
  go_simp
  refine (HIN.out _).mono ?_
  rintro e Wn ⟨rfl, h1⟩
  obtain rfl := h1.symm
  try dsimp only
  refine hK.out _ _ (run_loadVar_idv HID.out hK1) (fun hHeld => ?_)
  clear hK K
  try simp only [Act.put, nz1, nz2, nz3]
  refine tkH (v := ?_) 2 ⟨some 11, _, _, _, _, _⟩ rfl (Or.inl ⟨by rfl, ?_⟩) ?_
  rotate_left
  · intro w hSw; (try dsimp only at hSw); go_simp; try (with_reducible rfl)
  try simp only [Act.put, nz1, nz2, nz3]
  refine tkH (v := (idv id)) 3 ⟨some 12, _, _, _, _, _⟩ rfl (yields_run (by rfl) 24 _ rfl (.pointer (some ⟨W.heap.size, 0, none⟩)) _ rfl (fun W' hS => hS)) ?_
  try simp only [Act.put, nz1, nz2, nz3]
  refine tkH (v := (idv zeroId)) 4 ⟨some 13, _, _, _, _, _⟩ rfl (yields_build (by rfl) 24 _ rfl [] rfl _ zero_built') ?_
  try simp only [Act.put, nz1, nz2, nz3]
  refine tkH (v := (.bool (!(id == zeroId)))) 5 ⟨some 14, _, _, _, _, _⟩ rfl (yields_neI (by rfl) _ _ rfl id zeroId rfl rfl HID.out zeroId_ok) ?_
  try simp only [Act.put, nz1, nz2, nz3]
  refine tkH (v := ?_) 6 ⟨some 15, _, _, _, _, _⟩ rfl (Or.inl ⟨by rfl, ?_⟩) ?_
  rotate_left
  · intro w hSw; (try dsimp only at hSw); go_simp; try (with_reducible rfl)
  try simp only [Act.put, nz1, nz2, nz3]
  refine tkH (v := ?_) 7 ⟨some 16, _, _, _, _, _⟩ rfl (Or.inl ⟨by rfl, ?_⟩) ?_
  rotate_left
  · intro w hSw; (try dsimp only at hSw); go_simp; try (with_reducible rfl)
  try simp only [Act.put, nz1, nz2, nz3]
  refine tkH (v := (idv id)) 8 ⟨some 17, _, _, _, _, _⟩ rfl (yields_run (by rfl) 24 _ rfl (.pointer (some ⟨W.heap.size, 0, none⟩)) _ rfl (fun W' hS => hS)) ?_
  try simp only [Act.put, nz1, nz2, nz3]
  refine wpAnyH_ready (rs := [9]) (by kernel_rfl) (by simp) ?_
  refine (AllReadyH.cons (o := ⟨some 18, _, _, _, _, _⟩) rfl (fun K hK => ?_) AllReadyH.nil)
  (try rw [if_pos (by rfl)])
  go_simp
  refine (nil_any _).mono ?_
  rintro e Wn ⟨rfl, hbn⟩
  replace hR := hR.below hbn
  replace hC := hC.trans (Chg.ofBelow hbn)
  replace hK1 := hK1.below hbn hK1.lt
  clear hbn
  try dsimp only
  refine hK.out _ _ (run_loadVar_idv HID.out hK1) (fun hHeld => ?_)
  clear hK K
  try simp only [Act.put, nz1, nz2, nz3]
  refine tkH (v := (.bool (!(id == nilId)))) 10 ⟨some 19, _, _, _, _, _⟩ rfl (yields_neI (by rfl) _ _ rfl id nilId rfl rfl HID.out nilId_ok) ?_
  try simp only [Act.put, nz1, nz2, nz3]
  refine tkH (v := ?_) 11 ⟨some 20, _, _, _, _, _⟩ rfl (Or.inl ⟨by rfl, ?_⟩) ?_
  rotate_left
  · intro w hSw; (try dsimp only at hSw); go_simp; try (with_reducible rfl)
  try simp only [Act.put, nz1, nz2, nz3]
  refine wpAnyH_done (by kernel_rfl) ?_ _
  go_wp2_with (first
    | (guard_target = wpList _ _ _ (Oper.mk _ (.load 24 _) _ _ _ _ :: _) _ _; refine wpList_load_runS (by rfl) 24 _ rfl _ _ rfl (run_loadVar_idv HID.out hK1) ?_)
    | (go_at_call 64; refine (lay_any hR k HK12.out v id HID.out).mono ?_; rintro e Wl ⟨⟨vl, rfl⟩, hrl, hgl⟩; replace hC := hC.trans (Chg.ofB hgl); clear hR hgl; have hR := hrl; clear hrl)
    | (go_at_call 60; refine (settle_nil hR HN2.out).mono ?_; rintro e Ws ⟨⟨vs, rfl, hos⟩, hrs, hcs⟩))
  go_ret
  exact ⟨_, ⟨_, rfl, hos.low hC.size⟩, hrs.mono (by omega), hC.trans hcs⟩
theorem offered_any {W : World} {B C M n : Nat} {kv : Value} {s : RdS} (h : RoundAt W B C M n kv s) (r v : Int) (id : List UInt8) (hid : IdOk id) (hn : n + 202 < maxLen) : Calls Try.prog 44 #[.pointer (some ⟨B, 0, none⟩), .int .i64 r, .int .i64 v, .agg (idC id)] W fun e w' => Done W w' e B C M n kv (settleS (offrS s r v id)) (settleA (offrS s r v id)) := by
  by_cases hin : 0 ≤ r ∧ r < 12
  · obtain ⟨k, rfl⟩ : ∃ k : Nat, r = (k : Int) := ⟨r.toNat, by omega⟩
    cases hz : id == zeroId with
    | true =>
      have e : offrS s (k : Int) v id = s := by unfold offrS; rw [if_neg (fun e => e.2.1 (by simpa using hz))]
      rw [e]
      exact offered_zero h k (by omega) v id hid hn hz
    | false =>
      cases hnl : id == nilId with
      | true =>
        have e : offrS s (k : Int) v id = s := by unfold offrS; rw [if_neg (fun e => e.2.2 (by simpa using hnl))]
        rw [e]
        exact offered_nil h k (by omega) v id hid hn hz hnl
      | false =>
        have e : offrS s (k : Int) v id = layS s k v id := by unfold offrS; rw [if_pos ⟨hin, by simpa using hz, by simpa using hnl⟩, Int.toNat_natCast]
        rw [e]
        exact offered_lay h k (by omega) v id hid hn hz hnl
  · have e : offrS s r v id = s := by unfold offrS; rw [if_neg (fun e => hin e.1)]
    rw [e]
    exact offered_out h r v id hid hn hin
end Go.Proofs.Ytbgojlcciealiaa
