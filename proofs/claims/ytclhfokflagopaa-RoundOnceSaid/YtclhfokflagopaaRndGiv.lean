/-
  Something that comes to one's way to agreement, given to it. No condition.
-/
import Derived.Test.YtclhfokflagopaaRndCall2
import Derived.Test.YtclhfokflagopaaRndIn
namespace Go.Proofs.Ytclhfokflagopaa
open Go Go.RowKit Go.Maps

theorem inn_id {W : World} {g t : Nat} {i : InS} (h : Blk W g t (innA i)) (hi : InSOk i) : (Instr.loadAt 24 (.pointer (some ⟨g, 5, none⟩))).run Try.prog W = .ok (idv i.id) W :=
  run_load_id W _ _ hi.id fun j hj => by
    rw [show (⟨g, 5, none⟩ : Addr).add j = ⟨g, 5 + j, none⟩ by simp [Addr.add], h.cell]
    unfold innA
    rw [List.getElem?_toArray]
    exact innC_id hi hj
theorem Done.from {W W1 w' : World} {e : Ending} {B C M n : Nat} {kv : Value} {s' : RdS} {l : List ActS} (h : Done W1 w' e B C M n kv s' l) (hc : Chg W W1 B M kv kv) : Done W w' e B C M n kv s' l := by
  obtain ⟨kv', ⟨v, h1, h2⟩, h3, h4⟩ := h
  exact ⟨kv', ⟨v, h1, h2.low hc.size⟩, h3, hc.trans h4⟩
set_option maxRecDepth 100000 in
set_option maxHeartbeats 8000000 in
theorem give_begin {W : World} {B C M n : Nat} {kv : Value} {s : RdS} (h : RoundAt W B C M n kv s) (i : InS) (hi : InSOk i) (hn : n + 202 < maxLen) (hk : i.kind = 0) : Calls Try.prog 34 #[.pointer (some ⟨B, 0, none⟩), .agg (innA i)] W fun e w' => Done W w' e B C M n kv (settleS (begS s i.id)) (begA s i.id ++ settleA (begS s i.id)) := by
  obtain ⟨W1, hW⟩ : ∃ W1, W.alloc (.cells (innA i) 67) = W1 := ⟨_, rfl⟩
  have hb1 : Below W.heap.size W W1 := by rw [← hW]; exact (Below.refl _ _).alloc (Nat.le_refl _) _
  have hK1 : Blk W1 W.heap.size 67 (innA i) := by rw [← hW]; exact Blk.new _ _ _
  have hR := h.below hb1
  have hC : Chg W W1 B M kv kv := Chg.ofBelow hb1
  have HI := Lib.hid hi
  have HN := Lib.hid hn
  have HLI := Lib.hid (inn_id hK1 hi)
  have c0 : W1.cell? ⟨W.heap.size, 0, none⟩ = some (.int .i64 i.kind) := by rw [hK1.cell]; rfl
  have c1 : W1.cell? ⟨W.heap.size, 1, none⟩ = some (.int .i64 i.round) := by rw [hK1.cell]; rfl
  have c2 : W1.cell? ⟨W.heap.size, 2, none⟩ = some (.int .i64 i.num) := by rw [hK1.cell]; rfl
  have c3 : W1.cell? ⟨W.heap.size, 3, none⟩ = some (.int .i64 i.who) := by rw [hK1.cell]; rfl
  have c4 : W1.cell? ⟨W.heap.size, 4, none⟩ = some (.int .i64 i.valid) := by rw [hK1.cell]; rfl
  rw [hk] at c0
  clear hk
  clear h hb1 hK1 hi hn
  go_enter Try.func34, Try.ntmps34
  go_upto_region 1 with fail
  clear hW
  go_wp2_with (first
    | (guard_target = wpList _ _ _ (Oper.mk _ (.load 24 _) _ _ _ _ :: _) _ _; refine wpList_load_runS (by rfl) 24 _ rfl _ _ rfl HLI.out ?_)
    | (go_at_call 39; refine (beginM_any hR i.id HI.out.id HN.out).mono ?_; rintro e Ws ⟨kv2, ⟨vs, rfl, hos⟩, hrs, hcs⟩))
  go_ret
  exact Done.from ⟨_, ⟨_, rfl, hos⟩, hrs, hcs⟩ hC
set_option maxRecDepth 100000 in
set_option maxHeartbeats 8000000 in
theorem give_know {W : World} {B C M n : Nat} {kv : Value} {s : RdS} (h : RoundAt W B C M n kv s) (i : InS) (hi : InSOk i) (hn : n + 202 < maxLen) (hk : i.kind = 1) : Calls Try.prog 34 #[.pointer (some ⟨B, 0, none⟩), .agg (innA i)] W fun e w' => Done W w' e B C M n kv (settleS (remS s i.id)) (settleA (remS s i.id)) := by
  obtain ⟨W1, hW⟩ : ∃ W1, W.alloc (.cells (innA i) 67) = W1 := ⟨_, rfl⟩
  have hb1 : Below W.heap.size W W1 := by rw [← hW]; exact (Below.refl _ _).alloc (Nat.le_refl _) _
  have hK1 : Blk W1 W.heap.size 67 (innA i) := by rw [← hW]; exact Blk.new _ _ _
  have hR := h.below hb1
  have hC : Chg W W1 B M kv kv := Chg.ofBelow hb1
  have HI := Lib.hid hi
  have HN := Lib.hid hn
  have HLI := Lib.hid (inn_id hK1 hi)
  have c0 : W1.cell? ⟨W.heap.size, 0, none⟩ = some (.int .i64 i.kind) := by rw [hK1.cell]; rfl
  have c1 : W1.cell? ⟨W.heap.size, 1, none⟩ = some (.int .i64 i.round) := by rw [hK1.cell]; rfl
  have c2 : W1.cell? ⟨W.heap.size, 2, none⟩ = some (.int .i64 i.num) := by rw [hK1.cell]; rfl
  have c3 : W1.cell? ⟨W.heap.size, 3, none⟩ = some (.int .i64 i.who) := by rw [hK1.cell]; rfl
  have c4 : W1.cell? ⟨W.heap.size, 4, none⟩ = some (.int .i64 i.valid) := by rw [hK1.cell]; rfl
  rw [hk] at c0
  clear hk
  clear h hb1 hK1 hi hn
  go_enter Try.func34, Try.ntmps34
  go_upto_region 1 with fail
  clear hW
  go_wp2_with (first
    | (guard_target = wpList _ _ _ (Oper.mk _ (.load 24 _) _ _ _ _ :: _) _ _; refine wpList_load_runS (by rfl) 24 _ rfl _ _ rfl HLI.out ?_)
    | (go_at_call 45; refine (know_any hR i.id HI.out.id HN.out).mono ?_; rintro e Ws ⟨kv2, ⟨vs, rfl, hos⟩, hrs, hcs⟩))
  go_ret
  exact Done.from ⟨_, ⟨_, rfl, hos⟩, hrs, hcs⟩ hC
set_option maxRecDepth 100000 in
set_option maxHeartbeats 8000000 in
theorem give_offered {W : World} {B C M n : Nat} {kv : Value} {s : RdS} (h : RoundAt W B C M n kv s) (i : InS) (hi : InSOk i) (hn : n + 202 < maxLen) (hk : i.kind = 2) : Calls Try.prog 34 #[.pointer (some ⟨B, 0, none⟩), .agg (innA i)] W fun e w' => Done W w' e B C M n kv (settleS (offrS s i.round i.valid i.id)) (settleA (offrS s i.round i.valid i.id)) := by
  obtain ⟨W1, hW⟩ : ∃ W1, W.alloc (.cells (innA i) 67) = W1 := ⟨_, rfl⟩
  have hb1 : Below W.heap.size W W1 := by rw [← hW]; exact (Below.refl _ _).alloc (Nat.le_refl _) _
  have hK1 : Blk W1 W.heap.size 67 (innA i) := by rw [← hW]; exact Blk.new _ _ _
  have hR := h.below hb1
  have hC : Chg W W1 B M kv kv := Chg.ofBelow hb1
  have HI := Lib.hid hi
  have HN := Lib.hid hn
  have HLI := Lib.hid (inn_id hK1 hi)
  have c0 : W1.cell? ⟨W.heap.size, 0, none⟩ = some (.int .i64 i.kind) := by rw [hK1.cell]; rfl
  have c1 : W1.cell? ⟨W.heap.size, 1, none⟩ = some (.int .i64 i.round) := by rw [hK1.cell]; rfl
  have c2 : W1.cell? ⟨W.heap.size, 2, none⟩ = some (.int .i64 i.num) := by rw [hK1.cell]; rfl
  have c3 : W1.cell? ⟨W.heap.size, 3, none⟩ = some (.int .i64 i.who) := by rw [hK1.cell]; rfl
  have c4 : W1.cell? ⟨W.heap.size, 4, none⟩ = some (.int .i64 i.valid) := by rw [hK1.cell]; rfl
  rw [hk] at c0
  clear hk
  clear h hb1 hK1 hi hn
  go_enter Try.func34, Try.ntmps34
  go_upto_region 1 with fail
  clear hW
  go_wp2_with (first
    | (guard_target = wpList _ _ _ (Oper.mk _ (.load 24 _) _ _ _ _ :: _) _ _; refine wpList_load_runS (by rfl) 24 _ rfl _ _ rfl HLI.out ?_)
    | (go_at_call 44; refine (offered_any hR i.round i.valid i.id HI.out.id HN.out).mono ?_; rintro e Ws ⟨kv2, ⟨vs, rfl, hos⟩, hrs, hcs⟩))
  go_ret
  exact Done.from ⟨_, ⟨_, rfl, hos⟩, hrs, hcs⟩ hC
set_option maxRecDepth 100000 in
set_option maxHeartbeats 8000000 in
theorem give_voted {W : World} {B C M n : Nat} {kv : Value} {s : RdS} (h : RoundAt W B C M n kv s) (i : InS) (hi : InSOk i) (hn : n + 202 < maxLen) (hk : i.kind = 3) : Calls Try.prog 34 #[.pointer (some ⟨B, 0, none⟩), .agg (innA i)] W fun e w' => Done W w' e B C M n kv (settleS (votS s i.round i.num i.who i.id)) (settleA (votS s i.round i.num i.who i.id)) := by
  obtain ⟨W1, hW⟩ : ∃ W1, W.alloc (.cells (innA i) 67) = W1 := ⟨_, rfl⟩
  have hb1 : Below W.heap.size W W1 := by rw [← hW]; exact (Below.refl _ _).alloc (Nat.le_refl _) _
  have hK1 : Blk W1 W.heap.size 67 (innA i) := by rw [← hW]; exact Blk.new _ _ _
  have hR := h.below hb1
  have hC : Chg W W1 B M kv kv := Chg.ofBelow hb1
  have HI := Lib.hid hi
  have HN := Lib.hid hn
  have HLI := Lib.hid (inn_id hK1 hi)
  have c0 : W1.cell? ⟨W.heap.size, 0, none⟩ = some (.int .i64 i.kind) := by rw [hK1.cell]; rfl
  have c1 : W1.cell? ⟨W.heap.size, 1, none⟩ = some (.int .i64 i.round) := by rw [hK1.cell]; rfl
  have c2 : W1.cell? ⟨W.heap.size, 2, none⟩ = some (.int .i64 i.num) := by rw [hK1.cell]; rfl
  have c3 : W1.cell? ⟨W.heap.size, 3, none⟩ = some (.int .i64 i.who) := by rw [hK1.cell]; rfl
  have c4 : W1.cell? ⟨W.heap.size, 4, none⟩ = some (.int .i64 i.valid) := by rw [hK1.cell]; rfl
  rw [hk] at c0
  clear hk
  clear h hb1 hK1 hi hn
  go_enter Try.func34, Try.ntmps34
  go_upto_region 1 with fail
  clear hW
  go_wp2_with (first
    | (guard_target = wpList _ _ _ (Oper.mk _ (.load 24 _) _ _ _ _ :: _) _ _; refine wpList_load_runS (by rfl) 24 _ rfl _ _ rfl HLI.out ?_)
    | (go_at_call 42; refine (voted_any hR i.round i.num i.who HI.out.round HI.out.num HI.out.who i.id HI.out.id HN.out).mono ?_; rintro e Ws ⟨kv2, ⟨vs, rfl, hos⟩, hrs, hcs⟩))
  go_ret
  exact Done.from ⟨_, ⟨_, rfl, hos⟩, hrs, hcs⟩ hC
set_option maxRecDepth 100000 in
set_option maxHeartbeats 8000000 in
theorem give_time {W : World} {B C M n : Nat} {kv : Value} {s : RdS} (h : RoundAt W B C M n kv s) (i : InS) (hi : InSOk i) (hn : n + 202 < maxLen) (hk : i.kind = 4) : Calls Try.prog 34 #[.pointer (some ⟨B, 0, none⟩), .agg (innA i)] W fun e w' => Done W w' e B C M n kv (settleS (timeS s i.round i.num)) (timeA s i.round i.num ++ settleA (timeS s i.round i.num)) := by
  obtain ⟨W1, hW⟩ : ∃ W1, W.alloc (.cells (innA i) 67) = W1 := ⟨_, rfl⟩
  have hb1 : Below W.heap.size W W1 := by rw [← hW]; exact (Below.refl _ _).alloc (Nat.le_refl _) _
  have hK1 : Blk W1 W.heap.size 67 (innA i) := by rw [← hW]; exact Blk.new _ _ _
  have hR := h.below hb1
  have hC : Chg W W1 B M kv kv := Chg.ofBelow hb1
  have HI := Lib.hid hi
  have HN := Lib.hid hn
  have HLI := Lib.hid (inn_id hK1 hi)
  have c0 : W1.cell? ⟨W.heap.size, 0, none⟩ = some (.int .i64 i.kind) := by rw [hK1.cell]; rfl
  have c1 : W1.cell? ⟨W.heap.size, 1, none⟩ = some (.int .i64 i.round) := by rw [hK1.cell]; rfl
  have c2 : W1.cell? ⟨W.heap.size, 2, none⟩ = some (.int .i64 i.num) := by rw [hK1.cell]; rfl
  have c3 : W1.cell? ⟨W.heap.size, 3, none⟩ = some (.int .i64 i.who) := by rw [hK1.cell]; rfl
  have c4 : W1.cell? ⟨W.heap.size, 4, none⟩ = some (.int .i64 i.valid) := by rw [hK1.cell]; rfl
  rw [hk] at c0
  clear hk
  clear h hb1 hK1 hi hn
  go_enter Try.func34, Try.ntmps34
  go_upto_region 1 with fail
  clear hW
  go_wp2_with (first
    | (go_at_call 41; refine (time_any hR i.round i.num HI.out.round HI.out.num HN.out).mono ?_; rintro e Ws ⟨kv2, ⟨vs, rfl, hos⟩, hrs, hcs⟩))
  go_ret
  exact Done.from ⟨_, ⟨_, rfl, hos⟩, hrs, hcs⟩ hC
set_option maxRecDepth 100000 in
set_option maxHeartbeats 8000000 in
theorem give_fresh {W : World} {B C M n : Nat} {kv : Value} {s : RdS} (h : RoundAt W B C M n kv s) (i : InS) (hi : InSOk i) (hn : n + 202 < maxLen) (hk : i.kind = 5) : Calls Try.prog 34 #[.pointer (some ⟨B, 0, none⟩), .agg (innA i)] W fun e w' => Done W w' e B C M n kv (freshS s i.id) ([]) := by
  obtain ⟨W1, hW⟩ : ∃ W1, W.alloc (.cells (innA i) 67) = W1 := ⟨_, rfl⟩
  have hb1 : Below W.heap.size W W1 := by rw [← hW]; exact (Below.refl _ _).alloc (Nat.le_refl _) _
  have hK1 : Blk W1 W.heap.size 67 (innA i) := by rw [← hW]; exact Blk.new _ _ _
  have hR := h.below hb1
  have hC : Chg W W1 B M kv kv := Chg.ofBelow hb1
  have HI := Lib.hid hi
  have HN := Lib.hid hn
  have HLI := Lib.hid (inn_id hK1 hi)
  have c0 : W1.cell? ⟨W.heap.size, 0, none⟩ = some (.int .i64 i.kind) := by rw [hK1.cell]; rfl
  have c1 : W1.cell? ⟨W.heap.size, 1, none⟩ = some (.int .i64 i.round) := by rw [hK1.cell]; rfl
  have c2 : W1.cell? ⟨W.heap.size, 2, none⟩ = some (.int .i64 i.num) := by rw [hK1.cell]; rfl
  have c3 : W1.cell? ⟨W.heap.size, 3, none⟩ = some (.int .i64 i.who) := by rw [hK1.cell]; rfl
  have c4 : W1.cell? ⟨W.heap.size, 4, none⟩ = some (.int .i64 i.valid) := by rw [hK1.cell]; rfl
  rw [hk] at c0
  clear hk
  clear h hb1 hK1 hi hn
  go_enter Try.func34, Try.ntmps34
  go_upto_region 1 with fail
  clear hW
  go_wp2_with (first
    | (guard_target = wpList _ _ _ (Oper.mk _ (.load 24 _) _ _ _ _ :: _) _ _; refine wpList_load_runS (by rfl) 24 _ rfl _ _ rfl HLI.out ?_)
    | (go_at_call 58; refine (fresh_any hR i.id HI.out.id).mono ?_; rintro e Ws ⟨⟨vs, rfl⟩, hrs, hgs⟩; replace hC := hC.trans (Chg.ofB hgs); clear hR; have hR := hrs; clear hrs))
  go_ret
  exact ⟨_, ⟨_, rfl, ownA_nil _ _⟩, hR.mono (by omega), hC⟩
set_option maxRecDepth 100000 in
set_option maxHeartbeats 8000000 in
theorem give_rem {W : World} {B C M n : Nat} {kv : Value} {s : RdS} (h : RoundAt W B C M n kv s) (i : InS) (hi : InSOk i) (hn : n + 202 < maxLen) (hk : i.kind = 7) : Calls Try.prog 34 #[.pointer (some ⟨B, 0, none⟩), .agg (innA i)] W fun e w' => Done W w' e B C M n kv (remS s i.id) ([]) := by
  obtain ⟨W1, hW⟩ : ∃ W1, W.alloc (.cells (innA i) 67) = W1 := ⟨_, rfl⟩
  have hb1 : Below W.heap.size W W1 := by rw [← hW]; exact (Below.refl _ _).alloc (Nat.le_refl _) _
  have hK1 : Blk W1 W.heap.size 67 (innA i) := by rw [← hW]; exact Blk.new _ _ _
  have hR := h.below hb1
  have hC : Chg W W1 B M kv kv := Chg.ofBelow hb1
  have HI := Lib.hid hi
  have HN := Lib.hid hn
  have HLI := Lib.hid (inn_id hK1 hi)
  have c0 : W1.cell? ⟨W.heap.size, 0, none⟩ = some (.int .i64 i.kind) := by rw [hK1.cell]; rfl
  have c1 : W1.cell? ⟨W.heap.size, 1, none⟩ = some (.int .i64 i.round) := by rw [hK1.cell]; rfl
  have c2 : W1.cell? ⟨W.heap.size, 2, none⟩ = some (.int .i64 i.num) := by rw [hK1.cell]; rfl
  have c3 : W1.cell? ⟨W.heap.size, 3, none⟩ = some (.int .i64 i.who) := by rw [hK1.cell]; rfl
  have c4 : W1.cell? ⟨W.heap.size, 4, none⟩ = some (.int .i64 i.valid) := by rw [hK1.cell]; rfl
  rw [hk] at c0
  clear hk
  clear h hb1 hK1 hi hn
  go_enter Try.func34, Try.ntmps34
  go_upto_region 1 with fail
  clear hW
  go_wp2_with (first
    | (guard_target = wpList _ _ _ (Oper.mk _ (.load 24 _) _ _ _ _ :: _) _ _; refine wpList_load_runS (by rfl) 24 _ rfl _ _ rfl HLI.out ?_)
    | (go_at_call 59; refine (remember_any hR i.id HI.out.id).mono ?_; rintro e Ws ⟨⟨vs, rfl⟩, kv2, hrs, hcs⟩; replace hC := hC.trans hcs; clear hR hcs; have hR := hrs; clear hrs))
  go_ret
  exact ⟨_, ⟨_, rfl, ownA_nil _ _⟩, hR.mono (by omega), hC⟩
set_option maxRecDepth 100000 in
set_option maxHeartbeats 8000000 in
theorem give_other {W : World} {B C M n : Nat} {kv : Value} {s : RdS} (h : RoundAt W B C M n kv s) (i : InS) (hi : InSOk i) (hn : n + 202 < maxLen) (hk : i.kind < 0 ∨ 7 < i.kind) : Calls Try.prog 34 #[.pointer (some ⟨B, 0, none⟩), .agg (innA i)] W fun e w' => Done W w' e B C M n kv (s) ([]) := by
  obtain ⟨W1, hW⟩ : ∃ W1, W.alloc (.cells (innA i) 67) = W1 := ⟨_, rfl⟩
  have hb1 : Below W.heap.size W W1 := by rw [← hW]; exact (Below.refl _ _).alloc (Nat.le_refl _) _
  have hK1 : Blk W1 W.heap.size 67 (innA i) := by rw [← hW]; exact Blk.new _ _ _
  have hR := h.below hb1
  have hC : Chg W W1 B M kv kv := Chg.ofBelow hb1
  have HI := Lib.hid hi
  have HN := Lib.hid hn
  have HLI := Lib.hid (inn_id hK1 hi)
  have c0 : W1.cell? ⟨W.heap.size, 0, none⟩ = some (.int .i64 i.kind) := by rw [hK1.cell]; rfl
  have c1 : W1.cell? ⟨W.heap.size, 1, none⟩ = some (.int .i64 i.round) := by rw [hK1.cell]; rfl
  have c2 : W1.cell? ⟨W.heap.size, 2, none⟩ = some (.int .i64 i.num) := by rw [hK1.cell]; rfl
  have c3 : W1.cell? ⟨W.heap.size, 3, none⟩ = some (.int .i64 i.who) := by rw [hK1.cell]; rfl
  have c4 : W1.cell? ⟨W.heap.size, 4, none⟩ = some (.int .i64 i.valid) := by rw [hK1.cell]; rfl
  have hq0 : (i.kind == 0) = false := by rw [beq_eq_false_iff_ne]; omega
  have hq1 : (i.kind == 1) = false := by rw [beq_eq_false_iff_ne]; omega
  have hq2 : (i.kind == 2) = false := by rw [beq_eq_false_iff_ne]; omega
  have hq3 : (i.kind == 3) = false := by rw [beq_eq_false_iff_ne]; omega
  have hq4 : (i.kind == 4) = false := by rw [beq_eq_false_iff_ne]; omega
  have hq5 : (i.kind == 5) = false := by rw [beq_eq_false_iff_ne]; omega
  have hq6 : (i.kind == 6) = false := by rw [beq_eq_false_iff_ne]; omega
  have hq7 : (i.kind == 7) = false := by rw [beq_eq_false_iff_ne]; omega
  clear hk
  clear h hb1 hK1 hi hn
  go_enter Try.func34, Try.ntmps34
  go_upto_region 1 with fail
  clear hW
  go_wp2_with (first
    | fail)
  go_ret
  exact ⟨_, ⟨_, rfl, ownA_nil _ _⟩, hR.mono (by omega), hC⟩
theorem give_any {W : World} {B C M n : Nat} {kv : Value} {s : RdS} (h : RoundAt W B C M n kv s) (i : InS) (hi : InSOk i) (hn : n + 202 < maxLen) (h6 : i.kind ≠ 6) : Calls Try.prog 34 #[.pointer (some ⟨B, 0, none⟩), .agg (innA i)] W fun e w' => Done W w' e B C M n kv (giveS s i) (giveA s i) := by
  by_cases h05 : 0 ≤ i.kind ∧ i.kind < 5
  · have e1 : giveS s i = settleS (preS s i) := by unfold giveS; rw [if_pos h05]
    have e2 : giveA s i = preA s i ++ settleA (preS s i) := by unfold giveA; rw [if_pos h05]
    rw [e1, e2]
    have hc : i.kind = 0 ∨ i.kind = 1 ∨ i.kind = 2 ∨ i.kind = 3 ∨ i.kind = 4 := by omega
    rcases hc with hk | hk | hk | hk | hk
    · have q1 : preS s i = begS s i.id := by unfold preS; rw [if_pos hk]
      have q2 : preA s i = begA s i.id := by unfold preA; rw [if_pos hk]
      rw [q1, q2]
      exact give_begin h i hi hn hk
    · have q1 : preS s i = remS s i.id := by unfold preS; rw [if_neg (by omega), if_pos hk]
      have q2 : preA s i = [] := by unfold preA; rw [if_neg (by omega), if_neg (by omega)]
      rw [q1, q2, List.nil_append]
      exact give_know h i hi hn hk
    · have q1 : preS s i = offrS s i.round i.valid i.id := by unfold preS; rw [if_neg (by omega), if_neg (by omega), if_pos hk]
      have q2 : preA s i = [] := by unfold preA; rw [if_neg (by omega), if_neg (by omega)]
      rw [q1, q2, List.nil_append]
      exact give_offered h i hi hn hk
    · have q1 : preS s i = votS s i.round i.num i.who i.id := by unfold preS; rw [if_neg (by omega), if_neg (by omega), if_neg (by omega), if_pos hk]
      have q2 : preA s i = [] := by unfold preA; rw [if_neg (by omega), if_neg (by omega)]
      rw [q1, q2, List.nil_append]
      exact give_voted h i hi hn hk
    · have q1 : preS s i = timeS s i.round i.num := by unfold preS; rw [if_neg (by omega), if_neg (by omega), if_neg (by omega), if_neg (by omega)]
      have q2 : preA s i = timeA s i.round i.num := by unfold preA; rw [if_neg (by omega), if_pos hk]
      rw [q1, q2]
      exact give_time h i hi hn hk
  · have e2 : giveA s i = [] := by unfold giveA; rw [if_neg h05]
    rw [e2]
    by_cases h5 : i.kind = 5
    · have e1 : giveS s i = freshS s i.id := by unfold giveS; rw [if_neg h05, if_pos h5]
      rw [e1]
      exact give_fresh h i hi hn h5
    · by_cases h7 : i.kind = 7
      · have e1 : giveS s i = remS s i.id := by unfold giveS; rw [if_neg h05, if_neg h5, if_pos h7]
        rw [e1]
        exact give_rem h i hi hn h7
      · have e1 : giveS s i = s := by unfold giveS; rw [if_neg h05, if_neg h5, if_neg h7, if_neg h6]
        rw [e1]
        exact give_other h i hi hn (by omega)
end Go.Proofs.Ytclhfokflagopaa
