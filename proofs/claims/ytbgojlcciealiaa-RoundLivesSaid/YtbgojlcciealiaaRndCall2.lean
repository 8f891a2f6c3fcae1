/-
  One's way to agreement: what comes (timers, the beginning). No condition.
-/
import Derived.Test.YtbgojlcciealiaaRndCall
namespace Go.Proofs.Ytbgojlcciealiaa
open Go Go.RowKit Go.Maps

set_option maxRecDepth 100000 in
set_option maxHeartbeats 8000000 in
theorem time_next {W : World} {B C M n : Nat} {kv : Value} {s : RdS} (h : RoundAt W B C M n kv s) (r t : Int) (hrw : wfi r) (htw : wfi t) (hn : n + 202 < maxLen) (hrr : r = s.round) (hs : s.step ≠ 3) (ht : t = 2) : Calls Try.prog 41 #[.pointer (some ⟨B, 0, none⟩), .int .i64 r, .int .i64 t] W fun e w' => Done W w' e B C M n kv (settleS (beginS s (s.round + 1))) (beginA s (s.round + 1) ++ settleA (beginS s (s.round + 1))) := by
  have hR := h
  have hC := Chg.refl W B M kv
  have HN2 : Hid (n + 200 < maxLen) := Lib.hid (by omega)
  have HN1 : Hid (n < maxLen) := Lib.hid (by omega)
  have HRR := Lib.hid h.ok.round
  have c3 : W.cell? ⟨B, 3, none⟩ = some (.int .i64 s.round) := h.cell (i := 3) (by omega)
  have c4 : W.cell? ⟨B, 4, none⟩ = some (.int .i64 s.step) := h.cell (i := 4) (by omega)
  subst hrr
  have HR0 : Hid (0 ≤ s.round) := Lib.hid (early_roundR h.ok hs)
  have hs3 : (s.step == 3) = false := by rw [beq_eq_false_iff_ne]; exact hs
  subst ht
  have hr2 : s.round < 12 := h.ok.round.2
  have hr1 : -1 ≤ s.round := h.ok.round.1
  clear h hn hrw htw
  go_enter Try.func41, Try.ntmps41
  go_wp2_with (first
    | (go_at_call 61; have HLZ := Lib.hid hR.low; have HCZ := Lib.hid hC; refine (begin_any hR (s.round + 1) (by omega)).mono ?_; rintro e Wz ⟨⟨vz, rfl, haz⟩, hrz, hgz⟩; have hcz := Chg.ofB (B := B) (M := M) (kv := kv) hgz; clear hR; have hR := hrz; clear hrz)
    | (go_at_call 60; refine (settle_acts hR HLZ.out hcz _ _ haz.own (Nat.le_trans (beginA_len _ _) (by omega)) HN2.out).mono ?_; rintro e Ws ⟨⟨vs, rfl, hos⟩, hrs, hcs⟩))
  go_ret
  exact ⟨_, ⟨_, rfl, hos.low HCZ.out.size⟩, hrs.mono (by omega), HCZ.out.trans hcs⟩
set_option maxRecDepth 100000 in
set_option maxHeartbeats 8000000 in
theorem begin_again {W : World} {B C M n : Nat} {kv : Value} {s : RdS} (h : RoundAt W B C M n kv s) (id : List UInt8) (hid : IdOk id) (hn : n + 202 < maxLen) (hr : 0 ≤ s.round) : Calls Try.prog 39 #[.pointer (some ⟨B, 0, none⟩), .agg (idC id)] W fun e w' => Done W w' e B C M n kv (settleS s) (settleA s) := by
  obtain ⟨W1, hW⟩ : ∃ W1, W.alloc (.cells (idC id) 24) = W1 := ⟨_, rfl⟩
  have hb1 : Below W.heap.size W W1 := by rw [← hW]; exact (Below.refl _ _).alloc (Nat.le_refl _) _
  have hK1 : Blk W1 W.heap.size 24 (idC id) := by rw [← hW]; exact Blk.new _ _ _
  have hR := h.below hb1
  have hC : Chg W W1 B M kv kv := Chg.ofBelow hb1
  have HID := Lib.hid hid
  have HN := Lib.hid hn
  have HLW := Lib.hid h.low
  have HN2 : Hid (n + 200 < maxLen) := Lib.hid (by omega)
  have c3 : W1.cell? ⟨B, 3, none⟩ = some (.int .i64 s.round) := hR.cell (i := 3) (by omega)
  have hge : s.round ≥ 0 := hr
  clear h hid hb1 hn
  go_enter Try.func39, Try.ntmps39
  go_upto_region 1 with fail
  clear hW
  go_wp2_with (first
    | (go_at_call 60; refine (settle_nil hR HN2.out).mono ?_; rintro e Ws ⟨⟨vs, rfl, hos⟩, hrs, hcs⟩))
  go_ret
  exact ⟨_, ⟨_, rfl, hos.low hC.size⟩, hrs.mono (by omega), hC.trans hcs⟩
set_option maxRecDepth 100000 in
set_option maxHeartbeats 8000000 in
theorem begin_plain {W : World} {B C M n : Nat} {kv : Value} {s : RdS} (h : RoundAt W B C M n kv s) (id : List UInt8) (hid : IdOk id) (hn : n + 202 < maxLen) (hr : ¬ 0 ≤ s.round) (hz : (id == zeroId) = true) : Calls Try.prog 39 #[.pointer (some ⟨B, 0, none⟩), .agg (idC id)] W fun e w' => Done W w' e B C M n kv (settleS (beginS (s) 0)) (beginA (s) 0 ++ settleA (beginS (s) 0)) := by
  obtain ⟨W1, hW⟩ : ∃ W1, W.alloc (.cells (idC id) 24) = W1 := ⟨_, rfl⟩
  have hb1 : Below W.heap.size W W1 := by rw [← hW]; exact (Below.refl _ _).alloc (Nat.le_refl _) _
  have hK1 : Blk W1 W.heap.size 24 (idC id) := by rw [← hW]; exact Blk.new _ _ _
  have hR := h.below hb1
  have hC : Chg W W1 B M kv kv := Chg.ofBelow hb1
  have HID := Lib.hid hid
  have HN := Lib.hid hn
  have HLW := Lib.hid h.low
  have HN2 : Hid (n + 200 < maxLen) := Lib.hid (by omega)
  have c3 : W1.cell? ⟨B, 3, none⟩ = some (.int .i64 s.round) := hR.cell (i := 3) (by omega)
  have hge : ¬ s.round ≥ 0 := hr
  have HRN : Hid (s.round < 0) := Lib.hid (by omega)
  have HFO : Hid (RdOk (freshS s id)) := Lib.hid ⟨h.ok.voters, h.ok.me, h.ok.height, h.ok.round, h.ok.step, h.ok.early, hid, h.ok.lockR, h.ok.lock, h.ok.bestR, h.ok.best, h.ok.known, h.ok.le, h.ok.offers⟩
  have heq := fun W => neq_idv HID.out zeroId_ok W
  have hgu := fun W a b => guardn_idv a b id zeroId W
  clear h hid hb1 hn
  go_enter Try.func39, Try.ntmps39
  go_upto_region 1 with fail
  clear hW
  go_wp2_with (first
    | (guard_target = wpList _ _ _ (Oper.mk _ (.load 24 _) _ _ _ _ :: _) _ _; refine wpList_load_runS (by rfl) 24 _ rfl _ _ rfl (run_loadVar_idv HID.out hK1) ?_)
    | (guard_target = wpList _ _ _ (Oper.mk _ (.build 24 _) _ _ _ _ :: _) _ _; refine wpList_build_zero rfl rfl ?_)
    | (go_at_call 61; have HLZ := Lib.hid hR.low; have HCZ := Lib.hid hC; refine (begin_any hR 0 HRN.out).mono ?_; rintro e Wz ⟨⟨vz, rfl, haz⟩, hrz, hgz⟩; have hcz := Chg.ofB (B := B) (M := M) (kv := kv) hgz; clear hR; have hR := hrz; clear hrz)
    | (go_at_call 60; refine (settle_acts hR HLZ.out hcz _ _ haz.own (Nat.le_trans (beginA_len _ _) (by omega)) HN2.out).mono ?_; rintro e Ws ⟨⟨vs, rfl, hos⟩, hrs, hcs⟩))
  go_ret
  exact ⟨_, ⟨_, rfl, hos.low HCZ.out.size⟩, hrs.mono (by omega), HCZ.out.trans hcs⟩
set_option maxRecDepth 100000 in
set_option maxHeartbeats 8000000 in
theorem begin_fresh {W : World} {B C M n : Nat} {kv : Value} {s : RdS} (h : RoundAt W B C M n kv s) (id : List UInt8) (hid : IdOk id) (hn : n + 202 < maxLen) (hr : ¬ 0 ≤ s.round) (hz : (id == zeroId) = false) : Calls Try.prog 39 #[.pointer (some ⟨B, 0, none⟩), .agg (idC id)] W fun e w' => Done W w' e B C M n kv (settleS (beginS (freshS s id) 0)) (beginA (freshS s id) 0 ++ settleA (beginS (freshS s id) 0)) := by
  obtain ⟨W1, hW⟩ : ∃ W1, W.alloc (.cells (idC id) 24) = W1 := ⟨_, rfl⟩
  have hb1 : Below W.heap.size W W1 := by rw [← hW]; exact (Below.refl _ _).alloc (Nat.le_refl _) _
  have hK1 : Blk W1 W.heap.size 24 (idC id) := by rw [← hW]; exact Blk.new _ _ _
  have hR := h.below hb1
  have hC : Chg W W1 B M kv kv := Chg.ofBelow hb1
  have HID := Lib.hid hid
  have HN := Lib.hid hn
  have HLW := Lib.hid h.low
  have HN2 : Hid (n + 200 < maxLen) := Lib.hid (by omega)
  have c3 : W1.cell? ⟨B, 3, none⟩ = some (.int .i64 s.round) := hR.cell (i := 3) (by omega)
  have hge : ¬ s.round ≥ 0 := hr
  have HRN : Hid (s.round < 0) := Lib.hid (by omega)
  have HFO : Hid (RdOk (freshS s id)) := Lib.hid ⟨h.ok.voters, h.ok.me, h.ok.height, h.ok.round, h.ok.step, h.ok.early, hid, h.ok.lockR, h.ok.lock, h.ok.bestR, h.ok.best, h.ok.known, h.ok.le, h.ok.offers⟩
  have heq := fun W => neq_idv HID.out zeroId_ok W
  have hgu := fun W a b => guardn_idv a b id zeroId W
  clear h hid hb1 hn
  go_enter Try.func39, Try.ntmps39
  go_upto_region 1 with fail
  clear hW
  go_wp2_with (first
    | (guard_target = wpList _ _ _ (Oper.mk _ (.load 24 _) _ _ _ _ :: _) _ _; refine wpList_load_runS (by rfl) 24 _ rfl _ _ rfl (run_loadVar_idv HID.out hK1) ?_)
    | (guard_target = wpList _ _ _ (Oper.mk _ (.build 24 _) _ _ _ _ :: _) _ _; refine wpList_build_zero rfl rfl ?_)
    | (guard_target = wpList _ _ _ (Oper.mk _ (.store 24 _ _) _ _ _ _ :: _) _ _; refine wpList_store_at rfl 24 _ _ rfl B 5 549 _ (id.map Extern.Stop.cell) (fun u hu => (by obtain ⟨b, _, rfl⟩ := List.mem_map.1 hu; rfl)) rfl rfl 132 hR.blk (by rw [List.length_map, HID.out]; exact id_info) (by rw [List.length_map, HID.out]; omega) ?_; intro W2 hw2; have hg2 : World.grownBy _ W2 (some B) := (by rw [hw2]; exact grown_row _ _ _); have hk2 : Blk W2 B 132 (arr 549 (rdF (freshS s id) kv (.pointer (some ⟨C, 0, none⟩)))) := (by rw [hw2]; exact (hR.blk.setRow _).same (rd_fresh s kv _ HID.out)); replace hR := hR.put hk2 hg2 rfl rfl rfl HFO.out; replace hC := hC.trans (Chg.ofB hg2); clear hw2 hg2 hk2)
    | (go_at_call 61; have HLZ := Lib.hid hR.low; have HCZ := Lib.hid hC; refine (begin_any hR 0 HRN.out).mono ?_; rintro e Wz ⟨⟨vz, rfl, haz⟩, hrz, hgz⟩; have hcz := Chg.ofB (B := B) (M := M) (kv := kv) hgz; clear hR; have hR := hrz; clear hrz)
    | (go_at_call 60; refine (settle_acts hR HLZ.out hcz _ _ haz.own (Nat.le_trans (beginA_len _ _) (by omega)) HN2.out).mono ?_; rintro e Ws ⟨⟨vs, rfl, hos⟩, hrs, hcs⟩))
  go_ret
  exact ⟨_, ⟨_, rfl, hos.low HCZ.out.size⟩, hrs.mono (by omega), HCZ.out.trans hcs⟩
theorem beginM_any {W : World} {B C M n : Nat} {kv : Value} {s : RdS} (h : RoundAt W B C M n kv s) (id : List UInt8) (hid : IdOk id) (hn : n + 202 < maxLen) : Calls Try.prog 39 #[.pointer (some ⟨B, 0, none⟩), .agg (idC id)] W fun e w' => Done W w' e B C M n kv (settleS (begS s id)) (begA s id ++ settleA (begS s id)) := by
  unfold begS begA
  by_cases hr : 0 ≤ s.round
  · rw [if_pos hr, if_pos hr, List.nil_append]
    exact begin_again h id hid hn hr
  · rw [if_neg hr, if_neg hr]
    cases hz : id == zeroId with
    | true =>
      rw [if_neg (fun e => e (by simpa using hz))]
      exact begin_plain h id hid hn hr hz
    | false =>
      rw [if_pos (by simpa using hz)]
      exact begin_fresh h id hid hn hr hz
end Go.Proofs.Ytbgojlcciealiaa
