/-
  RoundAgree, walked. No condition.
-/
import Derived.Test.YtclhfokflagopaaRndMAg2
import Derived.Test.YtclhfokflagopaaRndMove
namespace Go.Proofs.Ytclhfokflagopaa
open Go Go.RowKit Go.Maps

theorem mov_kind {W : World} {g t : Nat} {v : MoveS} (h : Blk W g t (movA v)) : W.cell? ⟨g, 0, none⟩ = some (.int .i64 v.kind) := by rw [h.cell]; rfl
theorem mov_i {W : World} {g t : Nat} {v : MoveS} (h : Blk W g t (movA v)) : W.cell? ⟨g, 1, none⟩ = some (.int .i64 v.i) := by rw [h.cell]; rfl
theorem mov_atm {W : World} {g t : Nat} {v : MoveS} (h : Blk W g t (movA v)) : W.cell? ⟨g, 2, none⟩ = some (.int .i64 v.atm) := by rw [h.cell]; rfl
theorem mov_num {W : World} {g t : Nat} {v : MoveS} (h : Blk W g t (movA v)) : W.cell? ⟨g, 3, none⟩ = some (.int .i64 v.num) := by rw [h.cell]; rfl
theorem mov_round {W : World} {g t : Nat} {v : MoveS} (h : Blk W g t (movA v)) : W.cell? ⟨g, 4, none⟩ = some (.int .i64 v.round) := by rw [h.cell]; rfl
theorem mov_valid {W : World} {g t : Nat} {v : MoveS} (h : Blk W g t (movA v)) : W.cell? ⟨g, 5, none⟩ = some (.int .i64 v.valid) := by rw [h.cell]; rfl
theorem mov_id {W : World} {g t : Nat} {v : MoveS} (h : Blk W g t (movA v)) (hv : MoveSOk v) : (Instr.loadAt 24 (.pointer (some ⟨g, 6, none⟩))).run Try.prog W = .ok (idv v.id) W :=
  run_load_id W _ _ hv.id fun j hj => by
    rw [show (⟨g, 6, none⟩ : Addr).add j = ⟨g, 6 + j, none⟩ by simp [Addr.add], h.cell]
    unfold movA
    rw [List.getElem?_toArray]
    exact movC_id hv hj
theorem take_at {b : Nat} {W : World} {H : Nat} {h : HM} {Hb : Nat} (k : HallM b W H h) (hb : h.Hb = Hb) (hw : b ≤ W.heap.size) (i : Nat) (hi : i < H) (hH : H ≤ 7) (bq : Nat) (v : Value) (lg : List ActS) (ho : OwnA bq W v lg) : Calls Try.prog 38 #[.pointer (some ⟨Hb, 0, none⟩), .int .i64 (i : Int), v] W fun e w' => (∃ u, e = .returned u) ∧ Below b W w' ∧ ∃ vm', HallM b w' H { h with vm := vm', ms := lg.foldl (takeM1 H i) h.ms, ds := lg.foldl (takeD1 i) h.ds } ∧ Oth W w' h vm' := by
  subst hb
  exact take_any k hw i hi hH bq v lg ho
theorem come_at {b : Nat} {W : World} {H : Nat} {h : HM} {Hb : Nat} (k : HallM b W H h) (hb : h.Hb = Hb) (hw : b ≤ W.heap.size) (hH : H ≤ 7) (mm : MailS) (hmm : MailOk mm) (d : Nat) (hd : d < H) (hdd : mm.dst = (d : Int)) (x : RB) (hx : h.l[d]? = some x) (hn : x.n + 202 < maxLen) : Calls Try.prog 37 #[.pointer (some ⟨Hb, 0, none⟩), .agg (mailA mm)] W fun e w' => (∃ u, e = .returned u) ∧ Below b W w' ∧ ∃ kv' vm', HallM b w' H (stepH H h d x kv' vm' (giveS x.s (mailIn mm)) (giveA x.s (mailIn mm))) := by
  subst hb
  exact come_any k hw hH mm hmm d hd hdd x hx hn
theorem AgL.cell {w : World} {N H Hb j : Nat} {h : HM} {wr : World} (k : AgL w N H Hb j h wr) {c : Nat} (hc : c < 4) : wr.cell? ⟨Hb, c, none⟩ = some (haF (h.va H) h.vm (h.vd H) H c) := by
  rw [← k.hb]
  exact k.m.cell hc
theorem giveS_begin (s : RdS) (r k q v : Int) (id : List UInt8) : giveS s ⟨0, r, k, q, v, id⟩ = settleS (begS s id) := by
  unfold giveS preS
  simp
theorem giveA_begin (s : RdS) (r k q v : Int) (id : List UInt8) : giveA s ⟨0, r, k, q, v, id⟩ = begA s id ++ settleA (begS s id) := by
  unfold giveA preA preS
  simp
theorem giveS_time (s : RdS) (r k q v : Int) (id : List UInt8) : giveS s ⟨4, r, k, q, v, id⟩ = settleS (timeS s r k) := by
  unfold giveS preS
  simp
theorem giveA_time (s : RdS) (r k q v : Int) (id : List UInt8) : giveA s ⟨4, r, k, q, v, id⟩ = timeA s r k ++ settleA (timeS s r k) := by
  unfold giveA preA preS
  simp
theorem mailIn_id (m : MailS) : (mailIn m).id = m.act.id ∧ 0 ≤ (mailIn m).kind ∧ (mailIn m).kind < 5 := by
  unfold mailIn
  split
  · exact ⟨rfl, by show (0 : Int) ≤ 3; decide, by show (3 : Int) < 5; decide⟩
  · exact ⟨rfl, by show (0 : Int) ≤ 2; decide, by show (2 : Int) < 5; decide⟩
theorem mailIn_vote {m : MailS} (h : (mailIn m).kind = 3) : m.act.kind = 2 ∧ (mailIn m).who = m.src ∧ (mailIn m).round = m.act.round ∧ (mailIn m).num = m.act.num := by
  unfold mailIn at h ⊢
  split
  · exact ⟨by assumption, rfl, rfl, rfl⟩
  · rename_i hk
    rw [if_neg hk] at h
    cases h
theorem index_mails (g n c i : Nat) (hi : i < n) (w : World) (ad : Addr) (hg : ad = ⟨g, 0, none⟩) : (Instr.indexAt 80 (.slice (some ad) n c) (.int .i64 (i : Int))).run Try.prog w = .ok (.pointer (some (ad.add (i * 38)))) w := by
  have hk1 : (i : Int) < (n : Int) := by omega
  have hu := Try.underlying80
  subst hg
  simp [Instr.indexAt, run_underlying hu, hi, go_sem]
theorem int_lssA (a b : Int) (v : Bool) (h : decide (a < b) = v) (w : World) : (binOp .lss 3 (.int .i64 a) (.int .i64 b)).run Try.prog w = .ok (.bool v) w := by
  subst h
  go_simp
theorem who_ok1 (a : Int) : (3 : Int) ≤ 3 + (a.tmod 1 + 4 - 3).tmod 1 ∧ 3 + (a.tmod 1 + 4 - 3).tmod 1 < 4 := by
  have h : ∀ z : Int, z.tmod 1 = 0 := fun z => Int.tmod_one z
  rw [h (a.tmod 1 + 4 - 3)]
  decide
theorem who_ok2 (a : Int) : (5 : Int) ≤ 5 + (a.tmod 2 + 7 - 5).tmod 2 ∧ 5 + (a.tmod 2 + 7 - 5).tmod 2 < 7 := by
  have h1 : a.tmod 2 = -1 ∨ a.tmod 2 = 0 ∨ a.tmod 2 = 1 := by
    have := Int.tmod_lt_of_pos a (b := 2) (by decide)
    have := Int.lt_tmod_of_pos a (b := 2) (by decide)
    omega
  rcases h1 with e | e | e <;> rw [e] <;> decide
theorem int_remF (a f : Int) (hf : f = 1 ∨ f = 2) (w : World) : (binOp .rem 3 (.int .i64 a) (.int .i64 f)).run Try.prog w = .ok (.int .i64 (a.tmod f)) w := by
  rcases hf with rfl | rfl
  · rw [Go.binOp_rem]
    go_simp
  · rw [Go.binOp_rem]
    go_simp
set_option maxRecDepth 100000 in
set_option maxHeartbeats 8000000 in
theorem prop_some (v r : Int) (hv : v = 4 ∨ v = 7) (hr : wfi r) (w : World) : Calls Try.prog 43 #[.int .i64 v, .int .i64 5, .int .i64 r] w fun e w' => (∃ p : Int, e = .returned (.int .i64 p)) ∧ w' = w := by
  have h4 := wfi_lt hr
  have hv1 : 1 ≤ v := by omega
  have hv2 : v ≤ 7 := by omega
  have n1 : ¬ v < 1 := by omega
  by_cases h3 : 0 ≤ r
  · have hw : wrap64 ((5 + r) % v) = (5 + r) % v := IntWalk.wrap64_in _ (by have := Int.emod_nonneg (5 + r) (b := v) (by omega); have := Int.emod_lt_of_pos (5 + r) (b := v) (by omega); omega)
    have n3 : ¬ r < 0 := by omega
    go_enter Try.func43, Try.ntmps43
    go_upto_region 3 with fail
    go_wp2_with fail
    go_ret
    exact ⟨⟨_, rfl⟩, rfl⟩
  · have n3 : r < 0 := by omega
    go_enter Try.func43, Try.ntmps43
    go_wp2_with fail
    go_ret
    exact ⟨⟨_, rfl⟩, rfl⟩
theorem int_addW (a b : Int) (h : -1000 ≤ a + b ∧ a + b ≤ 1000) (w : World) : (binOp .add 3 (.int .i64 a) (.int .i64 b)).run Try.prog w = .ok (.int .i64 (a + b)) w := by
  obtain ⟨h1, h2⟩ := h
  rw [Go.binOp_add]
  go_simp
  rw [IntWalk.i64_left, IntWalk.wrap64_in _ (by omega)]
theorem int_subW (a b : Int) (h : -1000 ≤ a - b ∧ a - b ≤ 1000) (w : World) : (binOp .sub 3 (.int .i64 a) (.int .i64 b)).run Try.prog w = .ok (.int .i64 (a - b)) w := by
  obtain ⟨h1, h2⟩ := h
  rw [Go.binOp_sub]
  go_simp
  rw [IntWalk.i64_left, IntWalk.wrap64_in _ (by omega)]
end Go.Proofs.Ytclhfokflagopaa
